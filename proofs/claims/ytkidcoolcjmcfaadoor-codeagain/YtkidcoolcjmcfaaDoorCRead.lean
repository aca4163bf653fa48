/-
  How the code reads a number, a line's words, an instruction.
-/
import Derived.Test.YtkidcoolcjmcfaaDoorCAny
import Derived.Test.YtkidcoolcjmcfaaDoorCAtoi
import Derived.Test.YtkidcoolcjmcfaaDoorVChk
namespace Go.Proofs.YtkidcoolcjmcfaaDoor
open Go.RowKit
set_option linter.unusedVariables false
set_option linter.unusedSimpArgs false
set_option maxRecDepth 100000

/-- What reading wants of the world. -/
structure Met (w : World) : Prop where
  ml : ∃ m, w.cell? ⟨1, 0, none⟩ = some (.int .i64 m)
  errs : Errs w
  itoa : ∀ (m : Int) (W : World), in64 m → Below w.heap.size w W → Calls Tryd.prog 23 #[.int .i64 m] W fun e W' => e = .returned (.string ⟨(Lib.itoa m).toArray⟩) ∧ Below W.heap.size W W'
  tabs : Tabs w
theorem Met.below {w w' : World} (h : Met w) (hb : Below w.heap.size w w') : Met w' := by
  obtain ⟨m, hm⟩ := h.ml
  exact ⟨⟨m, (hb.cell (World.block_lt_of_cell? w _ hm)).trans hm⟩, h.errs.below hb, fun m W h1 h2 => h.itoa m W h1 (hb.trans (h2.mono hb.size)), h.tabs.below hb⟩
theorem beq_text (a b : ByteArray) : (a.toList == b.toList) = true ↔ a = b := by
  rw [ByteArray.toList_eq, ByteArray.toList_eq, beq_iff_eq]
  constructor
  · intro h
    cases a; cases b
    simpa using h
  · rintro rfl; rfl
theorem str_eql (a b : List UInt8) : ((⟨a.toArray⟩ : ByteArray).toList == (⟨b.toArray⟩ : ByteArray).toList) = decide (a = b) := by
  rw [ByteArray.toList_eq, ByteArray.toList_eq]
  by_cases h : a = b
  · subst h; simp
  · rw [decide_eq_false h]
    simpa using h

set_option maxHeartbeats 1000000 in
theorem number_any (l : List UInt8) (w : World) (hM : Met w) (hs : l.length ≤ 1000000) :
    Calls Tryd.prog 39 #[.string ⟨l.toArray⟩] w fun e w' => ∃ a, e = .returned (.tuple #[.int .i64 a, .bool (codeNum l).isSome]) ∧ (∀ v, codeNum l = some v → a = v) ∧ Below w.heap.size w w' := by
  have hA := atoi_any l w hM.errs (by omega)
  have HM := hid hM
  clear hM
  go_enter Tryd.func39, Tryd.ntmps39
  go_wp2_with fail
  refine hA.mono ?_
  clear hA
  rintro e w1 (⟨v, hv, rfl, hb1⟩ | ⟨hno, z, N, rfl, hb1⟩)
  · have hi := atoi_in hv
    have HI := hid (HM.out.itoa v w1 hi hb1)
    have hsq := str_eql (Lib.itoa v) l
    obtain ⟨q, hq⟩ : ∃ q, q = decide (Lib.itoa v = l) := ⟨_, rfl⟩
    rw [← hq] at hsq
    have HC : Hid (codeNum l = if q = true then some v else none) := by
      unfold Hid codeNum
      rw [hv, hq]
      by_cases h : Lib.itoa v = l <;> simp [h]
    have HEQ : Hid ((Lib.itoa v == l) = q) := by
      unfold Hid
      rw [hq]
      by_cases h : Lib.itoa v = l
      · rw [decide_eq_true h, h]; simp
      · rw [decide_eq_false h]; simpa using h
    have HB1 := hid hb1
    clear hv hi hq hb1
    go_wp2_with fail
    refine HI.out.mono ?_
    clear HI
    rintro e w2 ⟨rfl, hb2⟩
    have HB2 := hid (HB1.out.trans (hb2.mono HB1.out.size))
    clear hb2
    go_wp2
    go_ret2
    cases q with
    | true => exact ⟨v, by rw [HC.out]; show Ending.returned (.tuple #[.int .i64 v, .bool (Lib.itoa v == l)]) = _; rw [HEQ.out]; rfl, fun x hx => by rw [HC.out] at hx; simpa using hx, HB2.out⟩
    | false => exact ⟨v, by rw [HC.out]; show Ending.returned (.tuple #[.int .i64 v, .bool (Lib.itoa v == l)]) = _; rw [HEQ.out]; rfl, fun x hx => by rw [HC.out] at hx; simp at hx, HB2.out⟩
  · have HC : Hid (codeNum l = none) := by
      unfold Hid codeNum
      split
      · rename_i v hv; exact absurd hv (hno v)
      · rfl
    have HB1 := hid hb1
    clear hno hb1
    go_wp2
    go_ret2
    exact ⟨z, by rw [HC.out]; rfl, fun x hx => by rw [HC.out] at hx; simp at hx, HB1.out⟩
theorem index_cutC (c : UInt8) : ∀ l : List UInt8, (Lib.index l [c] = -1 ∧ cutC c l = (l, [], false)) ∨ ∃ k : Nat, Lib.index l [c] = k ∧ cutC c l = (l.take k, l.drop (k + 1), true)
  | [] => Or.inl ⟨rfl, rfl⟩
  | a :: r => by
    unfold Lib.index
    by_cases h : a = c
    · refine Or.inr ⟨0, ?_, ?_⟩
      · rw [if_pos (by simp [List.isPrefixOf, h])]
        rfl
      · rw [cutC, if_pos h]
        rfl
    · rw [if_neg (by simp [List.isPrefixOf]; exact fun e => h e.symm), cutC, if_neg h]
      rcases index_cutC c r with ⟨h1, h2⟩ | ⟨k, h1, h2⟩
      · rw [h1, h2]; exact Or.inl ⟨rfl, rfl⟩
      · rw [h1, h2, if_neg (by simp)]
        exact Or.inr ⟨k + 1, by omega, rfl⟩
theorem cutC_lib (c : UInt8) (l : List UInt8) : Lib.cut l [c] = cutC c l := by
  unfold Lib.cut
  rcases index_cutC c l with ⟨h1, h2⟩ | ⟨k, h1, h2⟩
  · rw [h1, h2]; rfl
  · rw [h1, h2, if_pos (by omega)]
    simp
set_option maxHeartbeats 1000000 in
theorem wordsOf_any (l : List UInt8) (w : World) (hM : Met w) (hs : l.length ≤ 1000000) :
    Calls Tryd.prog 25 #[.string ⟨l.toArray⟩] w fun e w' => e = .returned (.string ⟨(wordsL l).toArray⟩) ∧ Below w.heap.size w w' := by
  obtain ⟨m, hm⟩ := hM.ml
  have hC := Tryd.strings_Cut ⟨l.toArray⟩ ⟨#[59]⟩ m w (by rw [size_list]; omega) hm
  rw [show (⟨l.toArray⟩ : ByteArray).data.toList = l by simp, show (⟨#[59]⟩ : ByteArray).data.toList = [59] from rfl, cutC_lib] at hC
  have hlen : (cutC 59 l).1.length ≤ l.length := by
    rcases cutC_spec 59 l with ⟨_, h⟩ | ⟨a, b, h1, _, h2⟩
    · rw [h]; exact Nat.le_refl _
    · rw [h2, h1]; simp
  have hW : wordsL l = Lib.trimS (cutC 59 l).1 [32, 9] := rfl
  rw [hW]
  obtain ⟨⟨C1, C2, C3⟩, hCC⟩ : ∃ C, C = cutC 59 l := ⟨_, rfl⟩
  rw [← hCC] at hC hlen ⊢
  simp only at hC hlen ⊢
  have HT := hid (fun W => Tryd.strings_Trim_blanks ⟨C1.toArray⟩ W (by rw [size_list]; omega))
  rw [show (⟨C1.toArray⟩ : ByteArray).data.toList = C1 by simp] at HT
  clear hm hM hlen hCC hW
  go_enter Tryd.func25, Tryd.ntmps25
  go_wp2_with fail
  refine hC.mono ?_
  clear hC
  rintro e w1 ⟨rfl, n, rfl⟩
  go_wp2_with fail
  refine (HT.out _).mono ?_
  rintro e w2 ⟨rfl, hb⟩
  have HB : Hid (Below w.heap.size w w2) := hid ((show Below w.heap.size w (w.drewN n) from ⟨rfl, rfl, rfl, Nat.le_refl _, fun _ _ => rfl⟩).trans hb)
  clear hb
  go_wp2
  go_ret
  exact ⟨rfl, HB.out⟩
end Go.Proofs.YtkidcoolcjmcfaaDoor
