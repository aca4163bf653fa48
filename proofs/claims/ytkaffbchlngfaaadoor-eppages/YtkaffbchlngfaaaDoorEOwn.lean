/-
  Which pages are an event process's own.
-/
import Derived.Test.YtkaffbchlngfaaaDoorELay
import Derived.Deep.MidRow
namespace Go.Proofs.YtkaffbchlngfaaaDoor
open Go.RowKit
set_option linter.unusedVariables false
set_option linter.unusedSimpArgs false

def oIdx (ow : List Bool) : Nat → List Int
  | 0 => []
  | k + 1 => if ow.getD k false = true then oIdx ow k ++ [(k : Int)] else oIdx ow k
theorem oIdx_len (ow : List Bool) (k : Nat) : (oIdx ow k).length ≤ k := by
  induction k with
  | zero => exact Nat.le_refl _
  | succ k ih =>
    unfold oIdx
    split
    · simp; exact ih
    · omega
theorem owV_index (ow : List Bool) (hl : ow.length = 16) (k : Nat) (h : k < 16) (w : World) : (Instr.index 31 (.agg (ow.map Value.bool).toArray) (.int .i64 (k : Int))).run Tryd.prog w = .ok (.bool (ow.getD k false)) w := by
  obtain ⟨X, hX⟩ : ∃ X, X = (ow.map Value.bool).toArray := ⟨_, rfl⟩
  have h2 : X[k]? = some (.bool (ow.getD k false)) := by
    rw [hX]
    simp [List.getD, show k < ow.length by omega]
  rw [← hX]
  simp [Instr.index, go_sem, part, h, h2]
theorem MemP.range {w : World} {q : Nat} {pg : List Nat} {ow : List Bool} {b : List Nat} (h : MemP w q pg ow b) : w.rangeAt q 16 (ow.map Value.bool) := by
  intro j v hv
  have hj : j < ow.length := by
    have := (List.getElem?_eq_some_iff.1 hv).1
    simpa using this
  have hlo := h.lo
  rw [h.flag j (by omega), ← hv]
  simp [List.getD, hj]
def OwnedR (w : World) (ow : List Bool) (e : Ending) (w' : World) : Prop := ∃ v, e = .returned v ∧ Owns w' w.heap.size v (oIdx ow 16) ∧ Below w.heap.size w w'
set_option maxRecDepth 100000 in
set_option maxHeartbeats 2000000 in
theorem owned_any (w : World) (q : Nat) (pg : List Nat) (ow : List Bool) (b : List Nat) (h : MemP w q pg ow b) :
    Calls Tryd.prog 44 #[.pointer (some ⟨q, 0, none⟩)] w (OwnedR w ow) := by
  have HR := hid h.range
  have hlo := h.lo
  have HX := hid (owV_index ow hlo)
  have hlen : (ow.map Value.bool).length = 16 := by simpa using hlo
  obtain ⟨TC, hTC⟩ : ∃ TC, TC = ow.map Value.bool := ⟨_, rfl⟩
  rw [← hTC] at HR HX hlen
  unfold OwnedR
  clear h hTC hlo
  go_enter Tryd.func44, Tryd.ntmps44
  go_wp2_with (first
    | (refine wpList_load_mid rfl 31 _ rfl q 16 rfl TC _ HR.out Tryd.underlying31 rfl (by rw [hlen]; kernel_rfl) ?_)
    | fail)
  go_loopw [3, 10] (fun o i wr => ∃ (k : Nat), k ≤ 16 ∧ i = .int .i64 (k : Int) ∧ Hid (Owns wr w.heap.size o (oIdx ow k)) ∧ Hid (Below w.heap.size w wr)) (fun _ i _ => 16 - (intOf i).toNat)
  case atStart => exact ⟨0, by decide, rfl, Owns.nil _ _, Below.refl _ _⟩
  case round =>
    obtain ⟨k, hk, rfl, hO, hB⟩ := hrel
    by_cases hlt : k < 16
    · have hlt' : (k : Int) < 16 := by omega
      have i1 := HX.out k hlt
      by_cases ho : ow.getD k false = true
      · rw [ho] at i1
        have hs := hB.out.size
        obtain ⟨X, hX⟩ : ∃ X, X = wr.alloc (.cells #[.int .i64 (k : Int)] 3) := ⟨_, rfl⟩
        have bX : Below wr.heap.size wr X := by rw [hX]; exact below_alloc wr _
        have sX : Sees X (.slice (some ⟨wr.heap.size, 0, none⟩) 1 1) [(k : Int)] := by rw [hX]; exact sees_one wr _
        have hl := oIdx_len ow k
        obtain ⟨v', w', hrun, hown, hgr, _⟩ := run_app X 32 w.heap.size _ _ (hO.out.below bX) _ [(k : Int)] sX (by simp; omega) (by have := bX.size; omega)
        have HRUN := hid hrun
        have HD : Hid (Owns w' w.heap.size v' (oIdx ow (k + 1)) ∧ Below w.heap.size w w') := by
          refine ⟨?_, below_grownBy (hB.out.trans (bX.mono hs)) hgr (fun j hj => (hO.out.lt j hj).1) (by have := bX.size; omega)⟩
          unfold oIdx
          rw [if_pos ho]
          exact hown
        rw [hX] at HRUN
        clear hrun hown hgr bX sX hX ho hl
        go_wp2_with (first
          | (at_builtin; refine wpList_append_run rfl _ _ 32 32 rfl _ _ rfl rfl HRUN.out ?_)
          | fail)
        go_roundw
        case rel => exact ⟨k + 1, by omega, by go_num, HD.out.1, HD.out.2⟩
        case measure => simp [intOf]; omega
      · have ho2 : ow.getD k false = false := by simpa using ho
        rw [ho2] at i1
        have HD : Hid (oIdx ow (k + 1) = oIdx ow k) := by
          show (if ow.getD k false = true then oIdx ow k ++ [(k : Int)] else oIdx ow k) = _
          rw [if_neg ho]
        clear ho ho2
        go_wp2
        go_roundw
        case rel => exact ⟨k + 1, by omega, by go_num, by rw [HD.out]; exact hO, hB⟩
        case measure => simp [intOf]; omega
    · obtain rfl : k = 16 := by omega
      go_wp2
      go_ret
      exact ⟨_, rfl, hO.out, hB.out⟩
set_option maxRecDepth 100000 in
set_option maxHeartbeats 1000000 in
theorem pages_yes (w : World) (p : Nat) (vc : Value) (q : Nat) (r : Option Nat) (h : EpAt w p vc q r) (pg : List Nat) (ow : List Bool) (b : List Nat) (hm : MemP w q pg ow b) :
    Calls Tryd.prog 16 #[.pointer (some ⟨p, 0, none⟩)] w (OwnedR w ow) := by
  have hg := given_yes w p vc q r h
  have ho := owned_any w q pg ow b hm
  obtain ⟨_, _, c2, _, _⟩ := h.cells
  unfold OwnedR at ho ⊢
  clear h hm
  go_enter Tryd.func16, Tryd.ntmps16
  go_wp2_with fail
  refine hg.mono ?_
  rintro e w1 ⟨rfl, hw1⟩
  subst w1
  clear hg
  go_wp2_with fail
  refine ho.mono ?_
  rintro e w1 ⟨v, rfl, o1, b1⟩
  have HO := hid o1
  have HB := hid b1
  clear ho o1 b1
  go_wp2
  go_ret
  exact ⟨_, rfl, HO.out, HB.out⟩
end Go.Proofs.YtkaffbchlngfaaaDoor
