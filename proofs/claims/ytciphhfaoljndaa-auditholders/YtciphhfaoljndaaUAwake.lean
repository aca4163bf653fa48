/-
  awake.
-/
import Derived.Test.YtciphhfaoljndaaUChain
import Derived.Test.YtciphhfaoljndaaURHold
import Derived.Test.YtciphhfaoljndaaUSame
namespace Go.Proofs.Ytciphhfaoljndaa
open Go.RowKit
set_option linter.unusedVariables false
set_option linter.unusedSimpArgs false
set_option maxRecDepth 20000

theorem ownsG_block (w : World) (base : Nat) (l : List GrL) (hb : base ≤ w.heap.size) (hm : l.length ≤ maxLen) : OwnsG (w.alloc (.cells (cellsG l).toArray 37)) base (.slice (some ⟨w.heap.size, 0, none⟩) l.length l.length) l :=
  ⟨cellsG_len l, Or.inr ⟨w.heap.size, l.length, _, rfl, hb, heap_alloc_new w _, Nat.le_refl _, hm, by simp [cellsG_len], by
    show (cellsG l).take (l.length * 4) = _
    rw [List.take_of_length_le (by rw [cellsG_len]; exact Nat.le_refl _)]⟩⟩
def lAw : List GrL := [(0, -1, 0, 2), (0, 0, 1, 2)]
def lBad : List GrL := [(0, 1, 0, 4)]
theorem in_lAw : InG lAw := by
  intro g hg
  simp only [lAw, List.mem_cons, List.not_mem_nil, or_false] at hg
  rcases hg with rfl | rfl <;> simp [In64]
theorem in_lBad : InG lBad := by
  intro g hg
  simp only [lBad, List.mem_cons, List.not_mem_nil, or_false] at hg
  subst hg
  simp [In64]
theorem hol_lAw : holG lAw 2 0 = ([0, 1], 0) := by
  unfold holG
  rw [if_neg (by omega)]
  have h : holL lAw 2 0 lAw.length = [0, 1] := by decide
  rw [h, sd_self (by simp)]
theorem chain_lAw : chainG lAw 1 2 = (lAw, 0) := by decide
theorem chk_lBad : chkG lBad = (21, 0) := by decide
theorem sees_01 (w : World) : Sees (w.alloc (.cells #[.int .i64 0, .int .i64 1] 3)) (.slice (some ⟨w.heap.size, 0, none⟩) 2 2) [0, 1] := by
  refine ⟨w.heap.size, 0, _, 2, rfl, Nat.le_refl _, (fun h => by cases h), fun _ => rfl, fun j hj => ?_⟩
  have : j = 0 ∨ j = 1 := by simp at hj; omega
  rcases this with rfl | rfl
  · simp
  · simp

set_option maxHeartbeats 4000000 in
theorem awake_any (w : World) : Calls Try.prog 12 #[] w fun e w' => e = .returned (.bool true) ∧ Below w.heap.size w w' := by
  obtain ⟨W, hW⟩ : ∃ W, W = w.alloc (.cells #[.int .i64 0, .int .i64 (-1), .int .i64 0, .int .i64 2, .int .i64 0, .int .i64 0, .int .i64 1, .int .i64 2] 37) := ⟨_, rfl⟩
  have hS : SeesG W (.slice (some ⟨w.heap.size, 0, none⟩) 2 2) lAw := by rw [hW]; exact (ownsG_block w w.heap.size lAw (Nat.le_refl _) (by decide)).sees
  have hB : Below w.heap.size w W := by rw [hW]; exact (Below.refl _ _).alloc (Nat.le_refl _) _
  have hh := holders_any _ lAw 2 0 W hS in_lAw (by decide)
  rw [hol_lAw] at hh
  have HH := hid hh
  have HCN := hid (fun w' (hb : Below W.heap.size W w') => chain_any _ lAw 1 2 w' (hS.below hb) in_lAw ⟨by omega, by omega⟩ (by decide))
  have HB := hid hB
  have hsz := hB.size
  clear hh hS hB
  go_enter Try.func12, Try.ntmps12
  go_wp2_with fail
  rw [← hW]
  clear hW
  refine HH.out.mono ?_
  rintro e w1 ⟨v1, rfl, hO1, hb1⟩
  have HO1 := hid hO1
  have hcn := HCN.out w1 hb1
  rw [chain_lAw] at hcn
  have HC1 := hid hcn
  have HB1 := hid (HB.out.trans (hb1.mono hsz))
  have hs1 := hb1.size
  clear hO1 hcn hb1
  go_wp2_with fail
  refine HC1.out.mono ?_
  rintro e w2 ⟨v2, rfl, hO2, hb2⟩
  obtain ⟨ao2, cap2, hv2⟩ := hO2.sees.shape
  change v2 = .slice ao2 2 cap2 at hv2
  subst hv2
  have HB2 := hid (HB1.out.trans (hb2.mono (by omega)))
  have HS1 := hid (HO1.out.sees.below hb2)
  have hs2 := hb2.size
  obtain ⟨X, hX⟩ : ∃ X, X = w2.alloc (.cells #[.int .i64 0, .int .i64 1, .int .i64 0, .int .i64 4] 37) := ⟨_, rfl⟩
  have hSX : SeesG X (.slice (some ⟨w2.heap.size, 0, none⟩) 1 1) lBad := by rw [hX]; exact (ownsG_block w2 w2.heap.size lBad (Nat.le_refl _) (by decide)).sees
  have hbX : Below w2.heap.size w2 X := by rw [hX]; exact (Below.refl _ _).alloc (Nat.le_refl _) _
  have hck := check_any _ lBad X hSX in_lBad (by decide)
  rw [chk_lBad] at hck
  have HCK := hid hck
  have HSX := hid (HS1.out.below hbX)
  have HBX := hid (HB2.out.trans (hbX.mono (by omega)))
  have hsX := hbX.size
  clear hO2 hb2 hSX hbX hck
  go_wp2_with fail
  rw [← hX]
  clear hX
  refine HCK.out.mono ?_
  rintro e w3 ⟨rfl, hb3⟩
  have HS3 := hid (HSX.out.below hb3)
  have HB3 := hid (HBX.out.trans (hb3.mono (by omega)))
  have hs3 := hb3.size
  clear hb3
  obtain ⟨Y, hY⟩ : ∃ Y, Y = w3.alloc (.cells #[.int .i64 0, .int .i64 1] 3) := ⟨_, rfl⟩
  have hbY : Below w3.heap.size w3 Y := by rw [hY]; exact (Below.refl _ _).alloc (Nat.le_refl _) _
  have hsame := same_any _ _ [0, 1] [0, 1] Y (HS3.out.below hbY) (by rw [hY]; exact sees_01 w3) (by decide) (by decide)
  have HSM := hid hsame
  have HBY := hid (HB3.out.trans (hbY.mono (by omega)))
  clear hbY hsame
  go_wp2_with fail
  rw [← hY]
  clear hY
  refine HSM.out.mono ?_
  rintro e w4 ⟨rfl, hb4⟩
  have HB4 := hid (HBY.out.trans (hb4.mono (by have := HBY.out.size; omega)))
  clear hb4
  go_wp2
  go_ret
  exact ⟨rfl, HB4.out⟩
end Go.Proofs.Ytciphhfaoljndaa
