/-
  The code's reasons.
-/
import Derived.Test.YtgkipeehmckbdaaDoorYRPrint
import Derived.Test.YtgkipeehmckbdaaDoorShelf
import Derived.Deep.MidRow
namespace Go.Proofs.YtgkipeehmckbdaaDoor
open Go.RowKit
set_option linter.unusedVariables false

/-- The table of reasons lies where the program lays it. -/
def tabC : List Value := reasonT.flatMap fun p => [.int .i64 p.1, .string ⟨p.2.toArray⟩]
def Tab (w : World) : Prop := ∀ j, j < 26 → w.cell? ⟨0, j, none⟩ = tabC[j]?
theorem Tab.below {w w' : World} (h : Tab w) (hb : Below w.heap.size w w') : Tab w' := by
  intro j hj
  have h1 := h j hj
  have hi : j < tabC.length := hj
  rw [List.getElem?_eq_getElem hi] at h1 ⊢
  exact (hb.cell (World.block_lt_of_cell? w _ h1)).trans h1
theorem Tab.range {w : World} (h : Tab w) : w.rangeAt 0 0 tabC := by
  intro j v hv
  have hj : j < 26 := (List.getElem?_eq_some_iff.1 hv).1
  rw [Nat.zero_add, h j hj]
  exact hv
theorem find_drop {n : Int} {k : Nat} (h : k < reasonT.length) : findR n (reasonT.drop k) = if reasonT[k].1 = n then some reasonT[k].2 else findR n (reasonT.drop (k + 1)) := by
  rw [List.drop_eq_getElem_cons h, findR]
theorem tabC_two (k : Nat) (h : k < 13) : tabC.toArray.extract (k * 2) (k * 2 + 2) = #[.int .i64 (reasonT[k]'h).1, .string ⟨(reasonT[k]'h).2.toArray⟩] := by
  have hc : k = 0 ∨ k = 1 ∨ k = 2 ∨ k = 3 ∨ k = 4 ∨ k = 5 ∨ k = 6 ∨ k = 7 ∨ k = 8 ∨ k = 9 ∨ k = 10 ∨ k = 11 ∨ k = 12 := by omega
  rcases hc with rfl | rfl | rfl | rfl | rfl | rfl | rfl | rfl | rfl | rfl | rfl | rfl | rfl <;> simp [tabC, reasonT]
theorem tabV_index (k : Nat) (h : k < 13) (w : World) : (Instr.index 49 (.agg tabC.toArray) (.int .i64 (k : Int))).run Tryd.prog w = .ok (.agg #[.int .i64 (reasonT[k]'h).1, .string ⟨(reasonT[k]'h).2.toArray⟩]) w := by
  have h2 := tabC_two k h
  obtain ⟨X, hX⟩ : ∃ X, X = tabC.toArray := ⟨_, rfl⟩
  rw [← hX] at h2 ⊢
  simp [Instr.index, go_sem, part]
  rw [if_pos h, h2]
set_option maxRecDepth 40000 in
set_option maxHeartbeats 4000000 in
theorem reason_any (n : Int) (w : World) (hT : Tab w) : Calls Tryd.prog 9 #[.int .i64 n] w fun e w' => e = .returned (.tuple #[.string ⟨((reasonL n).getD []).toArray⟩, .int .i64 (if (reasonL n).isSome = true then 0 else 3)]) ∧ Below w.heap.size w w' := by
  obtain ⟨RL, hRL⟩ : ∃ RL, RL = reasonL n := ⟨_, rfl⟩
  rw [← hRL]
  have HRL := hid hRL
  obtain ⟨G, hG⟩ : ∃ G, G = RL.getD [] := ⟨_, rfl⟩
  obtain ⟨E, hE⟩ : ∃ E : Int, E = if RL.isSome = true then 0 else 3 := ⟨_, rfl⟩
  rw [← hG, ← hE]
  have HG := hid hG
  have HE := hid hE
  have HR := hid hT.range
  have HX := hid tabV_index
  have hlen : tabC.length = 26 := rfl
  obtain ⟨TC, hTC⟩ : ∃ TC, TC = tabC := ⟨_, rfl⟩
  rw [← hTC] at HR HX hlen
  clear hT hRL hG hE hTC
  go_enter Tryd.func9, Tryd.ntmps9
  go_wp2_with (first
    | (refine wpList_load_mid rfl 49 _ rfl 0 0 rfl TC _ HR.out Tryd.underlying49 rfl (by rw [hlen]; kernel_rfl) ?_)
    | fail)
  go_loopw [7] (fun i wr => ∃ (k : Nat), k ≤ 13 ∧ i = .int .i64 (k : Int) ∧ findR n (reasonT.drop k) = RL ∧ Below w.heap.size w wr) (fun i _ => 13 - (intOf i).toNat)
  case atStart => exact ⟨0, by decide, rfl, HRL.out.symm, Below.refl _ _⟩
  case round =>
    obtain ⟨k, hk, rfl, hfd, hB⟩ := hrel
    by_cases hlt : k < 13
    · have hlt' : (k : Int) < 13 := by omega
      have hfd1 := find_drop (n := n) (k := k) hlt
      rw [hfd] at hfd1
      have i1 := HX.out k hlt
      obtain ⟨P, hP⟩ : ∃ P, P = reasonT[k]'hlt := ⟨_, rfl⟩
      rw [← hP] at i1 hfd1
      obtain ⟨c, W⟩ := P
      simp only at i1 hfd1
      have hBz := hid (hB.trans ((below_alloc wr (.cells #[.int .i64 c, .string ⟨W.toArray⟩] 48)).mono hB.size))
      by_cases he : c = n
      · rw [if_pos he] at hfd1
        have f1 : (c == n) = true := by rw [beq_iff_eq]; exact he
        have HF : Hid (G = W ∧ E = 0) := by
          unfold Hid
          rw [HG.out, HE.out, hfd1]
          exact ⟨rfl, rfl⟩
        clear hfd hfd1 he hB hP
        go_wp2
        go_ret2
        exact ⟨by rw [HF.out.1, HF.out.2]; rfl, hBz.out⟩
      · rw [if_neg he] at hfd1
        have f1 : (c == n) = false := by rw [beq_eq_false_iff_ne]; exact he
        have HF := hid hfd1
        clear hfd hfd1 he hB hP
        go_wp2
        go_roundw
        case rel => exact ⟨k + 1, by omega, by go_num, HF.out.symm, hBz.out⟩
        case measure => simp [intOf]; omega
    · have hlt' : ¬ (k : Int) < 13 := by omega
      have HF : Hid (G = [] ∧ E = 3) := by
        unfold Hid
        have : RL = none := by
          rw [← hfd, List.drop_eq_nil_of_le (by show 13 ≤ k; omega)]
          rfl
        rw [HG.out, HE.out, this]
        exact ⟨rfl, rfl⟩
      have HB := hid hB
      clear hfd hB hlt
      go_wp2
      go_ret2
      exact ⟨by rw [HF.out.1, HF.out.2]; rfl, HB.out⟩
end Go.Proofs.YtgkipeehmckbdaaDoor
