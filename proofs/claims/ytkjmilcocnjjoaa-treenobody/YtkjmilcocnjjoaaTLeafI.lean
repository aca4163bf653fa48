/-
  Small functions of a node: is it a leaf, has it a key too many; a row of items with one value set.
-/
import Derived.Test.YtkjmilcocnjjoaaTNodeI
import Derived.Test.YtkjmilcocnjjoaaTCloneII
import Derived.Test.YtkjmilcocnjjoaaTCloneIP
namespace Go.Proofs.Ytkjmilcocnjjoaa.I
open Go.RowKit Tm
set_option linter.unusedVariables false

theorem leaf_yes (p n : Nat) (w : World) (h : w.cell? ⟨p, 1, none⟩ = some (.slice none 0 0)) :
    Calls Try.prog 31 #[ptr p] w fun e w' => e = .returned (.bool true) ∧ w' = w := by
  unfold ptr
  go_enter Try.func31, Try.ntmps31
  go_wp2
  go_ret
  exact ⟨rfl, rfl⟩

theorem leaf_no (p n cap : Nat) (ao : Option Addr) (w : World) (hn : 0 < n) (h : w.cell? ⟨p, 1, none⟩ = some (.slice ao n cap)) :
    Calls Try.prog 31 #[ptr p] w fun e w' => e = .returned (.bool false) ∧ w' = w := by
  unfold ptr
  have h0 : ¬ ((n : Int) = 0) := by omega
  go_enter Try.func31, Try.ntmps31
  go_wp2
  go_ret
  exact ⟨by simp; omega, rfl⟩

theorem over_yes (p n cap o : Nat) (ao : Option Addr) (w : World) (ho : 2 ≤ o) (ho2 : o ≤ 64) (hn : 2 * o ≤ n) (h : w.cell? ⟨p, 0, none⟩ = some (.slice ao n cap)) :
    Calls Try.prog 35 #[ptr p, .int .i64 o] w fun e w' => e = .returned (.bool true) ∧ w' = w := by
  unfold ptr
  have h0 : 2 * (o : Int) - 1 < (n : Int) := by omega
  go_enter Try.func35, Try.ntmps35
  go_wp2
  go_ret
  exact ⟨by simp, rfl⟩

theorem over_no (p n cap o : Nat) (ao : Option Addr) (w : World) (ho : 2 ≤ o) (ho2 : o ≤ 64) (hn : n ≤ 2 * o - 1) (h : w.cell? ⟨p, 0, none⟩ = some (.slice ao n cap)) :
    Calls Try.prog 35 #[ptr p, .int .i64 o] w fun e w' => e = .returned (.bool false) ∧ w' = w := by
  unfold ptr
  have h0 : ¬ (2 * (o : Int) - 1 < (n : Int)) := by omega
  go_enter Try.func35, Try.ntmps35
  go_wp2
  go_ret
  exact ⟨by simp, rfl⟩

theorem itC_set (l : List It) (j : Nat) (h : j < l.length) (v : Int) : (itC encI l).set (j * 2 + 1) (encI v) = itC encI (l.take j ++ (l[j].1, v) :: l.drop (j + 1)) := by
  induction l generalizing j with
  | nil => simp at h
  | cons x l ih => cases j with
    | zero => simp [itC]
    | succ j =>
      rw [show (j + 1) * 2 + 1 = j * 2 + 1 + 1 + 1 by omega]
      simp [itC, ih j (by simpa using h)]

/-- One value of a row is set. -/
theorem row_set {w : World} {g n cap : Nat} {l : List It} (h : RowI w (.slice (some ⟨g, 0, none⟩) n cap) l) (j : Nat) (hj : j < l.length) (v : Int) :
    RowI (w.setCell ⟨g, j * 2 + 1, none⟩ (encI v)) (.slice (some ⟨g, 0, none⟩) n cap) (l.take j ++ (l[j].1, v) :: l.drop (j + 1)) ∧ w.grownBy (w.setCell ⟨g, j * 2 + 1, none⟩ (encI v)) (some g) := by
  have hn : n = l.length := by
    obtain ⟨ao, c, e, _⟩ := ownsRow_shape h
    cases e; rfl
  subst hn
  have h2 := h.stored (j * 2 + 1) (encI v)
  rw [itC_set l j hj v] at h2
  have e : (l.take j ++ (l[j].1, v) :: l.drop (j + 1)).length = l.length := by simp; omega
  refine ⟨?_, h2.2⟩
  unfold RowI
  rw [e]
  exact h2.1

/-- What a row of items looks like that has one. -/
theorem row_form {w : World} {v : Value} {l : List It} (h : RowI w v l) (hl : 0 < l.length) : ∃ g cap, v = .slice (some ⟨g, 0, none⟩) l.length cap ∧ l.length ≤ cap ∧ g < w.heap.size ∧ (∀ j, w.frozen? ⟨g, j, none⟩ = false) ∧ ∀ j, (hj : j < l.length) → w.cell? ⟨g, j * 2, none⟩ = some (.string l[j].1) ∧ w.cell? ⟨g, j * 2 + 1, none⟩ = some (encI l[j].2) := by
  obtain ⟨g, cap, rfl, h1, h2, h3, h4, h5⟩ := ownsRow_at h hl
  refine ⟨g, cap, rfl, h1, h3, h5, fun j hj => ?_⟩
  obtain ⟨e1, e2⟩ := itC_get encI l j hj
  rw [h4 (j * 2) (by omega), h4 (j * 2 + 1) (by omega), e1, e2]
  exact ⟨rfl, rfl⟩
theorem rowP_form {w : World} {v : Value} {l : List Nat} (h : RowP w v l) (hl : 0 < l.length) : ∃ g cap, v = .slice (some ⟨g, 0, none⟩) l.length cap ∧ l.length ≤ cap ∧ g < w.heap.size ∧ (∀ j, w.frozen? ⟨g, j, none⟩ = false) ∧ ∀ j, (hj : j < l.length) → w.cell? ⟨g, j, none⟩ = some (ptr l[j]) := by
  obtain ⟨g, cap, rfl, h1, h2, h3, h4, h5⟩ := ownsRow_at h hl
  refine ⟨g, cap, rfl, h1, h3, h5, fun j hj => ?_⟩
  rw [h4 j (by omega)]
  simp [hj]

theorem row_of {w : World} {v : Value} {n : Nat} {xs : List Value} {l : List It} (h : w.ownsRow 0 47 2 v n xs) (hn : n = l.length) (hx : xs = itC encI l) : RowI w v l := by subst hn; subst hx; exact h
theorem rowP_of {w : World} {v : Value} {n : Nat} {xs : List Value} {l : List Nat} (h : w.ownsRow 0 59 1 v n xs) (hn : n = l.length) (hx : xs = l.map ptr) : RowP w v l := by subst hn; subst hx; exact h

end Go.Proofs.Ytkjmilcocnjjoaa.I
