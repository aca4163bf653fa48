/-
  The document's Run where it may be.
-/
import Derived.Test.YtfnojlgmbfocfaaDoorVRunR
import Derived.BigRegion
namespace Go.Proofs.YtfnojlgmbfocfaaDoor
open Go.RowKit
set_option linter.unusedVariables false
set_option linter.unusedSimpArgs false
set_option maxRecDepth 100000

/-- A row that is not empty lies off the blocks z to z + 4. -/
def OffZ (z : Nat) (v : Value) (ne : Prop) : Prop := ne → ∀ j, v.ownBlock = some j → j < z ∨ z + 5 ≤ j
theorem sees_set {X : World} {z o k : Nat} {v u : Value} {xs : List Int} (h : Sees X v xs) (hb : OffZ z v (xs ≠ [])) (hk : z ≤ k ∧ k < z + 5) : Sees (X.setCell ⟨k, o, none⟩ u) v xs := by
  obtain ⟨bb, off, ao, cap, rfl, hc, hn, ha, hcell⟩ := h
  refine ⟨bb, off, ao, cap, rfl, hc, hn, ha, fun j hj => ?_⟩
  have hne : xs ≠ [] := by intro e; rw [e] at hj; simp at hj
  have hl := hb hne bb (by rw [ha hne]; rfl)
  have := hcell j hj
  unfold World.cell? at this ⊢
  rw [far_set (by show bb ≠ k; omega)]
  exact this
theorem seesN_set {q : IntKind} {X : World} {z o k : Nat} {v u : Value} {xs : List Nat} (h : SeesN q X v xs) (hb : OffZ z v (xs ≠ [])) (hk : z ≤ k ∧ k < z + 5) : SeesN q (X.setCell ⟨k, o, none⟩ u) v xs := by
  obtain ⟨bb, off, ao, cap, rfl, hc, hn, ha, hcell⟩ := h
  refine ⟨bb, off, ao, cap, rfl, hc, hn, ha, fun j hj => ?_⟩
  have hne : xs ≠ [] := by intro e; rw [e] at hj; simp at hj
  have hl := hb hne bb (by rw [ha hne]; rfl)
  have := hcell j hj
  unfold World.cell? at this ⊢
  rw [far_set (by show bb ≠ k; omega)]
  exact this
theorem off_init {w : World} {v : Value} {xs : List Int} (h : Sees w v xs) : OffZ w.heap.size v (xs ≠ []) := by
  intro hne j hj
  obtain ⟨bb, off, ao, cap, rfl, hc, hn, ha, hcell⟩ := h
  rw [ha hne] at hj
  have h0 : 0 < xs.length := by cases xs with | nil => exact absurd rfl hne | cons a b => simp
  have := World.block_lt_of_cell? w _ (hcell 0 h0)
  cases hj
  exact Or.inl this
theorem offN_init {q : IntKind} {w : World} {v : Value} {xs : List Nat} (h : SeesN q w v xs) : OffZ w.heap.size v (xs ≠ []) := by
  intro hne j hj
  obtain ⟨bb, off, ao, cap, rfl, hc, hn, ha, hcell⟩ := h
  rw [ha hne] at hj
  have h0 : 0 < xs.length := by cases xs with | nil => exact absurd rfl hne | cons a b => simp
  have := World.block_lt_of_cell? w _ (hcell 0 h0)
  cases hj
  exact Or.inl this
theorem off_next {w wr : World} {v v0 : Value} {xs ys : List Int} {W : World} (h0 : Sees wr v0 ys) (h : Sees W v xs) (ho : OffZ w.heap.size v0 (ys ≠ [])) (hn : NewV wr v v0) (hs : w.heap.size + 5 ≤ wr.heap.size) : OffZ w.heap.size v (xs ≠ []) := by
  intro hne j hj
  rcases hn with rfl | hn
  · refine ho ?_ j hj
    obtain ⟨_, _, _, _, e1, _⟩ := h0
    obtain ⟨_, _, _, _, e2, _⟩ := h
    rw [e1] at e2
    have : ys.length = xs.length := by injection e2
    intro e
    rw [e] at this
    exact hne (List.eq_nil_of_length_eq_zero this.symm)
  · have := hn j hj
    omega
theorem offN_next {q : IntKind} {w wr : World} {v v0 : Value} {xs ys : List Nat} {W : World} (h0 : SeesN q wr v0 ys) (h : SeesN q W v xs) (ho : OffZ w.heap.size v0 (ys ≠ [])) (hn : NewV wr v v0) (hs : w.heap.size + 5 ≤ wr.heap.size) : OffZ w.heap.size v (xs ≠ []) := by
  intro hne j hj
  rcases hn with rfl | hn
  · refine ho ?_ j hj
    obtain ⟨_, _, _, _, e1, _⟩ := h0
    obtain ⟨_, _, _, _, e2, _⟩ := h
    rw [e1] at e2
    have : ys.length = xs.length := by injection e2
    intro e
    rw [e] at this
    exact hne (List.eq_nil_of_length_eq_zero this.symm)
  · have := hn j hj
    omega
theorem doL_bytes {i : InsL} {s s' : StL} {b b' : List Nat} (hr : doL i s b = some (s', b')) : b' = b ∨ ∃ k x, x < 256 ∧ b' = b.set k x := by
  unfold doL at hr
  by_cases h1 : i.1 = 1
  · rw [if_pos h1] at hr; exact Or.inl (Prod.mk.inj (Option.some.inj hr)).2.symm
  rw [if_neg h1] at hr
  by_cases h2 : i.1 = 2
  · rw [if_pos h2] at hr; exact Or.inl (Prod.mk.inj (Option.some.inj hr)).2.symm
  rw [if_neg h2] at hr
  by_cases h3 : i.1 = 3
  · rw [if_pos h3] at hr; exact Or.inl (Prod.mk.inj (Option.some.inj hr)).2.symm
  rw [if_neg h3] at hr
  by_cases h4 : i.1 = 4
  · rw [if_pos h4] at hr; exact Or.inl (Prod.mk.inj (Option.some.inj hr)).2.symm
  rw [if_neg h4] at hr
  by_cases h17 : i.1 = 17
  · rw [if_pos h17] at hr; exact Or.inl (Prod.mk.inj (Option.some.inj hr)).2.symm
  rw [if_neg h17] at hr
  by_cases h18 : i.1 = 18
  · rw [if_pos h18] at hr
    split at hr
    · exact Or.inl (Prod.mk.inj (Option.some.inj hr)).2.symm
    · cases hr
  rw [if_neg h18] at hr
  by_cases h19 : i.1 = 19
  · rw [if_pos h19] at hr
    split at hr
    · exact Or.inr ⟨_, _, by omega, (Prod.mk.inj (Option.some.inj hr)).2.symm⟩
    · cases hr
  rw [if_neg h19] at hr
  by_cases h20 : i.1 = 20
  · rw [if_pos h20] at hr; exact Or.inl (Prod.mk.inj (Option.some.inj hr)).2.symm
  rw [if_neg h20] at hr
  by_cases h21 : i.1 = 21
  · rw [if_pos h21] at hr; exact Or.inl (Prod.mk.inj (Option.some.inj hr)).2.symm
  rw [if_neg h21] at hr
  by_cases h22 : i.1 = 22
  · rw [if_pos h22] at hr
    split at hr
    · cases hr
    · exact Or.inl (Prod.mk.inj (Option.some.inj hr)).2.symm
  rw [if_neg h22] at hr
  by_cases h23 : i.1 = 23
  · rw [if_pos h23] at hr
    split at hr
    · cases hr
    · exact Or.inl (Prod.mk.inj (Option.some.inj hr)).2.symm
  rw [if_neg h23] at hr
  by_cases h24 : i.1 = 24
  · rw [if_pos h24] at hr; exact Or.inl (Prod.mk.inj (Option.some.inj hr)).2.symm
  rw [if_neg h24] at hr
  by_cases h25 : i.1 = 25
  · rw [if_pos h25] at hr; exact Or.inl (Prod.mk.inj (Option.some.inj hr)).2.symm
  rw [if_neg h25] at hr
  split at hr
  · cases hr
  · exact Or.inl (Prod.mk.inj (Option.some.inj hr)).2.symm
/-- What a step makes of the bytes. -/
theorem step_bytes {l : List InsL} {s : StL} {b : List Nat} (h : ∀ y ∈ b, y < 256) : (∀ y ∈ (stepL l s b).2.2, y < 256) := by
  unfold stepL
  split
  · exact h
  · rename_i i hi
    split
    · split
      · exact h
      · rename_i r hr
        obtain ⟨s', b'⟩ := r
        show ∀ y ∈ b', y < 256
        intro y hy
        rcases doL_bytes hr with rfl | ⟨k, x, hx, rfl⟩
        · exact h y hy
        · rcases List.mem_or_eq_of_mem_set hy with hm | rfl
          · exact h y hm
          · exact hx
    · exact h
/-- The loop's head. -/
structure RLoop (w wr : World) (l : List InsL) (s : StL) (us uk ub : Value) (b : List Nat) (vb0 : Value) : Prop where
  five : Five wr w.heap.size s.pc us uk ub
  bel : Below w.heap.size w wr
  ss : Sees wr us s.st
  sk : Sees wr uk s.ca
  sb : SeesN .u8 wr ub b
  ok : OkS l.length s
  by8 : ∀ y ∈ b, y < 256
  os : OffZ w.heap.size us (s.st ≠ [])
  ok2 : OffZ w.heap.size uk (s.ca ≠ [])
  ob : OffZ w.heap.size ub (b ≠ [])
  nb : NewV w ub vb0
end Go.Proofs.YtfnojlgmbfocfaaDoor
