/-
  The document's Run where it may be: its loop.
-/
import Derived.Test.YtfnojlgmbfocfaaDoorVRunG
namespace Go.Proofs.YtfnojlgmbfocfaaDoor
open Go.RowKit
set_option linter.unusedVariables false
set_option linter.unusedSimpArgs false
set_option maxRecDepth 100000

theorem Five.set0 {X : World} {z : Nat} {pc pc2 : Int} {us uk ub us2 uk2 : Value} (h : Five X z pc us uk ub) : Five (((X.setCell ⟨z, 0, none⟩ (.int .i64 pc2)).setCell ⟨z, 1, none⟩ us2).setCell ⟨z, 2, none⟩ uk2) z pc2 us2 uk2 ub :=
  ⟨fill3_g h.b0, by rw [far_set (by omega), far_set (by omega), far_set (by omega)]; exact h.b1, by rw [far_set (by omega), far_set (by omega), far_set (by omega)]; exact h.b2, by rw [far_set (by omega), far_set (by omega), far_set (by omega)]; exact h.b3, by rw [far_set (by omega), far_set (by omega), far_set (by omega)]; exact h.b4⟩
theorem Five.set1 {X : World} {z : Nat} {pc : Int} {us uk ub ub2 : Value} (h : Five X z pc us uk ub) : Five (X.setCell ⟨z + 1, 0, none⟩ ub2) z pc us uk ub2 :=
  ⟨by rw [far_set (by omega)]; exact h.b0, set1_g h.b1, by rw [far_set (by omega)]; exact h.b2, by rw [far_set (by omega)]; exact h.b3, by rw [far_set (by omega)]; exact h.b4⟩
/-- The world behind a step: three new blocks, the state and the memory set. -/
def stepW (w1 : World) (z : Nat) (pc kd tr : Int) (us uk ub : Value) : World :=
  ((((((w1.alloc (.cells #[.int .i64 pc, us, uk] 25)).alloc (.cells #[ub] 39)).alloc (.cells #[.int .i64 kd, .int .i64 tr, .int .i64 0] 33)).setCell ⟨z, 0, none⟩ (.int .i64 pc)).setCell ⟨z, 1, none⟩ us).setCell ⟨z, 2, none⟩ uk).setCell ⟨z + 1, 0, none⟩ ub
theorem rloop_next {w wr w1 : World} {l : List InsL} {s s2 : StL} {us uk ub us2 uk2 ub2 : Value} {b b2 : List Nat} {vb0 : Value} (h : RLoop w wr l s us uk ub b vb0) (hb : Below wr.heap.size wr w1) (ss2 : Sees w1 us2 s2.st) (sk2 : Sees w1 uk2 s2.ca) (sb2 : SeesN .u8 w1 ub2 b2)
    (nu : NewV wr us2 us) (nk : NewV wr uk2 uk) (nb : NewV wr ub2 ub) (ho : OkS l.length s2) (hy : ∀ y ∈ b2, y < 256) (kd tr : Int) :
    RLoop w (stepW w1 w.heap.size s2.pc kd tr us2 uk2 ub2) l s2 us2 uk2 ub2 b2 vb0 ∧ (stepW w1 w.heap.size s2.pc kd tr us2 uk2 ub2).heap[w1.heap.size + 1 + 1]? = some (.cells #[.int .i64 kd, .int .i64 tr, .int .i64 0] 33 (0, 0)) ∧ w.heap.size + 5 ≤ w1.heap.size := by
  have hz : w.heap.size + 5 ≤ wr.heap.size := by have := (Array.getElem?_eq_some_iff.1 h.five.b4).1; omega
  have hz1 := hb.size
  obtain ⟨A, hA⟩ : ∃ A, A = ((w1.alloc (.cells #[.int .i64 s2.pc, us2, uk2] 25)).alloc (.cells #[ub2] 39)).alloc (.cells #[.int .i64 kd, .int .i64 tr, .int .i64 0] 33) := ⟨_, rfl⟩
  have hbA : Below w1.heap.size w1 A := by rw [hA]; exact (below_alloc2 w1 _ _).alloc (by simp; omega) _
  have q3 : A.heap[w1.heap.size + 1 + 1]? = some (.cells #[.int .i64 kd, .int .i64 tr, .int .i64 0] 33 (0, 0)) := by rw [hA]; exact (heap_new2 w1 _ _ _).2.2
  have hfA : Five A w.heap.size s.pc us uk ub := (h.five.below hb hz).below hbA (by omega)
  have ou := off_next h.ss ss2 h.os nu hz
  have ok := off_next h.sk sk2 h.ok2 nk hz
  have ob := offN_next h.sb sb2 h.ob nb hz
  have hbel : Below w.heap.size w A := (h.bel.trans (hb.mono (by omega))).trans (hbA.mono (by omega))
  have e : stepW w1 w.heap.size s2.pc kd tr us2 uk2 ub2 = (((A.setCell ⟨w.heap.size, 0, none⟩ (.int .i64 s2.pc)).setCell ⟨w.heap.size, 1, none⟩ us2).setCell ⟨w.heap.size, 2, none⟩ uk2).setCell ⟨w.heap.size + 1, 0, none⟩ ub2 := by rw [hA]; rfl
  rw [e]
  have hnb : NewV w ub2 vb0 := by
    rcases nb with rfl | h2
    · exact h.nb
    · exact Or.inr (fun j hj => by have := h2 j hj; omega)
  have k0 : w.heap.size ≤ w.heap.size ∧ w.heap.size < w.heap.size + 5 := by omega
  have k1 : w.heap.size ≤ w.heap.size + 1 ∧ w.heap.size + 1 < w.heap.size + 5 := by omega
  refine ⟨⟨hfA.set0.set1, (((hbel.setCell (p := ⟨w.heap.size, 0, none⟩) (Nat.le_refl _) _).setCell (p := ⟨w.heap.size, 1, none⟩) (Nat.le_refl _) _).setCell (p := ⟨w.heap.size, 2, none⟩) (Nat.le_refl _) _).setCell (p := ⟨w.heap.size + 1, 0, none⟩) (Nat.le_succ _) _, ?_, ?_, ?_, ho, hy, ou, ok, ob, hnb⟩, ?_, by omega⟩
  · exact sees_set (sees_set (sees_set (sees_set (ss2.below hbA) ou k0) ou k0) ou k0) ou k1
  · exact sees_set (sees_set (sees_set (sees_set (sk2.below hbA) ok k0) ok k0) ok k0) ok k1
  · exact seesN_set (seesN_set (seesN_set (seesN_set (sb2.below hbA) ob k0) ob k0) ob k0) ob k1
  · rw [far_set (by omega), far_set (by omega), far_set (by omega), far_set (by omega)]
    exact q3
/-- What the statements of a step meet. -/
theorem step_cells {w wr w1 : World} {l : List InsL} {s : StL} {us uk ub vb0 : Value} {b : List Nat} (h : RLoop w wr l s us uk ub b vb0) (hb : Below wr.heap.size wr w1) (pc kd tr : Int) (us2 uk2 ub2 : Value) :
    ∃ A, A = ((w1.alloc (.cells #[.int .i64 pc, us2, uk2] 25)).alloc (.cells #[ub2] 39)).alloc (.cells #[.int .i64 kd, .int .i64 tr, .int .i64 0] 33) ∧
    Five A w.heap.size s.pc us uk ub ∧ A.heap[w1.heap.size]? = some (.cells #[.int .i64 pc, us2, uk2] 25 (0, 0)) ∧ A.heap[w1.heap.size + 1]? = some (.cells #[ub2] 39 (0, 0)) ∧ A.heap[w1.heap.size + 1 + 1]? = some (.cells #[.int .i64 kd, .int .i64 tr, .int .i64 0] 33 (0, 0)) := by
  have hz : w.heap.size + 5 ≤ wr.heap.size := by have := (Array.getElem?_eq_some_iff.1 h.five.b4).1; omega
  have hz1 := hb.size
  obtain ⟨A, hA⟩ : ∃ A, A = ((w1.alloc (.cells #[.int .i64 pc, us2, uk2] 25)).alloc (.cells #[ub2] 39)).alloc (.cells #[.int .i64 kd, .int .i64 tr, .int .i64 0] 33) := ⟨_, rfl⟩
  have hbA : Below w1.heap.size w1 A := by rw [hA]; exact (below_alloc2 w1 _ _).alloc (by simp; omega) _
  obtain ⟨q1, q2, q3⟩ := heap_new2 w1 (.cells #[.int .i64 pc, us2, uk2] 25) (.cells #[ub2] 39) (.cells #[.int .i64 kd, .int .i64 tr, .int .i64 0] 33)
  rw [← hA] at q1 q2 q3
  exact ⟨A, hA, (h.five.below hb hz).below hbA (by omega), q1, q2, q3⟩
theorem five_get' {w : World} {z : Nat} {pc : Int} {vs vk vb : Value} (h : Five w z pc vs vk vb) (a b c x d e f : Value) :
    (fill7 w z a b c x d e f).heap[z + 1 + 1]? = some (.cells #[a, b, c] 25 (0, 0)) ∧ (fill7 w z a b c x d e f).heap[z + 1 + 1 + 1]? = some (.cells #[x] 39 (0, 0)) ∧ (fill7 w z a b c x d e f).heap[z + 1 + 1 + 1 + 1]? = some (.cells #[d, e, f] 33 (0, 0)) := by
  have := five_get h a b c x d e f
  rwa [drew_heapW] at this
theorem own_off {X : World} {B z : Nat} {v : Value} {xs : List Int} (h : Owns X B v xs) (hB : z + 5 ≤ B) : ∀ bb off ao cap, v = .slice ao xs.length cap → ao = some ⟨bb, off, none⟩ → bb ≠ z + 1 + 1 ∧ bb ≠ z + 1 + 1 + 1 ∧ bb ≠ z + 1 + 1 + 1 + 1 := by
  intro bb off ao cap e ea
  subst ea
  subst e
  have := (h.lt bb (by simp [Value.ownBlock])).1
  omega
/-- What is told behind the document's Copy. -/
theorem run_new {w w5 : World} {pc : Int} {ub cs ck vb0 : Value} {st ca : List Int} {b : List Nat} {kd tr : Int} {u B : Nat} (hbel : Below w.heap.size w w5) (hB : w.heap.size + 5 ≤ B) (o1 : Owns w5 B cs st) (o2 : Owns w5 B ck ca) (sb : SeesN .u8 w5 ub b) (ob : OffZ w.heap.size ub (b ≠ [])) (nb : NewV w ub vb0) :
    RunQ w vb0 0 ((kd, tr, u), ⟨pc, st, ca⟩, b) (.returned (.tuple #[.agg #[.int .i64 pc, cs, ck], .agg #[ub], .agg #[.int .i64 kd, .int .i64 tr, .int .i64 (u : Nat)], .int .i64 0])) (fill7 w5 w.heap.size (.int .i64 pc) cs ck ub (.int .i64 kd) (.int .i64 tr) (.int .i64 (u : Nat))) := by
  refine ⟨cs, ck, ub, rfl, sees_fill o1.sees _ _ _ _ _ _ _ (own_off o1 hB), sees_fill o2.sees _ _ _ _ _ _ _ (own_off o2 hB), seesN_fill sb _ _ _ _ _ _ _ (fun hne bb off ao cap e1 e2 => ?_), fill7_below hbel (Nat.le_refl _) _ _ _ _ _ _ _, fun j hj => by have := (o1.lt j hj).1; omega, fun j hj => by have := (o2.lt j hj).1; omega, nb⟩
  have := ob hne bb (by rw [e1, e2]; rfl)
  omega
theorem Five.far {X : World} {z j o : Nat} {pc : Int} {us uk ub u : Value} (h : Five X z pc us uk ub) (hj : z + 5 ≤ j) : Five (X.setCell ⟨j, o, none⟩ u) z pc us uk ub :=
  ⟨by rw [far_set (by omega)]; exact h.b0, by rw [far_set (by omega)]; exact h.b1, by rw [far_set (by omega)]; exact h.b2, by rw [far_set (by omega)]; exact h.b3, by rw [far_set (by omega)]; exact h.b4⟩
end Go.Proofs.YtfnojlgmbfocfaaDoor
