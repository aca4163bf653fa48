/-
  The contracts of slices.Equal, label's Same and of the law's 'lent'.
-/
import Derived.Test.YtkbceaofijngoaaLLabB
import Derived.Handy
namespace Go.Proofs.Ytkbceaofijngoaa
open Go.RowKit
set_option linter.unusedVariables false

theorem owns_le {w : World} {base base' : Nat} {v : Value} {xs : List Int} (h : Owns w base v xs) (hb : base' ≤ base) : Owns w base' v xs := by
  refine ⟨h.1, ?_⟩
  rcases h.2 with hn | ⟨g, cap, cur, rfl, hbase, hg, rest⟩
  · exact Or.inl hn
  · exact Or.inr ⟨g, cap, cur, rfl, by omega, hg, rest⟩
theorem Owns.form {w : World} {base : Nat} {v : Value} {xs : List Int} (h : Owns w base v xs) : ∃ ao cap, v = .slice ao xs.length cap := by
  obtain ⟨b, off, ao, cap, rfl, _⟩ := h.sees
  exact ⟨ao, cap, rfl⟩

theorem below_grown {w w' : World} (h : w.grownBy w' none) : Below w.heap.size w w' := (Below.refl _ _).grown h (Nat.le_refl _) (fun k hk => by cases hk)

/-- At p lies a label, whole. -/
def LabAt (w : World) (p : Nat) (u v : Value) : Prop := w.heap[p]? = some (.cells #[u, v] 25 (0, 0))
theorem LabAt.lt {w : World} {p : Nat} {u v : Value} (h : LabAt w p u v) : p < w.heap.size := (Array.getElem?_eq_some_iff.1 h).1
theorem LabAt.below {w w' : World} {p B : Nat} {u v : Value} (h : LabAt w p u v) (hb : Below B w w') (hp : p < B) : LabAt w' p u v := by
  unfold LabAt
  rw [hb.block p hp]
  exact h
theorem LabAt.cells {w : World} {p : Nat} {u v : Value} (h : LabAt w p u v) :
    w.cell? ⟨p, 0, none⟩ = some u ∧ w.cell? ⟨p, 1, none⟩ = some v ∧ w.frozen? ⟨p, 0, none⟩ = false ∧ w.frozen? ⟨p, 1, none⟩ = false := by
  unfold LabAt at h
  refine ⟨?_, ?_, ?_, ?_⟩ <;> simp [World.cell?, World.frozen?, h]
theorem LabAt.new (w : World) (u v : Value) : LabAt (w.alloc (.cells #[u, v] 25)) w.heap.size u v := heap_alloc_new w _
theorem LabAt.box {w : World} {p : Nat} {u v : Value} (h : LabAt w p u v) (o : Obj) : LabAt (w.alloc o) p u v := h.below (below_alloc w o) h.lt
theorem LabAt.new2 (w : World) (o : Obj) (u v : Value) : LabAt ((w.alloc o).alloc (.cells #[u, v] 25)) (w.heap.size + 1) u v := by
  have h := LabAt.new (w.alloc o) u v
  simpa using h
theorem LabAt.new3 (w : World) (o o2 : Obj) (u v : Value) : LabAt (((w.alloc o).alloc o2).alloc (.cells #[u, v] 25)) (w.heap.size + 1 + 1) u v := by
  have h := LabAt.new ((w.alloc o).alloc o2) u v
  simpa using h

theorem LabAt.store0 {w : World} {p : Nat} {u v u' : Value} (h : LabAt w p u v) : LabAt (w.setCell ⟨p, 0, none⟩ u') p u' v := by
  unfold LabAt at *
  simp only [World.setCell, Array.getElem?_modify, h]
  simp
theorem LabAt.store1 {w : World} {p : Nat} {u v v' : Value} (h : LabAt w p u v) : LabAt (w.setCell ⟨p, 1, none⟩ v') p u v' := by
  unfold LabAt at *
  simp only [World.setCell, Array.getElem?_modify, h]
  simp
theorem LabAt.far {w : World} {p q o : Nat} {u v x : Value} (h : LabAt w p u v) (hq : p ≠ q) : LabAt (w.setCell ⟨q, o, none⟩ x) p u v := by
  unfold LabAt at h ⊢
  rw [Below.heap_setCell w ⟨q, o, none⟩ x p hq]
  exact h

end Go.Proofs.Ytkbceaofijngoaa
