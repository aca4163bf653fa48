/-
  A response in memory, what is kept beside it.
-/
import Derived.Test.YtgkipeehmckbdaaDoorRSmall
namespace Go.Proofs.YtgkipeehmckbdaaDoor
open Go.RowKit
set_option linter.unusedVariables false

/-- At p lies a response, whole. -/
def RspAt (w : World) (p : Nat) (a b c d : Value) : Prop := w.heap[p]? = some (.cells #[a, b, c, d] 24 (0, 0))
theorem RspAt.lt {w : World} {p : Nat} {a b c d : Value} (h : RspAt w p a b c d) : p < w.heap.size := (Array.getElem?_eq_some_iff.1 h).1
theorem RspAt.same {w w' : World} {p : Nat} {a b c d : Value} (h : RspAt w p a b c d) (e : w'.heap[p]? = w.heap[p]?) : RspAt w' p a b c d := by
  unfold RspAt
  rw [e]
  exact h
theorem RspAt.below {w w' : World} {p B : Nat} {a b c d : Value} (h : RspAt w p a b c d) (hb : Below B w w') (hp : p < B) : RspAt w' p a b c d := h.same (hb.block p hp)
theorem RspAt.cells {w : World} {p : Nat} {a b c d : Value} (h : RspAt w p a b c d) :
    w.cell? ⟨p, 0, none⟩ = some a ∧ w.cell? ⟨p, 1, none⟩ = some b ∧ w.cell? ⟨p, 2, none⟩ = some c ∧ w.cell? ⟨p, 3, none⟩ = some d ∧
    w.frozen? ⟨p, 0, none⟩ = false ∧ w.frozen? ⟨p, 1, none⟩ = false ∧ w.frozen? ⟨p, 2, none⟩ = false ∧ w.frozen? ⟨p, 3, none⟩ = false := by
  unfold RspAt at h
  refine ⟨?_, ?_, ?_, ?_, ?_, ?_, ?_, ?_⟩ <;> simp [World.cell?, World.frozen?, h]
theorem RspAt.new (w : World) (a b c d : Value) : RspAt (w.alloc (.cells #[a, b, c, d] 24)) w.heap.size a b c d := heap_alloc_new w _
theorem RspAt.store0 {w : World} {p : Nat} {a b c d x : Value} (h : RspAt w p a b c d) : RspAt (w.setCell ⟨p, 0, none⟩ x) p x b c d := by
  unfold RspAt at *
  simp only [World.setCell, Array.getElem?_modify, h]
  simp
theorem RspAt.store1 {w : World} {p : Nat} {a b c d x : Value} (h : RspAt w p a b c d) : RspAt (w.setCell ⟨p, 1, none⟩ x) p a x c d := by
  unfold RspAt at *
  simp only [World.setCell, Array.getElem?_modify, h]
  simp
theorem RspAt.store2 {w : World} {p : Nat} {a b c d x : Value} (h : RspAt w p a b c d) : RspAt (w.setCell ⟨p, 2, none⟩ x) p a b x d := by
  unfold RspAt at *
  simp only [World.setCell, Array.getElem?_modify, h]
  simp
theorem RspAt.store3 {w : World} {p : Nat} {a b c d x : Value} (h : RspAt w p a b c d) : RspAt (w.setCell ⟨p, 3, none⟩ x) p a b c x := by
  unfold RspAt at *
  simp only [World.setCell, Array.getElem?_modify, h]
  simp

/-- Below B all is as it was, but for the block p. -/
structure Kept (p B : Nat) (w w' : World) : Prop where
  os : w'.os = w.os
  tape : w'.tape = w.tape
  output : w'.output = w.output
  size : w.heap.size ≤ w'.heap.size
  block : ∀ k, k < B → k ≠ p → w'.heap[k]? = w.heap[k]?
theorem Kept.refl (p B : Nat) (w : World) : Kept p B w w := ⟨rfl, rfl, rfl, Nat.le_refl _, fun _ _ _ => rfl⟩
theorem Kept.trans {p B : Nat} {a b c : World} (h : Kept p B a b) (k : Kept p B b c) : Kept p B a c :=
  ⟨k.os.trans h.os, k.tape.trans h.tape, k.output.trans h.output, Nat.le_trans h.size k.size, fun i hi hp => (k.block i hi hp).trans (h.block i hi hp)⟩
theorem Kept.of_below {p B : Nat} {w w' : World} (h : Below B w w') : Kept p B w w' := ⟨h.os, h.tape, h.output, h.size, fun k hk _ => h.block k hk⟩
theorem Kept.below {p B : Nat} {w w' : World} (h : Kept p B w w') (hp : p ≤ B) : Below p w w' := ⟨h.os, h.tape, h.output, h.size, fun k hk => h.block k (by omega) (by omega)⟩
theorem Kept.le {p B C : Nat} {w w' : World} (h : Kept p B w w') (hc : C ≤ B) : Kept p C w w' := ⟨h.os, h.tape, h.output, h.size, fun k hk hp => h.block k (by omega) hp⟩
theorem Kept.store {p B : Nat} (w : World) (i : Nat) (x : Value) : Kept p B w (w.setCell ⟨p, i, none⟩ x) := by
  refine ⟨rfl, rfl, rfl, ?_, fun k _ hp => Below.heap_setCell w ⟨p, i, none⟩ x k hp⟩
  simp [World.setCell]
theorem Kept.cell {p B : Nat} {w w' : World} (h : Kept p B w w') {a : Addr} (hb : a.block < B) (hp : a.block ≠ p) : w'.cell? a = w.cell? a := World.cell?_of_block (h.block _ hb hp)

/-- A variable of the library holds some number. -/
def ML (w : World) : Prop := ∃ m, w.cell? ⟨2, 0, none⟩ = some (.int .i64 m)
theorem ML.lt {w : World} (h : ML w) : 2 < w.heap.size := by
  obtain ⟨m, hm⟩ := h
  exact World.block_lt_of_cell? w _ hm
theorem ML.below {w w' : World} {B : Nat} (h : ML w) (hb : Below B w w') (hB : 2 < B) : ML w' := by
  obtain ⟨m, hm⟩ := h
  exact ⟨m, (hb.cell hB).trans hm⟩
end Go.Proofs.YtgkipeehmckbdaaDoor
