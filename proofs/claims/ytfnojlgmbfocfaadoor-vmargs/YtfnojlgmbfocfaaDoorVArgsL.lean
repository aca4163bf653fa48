/-
  The walk of the law VmArgs.
-/
import Derived.Test.YtfnojlgmbfocfaaDoorVWork
namespace Go.Proofs.YtfnojlgmbfocfaaDoor
open Go.RowKit
set_option linter.unusedVariables false
set_option linter.unusedSimpArgs false

theorem new1 {X w' : World} {a b c : Value} {t : TypeId} (h : Below (X.alloc (.cells #[a, b, c] t)).heap.size (X.alloc (.cells #[a, b, c] t)) w') : w'.cell? ⟨X.heap.size, 0, none⟩ = some a ∧ w'.cell? ⟨X.heap.size, 1, none⟩ = some b ∧ w'.cell? ⟨X.heap.size, 2, none⟩ = some c ∧ w'.frozen? ⟨X.heap.size, 0, none⟩ = false ∧ w'.frozen? ⟨X.heap.size, 1, none⟩ = false ∧ w'.frozen? ⟨X.heap.size, 2, none⟩ = false ∧ X.heap.size < w'.heap.size := by
  have e : w'.heap[X.heap.size]? = some (.cells #[a, b, c] t (0, 0)) := by rw [h.block _ (by simp)]; exact heap_alloc_new X _
  exact ⟨by simp [World.cell?, e], by simp [World.cell?, e], by simp [World.cell?, e], by simp [World.frozen?, e], by simp [World.frozen?, e], by simp [World.frozen?, e], (Array.getElem?_eq_some_iff.1 e).1⟩
theorem new2 {X w' : World} {o : Obj} {a b c : Value} {t : TypeId} (h : Below ((X.alloc (.cells #[a, b, c] t)).alloc o).heap.size ((X.alloc (.cells #[a, b, c] t)).alloc o) w') : w'.cell? ⟨X.heap.size, 0, none⟩ = some a ∧ w'.cell? ⟨X.heap.size, 1, none⟩ = some b ∧ w'.cell? ⟨X.heap.size, 2, none⟩ = some c ∧ w'.frozen? ⟨X.heap.size, 0, none⟩ = false ∧ w'.frozen? ⟨X.heap.size, 1, none⟩ = false ∧ w'.frozen? ⟨X.heap.size, 2, none⟩ = false ∧ X.heap.size < w'.heap.size :=
  new1 ((below_alloc _ o).trans (h.mono (below_alloc _ o).size))
theorem undrew {X w' : World} (h : Below X.drew.heap.size X.drew w') : Below X.heap.size X w' := ⟨h.os, h.tape, h.output, h.size, h.block⟩
theorem keepc {w w' : World} {p : Addr} {v : Value} (hc : w.cell? p = some v) (b : Below w.heap.size w w') : w'.cell? p = some v := by
  have hp : p.block < w.heap.size := by
    by_cases h : p.block < w.heap.size
    · exact h
    · simp [World.cell?, Array.getElem?_eq_none (Nat.le_of_not_lt h)] at hc
  rw [b.cell hp]; exact hc

theorem keepf {w w' : World} {p : Addr} {v : Value} (hc : w.cell? p = some v) (hf : w.frozen? p = false) (b : Below w.heap.size w w') : w'.frozen? p = false := by
  have hp : p.block < w.heap.size := by
    by_cases h : p.block < w.heap.size
    · exact h
    · simp [World.cell?, Array.getElem?_eq_none (Nat.le_of_not_lt h)] at hc
  rw [b.frozen hp]; exact hf
end Go.Proofs.YtfnojlgmbfocfaaDoor
