/-
  The table of operations.
-/
import Derived.Test.YtkidcoolcjmcfaaDoorVBase
namespace Go.Proofs.YtkidcoolcjmcfaaDoor
open Go.RowKit
set_option linter.unusedVariables false
set_option linter.unusedSimpArgs false

def opC : List Value := opT.flatMap fun p => [.string ⟨p.1.toArray⟩, .int .i64 p.2]
/-- The table lies where the program lays it. -/
structure Tabs (w : World) : Prop where
  o : ∀ k, (h : k < 25) → w.cell? ⟨0, k * 2, none⟩ = some (.string ⟨(opT.getD k ([], 0)).1.toArray⟩) ∧ w.cell? ⟨0, k * 2 + 1, none⟩ = some (.int .i64 (opT.getD k ([], 0)).2)
theorem Tabs.same {w w' : World} (h : Tabs w) (h1 : w'.heap[0]? = w.heap[0]?) : Tabs w' :=
  ⟨fun k hk => ⟨(World.cell?_of_block (a := ⟨_, k * 2, none⟩) h1).trans (h.o k hk).1, (World.cell?_of_block (a := ⟨_, k * 2 + 1, none⟩) h1).trans (h.o k hk).2⟩⟩
theorem Tabs.lt {w : World} (h : Tabs w) : 0 < w.heap.size ∧ 0 < w.heap.size := ⟨World.block_lt_of_cell? w _ (h.o 0 (by decide)).1, World.block_lt_of_cell? w _ (h.o 0 (by decide)).1⟩
theorem Tabs.below {w w' : World} (h : Tabs w) (hb : Below w.heap.size w w') : Tabs w' := h.same (hb.block _ h.lt.1)
end Go.Proofs.YtkidcoolcjmcfaaDoor
