/-
  What a flow lacks: the contracts of the document's Lacks and Flows, of label's Flows.
-/
import Derived.Test.YtjgohajlabdloaaDoorLabC
import Derived.Test.YtjgohajlabdloaaDoorRefMore
import Derived.Deep.RegionHeld3
namespace Go.Proofs.YtjgohajlabdloaaDoor
open Go.RowKit
set_option linter.unusedVariables false

def lacksL (s i t j : List Int) : List Int := sd (lessL s t ++ lessL j i)

theorem Owns.form {w : World} {base : Nat} {v : Value} {xs : List Int} (h : Owns w base v xs) : ∃ ao cap, v = .slice ao xs.length cap := by
  obtain ⟨b, off, ao, cap, rfl, _⟩ := h.sees
  exact ⟨ao, cap, rfl⟩

end Go.Proofs.YtjgohajlabdloaaDoor
