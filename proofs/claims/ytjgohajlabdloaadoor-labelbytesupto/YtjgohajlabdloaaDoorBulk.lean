/-
  The bulk of what is handed in bounds each text of it.
-/
import Derived.Test.YtjgohajlabdloaaDoorFrame
namespace Go.Proofs.YtjgohajlabdloaaDoor.bulks
open Go.ChangeShapes Go.WideShapes Go.ChangeAt Go.RowKit
set_option linter.unusedVariables false

theorem mem_le {H : Type} (d : DataW H) : ∀ ds : List (DataW H), d ∈ ds → Rows.uptoBulk d ≤ Rows.uptoBulkAll ds
  | [], h => by cases h
  | e :: r, h => by
    rw [Rows.uptoBulkAll]
    rcases List.mem_cons.1 h with rfl | h
    · omega
    · have := mem_le d r h
      omega

theorem str_small {H : Type} {ds : List (DataW H)} {j : Nat} {l : List UInt8} (hk : Rows.uptoSmall H ds = true) (hj : ds[j]? = some (.lit (.string l))) : l.length ≤ 1048576 := by
  have h1 : Rows.uptoBulkAll ds ≤ 1048576 := of_decide_eq_true hk
  have h2 := mem_le _ ds (List.mem_of_getElem? hj)
  rw [Rows.uptoBulk] at h2
  omega
end Go.Proofs.YtjgohajlabdloaaDoor.bulks
