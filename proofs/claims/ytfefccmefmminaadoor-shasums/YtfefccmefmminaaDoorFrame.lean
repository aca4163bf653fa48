/-
  What the proofs of the statements share: what the listed table gives the walks; a world for the witness; arguments that are texts.
-/
import Derived.Test.YtfefccmefmminaaDoorCards
import Derived.Test.YtfefccmefmminaaDoorTie
import Derived.Test.YtfefccmefmminaaDoorProgress
import Derived.WalkKit
import Derived.ProofKit
import Derived.OpenShut
import Derived.ShutString
import Derived.ChangeOld
import Derived.Below
import Derived.ChangeMaps5
import Derived.Deep.DeepHandedRow
import Derived.Lib.LaidTab
import Derived.Lib.SmallJoins
namespace Go.Proofs.YtfefccmefmminaaDoor
open Go.ChangeShapes Go.WideShapes Go.ChangeAt Go.RowKit
set_option linter.unusedVariables false

theorem own : ownKnob Tryd.prog.godebug = none := by kernel_rfl
theorem laidOut : laidOutB Tryd.prog = true := by kernel_rfl
theorem gTab : Tryd.prog.globalNamed "cloister/sha.rounds" = some 0 := by kernel_rfl
theorem gTabType : (Tryd.prog.globals[0]?).map (·.type) = some 61 := by kernel_rfl
theorem cells61 : Tryd.prog.cellsOf 61 = 64 := by kernel_rfl
theorem cells38 : Tryd.prog.cellsOf 38 = 1 := by kernel_rfl

def K0z : List Int := K0.map fun (x : Nat) => (x : Int)

/-- What the rows' list gives: the table's cells hold the words K. -/
theorem rounds_laid {W : World} (h : laidMetH Tryd.prog [("cloister/sha.rounds", Rows.laid_cloister_sha_rounds)] W) : Rounds W := by
  have ht : Lib.TabIs Tryd.prog W "cloister/sha.rounds" .u32 K0z :=
    Lib.tabIs_of_head (rest := []) gTab gTabType Tryd.underlying61 Tryd.underlying38 cells38 cells61 h
  intro j hj
  have hc := ht.cell gTab j hj
  rw [hc]
  have hl : j < K0.length := hj
  simp [K0z, List.getD, hl]

/-- The table's block holds what its initialiser lays. -/
def layRounds : Obj → Obj
  | .cells _ t frozen => .cells (cellsN .u32 K0).toArray t frozen
  | o => o
theorem laid_met (os : Os) (args : Array Value) : laidMet Tryd.prog [("cloister/sha.rounds", Rows.laid_cloister_sha_rounds)] (({ World.holding Tryd.prog os ⟨#[], #[], []⟩ with heap := (World.holding Tryd.prog os ⟨#[], #[], []⟩).heap.modify 0 layRounds } : World).forCall (fun _ _ => 0) ⟨#[], args, []⟩).memory :=
  laidMet_of_run' 8 (by kernel_rfl) (by kernel_rfl)

theorem weights_arg {H : Type} {ts : List TypeId} {ds : List (DataW H)} (h : (DataW.weightsEach Tryd.prog ts ds).all (· ≤ reachBytes) = true) {j : Nat} {t : TypeId} {d : DataW H} (ht : ts[j]? = some t) (hd : ds[j]? = some d) :
    ∀ n, n ∈ d.weights Tryd.prog t → n ≤ reachBytes := fun n hn => by
  have := List.all_eq_true.1 h n (DataW.weights_mem_each ht hd n hn)
  simpa using this

theorem str_le {H : Type} {l : List UInt8} (h : ∀ n, n ∈ (DataW.lit (H := H) (.string l)).weights Tryd.prog 9 → n ≤ reachBytes) : l.length ≤ 140737488351232 := by
  have := h l.length (by simp [DataW.weights])
  have hr : reachBytes = 140737488351232 := rfl
  omega

end Go.Proofs.YtfefccmefmminaaDoor
