/-
  What the proofs of the cards share: the listed tables, in the world of a call and in the witness's.
-/
import Derived.Test.YtplljpodejpbgaaGreatDoorCards
import Derived.Test.YtplljpodejpbgaaGreatDoorTie
import Derived.Test.YtplljpodejpbgaaGreatDoorKP2
import Derived.WalkKit
import Derived.ProofKit
import Derived.OpenShut
import Derived.ShutString
import Derived.ChangeOld
import Derived.ChangeMaps5
import Derived.Below
import Derived.JoinedCond
import Derived.SizedLaws
import Derived.LaidLaws
import Derived.Deep.DeepHandedRow
import Derived.Lib.LaidTab
import Derived.Lib.LaidU8
import Derived.Lib.SmallJoins
namespace Go.Proofs.YtplljpodejpbgaaGreatDoor
open Go.ChangeShapes Go.WideShapes Go.ChangeAt Go.RowKit Go.Joins
set_option linter.unusedVariables false

theorem own : ownKnob Tryz.prog.godebug = none := by kernel_rfl
theorem laidOut : laidOutB Tryz.prog = true := by kernel_rfl
theorem gRo : Tryz.prog.globalNamed "cloister/sha.rounds" = some 0 := by kernel_rfl
theorem gRoType : (Tryz.prog.globals[0]?).map (·.type) = some 167 := by kernel_rfl
theorem cellsRo : Tryz.prog.cellsOf 167 = 64 := by kernel_rfl
theorem cellsR1 : Tryz.prog.cellsOf 138 = 1 := by kernel_rfl
theorem gTab : Tryz.prog.globalNamed "internal/strconv.uint64pow10" = some 1 := by kernel_rfl
theorem gTabType : (Tryz.prog.globals[1]?).map (·.type) = some 191 := by kernel_rfl
theorem cellsPo : Tryz.prog.cellsOf 191 = 20 := by kernel_rfl
theorem cellsU : Tryz.prog.cellsOf 154 = 1 := by kernel_rfl
def K0z : List Int := K0.map fun (x : Nat) => (x : Int)
/-- What the rows' list gives: the table of powers lies below all that is made, and sha's words lie. -/
theorem tb_laid {W : World} (h : laidMetH Tryz.prog [("math/bits.deBruijn32tab", Rows.laid_math_bits_deBruijn32tab), ("math/bits.deBruijn64tab", Rows.laid_math_bits_deBruijn64tab), ("internal/strconv.uint64pow10", Rows.laid_internal_strconv_uint64pow10), ("cloister/sha.rounds", Rows.laid_cloister_sha_rounds)] W) : Tb W := by
  have h' : laidMet Tryz.prog [("math/bits.deBruijn32tab", Rows.laid_math_bits_deBruijn32tab), ("math/bits.deBruijn64tab", Rows.laid_math_bits_deBruijn64tab), ("internal/strconv.uint64pow10", Rows.laid_internal_strconv_uint64pow10), ("cloister/sha.rounds", Rows.laid_cloister_sha_rounds)] W := h
  obtain ⟨ps, ⟨_, _, _, _, _, q1, _, _, _, _, h2, _⟩, _⟩ := h'
  obtain ⟨_, _, _, _, _, q2, _, _, _, _, h3, _⟩ := h2
  obtain ⟨g', t', cs, fuel, p, q, hg', ht', hvar, hd, h4, _⟩ := h3
  obtain ⟨g'', t'', cs', fuel', p', q', hg'', ht'', hvar', hd', _, _⟩ := h4
  obtain rfl := Option.some.inj (gTab.symm.trans hg')
  obtain rfl := Option.some.inj (gTabType.symm.trans ht')
  obtain rfl := Option.some.inj (gRo.symm.trans hg'')
  obtain rfl := Option.some.inj (gRoType.symm.trans ht'')
  constructor
  · have ht : Lib.TabIs Tryz.prog W "cloister/sha.rounds" .u32 K0z := by
      unfold Lib.TabIs
      rw [hvar', ← Lib.cells_of_tab (k := .u32) (zs := K0z) Tryz.underlying167 Tryz.underlying138 cellsR1 cellsRo hd']
    intro j hj
    have hc := ht.cell gRo j hj
    rw [hc]
    have hl : j < K0.length := hj
    simp [K0z, List.getD, hl]
  · refine Lib.tabBelow_of_tabIs ?_
    unfold Lib.TabIs
    rw [hvar, ← Lib.cells_of_tab (k := .u64) (zs := Lib.pow10Tab) Tryz.underlying191 Tryz.underlying154 cellsU cellsPo hd]

def layRounds : Obj → Obj
  | .cells _ t frozen => .cells (cellsN .u32 K0).toArray t frozen
  | o => o
def zPow : List Int := [1, 10, 100, 1000, 10000, 100000, 1000000, 10000000, 100000000, 1000000000, 10000000000, 100000000000, 1000000000000, 10000000000000, 100000000000000, 1000000000000000, 10000000000000000, 100000000000000000, 1000000000000000000, 10000000000000000000]
def layPow : Obj → Obj
  | .cells _ t frozen => .cells (zPow.map fun z => Value.int .u64 z).toArray t frozen
  | o => o
def zB32 : List Int := [0, 1, 28, 2, 29, 14, 24, 3, 30, 22, 20, 15, 25, 17, 4, 8, 31, 27, 13, 23, 21, 19, 16, 7, 26, 12, 18, 6, 11, 5, 10, 9]
def layB32 : Obj → Obj
  | .cells _ t frozen => .cells (zB32.map fun z => Value.int .u8 z).toArray t frozen
  | o => o
def zB64 : List Int := [0, 1, 56, 2, 57, 49, 28, 3, 61, 58, 42, 50, 38, 29, 17, 4, 62, 47, 59, 36, 45, 43, 51, 22, 53, 39, 33, 30, 24, 18, 12, 5, 63, 55, 48, 27, 60, 41, 37, 16, 46, 35, 44, 21, 52, 32, 23, 11, 54, 26, 40, 15, 34, 20, 31, 10, 25, 14, 19, 9, 13, 8, 7, 6]
def layB64 : Obj → Obj
  | .cells _ t frozen => .cells (zB64.map fun z => Value.int .u8 z).toArray t frozen
  | o => o
theorem laid_met (os : Os) (args : Array Value) : laidMet Tryz.prog [("math/bits.deBruijn32tab", Rows.laid_math_bits_deBruijn32tab), ("math/bits.deBruijn64tab", Rows.laid_math_bits_deBruijn64tab), ("internal/strconv.uint64pow10", Rows.laid_internal_strconv_uint64pow10), ("cloister/sha.rounds", Rows.laid_cloister_sha_rounds)] (({ World.holding Tryz.prog os ⟨#[], #[], []⟩ with heap := ((((World.holding Tryz.prog os ⟨#[], #[], []⟩).heap.modify 0 layRounds).modify 1 layPow).modify 3 layB32).modify 4 layB64 } : World).forCall (fun _ _ => 0) ⟨#[], args, []⟩).memory :=
  laidMet_of_run' 8 (by kernel_rfl) (by kernel_rfl)
end Go.Proofs.YtplljpodejpbgaaGreatDoor
