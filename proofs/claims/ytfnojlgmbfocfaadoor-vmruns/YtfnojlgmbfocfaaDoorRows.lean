/-
  NARROWER THAN 'FOR EVERY INPUT', by the rows' own cells (each row's printed sentence says how): VmRuns: laid · VmParts: laid · VmEnds: laid · VmStacks: laid · VmArgs: laid · VmCounts: laid · VmDepths: laid.
  DERIVED. THE GIVEN ROWS OF THIS SEAT. 7 by the template 'for every input the law returns true; each argument reads behind the call as it read before'; 0 by the template 'total and deterministic' (their statements: YtfnojlgmbfocfaaDoorTotals.lean).
  GIVEN WITH THE SEED: the statements are not yours to turn. If you find one false, say at which input.
  Laid BY PROGRAM, IN A SANDBOX (cutbox-rows.mjs): the forced cells as the released guide's own fill.sh prints them over the translation ccc6eaeab570265a… (all of the seat's roots in one cut). By AI agents, Wed Nov 11 2026. No macro, syntax, notation, axiom, sorry.
-/
import Derived.Test.YtfnojlgmbfocfaaDoorChecked
import GoSem.Claim
import GoSem.ClaimJoined
import GoSem.ClaimMapViews
import Derived.JoinedTies
import Derived.KernelRfl
namespace Go.Proofs.YtfnojlgmbfocfaaDoor
/- THE CELL 'sum', in the pinned program and in every row, IS THE sha256 OF THE DUMP (.gsa) THAT YtfnojlgmbfocfaaDoorProg.lean LOADS. Nothing in Lean hashes anything: it is a label: what it is worth is what the hold of that sum in a sandbox is worth. -/
noncomputable def Tryd.pinned : Pinned := { name := "ytfnojlgmbfocfaadoor", sum := "ccc6eaeab570265aa5b84f3b19189e47d4be2eab8d8b5a88c600c7896b4e106a", checked := Tryd.checked }
namespace Rows
def none {H : Type} : Left H := { results := [], args := [] }

/- WHAT THE LISTED PACKAGE-LEVEL VARIABLES READ AS WHEN THE CALL BEGINS. Each datum BY PROGRAM (the guide's laid-datum.mjs) off the statement by which the dump's own 'gosem.cut.vars' lays the variable. In a bare row this is a premise. The card (YtfnojlgmbfocfaaDoorCards.lean) ties it to the program's text. -/
def laid_cloister_code_operations {H : Type} : DataW H := .agg [.agg [.lit (.string [112, 117, 115, 104]), .lit (.int .i64 1)], .agg [.lit (.string [112, 111, 112]), .lit (.int .i64 0)], .agg [.lit (.string [100, 117, 112]), .lit (.int .i64 2)], .agg [.lit (.string [115, 119, 97, 112]), .lit (.int .i64 0)], .agg [.lit (.string [97, 100, 100]), .lit (.int .i64 0)], .agg [.lit (.string [115, 117, 98]), .lit (.int .i64 0)], .agg [.lit (.string [109, 117, 108]), .lit (.int .i64 0)], .agg [.lit (.string [100, 105, 118]), .lit (.int .i64 0)], .agg [.lit (.string [114, 101, 109]), .lit (.int .i64 0)], .agg [.lit (.string [97, 110, 100]), .lit (.int .i64 0)], .agg [.lit (.string [111, 114]), .lit (.int .i64 0)], .agg [.lit (.string [120, 111, 114]), .lit (.int .i64 0)], .agg [.lit (.string [115, 104, 108]), .lit (.int .i64 0)], .agg [.lit (.string [115, 104, 114]), .lit (.int .i64 0)], .agg [.lit (.string [101, 113]), .lit (.int .i64 0)], .agg [.lit (.string [108, 101, 115, 115]), .lit (.int .i64 0)], .agg [.lit (.string [110, 111, 116]), .lit (.int .i64 0)], .agg [.lit (.string [108, 111, 97, 100]), .lit (.int .i64 0)], .agg [.lit (.string [115, 116, 111, 114, 101]), .lit (.int .i64 0)], .agg [.lit (.string [106, 117, 109, 112]), .lit (.int .i64 3)], .agg [.lit (.string [105, 102]), .lit (.int .i64 3)], .agg [.lit (.string [99, 97, 108, 108]), .lit (.int .i64 3)], .agg [.lit (.string [114, 101, 116]), .lit (.int .i64 0)], .agg [.lit (.string [116, 114, 97, 112]), .lit (.int .i64 4)], .agg [.lit (.string [104, 97, 108, 116]), .lit (.int .i64 0)]]
def laid_cloister_vm_effects {H : Type} : DataW H := .agg [.agg [.lit (.int .i64 0), .lit (.int .i64 1)], .agg [.lit (.int .i64 1), .lit (.int .i64 0)], .agg [.lit (.int .i64 1), .lit (.int .i64 2)], .agg [.lit (.int .i64 2), .lit (.int .i64 2)], .agg [.lit (.int .i64 2), .lit (.int .i64 1)], .agg [.lit (.int .i64 2), .lit (.int .i64 1)], .agg [.lit (.int .i64 2), .lit (.int .i64 1)], .agg [.lit (.int .i64 2), .lit (.int .i64 1)], .agg [.lit (.int .i64 2), .lit (.int .i64 1)], .agg [.lit (.int .i64 2), .lit (.int .i64 1)], .agg [.lit (.int .i64 2), .lit (.int .i64 1)], .agg [.lit (.int .i64 2), .lit (.int .i64 1)], .agg [.lit (.int .i64 2), .lit (.int .i64 1)], .agg [.lit (.int .i64 2), .lit (.int .i64 1)], .agg [.lit (.int .i64 2), .lit (.int .i64 1)], .agg [.lit (.int .i64 2), .lit (.int .i64 1)], .agg [.lit (.int .i64 1), .lit (.int .i64 1)], .agg [.lit (.int .i64 1), .lit (.int .i64 1)], .agg [.lit (.int .i64 2), .lit (.int .i64 0)], .agg [.lit (.int .i64 0), .lit (.int .i64 0)], .agg [.lit (.int .i64 1), .lit (.int .i64 0)], .agg [.lit (.int .i64 0), .lit (.int .i64 0)], .agg [.lit (.int .i64 0), .lit (.int .i64 0)], .agg [.lit (.int .i64 0), .lit (.int .i64 0)], .agg [.lit (.int .i64 0), .lit (.int .i64 0)]]

/-- 'cloisterlaw14.VmRuns': WHATEVER THE INPUT: true; the input reads as it did. -/
def vmRunsSpec : ChangeSpec := { name := "vmRuns", fn := fun _ => fun
  | [d1, d2] => { results := [.lit (.bool true)], args := [d1, d2] }
  | _ => none }
def vmRunsRow : OpenClaim := { program := "ytfnojlgmbfocfaadoor", sum := "ccc6eaeab570265aa5b84f3b19189e47d4be2eab8d8b5a88c600c7896b4e106a", func := "cloister/cloisterlaw14.VmRuns", spec := "vmRuns", unfollowed := true, recurses := true, named := ["cloister/code.operations", "cloister/vm.effects"], apart := false, laid := [("cloister/code.operations", laid_cloister_code_operations), ("cloister/vm.effects", laid_cloister_vm_effects)] }
def VmRunsSaid : Prop := vmRunsRow.holds Tryd.pinned (OpenSpec.ofChange vmRunsSpec)

/-- ITS FALSE NEIGHBOUR: 'it returns false'. Refute it at one input. -/
def vmRunsWrong : ChangeSpec := { name := "vmRuns", fn := fun _ => fun
  | [d1, d2] => { results := [.lit (.bool false)], args := [d1, d2] }
  | _ => none }
def VmRunsWrongFalsely : Prop := vmRunsRow.holds Tryd.pinned (OpenSpec.ofChange vmRunsWrong)

/-- 'cloisterlaw14.VmParts': WHATEVER THE INPUT: true; the input reads as it did. -/
def vmPartsSpec : ChangeSpec := { name := "vmParts", fn := fun _ => fun
  | [d1, d2, d3] => { results := [.lit (.bool true)], args := [d1, d2, d3] }
  | _ => none }
def vmPartsRow : OpenClaim := { program := "ytfnojlgmbfocfaadoor", sum := "ccc6eaeab570265aa5b84f3b19189e47d4be2eab8d8b5a88c600c7896b4e106a", func := "cloister/cloisterlaw14.VmParts", spec := "vmParts", unfollowed := true, recurses := true, named := ["cloister/code.operations", "cloister/vm.effects"], apart := false, laid := [("cloister/code.operations", laid_cloister_code_operations), ("cloister/vm.effects", laid_cloister_vm_effects)] }
def VmPartsSaid : Prop := vmPartsRow.holds Tryd.pinned (OpenSpec.ofChange vmPartsSpec)

/-- ITS FALSE NEIGHBOUR: 'it returns false'. Refute it at one input. -/
def vmPartsWrong : ChangeSpec := { name := "vmParts", fn := fun _ => fun
  | [d1, d2, d3] => { results := [.lit (.bool false)], args := [d1, d2, d3] }
  | _ => none }
def VmPartsWrongFalsely : Prop := vmPartsRow.holds Tryd.pinned (OpenSpec.ofChange vmPartsWrong)

/-- 'cloisterlaw14.VmEnds': WHATEVER THE INPUT: true; the input reads as it did. -/
def vmEndsSpec : ChangeSpec := { name := "vmEnds", fn := fun _ => fun
  | [d1, d2] => { results := [.lit (.bool true)], args := [d1, d2] }
  | _ => none }
def vmEndsRow : OpenClaim := { program := "ytfnojlgmbfocfaadoor", sum := "ccc6eaeab570265aa5b84f3b19189e47d4be2eab8d8b5a88c600c7896b4e106a", func := "cloister/cloisterlaw14.VmEnds", spec := "vmEnds", unfollowed := true, recurses := true, named := ["cloister/code.operations", "cloister/vm.effects"], apart := false, laid := [("cloister/code.operations", laid_cloister_code_operations), ("cloister/vm.effects", laid_cloister_vm_effects)] }
def VmEndsSaid : Prop := vmEndsRow.holds Tryd.pinned (OpenSpec.ofChange vmEndsSpec)

/-- ITS FALSE NEIGHBOUR: 'it returns false'. Refute it at one input. -/
def vmEndsWrong : ChangeSpec := { name := "vmEnds", fn := fun _ => fun
  | [d1, d2] => { results := [.lit (.bool false)], args := [d1, d2] }
  | _ => none }
def VmEndsWrongFalsely : Prop := vmEndsRow.holds Tryd.pinned (OpenSpec.ofChange vmEndsWrong)

/-- 'cloisterlaw14.VmStacks': WHATEVER THE INPUT: true; the input reads as it did. -/
def vmStacksSpec : ChangeSpec := { name := "vmStacks", fn := fun _ => fun
  | [d1, d2, d3] => { results := [.lit (.bool true)], args := [d1, d2, d3] }
  | _ => none }
def vmStacksRow : OpenClaim := { program := "ytfnojlgmbfocfaadoor", sum := "ccc6eaeab570265aa5b84f3b19189e47d4be2eab8d8b5a88c600c7896b4e106a", func := "cloister/cloisterlaw14.VmStacks", spec := "vmStacks", unfollowed := true, recurses := true, named := ["cloister/code.operations", "cloister/vm.effects"], apart := false, laid := [("cloister/code.operations", laid_cloister_code_operations), ("cloister/vm.effects", laid_cloister_vm_effects)] }
def VmStacksSaid : Prop := vmStacksRow.holds Tryd.pinned (OpenSpec.ofChange vmStacksSpec)

/-- ITS FALSE NEIGHBOUR: 'it returns false'. Refute it at one input. -/
def vmStacksWrong : ChangeSpec := { name := "vmStacks", fn := fun _ => fun
  | [d1, d2, d3] => { results := [.lit (.bool false)], args := [d1, d2, d3] }
  | _ => none }
def VmStacksWrongFalsely : Prop := vmStacksRow.holds Tryd.pinned (OpenSpec.ofChange vmStacksWrong)

/-- 'cloisterlaw14.VmArgs': WHATEVER THE INPUT: true; the input reads as it did. -/
def vmArgsSpec : ChangeSpec := { name := "vmArgs", fn := fun _ => fun
  | [d1, d2] => { results := [.lit (.bool true)], args := [d1, d2] }
  | _ => none }
def vmArgsRow : OpenClaim := { program := "ytfnojlgmbfocfaadoor", sum := "ccc6eaeab570265aa5b84f3b19189e47d4be2eab8d8b5a88c600c7896b4e106a", func := "cloister/cloisterlaw14.VmArgs", spec := "vmArgs", unfollowed := true, recurses := true, named := ["cloister/code.operations", "cloister/vm.effects"], apart := false, laid := [("cloister/code.operations", laid_cloister_code_operations), ("cloister/vm.effects", laid_cloister_vm_effects)] }
def VmArgsSaid : Prop := vmArgsRow.holds Tryd.pinned (OpenSpec.ofChange vmArgsSpec)

/-- ITS FALSE NEIGHBOUR: 'it returns false'. Refute it at one input. -/
def vmArgsWrong : ChangeSpec := { name := "vmArgs", fn := fun _ => fun
  | [d1, d2] => { results := [.lit (.bool false)], args := [d1, d2] }
  | _ => none }
def VmArgsWrongFalsely : Prop := vmArgsRow.holds Tryd.pinned (OpenSpec.ofChange vmArgsWrong)

/-- 'cloisterlaw14.VmCounts': WHATEVER THE INPUT: true; the input reads as it did. -/
def vmCountsSpec : ChangeSpec := { name := "vmCounts", fn := fun _ => fun
  | [d] => { results := [.lit (.bool true)], args := [d] }
  | _ => none }
def vmCountsRow : OpenClaim := { program := "ytfnojlgmbfocfaadoor", sum := "ccc6eaeab570265aa5b84f3b19189e47d4be2eab8d8b5a88c600c7896b4e106a", func := "cloister/cloisterlaw14.VmCounts", spec := "vmCounts", unfollowed := true, recurses := true, named := ["cloister/code.operations", "cloister/vm.effects"], apart := false, laid := [("cloister/code.operations", laid_cloister_code_operations), ("cloister/vm.effects", laid_cloister_vm_effects)] }
def VmCountsSaid : Prop := vmCountsRow.holds Tryd.pinned (OpenSpec.ofChange vmCountsSpec)

/-- ITS FALSE NEIGHBOUR: 'it returns false'. Refute it at one input. -/
def vmCountsWrong : ChangeSpec := { name := "vmCounts", fn := fun _ => fun
  | [d] => { results := [.lit (.bool false)], args := [d] }
  | _ => none }
def VmCountsWrongFalsely : Prop := vmCountsRow.holds Tryd.pinned (OpenSpec.ofChange vmCountsWrong)

/-- 'cloisterlaw14.VmDepths': WHATEVER THE INPUT: true; the input reads as it did. -/
def vmDepthsSpec : ChangeSpec := { name := "vmDepths", fn := fun _ => fun
  | [d] => { results := [.lit (.bool true)], args := [d] }
  | _ => none }
def vmDepthsRow : OpenClaim := { program := "ytfnojlgmbfocfaadoor", sum := "ccc6eaeab570265aa5b84f3b19189e47d4be2eab8d8b5a88c600c7896b4e106a", func := "cloister/cloisterlaw14.VmDepths", spec := "vmDepths", unfollowed := true, recurses := true, named := ["cloister/code.operations", "cloister/vm.effects"], apart := false, laid := [("cloister/code.operations", laid_cloister_code_operations), ("cloister/vm.effects", laid_cloister_vm_effects)] }
def VmDepthsSaid : Prop := vmDepthsRow.holds Tryd.pinned (OpenSpec.ofChange vmDepthsSpec)

/-- ITS FALSE NEIGHBOUR: 'it returns false'. Refute it at one input. -/
def vmDepthsWrong : ChangeSpec := { name := "vmDepths", fn := fun _ => fun
  | [d] => { results := [.lit (.bool false)], args := [d] }
  | _ => none }
def VmDepthsWrongFalsely : Prop := vmDepthsRow.holds Tryd.pinned (OpenSpec.ofChange vmDepthsWrong)

/- THE SECOND FORM. 'bulk': how many values and letters a reading holds, each counted each time it is reached (what is shared counts as often as it is met; a slice's spare places count too). A statement '..UptoSaid' is the law's where the arguments, and the package variables that the reading takes, are together of bulk at most 1048576: NARROWER than '..Said'. Prove '..Said' where nothing that the law and all that it calls make is longer than what came in: it says more and counts as full. Else prove '..UptoSaid'. A law counts once. -/
mutual
def uptoBulk {H : Type} : DataW H → Nat
  | .lit (.string bytes) => bytes.length + 1
  | .lit _ => 1
  | .nil => 1
  | .ptr d => uptoBulk d + 1
  | .slice elems spare => uptoBulkAll elems + uptoBulkAll spare + 1
  | .agg parts => uptoBulkAll parts + 1
  | .iface _ d => uptoBulk d + 1
  | .map entries => uptoBulkEntries entries + 1
  | .held _ => 1
def uptoBulkAll {H : Type} : List (DataW H) → Nat
  | [] => 0
  | d :: r => uptoBulk d + uptoBulkAll r
def uptoBulkEntries {H : Type} : List (Lit × DataW H) → Nat
  | [] => 0
  | x :: r => uptoBulkEntry x + uptoBulkEntries r
def uptoBulkEntry {H : Type} : Lit × DataW H → Nat
  | (.string bytes, d) => bytes.length + uptoBulk d + 1
  | (_, d) => uptoBulk d + 1
 end
def uptoSmall : (H : Type) → List (DataW H) → Bool := fun _ ds => decide (uptoBulkAll ds ≤ 1048576)
def OpenSpec.upto (s : _root_.Go.ChangeSpec) : _root_.Go.OpenSpec := { _root_.Go.OpenSpec.ofChange s with cond := some uptoSmall }

/-- 'cloisterlaw14.VmRuns', WHERE WHAT IT READS IS OF BULK AT MOST 1048576: true; the input reads as it did. -/
def vmRunsUptoRow : OpenClaim := { program := "ytfnojlgmbfocfaadoor", sum := "ccc6eaeab570265aa5b84f3b19189e47d4be2eab8d8b5a88c600c7896b4e106a", func := "cloister/cloisterlaw14.VmRuns", spec := "vmRuns", unfollowed := true, recurses := true, named := ["cloister/code.operations", "cloister/vm.effects"], apart := false, laid := [("cloister/code.operations", laid_cloister_code_operations), ("cloister/vm.effects", laid_cloister_vm_effects)], narrowed := true }
def VmRunsUptoSaid : Prop := vmRunsUptoRow.holds Tryd.pinned (OpenSpec.upto vmRunsSpec)

/-- 'cloisterlaw14.VmParts', WHERE WHAT IT READS IS OF BULK AT MOST 1048576: true; the input reads as it did. -/
def vmPartsUptoRow : OpenClaim := { program := "ytfnojlgmbfocfaadoor", sum := "ccc6eaeab570265aa5b84f3b19189e47d4be2eab8d8b5a88c600c7896b4e106a", func := "cloister/cloisterlaw14.VmParts", spec := "vmParts", unfollowed := true, recurses := true, named := ["cloister/code.operations", "cloister/vm.effects"], apart := false, laid := [("cloister/code.operations", laid_cloister_code_operations), ("cloister/vm.effects", laid_cloister_vm_effects)], narrowed := true }
def VmPartsUptoSaid : Prop := vmPartsUptoRow.holds Tryd.pinned (OpenSpec.upto vmPartsSpec)

/-- 'cloisterlaw14.VmEnds', WHERE WHAT IT READS IS OF BULK AT MOST 1048576: true; the input reads as it did. -/
def vmEndsUptoRow : OpenClaim := { program := "ytfnojlgmbfocfaadoor", sum := "ccc6eaeab570265aa5b84f3b19189e47d4be2eab8d8b5a88c600c7896b4e106a", func := "cloister/cloisterlaw14.VmEnds", spec := "vmEnds", unfollowed := true, recurses := true, named := ["cloister/code.operations", "cloister/vm.effects"], apart := false, laid := [("cloister/code.operations", laid_cloister_code_operations), ("cloister/vm.effects", laid_cloister_vm_effects)], narrowed := true }
def VmEndsUptoSaid : Prop := vmEndsUptoRow.holds Tryd.pinned (OpenSpec.upto vmEndsSpec)

/-- 'cloisterlaw14.VmStacks', WHERE WHAT IT READS IS OF BULK AT MOST 1048576: true; the input reads as it did. -/
def vmStacksUptoRow : OpenClaim := { program := "ytfnojlgmbfocfaadoor", sum := "ccc6eaeab570265aa5b84f3b19189e47d4be2eab8d8b5a88c600c7896b4e106a", func := "cloister/cloisterlaw14.VmStacks", spec := "vmStacks", unfollowed := true, recurses := true, named := ["cloister/code.operations", "cloister/vm.effects"], apart := false, laid := [("cloister/code.operations", laid_cloister_code_operations), ("cloister/vm.effects", laid_cloister_vm_effects)], narrowed := true }
def VmStacksUptoSaid : Prop := vmStacksUptoRow.holds Tryd.pinned (OpenSpec.upto vmStacksSpec)

/-- 'cloisterlaw14.VmArgs', WHERE WHAT IT READS IS OF BULK AT MOST 1048576: true; the input reads as it did. -/
def vmArgsUptoRow : OpenClaim := { program := "ytfnojlgmbfocfaadoor", sum := "ccc6eaeab570265aa5b84f3b19189e47d4be2eab8d8b5a88c600c7896b4e106a", func := "cloister/cloisterlaw14.VmArgs", spec := "vmArgs", unfollowed := true, recurses := true, named := ["cloister/code.operations", "cloister/vm.effects"], apart := false, laid := [("cloister/code.operations", laid_cloister_code_operations), ("cloister/vm.effects", laid_cloister_vm_effects)], narrowed := true }
def VmArgsUptoSaid : Prop := vmArgsUptoRow.holds Tryd.pinned (OpenSpec.upto vmArgsSpec)

/-- 'cloisterlaw14.VmCounts', WHERE WHAT IT READS IS OF BULK AT MOST 1048576: true; the input reads as it did. -/
def vmCountsUptoRow : OpenClaim := { program := "ytfnojlgmbfocfaadoor", sum := "ccc6eaeab570265aa5b84f3b19189e47d4be2eab8d8b5a88c600c7896b4e106a", func := "cloister/cloisterlaw14.VmCounts", spec := "vmCounts", unfollowed := true, recurses := true, named := ["cloister/code.operations", "cloister/vm.effects"], apart := false, laid := [("cloister/code.operations", laid_cloister_code_operations), ("cloister/vm.effects", laid_cloister_vm_effects)], narrowed := true }
def VmCountsUptoSaid : Prop := vmCountsUptoRow.holds Tryd.pinned (OpenSpec.upto vmCountsSpec)

/-- 'cloisterlaw14.VmDepths', WHERE WHAT IT READS IS OF BULK AT MOST 1048576: true; the input reads as it did. -/
def vmDepthsUptoRow : OpenClaim := { program := "ytfnojlgmbfocfaadoor", sum := "ccc6eaeab570265aa5b84f3b19189e47d4be2eab8d8b5a88c600c7896b4e106a", func := "cloister/cloisterlaw14.VmDepths", spec := "vmDepths", unfollowed := true, recurses := true, named := ["cloister/code.operations", "cloister/vm.effects"], apart := false, laid := [("cloister/code.operations", laid_cloister_code_operations), ("cloister/vm.effects", laid_cloister_vm_effects)], narrowed := true }
def VmDepthsUptoSaid : Prop := vmDepthsUptoRow.holds Tryd.pinned (OpenSpec.upto vmDepthsSpec)

end Rows
end Go.Proofs.YtfnojlgmbfocfaaDoor
