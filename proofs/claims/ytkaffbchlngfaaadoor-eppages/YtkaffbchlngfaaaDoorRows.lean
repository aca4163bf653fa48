/-
  NARROWER THAN 'FOR EVERY INPUT', by the rows' own cells (each row's printed sentence says how): EpPlays: laid · EpApart: laid · EpFresh: laid · EpNobody: laid · EpPages: laid.
  DERIVED. THE GIVEN ROWS OF THIS SEAT. 5 by the template 'for every input the law returns true; each argument reads behind the call as it read before'; 0 by the template 'total and deterministic' (their statements: YtkaffbchlngfaaaDoorTotals.lean).
  GIVEN WITH THE SEED: the statements are not yours to turn. If you find one false, say at which input.
  Laid BY PROGRAM, IN A SANDBOX (cutbox-rows.mjs): the forced cells as the released guide's own fill.sh prints them over the translation 1d49ea06b1efcf87… (all of the seat's roots in one cut). By AI agents, Wed Nov 11 2026. No macro, syntax, notation, axiom, sorry.
-/
import Derived.Test.YtkaffbchlngfaaaDoorChecked
import GoSem.Claim
import GoSem.ClaimJoined
import GoSem.ClaimMapViews
import Derived.JoinedTies
import Derived.KernelRfl
namespace Go.Proofs.YtkaffbchlngfaaaDoor
/- THE CELL 'sum', in the pinned program and in every row, IS THE sha256 OF THE DUMP (.gsa) THAT YtkaffbchlngfaaaDoorProg.lean LOADS. Nothing in Lean hashes anything: it is a label: what it is worth is what the hold of that sum in a sandbox is worth. -/
noncomputable def Tryd.pinned : Pinned := { name := "ytkaffbchlngfaaadoor", sum := "1d49ea06b1efcf87cef497c2c0f8eac15383c543539799399dee49294d50ae09", checked := Tryd.checked }
namespace Rows
def none {H : Type} : Left H := { results := [], args := [] }

/- WHAT THE LISTED PACKAGE-LEVEL VARIABLES READ AS WHEN THE CALL BEGINS. Each datum BY PROGRAM (the guide's laid-datum.mjs) off the statement by which the dump's own 'gosem.cut.vars' lays the variable. In a bare row this is a premise. The card (YtkaffbchlngfaaaDoorCards.lean) ties it to the program's text. -/
def laid_cloister_code_operations {H : Type} : DataW H := .agg [.agg [.lit (.string [112, 117, 115, 104]), .lit (.int .i64 1)], .agg [.lit (.string [112, 111, 112]), .lit (.int .i64 0)], .agg [.lit (.string [100, 117, 112]), .lit (.int .i64 2)], .agg [.lit (.string [115, 119, 97, 112]), .lit (.int .i64 0)], .agg [.lit (.string [97, 100, 100]), .lit (.int .i64 0)], .agg [.lit (.string [115, 117, 98]), .lit (.int .i64 0)], .agg [.lit (.string [109, 117, 108]), .lit (.int .i64 0)], .agg [.lit (.string [100, 105, 118]), .lit (.int .i64 0)], .agg [.lit (.string [114, 101, 109]), .lit (.int .i64 0)], .agg [.lit (.string [97, 110, 100]), .lit (.int .i64 0)], .agg [.lit (.string [111, 114]), .lit (.int .i64 0)], .agg [.lit (.string [120, 111, 114]), .lit (.int .i64 0)], .agg [.lit (.string [115, 104, 108]), .lit (.int .i64 0)], .agg [.lit (.string [115, 104, 114]), .lit (.int .i64 0)], .agg [.lit (.string [101, 113]), .lit (.int .i64 0)], .agg [.lit (.string [108, 101, 115, 115]), .lit (.int .i64 0)], .agg [.lit (.string [110, 111, 116]), .lit (.int .i64 0)], .agg [.lit (.string [108, 111, 97, 100]), .lit (.int .i64 0)], .agg [.lit (.string [115, 116, 111, 114, 101]), .lit (.int .i64 0)], .agg [.lit (.string [106, 117, 109, 112]), .lit (.int .i64 3)], .agg [.lit (.string [105, 102]), .lit (.int .i64 3)], .agg [.lit (.string [99, 97, 108, 108]), .lit (.int .i64 3)], .agg [.lit (.string [114, 101, 116]), .lit (.int .i64 0)], .agg [.lit (.string [116, 114, 97, 112]), .lit (.int .i64 4)], .agg [.lit (.string [104, 97, 108, 116]), .lit (.int .i64 0)]]
def laid_cloister_vm_effects {H : Type} : DataW H := .agg [.agg [.lit (.int .i64 0), .lit (.int .i64 1)], .agg [.lit (.int .i64 1), .lit (.int .i64 0)], .agg [.lit (.int .i64 1), .lit (.int .i64 2)], .agg [.lit (.int .i64 2), .lit (.int .i64 2)], .agg [.lit (.int .i64 2), .lit (.int .i64 1)], .agg [.lit (.int .i64 2), .lit (.int .i64 1)], .agg [.lit (.int .i64 2), .lit (.int .i64 1)], .agg [.lit (.int .i64 2), .lit (.int .i64 1)], .agg [.lit (.int .i64 2), .lit (.int .i64 1)], .agg [.lit (.int .i64 2), .lit (.int .i64 1)], .agg [.lit (.int .i64 2), .lit (.int .i64 1)], .agg [.lit (.int .i64 2), .lit (.int .i64 1)], .agg [.lit (.int .i64 2), .lit (.int .i64 1)], .agg [.lit (.int .i64 2), .lit (.int .i64 1)], .agg [.lit (.int .i64 2), .lit (.int .i64 1)], .agg [.lit (.int .i64 2), .lit (.int .i64 1)], .agg [.lit (.int .i64 1), .lit (.int .i64 1)], .agg [.lit (.int .i64 1), .lit (.int .i64 1)], .agg [.lit (.int .i64 2), .lit (.int .i64 0)], .agg [.lit (.int .i64 0), .lit (.int .i64 0)], .agg [.lit (.int .i64 1), .lit (.int .i64 0)], .agg [.lit (.int .i64 0), .lit (.int .i64 0)], .agg [.lit (.int .i64 0), .lit (.int .i64 0)], .agg [.lit (.int .i64 0), .lit (.int .i64 0)], .agg [.lit (.int .i64 0), .lit (.int .i64 0)]]

/-- 'cloisterlaw15.EpPlays': WHATEVER THE INPUT: true; the input reads as it did. -/
def epPlaysSpec : ChangeSpec := { name := "epPlays", fn := fun _ => fun
  | [d1, d2, d3] => { results := [.lit (.bool true)], args := [d1, d2, d3] }
  | _ => none }
def epPlaysRow : OpenClaim := { program := "ytkaffbchlngfaaadoor", sum := "1d49ea06b1efcf87cef497c2c0f8eac15383c543539799399dee49294d50ae09", func := "cloister/cloisterlaw15.EpPlays", spec := "epPlays", unfollowed := true, recurses := true, named := ["cloister/code.operations", "cloister/vm.effects"], apart := false, laid := [("cloister/code.operations", laid_cloister_code_operations), ("cloister/vm.effects", laid_cloister_vm_effects)] }
def EpPlaysSaid : Prop := epPlaysRow.holds Tryd.pinned (OpenSpec.ofChange epPlaysSpec)

/-- ITS FALSE NEIGHBOUR: 'it returns false'. Refute it at one input. -/
def epPlaysWrong : ChangeSpec := { name := "epPlays", fn := fun _ => fun
  | [d1, d2, d3] => { results := [.lit (.bool false)], args := [d1, d2, d3] }
  | _ => none }
def EpPlaysWrongFalsely : Prop := epPlaysRow.holds Tryd.pinned (OpenSpec.ofChange epPlaysWrong)

/-- 'cloisterlaw15.EpApart': WHATEVER THE INPUT: true; the input reads as it did. -/
def epApartSpec : ChangeSpec := { name := "epApart", fn := fun _ => fun
  | [d1, d2, d3] => { results := [.lit (.bool true)], args := [d1, d2, d3] }
  | _ => none }
def epApartRow : OpenClaim := { program := "ytkaffbchlngfaaadoor", sum := "1d49ea06b1efcf87cef497c2c0f8eac15383c543539799399dee49294d50ae09", func := "cloister/cloisterlaw15.EpApart", spec := "epApart", unfollowed := true, recurses := true, named := ["cloister/code.operations", "cloister/vm.effects"], apart := false, laid := [("cloister/code.operations", laid_cloister_code_operations), ("cloister/vm.effects", laid_cloister_vm_effects)] }
def EpApartSaid : Prop := epApartRow.holds Tryd.pinned (OpenSpec.ofChange epApartSpec)

/-- ITS FALSE NEIGHBOUR: 'it returns false'. Refute it at one input. -/
def epApartWrong : ChangeSpec := { name := "epApart", fn := fun _ => fun
  | [d1, d2, d3] => { results := [.lit (.bool false)], args := [d1, d2, d3] }
  | _ => none }
def EpApartWrongFalsely : Prop := epApartRow.holds Tryd.pinned (OpenSpec.ofChange epApartWrong)

/-- 'cloisterlaw15.EpFresh': WHATEVER THE INPUT: true; the input reads as it did. -/
def epFreshSpec : ChangeSpec := { name := "epFresh", fn := fun _ => fun
  | [d1, d2, d3] => { results := [.lit (.bool true)], args := [d1, d2, d3] }
  | _ => none }
def epFreshRow : OpenClaim := { program := "ytkaffbchlngfaaadoor", sum := "1d49ea06b1efcf87cef497c2c0f8eac15383c543539799399dee49294d50ae09", func := "cloister/cloisterlaw15.EpFresh", spec := "epFresh", unfollowed := true, recurses := true, named := ["cloister/code.operations", "cloister/vm.effects"], apart := false, laid := [("cloister/code.operations", laid_cloister_code_operations), ("cloister/vm.effects", laid_cloister_vm_effects)] }
def EpFreshSaid : Prop := epFreshRow.holds Tryd.pinned (OpenSpec.ofChange epFreshSpec)

/-- ITS FALSE NEIGHBOUR: 'it returns false'. Refute it at one input. -/
def epFreshWrong : ChangeSpec := { name := "epFresh", fn := fun _ => fun
  | [d1, d2, d3] => { results := [.lit (.bool false)], args := [d1, d2, d3] }
  | _ => none }
def EpFreshWrongFalsely : Prop := epFreshRow.holds Tryd.pinned (OpenSpec.ofChange epFreshWrong)

/-- 'cloisterlaw15.EpNobody': WHATEVER THE INPUT: true; the input reads as it did. -/
def epNobodySpec : ChangeSpec := { name := "epNobody", fn := fun _ => fun
  | [d1, d2] => { results := [.lit (.bool true)], args := [d1, d2] }
  | _ => none }
def epNobodyRow : OpenClaim := { program := "ytkaffbchlngfaaadoor", sum := "1d49ea06b1efcf87cef497c2c0f8eac15383c543539799399dee49294d50ae09", func := "cloister/cloisterlaw15.EpNobody", spec := "epNobody", unfollowed := true, recurses := true, named := ["cloister/code.operations", "cloister/vm.effects"], apart := false, laid := [("cloister/code.operations", laid_cloister_code_operations), ("cloister/vm.effects", laid_cloister_vm_effects)] }
def EpNobodySaid : Prop := epNobodyRow.holds Tryd.pinned (OpenSpec.ofChange epNobodySpec)

/-- ITS FALSE NEIGHBOUR: 'it returns false'. Refute it at one input. -/
def epNobodyWrong : ChangeSpec := { name := "epNobody", fn := fun _ => fun
  | [d1, d2] => { results := [.lit (.bool false)], args := [d1, d2] }
  | _ => none }
def EpNobodyWrongFalsely : Prop := epNobodyRow.holds Tryd.pinned (OpenSpec.ofChange epNobodyWrong)

/-- 'cloisterlaw15.EpPages': WHATEVER THE INPUT: true; the input reads as it did. -/
def epPagesSpec : ChangeSpec := { name := "epPages", fn := fun _ => fun
  | [d1, d2, d3] => { results := [.lit (.bool true)], args := [d1, d2, d3] }
  | _ => none }
def epPagesRow : OpenClaim := { program := "ytkaffbchlngfaaadoor", sum := "1d49ea06b1efcf87cef497c2c0f8eac15383c543539799399dee49294d50ae09", func := "cloister/cloisterlaw15.EpPages", spec := "epPages", unfollowed := true, recurses := true, named := ["cloister/code.operations", "cloister/vm.effects"], apart := false, laid := [("cloister/code.operations", laid_cloister_code_operations), ("cloister/vm.effects", laid_cloister_vm_effects)] }
def EpPagesSaid : Prop := epPagesRow.holds Tryd.pinned (OpenSpec.ofChange epPagesSpec)

/-- ITS FALSE NEIGHBOUR: 'it returns false'. Refute it at one input. -/
def epPagesWrong : ChangeSpec := { name := "epPages", fn := fun _ => fun
  | [d1, d2, d3] => { results := [.lit (.bool false)], args := [d1, d2, d3] }
  | _ => none }
def EpPagesWrongFalsely : Prop := epPagesRow.holds Tryd.pinned (OpenSpec.ofChange epPagesWrong)

/- THE SECOND FORM. 'bulk': how many values and letters a reading holds, each counted each time it is reached (what is shared counts as often as it is met; a slice's spare places count too). A statement '..UptoSaid' is the law's where the arguments, and the package variables that the reading takes, are together of bulk at most 1048576: NARROWER than '..Said'. Prove '..Said' where nothing that the law and all that it calls make is longer than what came in: it says more and counts as full. Else prove '..UptoSaid'. A law counts once. -/
mutual
def uptoBulk {H : Type} : DataW H → Nat
  | .lit (.string bytes) => bytes.length + 1
  | .lit _ => 1
  | .nil => 1
  | .ptr d => uptoBulk d + 1
  | .slice elems spare => uptoBulkAll elems + uptoBulkAll spare + 1
  | .agg parts => uptoBulkAll parts + 1
  | .iface _ d => uptoBulk d + 1
  | .map entries => uptoBulkEntries entries + 1
  | .held _ => 1
def uptoBulkAll {H : Type} : List (DataW H) → Nat
  | [] => 0
  | d :: r => uptoBulk d + uptoBulkAll r
def uptoBulkEntries {H : Type} : List (Lit × DataW H) → Nat
  | [] => 0
  | x :: r => uptoBulkEntry x + uptoBulkEntries r
def uptoBulkEntry {H : Type} : Lit × DataW H → Nat
  | (.string bytes, d) => bytes.length + uptoBulk d + 1
  | (_, d) => uptoBulk d + 1
 end
def uptoSmall : (H : Type) → List (DataW H) → Bool := fun _ ds => decide (uptoBulkAll ds ≤ 1048576)
def OpenSpec.upto (s : _root_.Go.ChangeSpec) : _root_.Go.OpenSpec := { _root_.Go.OpenSpec.ofChange s with cond := some uptoSmall }

/-- 'cloisterlaw15.EpPlays', WHERE WHAT IT READS IS OF BULK AT MOST 1048576: true; the input reads as it did. -/
def epPlaysUptoRow : OpenClaim := { program := "ytkaffbchlngfaaadoor", sum := "1d49ea06b1efcf87cef497c2c0f8eac15383c543539799399dee49294d50ae09", func := "cloister/cloisterlaw15.EpPlays", spec := "epPlays", unfollowed := true, recurses := true, named := ["cloister/code.operations", "cloister/vm.effects"], apart := false, laid := [("cloister/code.operations", laid_cloister_code_operations), ("cloister/vm.effects", laid_cloister_vm_effects)], narrowed := true }
def EpPlaysUptoSaid : Prop := epPlaysUptoRow.holds Tryd.pinned (OpenSpec.upto epPlaysSpec)

/-- 'cloisterlaw15.EpApart', WHERE WHAT IT READS IS OF BULK AT MOST 1048576: true; the input reads as it did. -/
def epApartUptoRow : OpenClaim := { program := "ytkaffbchlngfaaadoor", sum := "1d49ea06b1efcf87cef497c2c0f8eac15383c543539799399dee49294d50ae09", func := "cloister/cloisterlaw15.EpApart", spec := "epApart", unfollowed := true, recurses := true, named := ["cloister/code.operations", "cloister/vm.effects"], apart := false, laid := [("cloister/code.operations", laid_cloister_code_operations), ("cloister/vm.effects", laid_cloister_vm_effects)], narrowed := true }
def EpApartUptoSaid : Prop := epApartUptoRow.holds Tryd.pinned (OpenSpec.upto epApartSpec)

/-- 'cloisterlaw15.EpFresh', WHERE WHAT IT READS IS OF BULK AT MOST 1048576: true; the input reads as it did. -/
def epFreshUptoRow : OpenClaim := { program := "ytkaffbchlngfaaadoor", sum := "1d49ea06b1efcf87cef497c2c0f8eac15383c543539799399dee49294d50ae09", func := "cloister/cloisterlaw15.EpFresh", spec := "epFresh", unfollowed := true, recurses := true, named := ["cloister/code.operations", "cloister/vm.effects"], apart := false, laid := [("cloister/code.operations", laid_cloister_code_operations), ("cloister/vm.effects", laid_cloister_vm_effects)], narrowed := true }
def EpFreshUptoSaid : Prop := epFreshUptoRow.holds Tryd.pinned (OpenSpec.upto epFreshSpec)

/-- 'cloisterlaw15.EpNobody', WHERE WHAT IT READS IS OF BULK AT MOST 1048576: true; the input reads as it did. -/
def epNobodyUptoRow : OpenClaim := { program := "ytkaffbchlngfaaadoor", sum := "1d49ea06b1efcf87cef497c2c0f8eac15383c543539799399dee49294d50ae09", func := "cloister/cloisterlaw15.EpNobody", spec := "epNobody", unfollowed := true, recurses := true, named := ["cloister/code.operations", "cloister/vm.effects"], apart := false, laid := [("cloister/code.operations", laid_cloister_code_operations), ("cloister/vm.effects", laid_cloister_vm_effects)], narrowed := true }
def EpNobodyUptoSaid : Prop := epNobodyUptoRow.holds Tryd.pinned (OpenSpec.upto epNobodySpec)

/-- 'cloisterlaw15.EpPages', WHERE WHAT IT READS IS OF BULK AT MOST 1048576: true; the input reads as it did. -/
def epPagesUptoRow : OpenClaim := { program := "ytkaffbchlngfaaadoor", sum := "1d49ea06b1efcf87cef497c2c0f8eac15383c543539799399dee49294d50ae09", func := "cloister/cloisterlaw15.EpPages", spec := "epPages", unfollowed := true, recurses := true, named := ["cloister/code.operations", "cloister/vm.effects"], apart := false, laid := [("cloister/code.operations", laid_cloister_code_operations), ("cloister/vm.effects", laid_cloister_vm_effects)], narrowed := true }
def EpPagesUptoSaid : Prop := epPagesUptoRow.holds Tryd.pinned (OpenSpec.upto epPagesSpec)

end Rows
end Go.Proofs.YtkaffbchlngfaaaDoor
