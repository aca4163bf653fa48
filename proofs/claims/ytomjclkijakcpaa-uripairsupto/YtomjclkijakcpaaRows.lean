/-
  No cell of these rows narrows 'for every input' (looked for: loops, veiled, ifaces, maps, wideKeys, modest, calm, conditions, laid).
  DERIVED. THE GIVEN ROWS OF THIS SEAT. 6 by the template 'for every input the law returns true; each argument reads behind the call as it read before'; 0 by the template 'total and deterministic' (their statements: YtomjclkijakcpaaTotals.lean).
  GIVEN WITH THE SEED: the statements are not yours to turn. If you find one false, say at which input.
  Laid BY PROGRAM, IN A SANDBOX (cutbox-rows.mjs): the forced cells as the released guide's own fill.sh prints them over the translation 29f94d897bb0b18c… (all of the seat's roots in one cut). By AI agents, Wed Nov 11 2026. No macro, syntax, notation, axiom, sorry.
-/
import Derived.Test.YtomjclkijakcpaaChecked
import GoSem.Claim
import GoSem.ClaimJoined
import GoSem.ClaimMapViews
import Derived.JoinedTies
import Derived.KernelRfl
namespace Go.Proofs.Ytomjclkijakcpaa
/- THE CELL 'sum', in the pinned program and in every row, IS THE sha256 OF THE DUMP (.gsa) THAT YtomjclkijakcpaaProg.lean LOADS. Nothing in Lean hashes anything: it is a label: what it is worth is what the hold of that sum in a sandbox is worth. -/
noncomputable def Try.pinned : Pinned := { name := "ytomjclkijakcpaa", sum := "29f94d897bb0b18c77e777708d6d221ce82c23952108cd5e3c6b784631446cfd", checked := Try.checked }
namespace Rows
def none {H : Type} : Left H := { results := [], args := [] }

/-- 'cloisterlaw06.UriDecodes': WHATEVER THE INPUT: true; the input reads as it did. -/
def uriDecodesSpec : ChangeSpec := { name := "uriDecodes", fn := fun _ => fun
  | [d1, d2] => { results := [.lit (.bool true)], args := [d1, d2] }
  | _ => none }
def uriDecodesRow : OpenClaim := { program := "ytomjclkijakcpaa", sum := "29f94d897bb0b18c77e777708d6d221ce82c23952108cd5e3c6b784631446cfd", func := "cloister/cloisterlaw06.UriDecodes", spec := "uriDecodes", inPlace := ["internal/bytealg.IndexByteString", "internal/bytealg.IndexString"], unfollowed := true, recurses := true, named := ["internal/bytealg.MaxLen"], apart := false }
def UriDecodesSaid : Prop := uriDecodesRow.holds Try.pinned (OpenSpec.ofChange uriDecodesSpec)

/-- ITS FALSE NEIGHBOUR: 'it returns false'. Refute it at one input. -/
def uriDecodesWrong : ChangeSpec := { name := "uriDecodes", fn := fun _ => fun
  | [d1, d2] => { results := [.lit (.bool false)], args := [d1, d2] }
  | _ => none }
def UriDecodesWrongFalsely : Prop := uriDecodesRow.holds Try.pinned (OpenSpec.ofChange uriDecodesWrong)

/-- 'cloisterlaw06.UriForms': WHATEVER THE INPUT: true; the input reads as it did. -/
def uriFormsSpec : ChangeSpec := { name := "uriForms", fn := fun _ => fun
  | [d] => { results := [.lit (.bool true)], args := [d] }
  | _ => none }
def uriFormsRow : OpenClaim := { program := "ytomjclkijakcpaa", sum := "29f94d897bb0b18c77e777708d6d221ce82c23952108cd5e3c6b784631446cfd", func := "cloister/cloisterlaw06.UriForms", spec := "uriForms", inPlace := ["internal/bytealg.IndexByteString", "internal/bytealg.IndexString"], unfollowed := true, recurses := true, named := ["internal/bytealg.MaxLen"], apart := false }
def UriFormsSaid : Prop := uriFormsRow.holds Try.pinned (OpenSpec.ofChange uriFormsSpec)

/-- ITS FALSE NEIGHBOUR: 'it returns false'. Refute it at one input. -/
def uriFormsWrong : ChangeSpec := { name := "uriForms", fn := fun _ => fun
  | [d] => { results := [.lit (.bool false)], args := [d] }
  | _ => none }
def UriFormsWrongFalsely : Prop := uriFormsRow.holds Try.pinned (OpenSpec.ofChange uriFormsWrong)

/-- 'cloisterlaw06.UriTargets': WHATEVER THE INPUT: true; the input reads as it did. -/
def uriTargetsSpec : ChangeSpec := { name := "uriTargets", fn := fun _ => fun
  | [d] => { results := [.lit (.bool true)], args := [d] }
  | _ => none }
def uriTargetsRow : OpenClaim := { program := "ytomjclkijakcpaa", sum := "29f94d897bb0b18c77e777708d6d221ce82c23952108cd5e3c6b784631446cfd", func := "cloister/cloisterlaw06.UriTargets", spec := "uriTargets", inPlace := ["internal/bytealg.IndexByteString", "internal/bytealg.IndexString"], unfollowed := true, recurses := true, named := ["internal/bytealg.MaxLen"], apart := false }
def UriTargetsSaid : Prop := uriTargetsRow.holds Try.pinned (OpenSpec.ofChange uriTargetsSpec)

/-- ITS FALSE NEIGHBOUR: 'it returns false'. Refute it at one input. -/
def uriTargetsWrong : ChangeSpec := { name := "uriTargets", fn := fun _ => fun
  | [d] => { results := [.lit (.bool false)], args := [d] }
  | _ => none }
def UriTargetsWrongFalsely : Prop := uriTargetsRow.holds Try.pinned (OpenSpec.ofChange uriTargetsWrong)

/-- 'cloisterlaw06.UriBack': WHATEVER THE INPUT: true; the input reads as it did. -/
def uriBackSpec : ChangeSpec := { name := "uriBack", fn := fun _ => fun
  | [d] => { results := [.lit (.bool true)], args := [d] }
  | _ => none }
def uriBackRow : OpenClaim := { program := "ytomjclkijakcpaa", sum := "29f94d897bb0b18c77e777708d6d221ce82c23952108cd5e3c6b784631446cfd", func := "cloister/cloisterlaw06.UriBack", spec := "uriBack", inPlace := ["internal/bytealg.IndexByteString", "internal/bytealg.IndexString"], unfollowed := true, recurses := true, named := ["internal/bytealg.MaxLen"], apart := false }
def UriBackSaid : Prop := uriBackRow.holds Try.pinned (OpenSpec.ofChange uriBackSpec)

/-- ITS FALSE NEIGHBOUR: 'it returns false'. Refute it at one input. -/
def uriBackWrong : ChangeSpec := { name := "uriBack", fn := fun _ => fun
  | [d] => { results := [.lit (.bool false)], args := [d] }
  | _ => none }
def UriBackWrongFalsely : Prop := uriBackRow.holds Try.pinned (OpenSpec.ofChange uriBackWrong)

/-- 'cloisterlaw06.UriPairs': WHATEVER THE INPUT: true; the input reads as it did. -/
def uriPairsSpec : ChangeSpec := { name := "uriPairs", fn := fun _ => fun
  | [d] => { results := [.lit (.bool true)], args := [d] }
  | _ => none }
def uriPairsRow : OpenClaim := { program := "ytomjclkijakcpaa", sum := "29f94d897bb0b18c77e777708d6d221ce82c23952108cd5e3c6b784631446cfd", func := "cloister/cloisterlaw06.UriPairs", spec := "uriPairs", inPlace := ["internal/bytealg.IndexByteString", "internal/bytealg.IndexString"], unfollowed := true, recurses := true, named := ["internal/bytealg.MaxLen"], apart := false }
def UriPairsSaid : Prop := uriPairsRow.holds Try.pinned (OpenSpec.ofChange uriPairsSpec)

/-- ITS FALSE NEIGHBOUR: 'it returns false'. Refute it at one input. -/
def uriPairsWrong : ChangeSpec := { name := "uriPairs", fn := fun _ => fun
  | [d] => { results := [.lit (.bool false)], args := [d] }
  | _ => none }
def UriPairsWrongFalsely : Prop := uriPairsRow.holds Try.pinned (OpenSpec.ofChange uriPairsWrong)

/-- 'cloisterlaw06.UriPlus': WHATEVER THE INPUT: true; the input reads as it did. -/
def uriPlusSpec : ChangeSpec := { name := "uriPlus", fn := fun _ => fun
  | [d] => { results := [.lit (.bool true)], args := [d] }
  | _ => none }
def uriPlusRow : OpenClaim := { program := "ytomjclkijakcpaa", sum := "29f94d897bb0b18c77e777708d6d221ce82c23952108cd5e3c6b784631446cfd", func := "cloister/cloisterlaw06.UriPlus", spec := "uriPlus", inPlace := ["internal/bytealg.IndexByteString", "internal/bytealg.IndexString"], unfollowed := true, recurses := true, named := ["internal/bytealg.MaxLen"], apart := false }
def UriPlusSaid : Prop := uriPlusRow.holds Try.pinned (OpenSpec.ofChange uriPlusSpec)

/-- ITS FALSE NEIGHBOUR: 'it returns false'. Refute it at one input. -/
def uriPlusWrong : ChangeSpec := { name := "uriPlus", fn := fun _ => fun
  | [d] => { results := [.lit (.bool false)], args := [d] }
  | _ => none }
def UriPlusWrongFalsely : Prop := uriPlusRow.holds Try.pinned (OpenSpec.ofChange uriPlusWrong)

/- THE SECOND FORM. 'bulk': how many values and letters a reading holds, each counted each time it is reached (what is shared counts as often as it is met; a slice's spare places count too). A statement '..UptoSaid' is the law's where the arguments, and the package variables that the reading takes, are together of bulk at most 1048576: NARROWER than '..Said'. Prove '..Said' where nothing that the law and all that it calls make is longer than what came in: it says more and counts as full. Else prove '..UptoSaid'. A law counts once. -/
mutual
def uptoBulk {H : Type} : DataW H → Nat
  | .lit (.string bytes) => bytes.length + 1
  | .lit _ => 1
  | .nil => 1
  | .ptr d => uptoBulk d + 1
  | .slice elems spare => uptoBulkAll elems + uptoBulkAll spare + 1
  | .agg parts => uptoBulkAll parts + 1
  | .iface _ d => uptoBulk d + 1
  | .map entries => uptoBulkEntries entries + 1
  | .held _ => 1
def uptoBulkAll {H : Type} : List (DataW H) → Nat
  | [] => 0
  | d :: r => uptoBulk d + uptoBulkAll r
def uptoBulkEntries {H : Type} : List (Lit × DataW H) → Nat
  | [] => 0
  | x :: r => uptoBulkEntry x + uptoBulkEntries r
def uptoBulkEntry {H : Type} : Lit × DataW H → Nat
  | (.string bytes, d) => bytes.length + uptoBulk d + 1
  | (_, d) => uptoBulk d + 1
 end
def uptoSmall : (H : Type) → List (DataW H) → Bool := fun _ ds => decide (uptoBulkAll ds ≤ 1048576)
def OpenSpec.upto (s : _root_.Go.ChangeSpec) : _root_.Go.OpenSpec := { _root_.Go.OpenSpec.ofChange s with cond := some uptoSmall }

/-- 'cloisterlaw06.UriDecodes', WHERE WHAT IT READS IS OF BULK AT MOST 1048576: true; the input reads as it did. -/
def uriDecodesUptoRow : OpenClaim := { program := "ytomjclkijakcpaa", sum := "29f94d897bb0b18c77e777708d6d221ce82c23952108cd5e3c6b784631446cfd", func := "cloister/cloisterlaw06.UriDecodes", spec := "uriDecodes", inPlace := ["internal/bytealg.IndexByteString", "internal/bytealg.IndexString"], unfollowed := true, recurses := true, named := ["internal/bytealg.MaxLen"], apart := false, narrowed := true }
def UriDecodesUptoSaid : Prop := uriDecodesUptoRow.holds Try.pinned (OpenSpec.upto uriDecodesSpec)

/-- 'cloisterlaw06.UriForms', WHERE WHAT IT READS IS OF BULK AT MOST 1048576: true; the input reads as it did. -/
def uriFormsUptoRow : OpenClaim := { program := "ytomjclkijakcpaa", sum := "29f94d897bb0b18c77e777708d6d221ce82c23952108cd5e3c6b784631446cfd", func := "cloister/cloisterlaw06.UriForms", spec := "uriForms", inPlace := ["internal/bytealg.IndexByteString", "internal/bytealg.IndexString"], unfollowed := true, recurses := true, named := ["internal/bytealg.MaxLen"], apart := false, narrowed := true }
def UriFormsUptoSaid : Prop := uriFormsUptoRow.holds Try.pinned (OpenSpec.upto uriFormsSpec)

/-- 'cloisterlaw06.UriTargets', WHERE WHAT IT READS IS OF BULK AT MOST 1048576: true; the input reads as it did. -/
def uriTargetsUptoRow : OpenClaim := { program := "ytomjclkijakcpaa", sum := "29f94d897bb0b18c77e777708d6d221ce82c23952108cd5e3c6b784631446cfd", func := "cloister/cloisterlaw06.UriTargets", spec := "uriTargets", inPlace := ["internal/bytealg.IndexByteString", "internal/bytealg.IndexString"], unfollowed := true, recurses := true, named := ["internal/bytealg.MaxLen"], apart := false, narrowed := true }
def UriTargetsUptoSaid : Prop := uriTargetsUptoRow.holds Try.pinned (OpenSpec.upto uriTargetsSpec)

/-- 'cloisterlaw06.UriBack', WHERE WHAT IT READS IS OF BULK AT MOST 1048576: true; the input reads as it did. -/
def uriBackUptoRow : OpenClaim := { program := "ytomjclkijakcpaa", sum := "29f94d897bb0b18c77e777708d6d221ce82c23952108cd5e3c6b784631446cfd", func := "cloister/cloisterlaw06.UriBack", spec := "uriBack", inPlace := ["internal/bytealg.IndexByteString", "internal/bytealg.IndexString"], unfollowed := true, recurses := true, named := ["internal/bytealg.MaxLen"], apart := false, narrowed := true }
def UriBackUptoSaid : Prop := uriBackUptoRow.holds Try.pinned (OpenSpec.upto uriBackSpec)

/-- 'cloisterlaw06.UriPairs', WHERE WHAT IT READS IS OF BULK AT MOST 1048576: true; the input reads as it did. -/
def uriPairsUptoRow : OpenClaim := { program := "ytomjclkijakcpaa", sum := "29f94d897bb0b18c77e777708d6d221ce82c23952108cd5e3c6b784631446cfd", func := "cloister/cloisterlaw06.UriPairs", spec := "uriPairs", inPlace := ["internal/bytealg.IndexByteString", "internal/bytealg.IndexString"], unfollowed := true, recurses := true, named := ["internal/bytealg.MaxLen"], apart := false, narrowed := true }
def UriPairsUptoSaid : Prop := uriPairsUptoRow.holds Try.pinned (OpenSpec.upto uriPairsSpec)

/-- 'cloisterlaw06.UriPlus', WHERE WHAT IT READS IS OF BULK AT MOST 1048576: true; the input reads as it did. -/
def uriPlusUptoRow : OpenClaim := { program := "ytomjclkijakcpaa", sum := "29f94d897bb0b18c77e777708d6d221ce82c23952108cd5e3c6b784631446cfd", func := "cloister/cloisterlaw06.UriPlus", spec := "uriPlus", inPlace := ["internal/bytealg.IndexByteString", "internal/bytealg.IndexString"], unfollowed := true, recurses := true, named := ["internal/bytealg.MaxLen"], apart := false, narrowed := true }
def UriPlusUptoSaid : Prop := uriPlusUptoRow.holds Try.pinned (OpenSpec.upto uriPlusSpec)

end Rows
end Go.Proofs.Ytomjclkijakcpaa
