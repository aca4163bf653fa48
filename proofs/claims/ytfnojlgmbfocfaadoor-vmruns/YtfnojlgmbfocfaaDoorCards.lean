/-
  DERIVED. GIVEN WITH THE SEED: THE CARDS: each row of YtfnojlgmbfocfaaDoorRows.lean that lists a variable, with what it lists TIED to the program's text (the seventh form; the later family's looks); each row that meets fmt, with fmt's text TOLD by the authors' own Lean function (tested against real Go, not proved from fmt's source: count such statements apart). THE CARD IS WHAT COUNTS. Prove the row's statement (the work); the ties are given (YtfnojlgmbfocfaaDoorTie.lean); close each card by the builder's one call (the guide's Derived/Test/ToyasCard.lean, 'card_holds'). Laid BY PROGRAM, IN A SANDBOX (cutbox-door.mjs). By AI agents, Wed Nov 11 2026. No macro, syntax, notation, axiom, sorry.
-/
import Derived.Test.YtfnojlgmbfocfaaDoorRows
import GoSem.ClaimSeven
namespace Go.Proofs.YtfnojlgmbfocfaaDoor
namespace Rows

/-- THE TIED CARD OF 'cloisterlaw14.VmRuns'. -/
def vmRunsCard : Claim7 := { stood := { row := vmRunsRow, standIns := [], harness := (true, "1039b6fc1d571f58c24cfe853ebaf4f4f4ad81406fb201e09c2e54854a6e41f1"), looks := false }, kinds := [], alts := [], laidByText := true, laidKinds := [.data, .data], laidTests := true, laidLooks := .later }
def VmRunsCardSaid : Prop := Claim7.holds Tryd.pinned (.plain (OpenSpec.ofChange vmRunsSpec)) vmRunsCard

/-- THE TIED CARD OF 'cloisterlaw14.VmParts'. -/
def vmPartsCard : Claim7 := { stood := { row := vmPartsRow, standIns := [], harness := (true, "1039b6fc1d571f58c24cfe853ebaf4f4f4ad81406fb201e09c2e54854a6e41f1"), looks := false }, kinds := [], alts := [], laidByText := true, laidKinds := [.data, .data], laidTests := true, laidLooks := .later }
def VmPartsCardSaid : Prop := Claim7.holds Tryd.pinned (.plain (OpenSpec.ofChange vmPartsSpec)) vmPartsCard

/-- THE TIED CARD OF 'cloisterlaw14.VmEnds'. -/
def vmEndsCard : Claim7 := { stood := { row := vmEndsRow, standIns := [], harness := (true, "1039b6fc1d571f58c24cfe853ebaf4f4f4ad81406fb201e09c2e54854a6e41f1"), looks := false }, kinds := [], alts := [], laidByText := true, laidKinds := [.data, .data], laidTests := true, laidLooks := .later }
def VmEndsCardSaid : Prop := Claim7.holds Tryd.pinned (.plain (OpenSpec.ofChange vmEndsSpec)) vmEndsCard

/-- THE TIED CARD OF 'cloisterlaw14.VmStacks'. -/
def vmStacksCard : Claim7 := { stood := { row := vmStacksRow, standIns := [], harness := (true, "1039b6fc1d571f58c24cfe853ebaf4f4f4ad81406fb201e09c2e54854a6e41f1"), looks := false }, kinds := [], alts := [], laidByText := true, laidKinds := [.data, .data], laidTests := true, laidLooks := .later }
def VmStacksCardSaid : Prop := Claim7.holds Tryd.pinned (.plain (OpenSpec.ofChange vmStacksSpec)) vmStacksCard

/-- THE TIED CARD OF 'cloisterlaw14.VmArgs'. -/
def vmArgsCard : Claim7 := { stood := { row := vmArgsRow, standIns := [], harness := (true, "1039b6fc1d571f58c24cfe853ebaf4f4f4ad81406fb201e09c2e54854a6e41f1"), looks := false }, kinds := [], alts := [], laidByText := true, laidKinds := [.data, .data], laidTests := true, laidLooks := .later }
def VmArgsCardSaid : Prop := Claim7.holds Tryd.pinned (.plain (OpenSpec.ofChange vmArgsSpec)) vmArgsCard

/-- THE TIED CARD OF 'cloisterlaw14.VmCounts'. -/
def vmCountsCard : Claim7 := { stood := { row := vmCountsRow, standIns := [], harness := (true, "1039b6fc1d571f58c24cfe853ebaf4f4f4ad81406fb201e09c2e54854a6e41f1"), looks := false }, kinds := [], alts := [], laidByText := true, laidKinds := [.data, .data], laidTests := true, laidLooks := .later }
def VmCountsCardSaid : Prop := Claim7.holds Tryd.pinned (.plain (OpenSpec.ofChange vmCountsSpec)) vmCountsCard

/-- THE TIED CARD OF 'cloisterlaw14.VmDepths'. -/
def vmDepthsCard : Claim7 := { stood := { row := vmDepthsRow, standIns := [], harness := (true, "1039b6fc1d571f58c24cfe853ebaf4f4f4ad81406fb201e09c2e54854a6e41f1"), looks := false }, kinds := [], alts := [], laidByText := true, laidKinds := [.data, .data], laidTests := true, laidLooks := .later }
def VmDepthsCardSaid : Prop := Claim7.holds Tryd.pinned (.plain (OpenSpec.ofChange vmDepthsSpec)) vmDepthsCard

/-- THE SECOND FORM's CARD OF 'cloisterlaw14.VmRuns'. -/
def vmRunsUptoCard : Claim7 := { stood := { row := vmRunsUptoRow, standIns := [], harness := (true, "1039b6fc1d571f58c24cfe853ebaf4f4f4ad81406fb201e09c2e54854a6e41f1"), looks := false }, kinds := [], alts := [], laidByText := true, laidKinds := [.data, .data], laidTests := true, laidLooks := .later }
def VmRunsUptoCardSaid : Prop := Claim7.holds Tryd.pinned (.plain (OpenSpec.upto vmRunsSpec)) vmRunsUptoCard

/-- THE SECOND FORM's CARD OF 'cloisterlaw14.VmParts'. -/
def vmPartsUptoCard : Claim7 := { stood := { row := vmPartsUptoRow, standIns := [], harness := (true, "1039b6fc1d571f58c24cfe853ebaf4f4f4ad81406fb201e09c2e54854a6e41f1"), looks := false }, kinds := [], alts := [], laidByText := true, laidKinds := [.data, .data], laidTests := true, laidLooks := .later }
def VmPartsUptoCardSaid : Prop := Claim7.holds Tryd.pinned (.plain (OpenSpec.upto vmPartsSpec)) vmPartsUptoCard

/-- THE SECOND FORM's CARD OF 'cloisterlaw14.VmEnds'. -/
def vmEndsUptoCard : Claim7 := { stood := { row := vmEndsUptoRow, standIns := [], harness := (true, "1039b6fc1d571f58c24cfe853ebaf4f4f4ad81406fb201e09c2e54854a6e41f1"), looks := false }, kinds := [], alts := [], laidByText := true, laidKinds := [.data, .data], laidTests := true, laidLooks := .later }
def VmEndsUptoCardSaid : Prop := Claim7.holds Tryd.pinned (.plain (OpenSpec.upto vmEndsSpec)) vmEndsUptoCard

/-- THE SECOND FORM's CARD OF 'cloisterlaw14.VmStacks'. -/
def vmStacksUptoCard : Claim7 := { stood := { row := vmStacksUptoRow, standIns := [], harness := (true, "1039b6fc1d571f58c24cfe853ebaf4f4f4ad81406fb201e09c2e54854a6e41f1"), looks := false }, kinds := [], alts := [], laidByText := true, laidKinds := [.data, .data], laidTests := true, laidLooks := .later }
def VmStacksUptoCardSaid : Prop := Claim7.holds Tryd.pinned (.plain (OpenSpec.upto vmStacksSpec)) vmStacksUptoCard

/-- THE SECOND FORM's CARD OF 'cloisterlaw14.VmArgs'. -/
def vmArgsUptoCard : Claim7 := { stood := { row := vmArgsUptoRow, standIns := [], harness := (true, "1039b6fc1d571f58c24cfe853ebaf4f4f4ad81406fb201e09c2e54854a6e41f1"), looks := false }, kinds := [], alts := [], laidByText := true, laidKinds := [.data, .data], laidTests := true, laidLooks := .later }
def VmArgsUptoCardSaid : Prop := Claim7.holds Tryd.pinned (.plain (OpenSpec.upto vmArgsSpec)) vmArgsUptoCard

/-- THE SECOND FORM's CARD OF 'cloisterlaw14.VmCounts'. -/
def vmCountsUptoCard : Claim7 := { stood := { row := vmCountsUptoRow, standIns := [], harness := (true, "1039b6fc1d571f58c24cfe853ebaf4f4f4ad81406fb201e09c2e54854a6e41f1"), looks := false }, kinds := [], alts := [], laidByText := true, laidKinds := [.data, .data], laidTests := true, laidLooks := .later }
def VmCountsUptoCardSaid : Prop := Claim7.holds Tryd.pinned (.plain (OpenSpec.upto vmCountsSpec)) vmCountsUptoCard

/-- THE SECOND FORM's CARD OF 'cloisterlaw14.VmDepths'. -/
def vmDepthsUptoCard : Claim7 := { stood := { row := vmDepthsUptoRow, standIns := [], harness := (true, "1039b6fc1d571f58c24cfe853ebaf4f4f4ad81406fb201e09c2e54854a6e41f1"), looks := false }, kinds := [], alts := [], laidByText := true, laidKinds := [.data, .data], laidTests := true, laidLooks := .later }
def VmDepthsUptoCardSaid : Prop := Claim7.holds Tryd.pinned (.plain (OpenSpec.upto vmDepthsSpec)) vmDepthsUptoCard
end Rows
end Go.Proofs.YtfnojlgmbfocfaaDoor
