/-
  DERIVED. GIVEN WITH THE SEED: THE CARDS: each row of YtfdjnkjiffdbfaaDoorRows.lean that lists a variable, with what it lists TIED to the program's text (the seventh form; the later family's looks); each row that meets fmt, with fmt's text TOLD by the authors' own Lean function (tested against real Go, not proved from fmt's source: count such statements apart). THE CARD IS WHAT COUNTS. Prove the row's statement (the work); the ties are given (YtfdjnkjiffdbfaaDoorTie.lean); close each card by the builder's one call (the guide's Derived/Test/ToyasCard.lean, 'card_holds'). Laid BY PROGRAM, IN A SANDBOX (cutbox-door.mjs). By AI agents, Wed Nov 11 2026. No macro, syntax, notation, axiom, sorry.
-/
import Derived.Test.YtfdjnkjiffdbfaaDoorRows
import GoSem.ClaimSeven
namespace Go.Proofs.YtfdjnkjiffdbfaaDoor
namespace Rows

/-- THE TIED CARD OF 'cloisterlaw07.HeadParses'. -/
def headParsesCard : Claim7 := { stood := { row := headParsesRow, standIns := [], harness := (true, "9cf5072c24d5cd2ce497068e1a85db0d2681ee3769247c49726bc35fb671619f"), looks := false }, kinds := [], alts := [], laidByText := true, laidKinds := [.data, .pinned], laidTests := true, laidLooks := .later }
def HeadParsesCardSaid : Prop := Claim7.holds Tryd.pinned (.plain (OpenSpec.ofChange headParsesSpec)) headParsesCard

/-- THE TIED CARD OF 'cloisterlaw07.HeadBodies'. -/
def headBodiesCard : Claim7 := { stood := { row := headBodiesRow, standIns := [], harness := (true, "9cf5072c24d5cd2ce497068e1a85db0d2681ee3769247c49726bc35fb671619f"), looks := false }, kinds := [], alts := [], laidByText := true, laidKinds := [.data, .pinned], laidTests := true, laidLooks := .later }
def HeadBodiesCardSaid : Prop := Claim7.holds Tryd.pinned (.plain (OpenSpec.ofChange headBodiesSpec)) headBodiesCard

/-- THE TIED CARD OF 'cloisterlaw07.HeadLimits'. -/
def headLimitsCard : Claim7 := { stood := { row := headLimitsRow, standIns := [], harness := (true, "9cf5072c24d5cd2ce497068e1a85db0d2681ee3769247c49726bc35fb671619f"), looks := false }, kinds := [], alts := [], laidByText := true, laidKinds := [.data, .pinned], laidTests := true, laidLooks := .later }
def HeadLimitsCardSaid : Prop := Claim7.holds Tryd.pinned (.plain (OpenSpec.ofChange headLimitsSpec)) headLimitsCard

/-- THE SECOND FORM's CARD OF 'cloisterlaw07.HeadParses'. -/
def headParsesUptoCard : Claim7 := { stood := { row := headParsesUptoRow, standIns := [], harness := (true, "9cf5072c24d5cd2ce497068e1a85db0d2681ee3769247c49726bc35fb671619f"), looks := false }, kinds := [], alts := [], laidByText := true, laidKinds := [.data, .pinned], laidTests := true, laidLooks := .later }
def HeadParsesUptoCardSaid : Prop := Claim7.holds Tryd.pinned (.plain (OpenSpec.upto headParsesSpec)) headParsesUptoCard

/-- THE SECOND FORM's CARD OF 'cloisterlaw07.HeadBodies'. -/
def headBodiesUptoCard : Claim7 := { stood := { row := headBodiesUptoRow, standIns := [], harness := (true, "9cf5072c24d5cd2ce497068e1a85db0d2681ee3769247c49726bc35fb671619f"), looks := false }, kinds := [], alts := [], laidByText := true, laidKinds := [.data, .pinned], laidTests := true, laidLooks := .later }
def HeadBodiesUptoCardSaid : Prop := Claim7.holds Tryd.pinned (.plain (OpenSpec.upto headBodiesSpec)) headBodiesUptoCard

/-- THE SECOND FORM's CARD OF 'cloisterlaw07.HeadLimits'. -/
def headLimitsUptoCard : Claim7 := { stood := { row := headLimitsUptoRow, standIns := [], harness := (true, "9cf5072c24d5cd2ce497068e1a85db0d2681ee3769247c49726bc35fb671619f"), looks := false }, kinds := [], alts := [], laidByText := true, laidKinds := [.data, .pinned], laidTests := true, laidLooks := .later }
def HeadLimitsUptoCardSaid : Prop := Claim7.holds Tryd.pinned (.plain (OpenSpec.upto headLimitsSpec)) headLimitsUptoCard
end Rows
end Go.Proofs.YtfdjnkjiffdbfaaDoor
