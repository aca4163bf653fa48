/-
  DERIVED. GIVEN WITH THE SEED: THE CARDS: each row of YtllhibdjopfcnaaDoorRows.lean that lists a variable, with what it lists TIED to the program's text (the seventh form; the later family's looks); each row that meets fmt, with fmt's text TOLD by the authors' own Lean function (tested against real Go, not proved from fmt's source: count such statements apart). THE CARD IS WHAT COUNTS. Prove the row's statement (the work); the ties are given (YtllhibdjopfcnaaDoorTie.lean); close each card by the builder's one call (the guide's Derived/Test/ToyasCard.lean, 'card_holds'). Laid BY PROGRAM, IN A SANDBOX (cutbox-door.mjs). By AI agents, Wed Nov 11 2026. No macro, syntax, notation, axiom, sorry.
-/
import Derived.Test.YtllhibdjopfcnaaDoorRows
import GoSem.ClaimSeven
namespace Go.Proofs.YtllhibdjopfcnaaDoor
namespace Rows

/-- THE TIED CARD OF 'cloisterlaw08.ParseChunks'. -/
def parseChunksCard : Claim7 := { stood := { row := parseChunksRow, standIns := [], harness := (true, "ce5156b86984624073d63ed224c5035b0ccfb71ad88860af421baf19aac03c6a"), looks := false }, kinds := [], alts := [], laidByText := true, laidKinds := [.data, .pinned], laidTests := true, laidLooks := .later }
def ParseChunksCardSaid : Prop := Claim7.holds Tryd.pinned (.plain (OpenSpec.ofChange parseChunksSpec)) parseChunksCard

/-- THE TIED CARD OF 'cloisterlaw08.ParseCuts'. -/
def parseCutsCard : Claim7 := { stood := { row := parseCutsRow, standIns := [], harness := (true, "ce5156b86984624073d63ed224c5035b0ccfb71ad88860af421baf19aac03c6a"), looks := false }, kinds := [], alts := [], laidByText := true, laidKinds := [.data, .pinned], laidTests := true, laidLooks := .later }
def ParseCutsCardSaid : Prop := Claim7.holds Tryd.pinned (.plain (OpenSpec.ofChange parseCutsSpec)) parseCutsCard

/-- THE TIED CARD OF 'cloisterlaw08.ParseWrong'. -/
def parseWrongCard : Claim7 := { stood := { row := parseWrongRow, standIns := [], harness := (true, "ce5156b86984624073d63ed224c5035b0ccfb71ad88860af421baf19aac03c6a"), looks := false }, kinds := [], alts := [], laidByText := true, laidKinds := [.data, .pinned], laidTests := true, laidLooks := .later }
def ParseWrongCardSaid : Prop := Claim7.holds Tryd.pinned (.plain (OpenSpec.ofChange parseWrongSpec)) parseWrongCard

/-- THE TIED CARD OF 'cloisterlaw08.ParseNobody'. -/
def parseNobodyCard : Claim7 := { stood := { row := parseNobodyRow, standIns := [], harness := (true, "ce5156b86984624073d63ed224c5035b0ccfb71ad88860af421baf19aac03c6a"), looks := false }, kinds := [], alts := [], laidByText := true, laidKinds := [.data, .pinned], laidTests := true, laidLooks := .later }
def ParseNobodyCardSaid : Prop := Claim7.holds Tryd.pinned (.plain (OpenSpec.ofChange parseNobodySpec)) parseNobodyCard

/-- THE TIED CARD OF 'cloisterlaw08.ParseJoined'. -/
def parseJoinedCard : Claim7 := { stood := { row := parseJoinedRow, standIns := [], harness := (true, "ce5156b86984624073d63ed224c5035b0ccfb71ad88860af421baf19aac03c6a"), looks := false }, kinds := [], alts := [], laidByText := true, laidKinds := [.data, .pinned], laidTests := true, laidLooks := .later }
def ParseJoinedCardSaid : Prop := Claim7.holds Tryd.pinned (.plain (OpenSpec.ofChange parseJoinedSpec)) parseJoinedCard

/-- THE TIED CARD OF 'cloisterlaw08.ParseLengths'. -/
def parseLengthsCard : Claim7 := { stood := { row := parseLengthsRow, standIns := [], harness := (true, "ce5156b86984624073d63ed224c5035b0ccfb71ad88860af421baf19aac03c6a"), looks := false }, kinds := [], alts := [], laidByText := true, laidKinds := [.data, .pinned], laidTests := true, laidLooks := .later }
def ParseLengthsCardSaid : Prop := Claim7.holds Tryd.pinned (.plain (OpenSpec.ofChange parseLengthsSpec)) parseLengthsCard

/-- THE SECOND FORM's CARD OF 'cloisterlaw08.ParseChunks'. -/
def parseChunksUptoCard : Claim7 := { stood := { row := parseChunksUptoRow, standIns := [], harness := (true, "ce5156b86984624073d63ed224c5035b0ccfb71ad88860af421baf19aac03c6a"), looks := false }, kinds := [], alts := [], laidByText := true, laidKinds := [.data, .pinned], laidTests := true, laidLooks := .later }
def ParseChunksUptoCardSaid : Prop := Claim7.holds Tryd.pinned (.plain (OpenSpec.upto parseChunksSpec)) parseChunksUptoCard

/-- THE SECOND FORM's CARD OF 'cloisterlaw08.ParseCuts'. -/
def parseCutsUptoCard : Claim7 := { stood := { row := parseCutsUptoRow, standIns := [], harness := (true, "ce5156b86984624073d63ed224c5035b0ccfb71ad88860af421baf19aac03c6a"), looks := false }, kinds := [], alts := [], laidByText := true, laidKinds := [.data, .pinned], laidTests := true, laidLooks := .later }
def ParseCutsUptoCardSaid : Prop := Claim7.holds Tryd.pinned (.plain (OpenSpec.upto parseCutsSpec)) parseCutsUptoCard

/-- THE SECOND FORM's CARD OF 'cloisterlaw08.ParseWrong'. -/
def parseWrongUptoCard : Claim7 := { stood := { row := parseWrongUptoRow, standIns := [], harness := (true, "ce5156b86984624073d63ed224c5035b0ccfb71ad88860af421baf19aac03c6a"), looks := false }, kinds := [], alts := [], laidByText := true, laidKinds := [.data, .pinned], laidTests := true, laidLooks := .later }
def ParseWrongUptoCardSaid : Prop := Claim7.holds Tryd.pinned (.plain (OpenSpec.upto parseWrongSpec)) parseWrongUptoCard

/-- THE SECOND FORM's CARD OF 'cloisterlaw08.ParseNobody'. -/
def parseNobodyUptoCard : Claim7 := { stood := { row := parseNobodyUptoRow, standIns := [], harness := (true, "ce5156b86984624073d63ed224c5035b0ccfb71ad88860af421baf19aac03c6a"), looks := false }, kinds := [], alts := [], laidByText := true, laidKinds := [.data, .pinned], laidTests := true, laidLooks := .later }
def ParseNobodyUptoCardSaid : Prop := Claim7.holds Tryd.pinned (.plain (OpenSpec.upto parseNobodySpec)) parseNobodyUptoCard

/-- THE SECOND FORM's CARD OF 'cloisterlaw08.ParseJoined'. -/
def parseJoinedUptoCard : Claim7 := { stood := { row := parseJoinedUptoRow, standIns := [], harness := (true, "ce5156b86984624073d63ed224c5035b0ccfb71ad88860af421baf19aac03c6a"), looks := false }, kinds := [], alts := [], laidByText := true, laidKinds := [.data, .pinned], laidTests := true, laidLooks := .later }
def ParseJoinedUptoCardSaid : Prop := Claim7.holds Tryd.pinned (.plain (OpenSpec.upto parseJoinedSpec)) parseJoinedUptoCard

/-- THE SECOND FORM's CARD OF 'cloisterlaw08.ParseLengths'. -/
def parseLengthsUptoCard : Claim7 := { stood := { row := parseLengthsUptoRow, standIns := [], harness := (true, "ce5156b86984624073d63ed224c5035b0ccfb71ad88860af421baf19aac03c6a"), looks := false }, kinds := [], alts := [], laidByText := true, laidKinds := [.data, .pinned], laidTests := true, laidLooks := .later }
def ParseLengthsUptoCardSaid : Prop := Claim7.holds Tryd.pinned (.plain (OpenSpec.upto parseLengthsSpec)) parseLengthsUptoCard
end Rows
end Go.Proofs.YtllhibdjopfcnaaDoor
