/-
  DERIVED. GIVEN WITH THE SEED: THE CARDS: each row of YtgkipeehmckbdaaDoorRows.lean that lists a variable, with what it lists TIED to the program's text (the seventh form; the later family's looks); each row that meets fmt, with fmt's text TOLD by the authors' own Lean function (tested against real Go, not proved from fmt's source: count such statements apart). THE CARD IS WHAT COUNTS. Prove the row's statement (the work); the ties are given (YtgkipeehmckbdaaDoorTie.lean); close each card by the builder's one call (the guide's Derived/Test/ToyasCard.lean, 'card_holds'). Laid BY PROGRAM, IN A SANDBOX (cutbox-door.mjs). By AI agents, Wed Nov 11 2026. No macro, syntax, notation, axiom, sorry.
-/
import Derived.Test.YtgkipeehmckbdaaDoorRows
import GoSem.ClaimSeven
namespace Go.Proofs.YtgkipeehmckbdaaDoor
namespace Rows

/-- THE TIED CARD OF 'cloisterlaw09.ReplyPrints'. -/
def replyPrintsCard : Claim7 := { stood := { row := replyPrintsRow, standIns := [], harness := (true, "660a97c5959192f5d8560627f7d72b0858d9134740be0ad08bdc6e1ff3d01b36"), looks := true }, kinds := [], alts := [], laidByText := true, laidKinds := [.data, .data, .data, .data, .data, .pinned], laidTests := true, laidLooks := .later }
def ReplyPrintsCardSaid : Prop := Claim7.holds Tryd.pinned (.plain (OpenSpec.ofChange replyPrintsSpec)) replyPrintsCard

/-- THE TIED CARD OF 'cloisterlaw09.ReplyParses'. -/
def replyParsesCard : Claim7 := { stood := { row := replyParsesRow, standIns := [], harness := (true, "660a97c5959192f5d8560627f7d72b0858d9134740be0ad08bdc6e1ff3d01b36"), looks := true }, kinds := [], alts := [], laidByText := true, laidKinds := [.data, .data, .data, .data, .sentinel, .sentinel, .data, .pinned], laidTests := true, laidLooks := .later }
def ReplyParsesCardSaid : Prop := Claim7.holds Tryd.pinned (.plain (OpenSpec.ofChange replyParsesSpec)) replyParsesCard

/-- THE TIED CARD OF 'cloisterlaw09.ReplyBack'. -/
def replyBackCard : Claim7 := { stood := { row := replyBackRow, standIns := [], harness := (true, "660a97c5959192f5d8560627f7d72b0858d9134740be0ad08bdc6e1ff3d01b36"), looks := true }, kinds := [], alts := [], laidByText := true, laidKinds := [.data, .data, .data, .data, .sentinel, .sentinel, .data, .pinned], laidTests := true, laidLooks := .later }
def ReplyBackCardSaid : Prop := Claim7.holds Tryd.pinned (.plain (OpenSpec.ofChange replyBackSpec)) replyBackCard

/-- THE TIED CARD OF 'cloisterlaw09.ReplyLine'. -/
def replyLineCard : Claim7 := { stood := { row := replyLineRow, standIns := [], harness := (true, "660a97c5959192f5d8560627f7d72b0858d9134740be0ad08bdc6e1ff3d01b36"), looks := true }, kinds := [], alts := [], laidByText := true, laidKinds := [.data, .data, .data, .data, .sentinel, .sentinel, .data, .pinned], laidTests := true, laidLooks := .later }
def ReplyLineCardSaid : Prop := Claim7.holds Tryd.pinned (.plain (OpenSpec.ofChange replyLineSpec)) replyLineCard

/-- THE SECOND FORM's CARD OF 'cloisterlaw09.ReplyPrints'. -/
def replyPrintsUptoCard : Claim7 := { stood := { row := replyPrintsUptoRow, standIns := [], harness := (true, "660a97c5959192f5d8560627f7d72b0858d9134740be0ad08bdc6e1ff3d01b36"), looks := true }, kinds := [], alts := [], laidByText := true, laidKinds := [.data, .data, .data, .data, .data, .pinned], laidTests := true, laidLooks := .later }
def ReplyPrintsUptoCardSaid : Prop := Claim7.holds Tryd.pinned (.plain (OpenSpec.upto replyPrintsSpec)) replyPrintsUptoCard

/-- THE SECOND FORM's CARD OF 'cloisterlaw09.ReplyParses'. -/
def replyParsesUptoCard : Claim7 := { stood := { row := replyParsesUptoRow, standIns := [], harness := (true, "660a97c5959192f5d8560627f7d72b0858d9134740be0ad08bdc6e1ff3d01b36"), looks := true }, kinds := [], alts := [], laidByText := true, laidKinds := [.data, .data, .data, .data, .sentinel, .sentinel, .data, .pinned], laidTests := true, laidLooks := .later }
def ReplyParsesUptoCardSaid : Prop := Claim7.holds Tryd.pinned (.plain (OpenSpec.upto replyParsesSpec)) replyParsesUptoCard

/-- THE SECOND FORM's CARD OF 'cloisterlaw09.ReplyBack'. -/
def replyBackUptoCard : Claim7 := { stood := { row := replyBackUptoRow, standIns := [], harness := (true, "660a97c5959192f5d8560627f7d72b0858d9134740be0ad08bdc6e1ff3d01b36"), looks := true }, kinds := [], alts := [], laidByText := true, laidKinds := [.data, .data, .data, .data, .sentinel, .sentinel, .data, .pinned], laidTests := true, laidLooks := .later }
def ReplyBackUptoCardSaid : Prop := Claim7.holds Tryd.pinned (.plain (OpenSpec.upto replyBackSpec)) replyBackUptoCard

/-- THE SECOND FORM's CARD OF 'cloisterlaw09.ReplyLine'. -/
def replyLineUptoCard : Claim7 := { stood := { row := replyLineUptoRow, standIns := [], harness := (true, "660a97c5959192f5d8560627f7d72b0858d9134740be0ad08bdc6e1ff3d01b36"), looks := true }, kinds := [], alts := [], laidByText := true, laidKinds := [.data, .data, .data, .data, .sentinel, .sentinel, .data, .pinned], laidTests := true, laidLooks := .later }
def ReplyLineUptoCardSaid : Prop := Claim7.holds Tryd.pinned (.plain (OpenSpec.upto replyLineSpec)) replyLineUptoCard
end Rows
end Go.Proofs.YtgkipeehmckbdaaDoor
