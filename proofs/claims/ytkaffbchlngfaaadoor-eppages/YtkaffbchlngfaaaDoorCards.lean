/-
  DERIVED. GIVEN WITH THE SEED: THE CARDS: each row of YtkaffbchlngfaaaDoorRows.lean that lists a variable, with what it lists TIED to the program's text (the seventh form; the later family's looks); each row that meets fmt, with fmt's text TOLD by the authors' own Lean function (tested against real Go, not proved from fmt's source: count such statements apart). THE CARD IS WHAT COUNTS. Prove the row's statement (the work); the ties are given (YtkaffbchlngfaaaDoorTie.lean); close each card by the builder's one call (the guide's Derived/Test/ToyasCard.lean, 'card_holds'). Laid BY PROGRAM, IN A SANDBOX (cutbox-door.mjs). By AI agents, Wed Nov 11 2026. No macro, syntax, notation, axiom, sorry.
-/
import Derived.Test.YtkaffbchlngfaaaDoorRows
import GoSem.ClaimSeven
namespace Go.Proofs.YtkaffbchlngfaaaDoor
namespace Rows

/-- THE TIED CARD OF 'cloisterlaw15.EpPlays'. -/
def epPlaysCard : Claim7 := { stood := { row := epPlaysRow, standIns := [], harness := (true, "0c3f50b83c602a61577fdb87533d76b612c684f7fd8ea42fbe946d1e7570dde6"), looks := false }, kinds := [], alts := [], laidByText := true, laidKinds := [.data, .data], laidTests := true, laidLooks := .later }
def EpPlaysCardSaid : Prop := Claim7.holds Tryd.pinned (.plain (OpenSpec.ofChange epPlaysSpec)) epPlaysCard

/-- THE TIED CARD OF 'cloisterlaw15.EpApart'. -/
def epApartCard : Claim7 := { stood := { row := epApartRow, standIns := [], harness := (true, "0c3f50b83c602a61577fdb87533d76b612c684f7fd8ea42fbe946d1e7570dde6"), looks := false }, kinds := [], alts := [], laidByText := true, laidKinds := [.data, .data], laidTests := true, laidLooks := .later }
def EpApartCardSaid : Prop := Claim7.holds Tryd.pinned (.plain (OpenSpec.ofChange epApartSpec)) epApartCard

/-- THE TIED CARD OF 'cloisterlaw15.EpFresh'. -/
def epFreshCard : Claim7 := { stood := { row := epFreshRow, standIns := [], harness := (true, "0c3f50b83c602a61577fdb87533d76b612c684f7fd8ea42fbe946d1e7570dde6"), looks := false }, kinds := [], alts := [], laidByText := true, laidKinds := [.data, .data], laidTests := true, laidLooks := .later }
def EpFreshCardSaid : Prop := Claim7.holds Tryd.pinned (.plain (OpenSpec.ofChange epFreshSpec)) epFreshCard

/-- THE TIED CARD OF 'cloisterlaw15.EpNobody'. -/
def epNobodyCard : Claim7 := { stood := { row := epNobodyRow, standIns := [], harness := (true, "0c3f50b83c602a61577fdb87533d76b612c684f7fd8ea42fbe946d1e7570dde6"), looks := false }, kinds := [], alts := [], laidByText := true, laidKinds := [.data, .data], laidTests := true, laidLooks := .later }
def EpNobodyCardSaid : Prop := Claim7.holds Tryd.pinned (.plain (OpenSpec.ofChange epNobodySpec)) epNobodyCard

/-- THE TIED CARD OF 'cloisterlaw15.EpPages'. -/
def epPagesCard : Claim7 := { stood := { row := epPagesRow, standIns := [], harness := (true, "0c3f50b83c602a61577fdb87533d76b612c684f7fd8ea42fbe946d1e7570dde6"), looks := false }, kinds := [], alts := [], laidByText := true, laidKinds := [.data, .data], laidTests := true, laidLooks := .later }
def EpPagesCardSaid : Prop := Claim7.holds Tryd.pinned (.plain (OpenSpec.ofChange epPagesSpec)) epPagesCard

/-- THE SECOND FORM's CARD OF 'cloisterlaw15.EpPlays'. -/
def epPlaysUptoCard : Claim7 := { stood := { row := epPlaysUptoRow, standIns := [], harness := (true, "0c3f50b83c602a61577fdb87533d76b612c684f7fd8ea42fbe946d1e7570dde6"), looks := false }, kinds := [], alts := [], laidByText := true, laidKinds := [.data, .data], laidTests := true, laidLooks := .later }
def EpPlaysUptoCardSaid : Prop := Claim7.holds Tryd.pinned (.plain (OpenSpec.upto epPlaysSpec)) epPlaysUptoCard

/-- THE SECOND FORM's CARD OF 'cloisterlaw15.EpApart'. -/
def epApartUptoCard : Claim7 := { stood := { row := epApartUptoRow, standIns := [], harness := (true, "0c3f50b83c602a61577fdb87533d76b612c684f7fd8ea42fbe946d1e7570dde6"), looks := false }, kinds := [], alts := [], laidByText := true, laidKinds := [.data, .data], laidTests := true, laidLooks := .later }
def EpApartUptoCardSaid : Prop := Claim7.holds Tryd.pinned (.plain (OpenSpec.upto epApartSpec)) epApartUptoCard

/-- THE SECOND FORM's CARD OF 'cloisterlaw15.EpFresh'. -/
def epFreshUptoCard : Claim7 := { stood := { row := epFreshUptoRow, standIns := [], harness := (true, "0c3f50b83c602a61577fdb87533d76b612c684f7fd8ea42fbe946d1e7570dde6"), looks := false }, kinds := [], alts := [], laidByText := true, laidKinds := [.data, .data], laidTests := true, laidLooks := .later }
def EpFreshUptoCardSaid : Prop := Claim7.holds Tryd.pinned (.plain (OpenSpec.upto epFreshSpec)) epFreshUptoCard

/-- THE SECOND FORM's CARD OF 'cloisterlaw15.EpNobody'. -/
def epNobodyUptoCard : Claim7 := { stood := { row := epNobodyUptoRow, standIns := [], harness := (true, "0c3f50b83c602a61577fdb87533d76b612c684f7fd8ea42fbe946d1e7570dde6"), looks := false }, kinds := [], alts := [], laidByText := true, laidKinds := [.data, .data], laidTests := true, laidLooks := .later }
def EpNobodyUptoCardSaid : Prop := Claim7.holds Tryd.pinned (.plain (OpenSpec.upto epNobodySpec)) epNobodyUptoCard

/-- THE SECOND FORM's CARD OF 'cloisterlaw15.EpPages'. -/
def epPagesUptoCard : Claim7 := { stood := { row := epPagesUptoRow, standIns := [], harness := (true, "0c3f50b83c602a61577fdb87533d76b612c684f7fd8ea42fbe946d1e7570dde6"), looks := false }, kinds := [], alts := [], laidByText := true, laidKinds := [.data, .data], laidTests := true, laidLooks := .later }
def EpPagesUptoCardSaid : Prop := Claim7.holds Tryd.pinned (.plain (OpenSpec.upto epPagesSpec)) epPagesUptoCard
end Rows
end Go.Proofs.YtkaffbchlngfaaaDoor
