/-
  DERIVED. GIVEN WITH THE SEED: THE CARDS: each row of YtplljpodejpbgaaGreatDoorRows.lean that lists a variable, with what it lists TIED to the program's text (the seventh form; the later family's looks); each row that meets fmt, with fmt's text TOLD by the authors' own Lean function (tested against real Go, not proved from fmt's source: count such statements apart). THE CARD IS WHAT COUNTS. Prove the row's statement (the work); the ties are given (YtplljpodejpbgaaGreatDoorTie.lean); close each card by the builder's one call (the guide's Derived/Test/ToyasCard.lean, 'card_holds'). Laid BY PROGRAM, IN A SANDBOX (cutbox-door.mjs). By AI agents, Wed Nov 11 2026. No macro, syntax, notation, axiom, sorry.
-/
import Derived.Test.YtplljpodejpbgaaGreatDoorRows
import GoSem.ClaimSeven
namespace Go.Proofs.YtplljpodejpbgaaGreatDoor
namespace Rows

/-- THE TIED CARD OF 'cloisterlaw17.IddPlays'. -/
def iddPlaysCard : Claim7 := { stood := { row := iddPlaysRow, standIns := [], harness := (true, "3d306b1898d6d9ca9fbbfdb887ba6ec1f0ae8e58fdf046e9762deeed709b5629"), looks := true }, kinds := [], alts := [], laidByText := true, laidKinds := [.data, .data, .data, .data], laidTests := true, laidLooks := .later }
def IddPlaysCardSaid : Prop := Claim7.holds Tryz.pinned (.plain (OpenSpec.ofChange iddPlaysSpec)) iddPlaysCard

/-- THE TIED CARD OF 'cloisterlaw17.IddLogins'. -/
def iddLoginsCard : Claim7 := { stood := { row := iddLoginsRow, standIns := [], harness := (true, "3d306b1898d6d9ca9fbbfdb887ba6ec1f0ae8e58fdf046e9762deeed709b5629"), looks := true }, kinds := [], alts := [], laidByText := true, laidKinds := [.data, .data, .data, .data], laidTests := true, laidLooks := .later }
def IddLoginsCardSaid : Prop := Claim7.holds Tryz.pinned (.plain (OpenSpec.ofChange iddLoginsSpec)) iddLoginsCard

/-- THE TIED CARD OF 'cloisterlaw17.IddChains'. -/
def iddChainsCard : Claim7 := { stood := { row := iddChainsRow, standIns := [], harness := (true, "3d306b1898d6d9ca9fbbfdb887ba6ec1f0ae8e58fdf046e9762deeed709b5629"), looks := true }, kinds := [], alts := [], laidByText := true, laidKinds := [.data, .data, .data, .data], laidTests := true, laidLooks := .later }
def IddChainsCardSaid : Prop := Claim7.holds Tryz.pinned (.plain (OpenSpec.ofChange iddChainsSpec)) iddChainsCard

/-- THE TIED CARD OF 'cloisterlaw17.IddNobody'. -/
def iddNobodyCard : Claim7 := { stood := { row := iddNobodyRow, standIns := [], harness := (true, "3d306b1898d6d9ca9fbbfdb887ba6ec1f0ae8e58fdf046e9762deeed709b5629"), looks := true }, kinds := [], alts := [], laidByText := true, laidKinds := [.data, .data, .data, .data], laidTests := true, laidLooks := .later }
def IddNobodyCardSaid : Prop := Claim7.holds Tryz.pinned (.plain (OpenSpec.ofChange iddNobodySpec)) iddNobodyCard

/-- THE TIED CARD OF 'cloisterlaw17.IddDraws'. -/
def iddDrawsCard : Claim7 := { stood := { row := iddDrawsRow, standIns := [], harness := (true, "3d306b1898d6d9ca9fbbfdb887ba6ec1f0ae8e58fdf046e9762deeed709b5629"), looks := true }, kinds := [], alts := [], laidByText := true, laidKinds := [.data, .data, .data, .data], laidTests := true, laidLooks := .later }
def IddDrawsCardSaid : Prop := Claim7.holds Tryz.pinned (.plain (OpenSpec.ofChange iddDrawsSpec)) iddDrawsCard

/-- THE SECOND FORM's CARD OF 'cloisterlaw17.IddPlays'. -/
def iddPlaysUptoCard : Claim7 := { stood := { row := iddPlaysUptoRow, standIns := [], harness := (true, "3d306b1898d6d9ca9fbbfdb887ba6ec1f0ae8e58fdf046e9762deeed709b5629"), looks := true }, kinds := [], alts := [], laidByText := true, laidKinds := [.data, .data, .data, .data], laidTests := true, laidLooks := .later }
def IddPlaysUptoCardSaid : Prop := Claim7.holds Tryz.pinned (.plain (OpenSpec.upto iddPlaysSpec)) iddPlaysUptoCard

/-- THE SECOND FORM's CARD OF 'cloisterlaw17.IddLogins'. -/
def iddLoginsUptoCard : Claim7 := { stood := { row := iddLoginsUptoRow, standIns := [], harness := (true, "3d306b1898d6d9ca9fbbfdb887ba6ec1f0ae8e58fdf046e9762deeed709b5629"), looks := true }, kinds := [], alts := [], laidByText := true, laidKinds := [.data, .data, .data, .data], laidTests := true, laidLooks := .later }
def IddLoginsUptoCardSaid : Prop := Claim7.holds Tryz.pinned (.plain (OpenSpec.upto iddLoginsSpec)) iddLoginsUptoCard

/-- THE SECOND FORM's CARD OF 'cloisterlaw17.IddChains'. -/
def iddChainsUptoCard : Claim7 := { stood := { row := iddChainsUptoRow, standIns := [], harness := (true, "3d306b1898d6d9ca9fbbfdb887ba6ec1f0ae8e58fdf046e9762deeed709b5629"), looks := true }, kinds := [], alts := [], laidByText := true, laidKinds := [.data, .data, .data, .data], laidTests := true, laidLooks := .later }
def IddChainsUptoCardSaid : Prop := Claim7.holds Tryz.pinned (.plain (OpenSpec.upto iddChainsSpec)) iddChainsUptoCard

/-- THE SECOND FORM's CARD OF 'cloisterlaw17.IddNobody'. -/
def iddNobodyUptoCard : Claim7 := { stood := { row := iddNobodyUptoRow, standIns := [], harness := (true, "3d306b1898d6d9ca9fbbfdb887ba6ec1f0ae8e58fdf046e9762deeed709b5629"), looks := true }, kinds := [], alts := [], laidByText := true, laidKinds := [.data, .data, .data, .data], laidTests := true, laidLooks := .later }
def IddNobodyUptoCardSaid : Prop := Claim7.holds Tryz.pinned (.plain (OpenSpec.upto iddNobodySpec)) iddNobodyUptoCard

/-- THE SECOND FORM's CARD OF 'cloisterlaw17.IddDraws'. -/
def iddDrawsUptoCard : Claim7 := { stood := { row := iddDrawsUptoRow, standIns := [], harness := (true, "3d306b1898d6d9ca9fbbfdb887ba6ec1f0ae8e58fdf046e9762deeed709b5629"), looks := true }, kinds := [], alts := [], laidByText := true, laidKinds := [.data, .data, .data, .data], laidTests := true, laidLooks := .later }
def IddDrawsUptoCardSaid : Prop := Claim7.holds Tryz.pinned (.plain (OpenSpec.upto iddDrawsSpec)) iddDrawsUptoCard
end Rows
end Go.Proofs.YtplljpodejpbgaaGreatDoor
