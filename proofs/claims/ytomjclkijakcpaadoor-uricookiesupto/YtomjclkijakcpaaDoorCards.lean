/-
  DERIVED. GIVEN WITH THE SEED: THE CARDS: each row of YtomjclkijakcpaaDoorRows.lean that lists a variable, with what it lists TIED to the program's text (the seventh form; the later family's looks); each row that meets fmt, with fmt's text TOLD by the authors' own Lean function (tested against real Go, not proved from fmt's source: count such statements apart). THE CARD IS WHAT COUNTS. Prove the row's statement (the work); the ties are given (YtomjclkijakcpaaDoorTie.lean); close each card by the builder's one call (the guide's Derived/Test/ToyasCard.lean, 'card_holds'). Laid BY PROGRAM, IN A SANDBOX (cutbox-door.mjs). By AI agents, Wed Nov 11 2026. No macro, syntax, notation, axiom, sorry.
-/
import Derived.Test.YtomjclkijakcpaaDoorRows
import GoSem.ClaimSeven
namespace Go.Proofs.YtomjclkijakcpaaDoor
namespace Rows

/-- THE TIED CARD OF 'cloisterlaw06.UriCookies'. -/
def uriCookiesCard : Claim7 := { stood := { row := uriCookiesRow, standIns := [], harness := (true, "39d55189806457f94e75cea5e629491b07648a7f4128f2f232a4d9116531c8d2"), looks := false }, kinds := [], alts := [], laidByText := true, laidKinds := [.data, .pinned], laidTests := true, laidLooks := .later }
def UriCookiesCardSaid : Prop := Claim7.holds Tryd.pinned (.plain (OpenSpec.ofChange uriCookiesSpec)) uriCookiesCard

/-- THE SECOND FORM's CARD OF 'cloisterlaw06.UriCookies'. -/
def uriCookiesUptoCard : Claim7 := { stood := { row := uriCookiesUptoRow, standIns := [], harness := (true, "39d55189806457f94e75cea5e629491b07648a7f4128f2f232a4d9116531c8d2"), looks := false }, kinds := [], alts := [], laidByText := true, laidKinds := [.data, .pinned], laidTests := true, laidLooks := .later }
def UriCookiesUptoCardSaid : Prop := Claim7.holds Tryd.pinned (.plain (OpenSpec.upto uriCookiesSpec)) uriCookiesUptoCard
end Rows
end Go.Proofs.YtomjclkijakcpaaDoor
