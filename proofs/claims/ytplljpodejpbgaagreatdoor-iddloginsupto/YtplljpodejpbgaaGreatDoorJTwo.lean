/-
  The law's two users.
-/
import Derived.Test.YtplljpodejpbgaaGreatDoorJMayC
import Derived.Test.YtplljpodejpbgaaGreatDoorXSalt
namespace Go.Proofs.YtplljpodejpbgaaGreatDoor
open Go.RowKit
set_option linter.unusedVariables false
set_option linter.unusedSimpArgs false
set_option maxRecDepth 100000

def tS : ByteArray := { data := #[115] }
def tT : ByteArray := { data := #[116] }
def tOne : ByteArray := { data := #[111, 110, 101] }
def tTwo : ByteArray := { data := #[116, 119, 111] }
def digA : ByteArray := strOf (saltOf tS tOne)
def digB : ByteArray := strOf (saltOf tT tTwo)
def twoL : List UsL := [⟨{ data := #[97] }, tS, digA, true⟩, ⟨{ data := #[98] }, tT, digB, false⟩]
set_option maxHeartbeats 1000000 in
theorem two_any (w : World) : Calls Tryz.prog 15 #[] w fun e w' => ∃ B, e = .returned (.slice (some ⟨B, 0, none⟩) 2 2) ∧ w'.ownsRow w.heap.size 55 4 (.slice (some ⟨B, 0, none⟩) 2 2) 2 (uC twoL) ∧ Below w.heap.size w w' := by
  have h1 := rsalted_any tS tOne w (by decide) (by decide)
  obtain ⟨da, hda⟩ : ∃ da, da = digA := ⟨_, rfl⟩
  rw [show strOf (saltOf tS tOne) = digA from rfl, ← hda] at h1
  have H1 := hid h1
  have HDA := hid hda
  clear h1 hda
  go_enter Tryz.func15, Tryz.ntmps15
  go_wp2_with fail
  refine H1.out.mono ?_
  rintro e w1 ⟨rfl, hb1⟩
  have HB1 := hid hb1
  clear hb1 H1
  have h2 := rsalted_any tT tTwo w1 (by decide) (by decide)
  obtain ⟨db, hdb⟩ : ∃ db, db = digB := ⟨_, rfl⟩
  rw [show strOf (saltOf tT tTwo) = digB from rfl, ← hdb] at h2
  have H2 := hid h2
  have HDB := hid hdb
  clear h2 hdb
  go_wp2_with fail
  refine H2.out.mono ?_
  rintro e w2 ⟨rfl, hb2⟩
  have HB2 := hid (HB1.out.trans (hb2.mono HB1.out.size))
  clear hb2 H2
  have hs2 := HB2.out.size
  go_wp2
  go_ret
  have e1 := HDA.out
  have e2 := HDB.out
  subst e1 e2
  refine ⟨_, rfl, ⟨rfl, Or.inr ⟨w2.heap.size, 2, _, rfl, hs2, heap_alloc_new w2 _, Nat.le_refl _, by decide, rfl, rfl⟩⟩, HB2.out.alloc hs2 _⟩
end Go.Proofs.YtplljpodejpbgaaGreatDoor
