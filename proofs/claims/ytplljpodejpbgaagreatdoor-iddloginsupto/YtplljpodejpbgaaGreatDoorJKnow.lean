/-
  Whether a word is a user's.
-/
import Derived.Test.YtplljpodejpbgaaGreatDoorJBase
import Derived.Test.YtplljpodejpbgaaGreatDoorXSalt
namespace Go.Proofs.YtplljpodejpbgaaGreatDoor
open Go.RowKit
set_option linter.unusedVariables false
set_option linter.unusedSimpArgs false
set_option maxRecDepth 100000

set_option maxHeartbeats 1000000 in
theorem knows_any (name salt digest word : ByteArray) (made : Int) (vo : Value) (w : World) (hR : Rounds w) (hs : salt.size ≤ 32) (hm : word.size ≤ 140737488351232) :
    Calls Tryz.prog 52 #[.agg #[.string name, .string salt, .string digest, .int .i64 made, vo], .string word] w fun e w' => ∃ b, e = .returned (.bool b) ∧ (b = true ↔ strOf (saltOf salt word) = digest) ∧ Below w.heap.size w w' := by
  obtain ⟨W, hW⟩ : ∃ W, W = w.alloc (.cells #[.string name, .string salt, .string digest, .int .i64 made, vo] 86) := ⟨_, rfl⟩
  have hbW : Below w.heap.size w W := by rw [hW]; exact below_alloc w _
  have y : W.heap[w.heap.size]? = some (.cells #[.string name, .string salt, .string digest, .int .i64 made, vo] 86 (0, 0)) := by rw [hW]; exact heap_alloc_new w _
  have hlt := (Array.getElem?_eq_some_iff.1 y).1
  have c1 : W.cell? ⟨w.heap.size, 1, none⟩ = some (.string salt) := by simp [World.cell?, y]
  have c2 : W.cell? ⟨w.heap.size, 2, none⟩ = some (.string digest) := by simp [World.cell?, y]
  obtain ⟨t, ht⟩ : ∃ t, t = strOf (saltOf salt word) := ⟨_, rfl⟩
  have h1 := salted_any salt word W (hR.below hbW hR.pos) hs hm
  rw [← ht] at h1
  have H1 := hid h1
  have HT := hid ht
  clear h1 ht
  have HB := hid hbW
  have HW := hid hW
  have HC := hid c2
  clear hbW hW y hR c2
  go_enter Tryz.func52, Tryz.ntmps52
  go_wp2_with fail
  rw [← HW.out]
  clear HW
  go_wp2_with fail
  refine H1.out.mono ?_
  rintro e w1 ⟨rfl, hb1⟩
  have c2 := (hb1.cell (p := ⟨w.heap.size, 2, none⟩) hlt).trans HC.out
  have HB1 := hid (HB.out.trans (hb1.mono HB.out.size))
  clear hb1 H1
  go_wp2
  go_ret
  refine ⟨_, rfl, ?_, HB1.out⟩
  rw [← HT.out, beq_iff_eq, ByteArray.toList_eq, ByteArray.toList_eq]
  constructor
  · intro h
    obtain ⟨⟨a⟩⟩ := t
    obtain ⟨⟨b⟩⟩ := digest
    simp at h
    rw [h]
  · intro h
    rw [h]
end Go.Proofs.YtplljpodejpbgaaGreatDoor
