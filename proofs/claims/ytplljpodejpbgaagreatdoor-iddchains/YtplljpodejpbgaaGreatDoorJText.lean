/-
  freshText.
-/
import Derived.Test.YtplljpodejpbgaaGreatDoorJBase
import Derived.Laws.IdiomStrings
import Derived.Laws.Rows
namespace Go.Proofs.YtplljpodejpbgaaGreatDoor
open Go.RowKit
set_option linter.unusedVariables false
set_option linter.unusedSimpArgs false

/-- A text's bytes, made anew, and the text of them. -/
theorem copy_text (x : ByteArray) (w : World) : ∃ C w1, (convert 9 111 (.string x)).run Tryz.prog w = .ok (.slice (some ⟨w.heap.size, 0, none⟩) x.size C) w1 ∧
    (convert 111 9 (.slice (some ⟨w.heap.size, 0, none⟩) x.size C)).run Tryz.prog w1 = .ok (.string x) w1 ∧ Below w.heap.size w w1 := by
  have h1 := run_bytes_of_string (P := Tryz.prog) w 9 111 5 x Tryz.underlying9 Tryz.underlying111 Tryz.underlying5
  refine ⟨_, _, h1, ?_, (Below.drew (Below.refl _ _)).alloc (Nat.le_refl _) _⟩
  obtain ⟨l⟩ := x
  obtain ⟨l⟩ := l
  have hsz : (⟨⟨l⟩⟩ : ByteArray).size = l.length := by simp [ByteArray.size]
  rw [hsz]
  refine run_convert_bytes_back (P := Tryz.prog) _ 111 9 5 ⟨w.heap.size, 0, none⟩ _ l Tryz.underlying111 Tryz.underlying5 Tryz.underlying9 (fun j hj => ?_)
  rw [addr_add, Nat.zero_add]
  have := World.cell?_alloc_mark w.drew (bytesRow ⟨l.toArray⟩ (grownCap w l.length 0 5)) 5 ((bytesRow ⟨l.toArray⟩ (grownCap w l.length 0 5)).size, (bytesRow ⟨l.toArray⟩ (grownCap w l.length 0 5)).size + 1) j
  rw [show w.drew.heap.size = w.heap.size from rfl] at this
  rw [this, bytesRow_at _ _ _ (by simpa using hj)]
  simp

theorem freshText_any (x : ByteArray) (w : World) :
    Calls Tryz.prog 32 #[.string x] w fun e w' => e = .returned (.string x) ∧ Below w.heap.size w w' := by
  obtain ⟨C, w1, k1, k2, kb⟩ := copy_text x w
  have HB := hid kb
  clear kb
  go_enter Tryz.func32, Tryz.ntmps32
  go_wp2
  go_ret
  exact ⟨rfl, HB.out⟩

/-- A server is laid: it knows itself. -/
theorem lay_any (q : Nat) (w : World) (v1 v2 v3 v4 v5 : Value) (h : w.heap[q]? = some (.cells #[.pointer none, v1, v2, v3, v4, v5] 73 (0, 0))) :
    Calls Tryz.prog 30 #[.pointer (some ⟨q, 0, none⟩)] w fun e w' => e = .returned (.pointer (some ⟨q, 0, none⟩)) ∧ w' = w.setCell ⟨q, 0, none⟩ (.pointer (some ⟨q, 0, none⟩)) ∧ w'.heap[q]? = some (.cells #[.pointer (some ⟨q, 0, none⟩), v1, v2, v3, v4, v5] 73 (0, 0)) := by
  have c0 : w.cell? ⟨q, 0, none⟩ = some (.pointer none) := by simp [World.cell?, h]
  have f0 : w.frozen? ⟨q, 0, none⟩ = false := by simp [World.frozen?, h]
  have hs := heap_setCell_same w q 0 _ _ (.pointer (some ⟨q, 0, none⟩)) h
  have HS := hid hs
  clear hs h
  go_enter Tryz.func30, Tryz.ntmps30
  go_wp2
  go_ret
  exact ⟨rfl, rfl, HS.out⟩
end Go.Proofs.YtplljpodejpbgaaGreatDoor
