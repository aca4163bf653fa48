/-
  The law's 'awake'.
-/
import Derived.Test.YtkbceaofijngoaaWBytes
namespace Go.Proofs.Ytkbceaofijngoaa
open Go.RowKit
set_option linter.unusedVariables false

def rowA : RowV := ⟨⟨#[107]⟩, [⟨#[97]⟩], [1], [], 0⟩
theorem rowA_may : mayR rowA = true := by
  refine mayR_iff.2 ⟨by decide, ⟨by decide, by decide⟩, ?_, by decide, by decide⟩
  refine mayB_iff.2 ⟨⟨by decide, by simp [rowA], by simp [rowA]⟩, by decide, catsP_nil⟩
theorem rowA_bytes : rowBytesL rowA = [1, 107, 1, 1, 97, 1, 1, 0, 1] := by
  rw [rowBytesL, rowA_may, if_pos rfl]
  decide
theorem rowA_size : sizeR rowA = 18 := by decide
theorem rowA_str : strOf (rowBytesL rowA) = ⟨#[1, 107, 1, 1, 97, 1, 1, 0, 1]⟩ := by rw [rowA_bytes]; rfl

theorem seesT_one (w : World) (x : ByteArray) : SeesT (w.alloc (.cells #[.string x] 9)) (.slice (some ⟨w.heap.size, 0, none⟩) 1 1) [x] := by
  refine ⟨w.heap.size, 0, _, 1, rfl, Nat.le_refl _, (fun h => by cases h), fun _ => rfl, fun j hj => ?_⟩
  have : j = 0 := by simp at hj; omega
  subst this
  simp
theorem sees_nil (w : World) : Sees w (.slice none 0 0) [] := ⟨0, 0, none, 0, rfl, Nat.le_refl _, fun _ => rfl, fun h => absurd rfl h, fun j hj => by simp at hj⟩
theorem sees_at1 (w : World) (o : Obj) (x : Int) : Sees ((w.alloc o).alloc (.cells #[.int .i64 x] 3)) (.slice (some ⟨w.heap.size + 1, 0, none⟩) 1 1) [x] := by
  have h := sees_one (w.alloc o) x
  simpa using h

set_option maxRecDepth 20000 in
set_option maxHeartbeats 2000000 in
theorem awake_any (w : World) : Calls Try.prog 17 #[] w fun e w' => e = .returned (.bool true) ∧ Below w.heap.size w w' := by
  obtain ⟨W, hW⟩ : ∃ W, W = (((w.alloc (.cells #[.string ⟨#[97]⟩] 9)).alloc (.cells #[.int .i64 1] 3)).alloc (.cells #[.string ⟨#[107]⟩, .slice (some ⟨w.heap.size, 0, none⟩) 1 1, .slice (some ⟨w.heap.size + 1, 0, none⟩) 1 1, .slice none 0 0, .int .i64 0] 27)) := ⟨_, rfl⟩
  have hB : Below w.heap.size w W := by rw [hW]; exact ((below_alloc w _).alloc (by simp) _).alloc (by simp; omega) _
  have hA : RowAt W (w.heap.size + 1 + 1) (.string ⟨#[107]⟩) (.slice (some ⟨w.heap.size, 0, none⟩) 1 1) (.slice (some ⟨w.heap.size + 1, 0, none⟩) 1 1) (.slice none 0 0) (.int .i64 0) := by
    rw [hW]
    have h := RowAt.new ((w.alloc (.cells #[.string ⟨#[97]⟩] 9)).alloc (.cells #[.int .i64 1] 3)) (.string ⟨#[107]⟩) (.slice (some ⟨w.heap.size, 0, none⟩) 1 1) (.slice (some ⟨w.heap.size + 1, 0, none⟩) 1 1) (.slice none 0 0) (.int .i64 0)
    simpa using h
  have hS : SeesR W (.agg #[.string ⟨#[107]⟩, .slice (some ⟨w.heap.size, 0, none⟩) 1 1, .slice (some ⟨w.heap.size + 1, 0, none⟩) 1 1, .slice none 0 0, .int .i64 0]) rowA (.slice (some ⟨w.heap.size, 0, none⟩) 1 1) (.slice (some ⟨w.heap.size + 1, 0, none⟩) 1 1) (.slice none 0 0) := by
    refine ⟨rfl, ?_, ?_, sees_nil _, by decide, by decide, by decide, by decide, by decide⟩
    · rw [hW]
      exact ((seesT_one w _).box _).box _
    · rw [hW]
      exact (sees_at1 w _ _).box _
  have hsz := hA.lt
  have hR1 := bytes_row _ rowA _ _ _ W hS
  have HR2 := hid (fun w1 (hb : Below W.heap.size W w1) => size_row _ rowA _ _ _ w1 (hS.below hb))
  rw [rowA_may, rowA_str] at hR1
  rw [rowA_may, rowA_size] at HR2
  have HA := hid hA
  have HB := hid hB
  obtain ⟨c0, c1, c2, c3, c4, _⟩ := hA.cells
  clear hA hB hS
  go_enter Try.func17, Try.ntmps17
  go_wp2_with fail
  rw [← hW]
  clear hW
  refine hR1.mono ?_
  clear hR1
  rintro e w1 ⟨rfl, h1⟩
  have HF := hid (HB.out.trans (h1.mono (by omega)))
  obtain ⟨d0, d1, d2, d3, d4, _⟩ := (HA.out.below h1 hsz).cells
  have hR2 := HR2.out w1 h1
  have hs1 := h1.size
  clear h1 HR2 c0 c1 c2 c3 c4 HB HA
  unfold errR
  go_wp2_with fail
  refine hR2.mono ?_
  clear hR2
  rintro e w2 ⟨rfl, h2⟩
  have HF2 := hid (HF.out.trans (h2.mono (by omega)))
  clear h2 HF
  unfold errR
  go_wp2
  go_ret
  exact ⟨rfl, HF2.out⟩

end Go.Proofs.Ytkbceaofijngoaa
