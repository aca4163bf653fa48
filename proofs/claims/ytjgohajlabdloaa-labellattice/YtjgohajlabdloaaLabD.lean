/-
  What a flow lacks: the contracts of the document's Lacks and Flows, of label's Flows.
-/
import Derived.Test.YtjgohajlabdloaaLabC
import Derived.Test.YtjgohajlabdloaaRefMore
import Derived.Deep.RegionHeld3
namespace Go.Proofs.Ytjgohajlabdloaa
open Go.RowKit
set_option linter.unusedVariables false

def lacksL (s i t j : List Int) : List Int := sd (lessL s t ++ lessL j i)

theorem Owns.form {w : World} {base : Nat} {v : Value} {xs : List Int} (h : Owns w base v xs) : ∃ ao cap, v = .slice ao xs.length cap := by
  obtain ⟨b, off, ao, cap, rfl, _⟩ := h.sees
  exact ⟨ao, cap, rfl⟩

set_option maxHeartbeats 1000000 in
theorem lacks_any (a b : Value) (s i t j : List Int) (w : World) (hA : SeesL w a s i) (hB : SeesL w b t j) (hb : s.length + i.length + t.length + j.length ≤ 1000) :
    Calls Try.prog 33 #[a, b] w fun e w' => ∃ v, e = .returned v ∧ Owns w' w.heap.size v (lacksL s i t j) ∧ Below w.heap.size w w' := by
  obtain ⟨u1, x1, rfl, a1, a2, a3, a4⟩ := hA
  obtain ⟨u2, x2, rfl, b1, b2, b3, b4⟩ := hB
  obtain ⟨W, hW⟩ : ∃ W, W = (w.alloc (.cells #[u1, x1] 24)).alloc (.cells #[u2, x2] 24) := ⟨_, rfl⟩
  have f1 : Sees W u1 s := by rw [hW]; exact (a1.box _).box _
  have f2 : Sees W u2 t := by rw [hW]; exact (b1.box _).box _
  have f3 : Sees W x1 i := by rw [hW]; exact (a2.box _).box _
  have f4 : Sees W x2 j := by rw [hW]; exact (b2.box _).box _
  have hZ : Below w.heap.size w W := by rw [hW]; exact (below_alloc w _).alloc (by simp) _
  have HA1 := hid (show Boxed W w.heap.size u1 x1 by rw [hW]; exact (Boxed.new _ _ _).box _)
  have HA2 := hid (show Boxed W (w.heap.size + 1) u2 x2 by rw [hW]; exact Boxed.new2 _ _ _ _)
  have hl1 := length_lessL s t
  have hl2 := length_lessL j i
  have hR1 := hid (fun w1 (h : Below W.heap.size W w1) => refLess_any u1 u2 s t w1 (f1.below h) (f2.below h) (by omega))
  have hR2 := hid (fun w1 (h : Below W.heap.size W w1) => refLess_any x2 x1 j i w1 (f4.below h) (f3.below h) (by omega))
  have HZ := hid hZ
  have hsz := hZ.size
  have HW := hid hW
  obtain ⟨c1, c2⟩ := HA1.out
  obtain ⟨c3, c4⟩ := HA2.out
  have HD := hid (Below.drew (Below.refl W.heap.size W))
  clear a1 a2 b1 b2 hZ f1 f2 f3 f4 hW
  go_enter Try.func33, Try.ntmps33
  go_wp2_with fail
  rw [← HW.out]
  clear HW
  go_region_held3 (fun w' => w'.cell? ⟨w.heap.size, 0, none⟩ = some u1 ∧ w'.cell? ⟨w.heap.size, 1, none⟩ = some x1 ∧ w'.cell? ⟨w.heap.size + 1, 0, none⟩ = some u2 ∧ w'.cell? ⟨w.heap.size + 1, 1, none⟩ = some x2)
    (first | (refine ⟨?_, ?_, ?_, ?_⟩ <;> first | assumption | go_keep))
    (first
      | (go_at_call_of 26 u1; refine (hR1.out _ HD.out).mono ?_; clear c1 c2 c3 c4; rintro e w2 ⟨v2, rfl, hO2, hB2⟩
         have hk2 : Below W.heap.size W w2 := HD.out.trans hB2
         obtain ⟨c1, c2⟩ := HA1.out.below hk2
         obtain ⟨c3, c4⟩ := HA2.out.below hk2
         have hsz2 := hk2.size
         have HO2 := hid hO2
         have HK2 := hid hk2
         clear hO2 hB2 hk2 hR1)
      | (go_at_call_of 26 x2; refine (hR2.out _ HK2.out).mono ?_; clear c1 c2 c3 c4; rintro e w3 ⟨v3, rfl, hO3, hB3⟩
         have hk3 : Below W.heap.size W w3 := HK2.out.trans (hB3.mono hsz2)
         obtain ⟨c1, c2⟩ := HA1.out.below hk3
         obtain ⟨c3, c4⟩ := HA2.out.below hk3
         have hsz3 := hk3.size
         have HO23 := hid (HO2.out.below hB3)
         have HO3 := hid hO3
         have HK3 := hid hk3
         clear hO3 hB3 hk3 hR2 HO2)
      | (go_at_call 24; refine (refJoin_any v2 v3 _ _ _ HO23.out.sees HO3.out.sees (by omega)).mono ?_; clear c1 c2 c3 c4; rintro e w4 ⟨v4, rfl, hO4, hB4⟩
         have hk4 : Below W.heap.size W w4 := HK3.out.trans (hB4.mono hsz3)
         obtain ⟨c1, c2⟩ := HA1.out.below hk4
         obtain ⟨c3, c4⟩ := HA2.out.below hk4
         have HO4 := hid hO4
         have HK4 := hid hk4
         clear hO4 hB4 hk4 HO23 HO3))
  go_wp2
  go_ret
  exact ⟨_, rfl, owns_le HO4.out (by omega), HZ.out.trans (HK4.out.mono hsz)⟩

end Go.Proofs.Ytjgohajlabdloaa
