/-
  The walk of the law ShaNobody.
-/
import Derived.Test.YtfefccmefmminaaDoorHash
namespace Go.Proofs.YtfefccmefmminaaDoor
open Go.RowKit
set_option linter.unusedVariables false

theorem Z44_0 : Z44[0]? = some (.pointer none) := rfl

set_option maxRecDepth 20000 in
set_option maxHeartbeats 1000000 in
theorem nobody_walk (s : ByteArray) (w : World) (hR : Rounds w) : Calls Tryd.prog 7 #[.string s] w fun e w' => e = .returned (.bool true) ∧ Below w.heap.size w w' := by
  have hz := zero44
  have HR := hid hR
  clear hR
  go_enter Tryd.func7, Tryd.ntmps7
  go_wp2_with fail
  go_loop [4] (fun i => ∃ k : Nat, k ≤ 2 ∧ i = .int .i64 k) (fun i => 2 - (intOf i).toNat)
  case atStart => exact ⟨0, by decide, rfl⟩
  case round =>
    obtain ⟨k, hk, rfl⟩ := hrel
    have hk3 : k = 0 ∨ k = 1 ∨ k = 2 := by omega
    rcases hk3 with rfl | rfl | rfl
    · have hN : Nobody ((w.alloc (.cells Z44 44)).alloc (.cells #[.pointer none, .pointer (some ⟨w.heap.size, 0, none⟩)] 26)) (.pointer none) := Or.inl rfl
      go_wp2_with (first | (go_at_call 13; refine (write_no _ _ _ hN).mono ?_; rintro e w' ⟨rfl, rfl⟩) | (go_at_call 15; refine (hsum_no _ _ hN).mono ?_; rintro e w' ⟨rfl, rfl⟩) | (go_at_call 14; refine (len_no _ _ hN).mono ?_; rintro e w' ⟨rfl, rfl⟩))
      go_round
      case rel => exact ⟨1, by decide, rfl⟩
      case measure => simp [intOf]
    · have hN : Nobody ((w.alloc (.cells Z44 44)).alloc (.cells #[.pointer none, .pointer (some ⟨w.heap.size, 0, none⟩)] 26)) (.pointer (some ⟨w.heap.size, 0, none⟩)) := Or.inr ⟨_, rfl, by simp [Z44_0]⟩
      go_wp2_with (first | (go_at_call 13; refine (write_no _ _ _ hN).mono ?_; rintro e w' ⟨rfl, rfl⟩) | (go_at_call 15; refine (hsum_no _ _ hN).mono ?_; rintro e w' ⟨rfl, rfl⟩) | (go_at_call 14; refine (len_no _ _ hN).mono ?_; rintro e w' ⟨rfl, rfl⟩))
      go_round
      case rel => exact ⟨2, by decide, rfl⟩
      case measure => simp [intOf]
    · have hB : Below w.heap.size w ((w.alloc (.cells Z44 44)).alloc (.cells #[.pointer none, .pointer (some ⟨w.heap.size, 0, none⟩)] 26)) := ((Below.refl _ _).alloc (Nat.le_refl _) _).alloc (by simp) _
      have hA := awake_any _ (HR.out.below hB HR.out.pos)
      have HA := hid hA
      have HB := hid hB
      clear hA hB
      go_wp2_with fail
      refine HA.out.mono ?_
      rintro e w1 ⟨rfl, hB1⟩
      have HB1 := hid (HB.out.trans (hB1.mono HB.out.size))
      clear hB1 HA
      go_wp2
      go_ret
      exact ⟨rfl, HB1.out⟩

theorem nobody_walk0 (s : ByteArray) (w : World) (hR : Rounds w) (_h : s.size ≤ 140737488351232) : Calls Tryd.prog 7 #[.string s] w fun e w' => e = .returned (.bool true) ∧ Below w.heap.size w w' := nobody_walk s w hR

end Go.Proofs.YtfefccmefmminaaDoor
