/-
  The walk of SetNobody: a set that nobody made answers nothing.
-/
import Derived.Test.YtaillppmfbbnjaaAwake
namespace Go.Proofs.Ytaillppmfbbnjaa
open Go.RowKit
set_option linter.unusedVariables false

/-- A set that nobody made: no set, or one of zero values. -/
def Nobody (w : World) (pv : Value) : Prop := pv = .pointer none ∨ ∃ z, pv = .pointer (some ⟨z, 0, none⟩) ∧ w.cell? ⟨z, 0, none⟩ = some (.pointer none)

theorem given_no (pv : Value) (w : World) (h : Nobody w pv) : Calls Try.prog 46 #[pv] w fun e w' => e = .returned (.bool false) ∧ w' = w := by
  rcases h with rfl | ⟨z, rfl, hz⟩
  · exact given_nil w
  · exact given_zero z w hz

set_option maxHeartbeats 400000 in
theorem add_no (pv : Value) (x : Int) (w : World) (h : Nobody w pv) : Calls Try.prog 31 #[pv, .int .i64 x] w fun e w' => e = .returned (.int .i64 1) ∧ w' = w := by
  go_enter Try.func31, Try.ntmps31
  go_wp2_with fail
  refine (given_no pv _ h).mono ?_
  rintro e w1 ⟨rfl, rfl⟩
  go_wp2
  go_ret
  exact ⟨rfl, rfl⟩

set_option maxHeartbeats 400000 in
theorem del_no (pv : Value) (x : Int) (w : World) (h : Nobody w pv) : Calls Try.prog 32 #[pv, .int .i64 x] w fun e w' => e = .returned (.int .i64 1) ∧ w' = w := by
  go_enter Try.func32, Try.ntmps32
  go_wp2_with fail
  refine (given_no pv _ h).mono ?_
  rintro e w1 ⟨rfl, rfl⟩
  go_wp2
  go_ret
  exact ⟨rfl, rfl⟩

set_option maxHeartbeats 400000 in
theorem has_no (pv : Value) (x : Int) (w : World) (h : Nobody w pv) : Calls Try.prog 36 #[pv, .int .i64 x] w fun e w' => e = .returned (.bool false) ∧ w' = w := by
  go_enter Try.func36, Try.ntmps36
  go_wp2_with fail
  refine (given_no pv _ h).mono ?_
  rintro e w1 ⟨rfl, rfl⟩
  go_wp2
  go_ret
  exact ⟨rfl, rfl⟩

set_option maxHeartbeats 400000 in
theorem len_no (pv : Value) (w : World) (h : Nobody w pv) : Calls Try.prog 35 #[pv] w fun e w' => e = .returned (.int .i64 0) ∧ w' = w := by
  go_enter Try.func35, Try.ntmps35
  go_wp2_with fail
  refine (given_no pv _ h).mono ?_
  rintro e w1 ⟨rfl, rfl⟩
  go_wp2
  go_ret
  exact ⟨rfl, rfl⟩

set_option maxHeartbeats 400000 in
theorem list_no (pv : Value) (w : World) (h : Nobody w pv) : Calls Try.prog 34 #[pv] w fun e w' => e = .returned (.slice none 0 0) ∧ w' = w := by
  go_enter Try.func34, Try.ntmps34
  go_wp2_with fail
  refine (given_no pv _ h).mono ?_
  rintro e w1 ⟨rfl, rfl⟩
  go_wp2
  go_ret
  exact ⟨rfl, rfl⟩

set_option maxHeartbeats 400000 in
theorem copy_no (pv : Value) (w : World) (h : Nobody w pv) : Calls Try.prog 33 #[pv] w fun e w' => e = .returned (.pointer none) ∧ w' = w := by
  go_enter Try.func33, Try.ntmps33
  go_wp2_with fail
  refine (given_no pv _ h).mono ?_
  rintro e w1 ⟨rfl, rfl⟩
  go_wp2
  go_ret
  exact ⟨rfl, rfl⟩

set_option maxHeartbeats 1000000 in
theorem nobody_walk (x : Int) (w : World) : Calls Try.prog 8 #[.int .i64 x] w fun e w' => e = .returned (.bool true) ∧ Below w.heap.size w w' := by
  go_enter Try.func8, Try.ntmps8
  go_wp2
  go_loop [4] (fun i => ∃ k : Nat, k ≤ 2 ∧ i = .int .i64 k) (fun i => 2 - (intOf i).toNat)
  case atStart => exact ⟨0, by decide, rfl⟩
  case round =>
    obtain ⟨k, hk, rfl⟩ := hrel
    have hk3 : k = 0 ∨ k = 1 ∨ k = 2 := by omega
    rcases hk3 with rfl | rfl | rfl
    · have hN : Nobody ((w.alloc (.cells #[.pointer none, .int .i64 0, .slice none 0 0] 49)).alloc (.cells #[.pointer none, .pointer (some ⟨w.heap.size, 0, none⟩)] 35)) (.pointer none) := Or.inl rfl
      go_wp2_with (first | (go_at_call 31; refine (add_no _ _ _ hN).mono ?_; rintro e w' ⟨rfl, rfl⟩) | (go_at_call 32; refine (del_no _ _ _ hN).mono ?_; rintro e w' ⟨rfl, rfl⟩) | (go_at_call 36; refine (has_no _ _ _ hN).mono ?_; rintro e w' ⟨rfl, rfl⟩) | (go_at_call 35; refine (len_no _ _ hN).mono ?_; rintro e w' ⟨rfl, rfl⟩) | (go_at_call 34; refine (list_no _ _ hN).mono ?_; rintro e w' ⟨rfl, rfl⟩) | (go_at_call 33; refine (copy_no _ _ hN).mono ?_; rintro e w' ⟨rfl, rfl⟩))
      go_round
      case rel => exact ⟨1, by decide, rfl⟩
      case measure => simp [intOf]
    · have hN : Nobody ((w.alloc (.cells #[.pointer none, .int .i64 0, .slice none 0 0] 49)).alloc (.cells #[.pointer none, .pointer (some ⟨w.heap.size, 0, none⟩)] 35)) (.pointer (some ⟨w.heap.size, 0, none⟩)) := Or.inr ⟨_, rfl, by simp⟩
      go_wp2_with (first | (go_at_call 31; refine (add_no _ _ _ hN).mono ?_; rintro e w' ⟨rfl, rfl⟩) | (go_at_call 32; refine (del_no _ _ _ hN).mono ?_; rintro e w' ⟨rfl, rfl⟩) | (go_at_call 36; refine (has_no _ _ _ hN).mono ?_; rintro e w' ⟨rfl, rfl⟩) | (go_at_call 35; refine (len_no _ _ hN).mono ?_; rintro e w' ⟨rfl, rfl⟩) | (go_at_call 34; refine (list_no _ _ hN).mono ?_; rintro e w' ⟨rfl, rfl⟩) | (go_at_call 33; refine (copy_no _ _ hN).mono ?_; rintro e w' ⟨rfl, rfl⟩))
      go_round
      case rel => exact ⟨2, by decide, rfl⟩
      case measure => simp [intOf]
    · go_wp2_with fail
      refine (awake_any _).mono ?_
      rintro e w1 ⟨rfl, hB⟩
      go_wp2
      go_ret
      exact ⟨rfl, (((Below.refl _ _).alloc (Nat.le_refl _) _).alloc (by simp) _).trans (hB.mono (by simp; omega))⟩

end Go.Proofs.Ytaillppmfbbnjaa
