/-
  The leaves: width, turn, the document's right.
-/
import Derived.Test.YtplljpodejpbgaaGreatDoorXBase
import Derived.Laws.BitsAllLaws
import Derived.Test.YtplljpodejpbgaaGreatDoorShelf
namespace Go.Proofs.YtplljpodejpbgaaGreatDoor
open Go.RowKit
set_option linter.unusedVariables false

theorem len32 : (Lib.bitLen (4294967295 : Int).toNat : Int) = 32 := by decide +kernel
theorem len64 : (Lib.bitLen (18446744073709551615 : Int).toNat : Int) = 64 := by decide +kernel

set_option maxHeartbeats 400000 in
theorem width32 (w : World) : Calls Tryz.prog 120 #[] w fun e w' => e = .returned (.int .u64 32) ∧ w = w' := by
  go_enter Tryz.func120, Tryz.ntmps120
  go_wp2_with fail
  have h := Tryz.bits_Len64 4294967295 w (by decide) (by decide)
  rw [len32] at h
  refine h.mono ?_
  rintro e w' ⟨rfl, hw⟩
  subst w'
  go_wp2
  go_ret
  exact ⟨rfl, rfl⟩

set_option maxHeartbeats 400000 in
theorem width64 (w : World) : Calls Tryz.prog 119 #[] w fun e w' => e = .returned (.int .u64 64) ∧ w = w' := by
  go_enter Tryz.func119, Tryz.ntmps119
  go_wp2_with fail
  have h := Tryz.bits_Len64 18446744073709551615 w (by decide) (by decide)
  rw [len64] at h
  refine h.mono ?_
  rintro e w' ⟨rfl, hw⟩
  subst w'
  go_wp2
  go_ret
  exact ⟨rfl, rfl⟩

theorem rot_parts (x k : Nat) (hx : x < 4294967296) : rot x k = x / 2 ^ k ||| x * 2 ^ (32 - k) % 4294967296 := by
  unfold rot
  rw [Nat.shiftRight_eq_div_pow, Nat.shiftLeft_eq, show 4294967296 = 2 ^ 32 from rfl, Nat.or_mod_two_pow, Nat.mod_eq_of_lt (a := x / 2 ^ k)]
  exact Nat.lt_of_le_of_lt (Nat.div_le_self _ _) hx

theorem turn_form (x k : Nat) (hx : x < 4294967296) : bits .or .u32 ((x : Int) / 2 ^ k) ((x : Int) * 2 ^ (32 - k) % 4294967296) = ((rot x k : Nat) : Int) := by
  have e1 : ((x : Int) / 2 ^ k) = ((x / 2 ^ k : Nat) : Int) := by simp
  have e2 : ((x : Int) * 2 ^ (32 - k) % 4294967296) = ((x * 2 ^ (32 - k) % 4294967296 : Nat) : Int) := by simp
  rw [e1, e2, rot_parts x k hx]
  exact u32_or_nat _ _ (Nat.lt_of_le_of_lt (Nat.div_le_self _ _) hx) (Nat.mod_lt _ (by decide))

set_option maxHeartbeats 400000 in
theorem turn_any (x k : Nat) (w : World) (hx : x < 4294967296) (h1 : 1 ≤ k) (h2 : k ≤ 31) : Calls Tryz.prog 118 #[.int .u32 (x : Int), .int .u64 (k : Int)] w fun e w' => e = .returned (.int .u32 ((rot x k : Nat) : Int)) ∧ w = w' := by
  go_enter Tryz.func118, Tryz.ntmps118
  go_wp2_with (go_at_call 120; refine (width32 _).mono ?_; rintro e w' ⟨rfl, rfl⟩)
  go_ret
  exact ⟨ret_int (turn_form x k hx), rfl⟩

theorem turn_lit (x : Nat) (k : Int) (w : World) (hx : x < 4294967296) (h1 : 1 ≤ k) (h2 : k ≤ 31) : Calls Tryz.prog 118 #[.int .u32 (x : Int), .int .u64 k] w fun e w' => e = .returned (.int .u32 ((rot x k.toNat : Nat) : Int)) ∧ w = w' := by
  obtain ⟨n, rfl⟩ := Int.eq_ofNat_of_zero_le (show 0 ≤ k by omega)
  exact turn_any x n w hx (by omega) (by omega)

theorem right_form (x k : Nat) (hx : x < 4294967296) (h1 : 2 ≤ k) (h2 : k ≤ 31) : (bits .or .i64 ((x : Int) / 2 ^ k) (wrap64 ((x : Int) * 2 ^ (32 - k)))).tmod 4294967296 = ((rot x k : Nat) : Int) := by
  have hp : 2 ^ (32 - k) ≤ 2 ^ 30 := Nat.pow_le_pow_right (by decide) (by omega)
  have hm : x * 2 ^ (32 - k) ≤ 4294967295 * 1073741824 := Nat.mul_le_mul (by omega) hp
  have e1 : ((x : Int) / 2 ^ k) = ((x / 2 ^ k : Nat) : Int) := by simp
  have e3 : ((x : Int) * 2 ^ (32 - k)) = ((x * 2 ^ (32 - k) : Nat) : Int) := by simp
  have e2 : wrap64 ((x : Int) * 2 ^ (32 - k)) = ((x * 2 ^ (32 - k) : Nat) : Int) := by
    rw [e3]
    generalize x * 2 ^ (32 - k) = y at hm
    unfold wrap64
    omega
  have hd : x / 2 ^ k ≤ x := Nat.div_le_self _ _
  rw [e1, e2, i64_or _ _ (by omega) (by omega), Int.tmod_eq_emod_of_nonneg (by omega)]
  have : (((x / 2 ^ k ||| x * 2 ^ (32 - k) : Nat) : Int) % 4294967296) = (((x / 2 ^ k ||| x * 2 ^ (32 - k)) % 4294967296 : Nat) : Int) := by simp
  rw [this]
  unfold rot
  rw [Nat.shiftRight_eq_div_pow, Nat.shiftLeft_eq]

set_option maxHeartbeats 400000 in
theorem right_any (x k : Nat) (w : World) (hx : x < 4294967296) (h1 : 2 ≤ k) (h2 : k ≤ 31) : Calls Tryz.prog 114 #[.int .i64 (x : Int), .int .i64 (k : Int)] w fun e w' => e = .returned (.int .i64 ((rot x k : Nat) : Int)) ∧ ∃ n, w' = w.drewN n := by
  go_enter Tryz.func114, Tryz.ntmps114
  go_wp2
  go_quiet (fail)
  go_wp2
  go_ret
  exact ⟨ret_int (right_form x k hx h1 h2), _, rfl⟩

theorem right_lit (x : Nat) (k : Int) (w : World) (hx : x < 4294967296) (h1 : 2 ≤ k) (h2 : k ≤ 31) : Calls Tryz.prog 114 #[.int .i64 (x : Int), .int .i64 k] w fun e w' => e = .returned (.int .i64 ((rot x k.toNat : Nat) : Int)) ∧ ∃ n, w' = w.drewN n := by
  obtain ⟨n, rfl⟩ := Int.eq_ofNat_of_zero_le (show 0 ≤ k by omega)
  exact right_any x n w hx (by omega) (by omega)

end Go.Proofs.YtplljpodejpbgaaGreatDoor
