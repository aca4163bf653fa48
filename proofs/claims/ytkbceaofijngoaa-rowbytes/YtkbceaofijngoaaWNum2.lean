/-
  row's number: at most two bytes.
-/
import Derived.Test.YtkbceaofijngoaaWRdBase
namespace Go.Proofs.Ytkbceaofijngoaa
open Go.RowKit
set_option linter.unusedVariables false

theorem wrap64_nat (n : Nat) (h : n < 9223372036854775808) : wrap64 (n : Int) = n := by
  unfold wrap64
  omega
theorem sum_step2 (sum b k : Nat) (hk : k < 2) (hb : b < 256) (hs : sum < 128 ^ k) :
    bits .or .i64 (sum : Int) (wrap64 (wrap64 (bits .and .u8 (b : Int) 127) * 2 ^ (7 * k))) = ((sum + b % 128 * 128 ^ k : Nat) : Int) ∧ sum + b % 128 * 128 ^ k < 128 ^ (k + 1) := by
  have hp : 128 ^ k ≤ 128 ^ 1 := Nat.pow_le_pow_right (by decide) (by omega)
  have hm : b % 128 * 128 ^ k ≤ 127 * 128 ^ k := Nat.mul_le_mul_right _ (by omega)
  have e0 : (128 : Nat) ^ k = 2 ^ (7 * k) := by rw [show (128 : Nat) = 2 ^ 7 from rfl, ← Nat.pow_mul]
  have e1 : bits .and .u8 (b : Int) 127 = ((b % 128 : Nat) : Int) := by
    rw [show (127 : Int) = ((127 : Nat) : Int) from rfl, u8_and_nat _ _ hb (by decide), and127]
  have e2 : (((b % 128 : Nat) : Int) * 2 ^ (7 * k)) = ((b % 128 * 128 ^ k : Nat) : Int) := by
    rw [e0]
    simp
  rw [e1, wrap64_nat _ (by omega), e2, wrap64_nat _ (by omega), i64_or _ _ (by omega) (by omega)]
  have e3 := Nat.two_pow_add_eq_or_of_lt (i := 7 * k) (b := sum) (by rw [← e0]; exact hs) (b % 128)
  rw [← e0] at e3
  refine ⟨?_, ?_⟩
  · rw [Nat.or_comm, Nat.mul_comm (b % 128), ← e3, Nat.add_comm]
  · rw [Nat.pow_succ]
    omega

set_option maxRecDepth 20000 in
set_option maxHeartbeats 2000000 in
theorem number2_any (s : ByteArray) (w : World) (hs : s.size ≤ 4611686018427387904) :
    Calls Try.prog 66 #[.string s] w fun e w' => e = .returned (.tuple #[.int .i64 (numV (read2 (bytesOf s)) : Nat), .int .i64 (numZ (read2 (bytesOf s)) : Nat)]) ∧ w' = w := by
  go_enter Try.func66, Try.ntmps66
  go_wp2_with fail
  go_loop [2, 4] (fun su i => ∃ (k sum : Nat), k ≤ 2 ∧ k ≤ s.size ∧ i = .int .i64 (k : Int) ∧ su = .int .i64 (sum : Int) ∧ sum < 128 ^ k ∧ read2 (bytesOf s) = readF (2 - k) k sum ((bytesOf s).drop k)) (fun _ i => 2 - (intOf i).toNat)
  case atStart => exact ⟨0, 0, by omega, Nat.zero_le _, rfl, rfl, by simp, rfl⟩
  case round =>
    obtain ⟨k, sum, hk, hks, rfl, rfl, hsum, hread⟩ := hrel
    by_cases hlt : k < s.size
    · by_cases hk5 : k < 2
      · have hl : k < (bytesOf s).length := by rw [bytesOf_len]; exact hlt
        rw [drop_at hl, show 2 - k = (2 - (k + 1)) + 1 by omega, readF] at hread
        have lb := getD_lt (by decide) (bytesOf_lt s) k
        have hix := index_str s .i64 k k rfl hlt
        obtain ⟨b, hb⟩ : ∃ b, b = (bytesOf s).getD k 0 := ⟨_, rfl⟩
        rw [← hb] at hread lb hix
        have HR := hid hread
        have h7 : IntKind.i64.wrap (7 * (k : Int)) = 7 * (k : Int) := by
          unfold IntKind.wrap
          simp [IntKind.bits, IntKind.signed]
          omega
        have hk5' : (k : Int) < 2 := by omega
        clear hread hb hl
        obtain ⟨hE, hN⟩ := sum_step2 sum b k hk5 lb hsum
        obtain ⟨N, hNe⟩ : ∃ N, N = sum + b % 128 * 128 ^ k := ⟨_, rfl⟩
        rw [← hNe] at hE hN HR
        have hN5 : N < 16384 := Nat.lt_of_lt_of_le hN (by rw [show 16384 = 128 ^ 2 from rfl]; exact Nat.pow_le_pow_right (by decide) (by omega))
        have HN := hid hN
        clear hNe hsum hN hks
        by_cases h1 : b < 128
        · have h1' : decide (128 ≤ (b : Int)) = false := by simp; omega
          have HR1 := HR.out
          rw [if_pos h1] at HR1
          by_cases h2 : 0 < k ∧ b = 0
          · obtain ⟨h3, rfl⟩ := h2
            have h3' : (0 : Int) < (k : Int) := by omega
            rw [if_pos (Or.inl ⟨h3, rfl⟩)] at HR1
            have HF := hid HR1
            clear HR HR1 h3
            go_wp2
            go_ret2
            exact ⟨by rw [HF.out]; rfl, rfl⟩
          · rw [if_neg (by omega)] at HR1
            have HF := hid HR1
            clear HR HR1
            by_cases h5 : 0 < k
            · have h5' : (0 : Int) < (k : Int) := by omega
              have h6 : ((b : Int) == 0) = false := by simp; omega
              clear h2 h5
              go_wp2
              go_ret2
              exact ⟨by rw [HF.out]; rfl, rfl⟩
            · have h5' : decide ((0 : Int) < (k : Int)) = false := by simp; omega
              have h5a : decide (0 < k) = false := by simp; omega
              have h5b : ¬ (0 : Int) < (k : Int) := by omega
              clear h2
              go_wp2
              go_ret2
              exact ⟨by rw [HF.out]; rfl, rfl⟩
        · have h1' : (128 : Int) ≤ (b : Int) := by omega
          have HR1 := HR.out
          rw [if_neg h1] at HR1
          have HF := hid HR1
          clear HR HR1 h1
          go_wp2
          go_round
          case rel => exact ⟨k + 1, N, by omega, by omega, by go_num, rfl, HN.out, HF.out⟩
          case measure => simp [intOf]; omega
      · have hk5' : decide ((k : Int) < 2) = false := by simp; omega
        have HF : Hid (read2 (bytesOf s) = none) := by
          unfold Hid
          rw [hread, show 2 - k = 0 by omega]
          rfl
        clear hread hsum
        go_wp2
        go_ret2
        exact ⟨by rw [HF.out]; rfl, rfl⟩
    · have hlt' : decide ((k : Int) < (s.size : Int)) = false := by simp; omega
      have HF : Hid (read2 (bytesOf s) = none) := by
        unfold Hid
        rw [hread, List.drop_eq_nil_of_le (by rw [bytesOf_len]; omega)]
        cases h5 : 2 - k <;> rfl
      clear hread hsum
      go_wp2
      go_ret2
      exact ⟨by rw [HF.out]; rfl, rfl⟩
end Go.Proofs.Ytkbceaofijngoaa
