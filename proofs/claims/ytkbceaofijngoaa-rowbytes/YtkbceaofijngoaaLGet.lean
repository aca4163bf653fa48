/-
  Reading a label's bytes: number.
-/
import Derived.Test.YtkbceaofijngoaaLBytes
namespace Go.Proofs.Ytkbceaofijngoaa
open Go.RowKit
set_option linter.unusedVariables false

/-- The number that is read, 0 where there is none. -/
def numV (o : Option (Nat × Nat)) : Nat := (o.getD (0, 0)).1
/-- How many bytes it takes. -/
def numZ (o : Option (Nat × Nat)) : Nat := (o.getD (0, 0)).2

theorem drop_at {l : List Nat} {k : Nat} (h : k < l.length) : l.drop k = l.getD k 0 :: l.drop (k + 1) := by
  rw [List.drop_eq_getElem_cons h]
  simp [List.getD, h]

theorem getD_lt {l : List Nat} {m : Nat} (h0 : 0 < m) (h : ∀ x ∈ l, x < m) (k : Nat) : l.getD k 0 < m := by
  by_cases hk : k < l.length
  · simp only [List.getD, List.getElem?_eq_getElem hk, Option.getD_some]
    exact h _ (List.getElem_mem hk)
  · rw [List.getD, List.getElem?_eq_none (by omega)]
    exact h0

theorem wrap_u64 (n : Nat) (h : n < 18446744073709551616) : IntKind.u64.wrap (n : Int) = n := by
  simp [IntKind.wrap, IntKind.bits, IntKind.signed]
  omega

theorem sum_step (sum b k : Nat) (hk : k < 5) (hb : b < 256) (hs : sum < 128 ^ k) :
    bits .or .u64 (sum : Int) (IntKind.u64.wrap (IntKind.u64.wrap (bits .and .u8 (b : Int) 127) * 2 ^ (7 * k))) = ((sum + b % 128 * 128 ^ k : Nat) : Int) ∧ sum + b % 128 * 128 ^ k < 128 ^ (k + 1) := by
  have hp : 128 ^ k ≤ 128 ^ 4 := Nat.pow_le_pow_right (by decide) (by omega)
  have hp4 : (128 : Nat) ^ 4 = 268435456 := by decide
  have hm : b % 128 * 128 ^ k ≤ 127 * 128 ^ k := Nat.mul_le_mul_right _ (by omega)
  have e0 : (128 : Nat) ^ k = 2 ^ (7 * k) := by rw [show (128 : Nat) = 2 ^ 7 from rfl, ← Nat.pow_mul]
  have e1 : bits .and .u8 (b : Int) 127 = ((b % 128 : Nat) : Int) := by
    rw [show (127 : Int) = ((127 : Nat) : Int) from rfl, u8_and_nat _ _ hb (by decide), and127]
  have e2 : (((b % 128 : Nat) : Int) * 2 ^ (7 * k)) = ((b % 128 * 128 ^ k : Nat) : Int) := by
    rw [e0]
    simp
  rw [e1, wrap_u64 _ (by omega), e2, wrap_u64 _ (by omega), u64_or_nat _ _ (by omega) (by omega)]
  have e3 := Nat.two_pow_add_eq_or_of_lt (i := 7 * k) (b := sum) (by rw [← e0]; exact hs) (b % 128)
  rw [← e0] at e3
  refine ⟨?_, ?_⟩
  · rw [Nat.or_comm, Nat.mul_comm (b % 128), ← e3, Nat.add_comm]
  · rw [Nat.pow_succ]
    omega

set_option maxRecDepth 20000 in
set_option maxHeartbeats 2000000 in
theorem number_any (s : ByteArray) (w : World) (hs : s.size ≤ 4611686018427387904) :
    Calls Try.prog 68 #[.string s] w fun e w' => e = .returned (.tuple #[.int .i64 (numV (readN (bytesOf s)) : Nat), .int .i64 (numZ (readN (bytesOf s)) : Nat)]) ∧ w' = w := by
  go_enter Try.func68, Try.ntmps68
  go_wp2_with fail
  go_loop [4, 5] (fun su i => ∃ (k sum : Nat), k ≤ 5 ∧ k ≤ s.size ∧ i = .int .i64 (k : Int) ∧ su = .int .u64 (sum : Int) ∧ sum < 128 ^ k ∧ readN (bytesOf s) = readF (5 - k) k sum ((bytesOf s).drop k)) (fun _ i => 5 - (intOf i).toNat)
  case atStart => exact ⟨0, 0, by omega, Nat.zero_le _, rfl, rfl, by simp, rfl⟩
  case round =>
    obtain ⟨k, sum, hk, hks, rfl, rfl, hsum, hread⟩ := hrel
    by_cases hlt : k < s.size
    · by_cases hk5 : k < 5
      · have hl : k < (bytesOf s).length := by rw [bytesOf_len]; exact hlt
        rw [drop_at hl, show 5 - k = (5 - (k + 1)) + 1 by omega, readF] at hread
        have lb := getD_lt (by decide) (bytesOf_lt s) k
        have hix := index_str s .i64 k k rfl hlt
        obtain ⟨b, hb⟩ : ∃ b, b = (bytesOf s).getD k 0 := ⟨_, rfl⟩
        rw [← hb] at hread lb hix
        have HR := hid hread
        have h7 : IntKind.i64.wrap (7 * (k : Int)) = 7 * (k : Int) := by
          unfold IntKind.wrap
          simp [IntKind.bits, IntKind.signed]
          omega
        have hk5' : (k : Int) < 5 := by omega
        clear hread hb hl
        obtain ⟨hE, hN⟩ := sum_step sum b k hk5 lb hsum
        obtain ⟨N, hNe⟩ : ∃ N, N = sum + b % 128 * 128 ^ k := ⟨_, rfl⟩
        rw [← hNe] at hE hN HR
        have hN5 : N < 34359738368 := Nat.lt_of_lt_of_le hN (by rw [show 34359738368 = 128 ^ 5 from rfl]; exact Nat.pow_le_pow_right (by decide) (by omega))
        have HN := hid hN
        clear hNe hsum hN hks
        by_cases h1 : b < 128
        · have h1' : decide (128 ≤ (b : Int)) = false := by simp; omega
          have HR1 := HR.out
          rw [if_pos h1] at HR1
          by_cases h2 : 0 < k ∧ b = 0
          · obtain ⟨h3, rfl⟩ := h2
            have h3' : (0 : Int) < (k : Int) := by omega
            rw [if_pos (Or.inl ⟨h3, rfl⟩)] at HR1
            have HF := hid HR1
            clear HR HR1 h3
            go_wp2
            go_ret2
            exact ⟨by rw [HF.out]; rfl, rfl⟩
          · by_cases h4 : 2147483647 < N
            · have h4' : (2147483647 : Int) < (N : Int) := by omega
              rw [if_pos (Or.inr h4)] at HR1
              have HF := hid HR1
              clear HR HR1 h4
              by_cases h5 : 0 < k
              · have h5' : (0 : Int) < (k : Int) := by omega
                have h6 : ((b : Int) == 0) = false := by simp; omega
                clear h2 h5
                go_wp2
                go_ret2
                exact ⟨by rw [HF.out]; rfl, rfl⟩
              · have h5' : decide ((0 : Int) < (k : Int)) = false := by simp; omega
                have h5a : decide (0 < k) = false := by simp; omega
                have h5b : ¬ (0 : Int) < (k : Int) := by omega
                clear h2
                go_wp2
                go_ret2
                exact ⟨by rw [HF.out]; rfl, rfl⟩
            · have h4' : decide ((2147483647 : Int) < (N : Int)) = false := by simp; omega
              rw [if_neg (by omega)] at HR1
              have HF := hid HR1
              clear HR HR1
              by_cases h5 : 0 < k
              · have h5' : (0 : Int) < (k : Int) := by omega
                have h6 : ((b : Int) == 0) = false := by simp; omega
                clear h2 h5
                go_wp2
                go_ret2
                exact ⟨by rw [HF.out]; rfl, rfl⟩
              · have h5' : decide ((0 : Int) < (k : Int)) = false := by simp; omega
                have h5a : decide (0 < k) = false := by simp; omega
                have h5b : ¬ (0 : Int) < (k : Int) := by omega
                clear h2
                go_wp2
                go_ret2
                exact ⟨by rw [HF.out]; rfl, rfl⟩
        · have h1' : (128 : Int) ≤ (b : Int) := by omega
          have HR1 := HR.out
          rw [if_neg h1] at HR1
          have HF := hid HR1
          clear HR HR1 h1
          go_wp2
          go_round
          case rel => exact ⟨k + 1, N, by omega, by omega, by go_num, rfl, HN.out, HF.out⟩
          case measure => simp [intOf]; omega
      · have hk5' : decide ((k : Int) < 5) = false := by simp; omega
        have HF : Hid (readN (bytesOf s) = none) := by
          unfold Hid
          rw [hread, show 5 - k = 0 by omega]
          rfl
        clear hread hsum
        go_wp2
        go_ret2
        exact ⟨by rw [HF.out]; rfl, rfl⟩
    · have hlt' : decide ((k : Int) < (s.size : Int)) = false := by simp; omega
      have HF : Hid (readN (bytesOf s) = none) := by
        unfold Hid
        rw [hread, List.drop_eq_nil_of_le (by rw [bytesOf_len]; omega)]
        cases h5 : 5 - k <;> rfl
      clear hread hsum
      go_wp2
      go_ret2
      exact ⟨by rw [HF.out]; rfl, rfl⟩
end Go.Proofs.Ytkbceaofijngoaa
