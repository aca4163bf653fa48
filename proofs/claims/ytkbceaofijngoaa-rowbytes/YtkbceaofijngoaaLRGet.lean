/-
  The document's Number.
-/
import Derived.Test.YtkbceaofijngoaaLRead
namespace Go.Proofs.Ytkbceaofijngoaa
open Go.RowKit
set_option linter.unusedVariables false

/-- The place behind what is read, -1 where there is nothing. -/
def behind (n : Nat) (o : Option (Nat × Nat)) : Int := match o with
  | none => -1
  | some (_, z) => ((n + z : Nat) : Int)

theorem byte_get (s : ByteArray) (k : Nat) (h : k < s.size) : (s[k]'h).toNat = (bytesOf s).getD k 0 := by
  have hl : k < s.data.toList.length := by simpa using h
  simp only [bytesOf, List.getD, List.getElem?_map, List.getElem?_eq_getElem hl, Option.map_some, Option.getD_some]
  rfl
theorem num_arith (sum U P N : Nat) (hU : U ≤ 268435456) (hs : sum < U) (hP : P ≤ 127 * U) (hN : N = sum + P) :
    wrap64 (P : Int) = (P : Int) ∧ wrap64 ((sum : Int) + (P : Int)) = (N : Int) ∧ wrap64 ((U : Int) * 128) = ((U * 128 : Nat) : Int) ∧ N < U * 128 ∧ N < 34359738368 := by
  unfold wrap64
  omega
theorem wrap64_ok (x : Int) (h0 : 0 ≤ x) (h1 : x < 9223372036854775808) : wrap64 x = x := by
  unfold wrap64
  omega

set_option maxRecDepth 20000 in
set_option maxHeartbeats 800000 in
theorem rnumber_any (s : ByteArray) (n : Nat) (w : World) (hs : s.size ≤ 4611686018427387904) (hn : n ≤ s.size) :
    Calls Try.prog 41 #[.string s, .int .i64 (n : Int)] w fun e w' => e = .returned (.tuple #[.int .i64 (numV (readN ((bytesOf s).drop n)) : Nat), .int .i64 (behind n (readN ((bytesOf s).drop n)))]) ∧ w' = w := by
  obtain ⟨D, hD⟩ : ∃ D, D = (bytesOf s).drop n := ⟨_, rfl⟩
  have hDl : D.length = s.size - n := by rw [hD, List.length_drop, bytesOf_len]
  have HG := hid (fun k (hk : k < D.length) => show D.getD k 0 = (bytesOf s).getD (n + k) 0 by rw [hD]; simp [List.getD])
  rw [← hD]
  clear hD
  go_enter Try.func41, Try.ntmps41
  go_wp2_with fail
  go_loop [6, 7, 8] (fun su un i => ∃ (k sum U : Nat), k ≤ 5 ∧ k ≤ D.length ∧ i = .int .i64 ((n + k : Nat) : Int) ∧ su = .int .i64 (sum : Int) ∧ un = .int .i64 (U : Int) ∧ U = 128 ^ k ∧ sum < 128 ^ k ∧ readN D = readF (5 - k) k sum (D.drop k)) (fun _ _ i => n + 5 - (intOf i).toNat)
  case atStart => exact ⟨0, 0, 1, by omega, Nat.zero_le _, rfl, rfl, rfl, by simp, by simp, rfl⟩
  case round =>
    obtain ⟨k, sum, U, hk, hks, rfl, rfl, rfl, hU, hsum, hread⟩ := hrel
    have HRD := hid hread
    have hsum' : sum < U := by rw [hU]; exact hsum
    have HUk := hid hU
    have HU2 : Hid (U * 128 = 128 ^ (k + 1)) := by unfold Hid; rw [hU, Nat.pow_succ]
    clear hU hsum hread
    by_cases hlt : k < D.length
    · have hlts : n + k < s.size := by omega
      by_cases hk5 : k < 5
      · have h54 : 5 - k = (5 - (k + 1)) + 1 := by omega
        have hread := HRD.out
        rw [drop_at hlt, h54, readF] at hread
        clear h54
        have lb := getD_lt (by decide) (bytesOf_lt s) (n + k)
        rw [HG.out k hlt] at hread
        have hcb := byte_get s (n + k) hlts
        obtain ⟨b, hb⟩ : ∃ b, b = (bytesOf s).getD (n + k) 0 := ⟨_, rfl⟩
        rw [← hb] at hread lb hcb
        rw [← HUk.out] at hread
        obtain ⟨P, hP⟩ : ∃ P, P = b % 128 * U := ⟨_, rfl⟩
        obtain ⟨N, hN⟩ : ∃ N, N = sum + b % 128 * U := ⟨_, rfl⟩
        rw [← hN] at hread
        have HR := hid hread
        clear hread HRD
        have hU4 : U ≤ 268435456 := by
          have h44 : k ≤ 4 := by omega
          have h45 := Nat.pow_le_pow_right (show 0 < 128 by decide) h44
          have h46 : (128 : Nat) ^ 4 = 268435456 := by decide
          rw [← HUk.out, h46] at h45
          exact h45
        have hU0 : 0 < U := by rw [HUk.out]; exact Nat.pow_pos (by decide)
        have hP4 : P ≤ 127 * U := by rw [hP]; exact Nat.mul_le_mul_right _ (by omega)
        rw [← hP] at hN
        have hmP : ((b : Int) % 128) * (U : Int) = (P : Int) := by rw [hP]; simp
        obtain ⟨hm1', hm2, hm3, hNb, hN5⟩ := num_arith sum U P N hU4 hsum' hP4 hN
        have hm1 : wrap64 ((b : Int) % 128 * (U : Int)) = (P : Int) := by rw [hmP]; exact hm1'
        clear hm1' hU4
        have i1 : (n : Int) + k < (s.size : Int) := by omega
        have i2 : (n : Int) + k < (n : Int) + 5 := by omega
        clear hb hP hN hmP hsum' hP4 HUk
        by_cases h1 : b < 128
        · have h1' : (b : Int) < 128 := by omega
          have HR1 := HR.out
          rw [if_pos h1] at HR1
          by_cases h2 : 0 < k ∧ b = 0
          · have h3 : (n : Int) < (n : Int) + k := by omega
            have h4 : ((b : Int) == 0) = true := by simp; omega
            have h4b : b = 0 := h2.2
            rw [if_pos (Or.inl h2)] at HR1
            have HF := hid HR1
            clear HR HR1 h2 h4b
            go_wp2
            go_ret2
            exact ⟨by rw [HF.out]; rfl, rfl⟩
          · by_cases h4 : 2147483647 < N
            · have h4' : (2147483647 : Int) < (N : Int) := by omega
              rw [if_pos (Or.inr h4)] at HR1
              have HF := hid HR1
              clear HR HR1 h4
              by_cases h5 : b = 0
              · have h5' : ((b : Int) == 0) = true := by simp; omega
                have h6 : decide ((n : Int) < (n : Int) + k) = false := by simp; omega
                have h7 : ¬ (n : Int) < (n : Int) + k := by omega
                clear h2 h5
                go_wp2
                go_ret2
                exact ⟨by rw [HF.out]; rfl, rfl⟩
              · have h5' : ((b : Int) == 0) = false := by simp; omega
                clear h2 h5
                go_wp2
                go_ret2
                exact ⟨by rw [HF.out]; rfl, rfl⟩
            · have h4' : decide ((2147483647 : Int) < (N : Int)) = false := by simp; omega
              rw [if_neg (by omega)] at HR1
              have HF := hid HR1
              clear HR HR1
              by_cases h5 : b = 0
              · have h5' : ((b : Int) == 0) = true := by simp; omega
                have h6 : decide ((n : Int) < (n : Int) + k) = false := by simp; omega
                have h7 : ¬ (n : Int) < (n : Int) + k := by omega
                clear h2 h5
                go_wp2
                go_ret2
                exact ⟨by rw [HF.out]; simp [numV, behind]; omega, rfl⟩
              · have h5' : ((b : Int) == 0) = false := by simp; omega
                clear h2 h5
                go_wp2
                go_ret2
                exact ⟨by rw [HF.out]; simp [numV, behind]; omega, rfl⟩
        · have h1' : decide ((b : Int) < 128) = false := by simp; omega
          have h1a : ¬ (b : Int) < 128 := by omega
          have HR1 := HR.out
          rw [if_neg h1] at HR1
          have HF := hid HR1
          have HNb := hid hNb
          clear HR HR1 h1 hNb
          go_wp2
          go_round
          case rel => exact ⟨k + 1, N, U * 128, by omega, by omega, by go_num, by first | rfl | rw [hm2], by first | go_num | rfl, HU2.out, by rw [← HU2.out]; exact HNb.out, HF.out⟩
          case measure => simp [intOf]; omega
      · have i1 : (n : Int) + k < (s.size : Int) := by omega
        have i2 : decide ((n : Int) + k < (n : Int) + 5) = false := by simp; omega
        have i3 : ¬ (n : Int) + k < (n : Int) + 5 := by omega
        have HF : Hid (readN D = none) := by
          unfold Hid
          have h50 : 5 - k = 0 := by omega
          rw [HRD.out, h50]
          rfl
        clear HRD hsum' HUk HU2
        go_wp2
        go_ret2
        exact ⟨by rw [HF.out]; rfl, rfl⟩
    · have i1 : decide ((n : Int) + k < (s.size : Int)) = false := by simp; omega
      have i3 : ¬ (n : Int) + k < (s.size : Int) := by omega
      have HF : Hid (readN D = none) := by
        unfold Hid
        have hdl : D.length ≤ k := by omega
        rw [HRD.out, List.drop_eq_nil_of_le hdl]
        cases h5 : 5 - k <;> rfl
      clear HRD hsum' HUk HU2
      go_wp2
      go_ret2
      exact ⟨by rw [HF.out]; rfl, rfl⟩
end Go.Proofs.Ytkbceaofijngoaa
