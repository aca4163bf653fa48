/-
  The document's Digits.
-/
import Derived.Test.YtjgohajlabdloaaDoorDigM
namespace Go.Proofs.YtjgohajlabdloaaDoor
open Go.RowKit
set_option linter.unusedVariables false

theorem getD_byte (s : ByteArray) (k : Nat) (h : k < s.size) : s.data.toList.getD k 0 = s[k] := by
  have hl : k < s.data.toList.length := by simpa using h
  simp only [List.getD, List.getElem?_eq_getElem hl, Option.getD_some]
  rfl

theorem ten_pow {k : Nat} {m : Int} (h : m < 10 ^ k) (hk : k ≤ 17) : m < 100000000000000000 := by
  have h1 : (10 : Nat) ^ k ≤ 10 ^ 17 := Nat.pow_le_pow_right (by decide) hk
  have h2 : (10 : Nat) ^ 17 = 100000000000000000 := by decide
  have h3 : ((10 : Int) ^ k) = ((10 ^ k : Nat) : Int) := by simp
  rw [h3] at h
  omega
theorem wrapI (x : Int) (h0 : 0 ≤ x) (h1 : x < 9223372036854775808) : wrap64 x = x := by
  unfold wrap64
  omega

set_option maxRecDepth 20000 in
set_option maxHeartbeats 1000000 in
theorem digits_any (s : ByteArray) (w : World) (hs : s.size ≤ 4611686018427387904) :
    Calls Tryd.prog 46 #[.string s] w fun e w' => e = .returned (.int .i64 (digV s.data.toList)) ∧ w' = w := by
  have hsl : s.data.toList.length = s.size := by rw [← Lib.size_eq]
  by_cases h1 : s.size < 1
  · have h1' : (s.size : Int) < 1 := by omega
    have HV : Hid (digV s.data.toList = -1) := by unfold Hid; rw [digV, if_pos (Or.inl (by omega))]
    clear hsl
    go_enter Tryd.func46, Tryd.ntmps46
    go_wp2
    go_ret
    exact ⟨by rw [HV.out]; rfl, rfl⟩
  have h1' : decide ((s.size : Int) < 1) = false := by simp; omega
  have h1a : ¬ (s.size : Int) < 1 := by omega
  by_cases h2 : 18 < s.size
  · have h2' : (18 : Int) < (s.size : Int) := by omega
    have HV : Hid (digV s.data.toList = -1) := by unfold Hid; rw [digV, if_pos (Or.inr (Or.inl (by omega)))]
    clear hsl
    go_enter Tryd.func46, Tryd.ntmps46
    go_wp2
    go_ret
    exact ⟨by rw [HV.out]; rfl, rfl⟩
  have h2' : decide ((18 : Int) < (s.size : Int)) = false := by simp; omega
  have h2a : ¬ (18 : Int) < (s.size : Int) := by omega
  have hz : 0 < s.size := by omega
  have hz' : (0 : Int) < (s.size : Int) := by omega
  have hb0 := getD_byte s 0 hz
  by_cases h3 : 1 < s.size ∧ (s[0]'hz).toNat = 48
  · have h3a : (1 : Int) < (s.size : Int) := by omega
    have h3b : (((s[0]'hz).toNat : Int) == 48) = true := by simp; omega
    have HV : Hid (digV s.data.toList = -1) := by unfold Hid; rw [digV, if_pos (Or.inr (Or.inr (by rw [hsl, hb0]; exact h3)))]
    have h3c := h3.2
    clear hsl hb0 h3
    go_enter Tryd.func46, Tryd.ntmps46
    go_wp2
    go_ret
    exact ⟨by rw [HV.out]; rfl, rfl⟩
  · have HV : Hid (digV s.data.toList = (digRun 0 s.data.toList).getD (-1)) := by
      unfold Hid
      rw [digV, if_neg]
      rw [hsl, hb0]
      omega
    have key : ∀ (K : Prop), (1 < s.size → (((s[0]'hz).toNat : Int) == 48) = false → K) → (¬ 1 < s.size → K) → K := by
      intro K k1 k2
      by_cases h : 1 < s.size
      · exact k1 h (by simp; intro hx; exact h3 ⟨h, by omega⟩)
      · exact k2 h
    have hloop : True := trivial
    clear h3
    refine key _ (fun g1 g2 => ?_) (fun g1 => ?_)
    all_goals
      first
        | have g3 : (1 : Int) < (s.size : Int) := by omega
        | (have g3 : decide ((1 : Int) < (s.size : Int)) = false := by simp; omega
           have g4 : ¬ (1 : Int) < (s.size : Int) := by omega)
      go_enter Tryd.func46, Tryd.ntmps46
      go_wp2_with fail
      go_loop [3, 4] (fun n i => ∃ (k : Nat) (m : Int), k ≤ s.size ∧ i = .int .i64 k ∧ n = .int .i64 m ∧ 0 ≤ m ∧ m < 10 ^ k ∧ digRun 0 s.data.toList = digRun m (s.data.toList.drop k)) (fun _ i => s.size - (intOf i).toNat)
      case atStart => exact ⟨0, 0, Nat.zero_le _, rfl, rfl, by omega, by simp, rfl⟩
      case round =>
        obtain ⟨k, m, hk, rfl, rfl, hm0, hm1, hrun⟩ := hrel
        have HP := hid hm1
        clear hm1
        by_cases hlt : k < s.size
        · have hlt' : (k : Int) < (s.size : Int) := by omega
          have hm2 := ten_pow HP.out (by omega)
          rw [drop_byte s k hlt, digRun] at hrun
          obtain ⟨c, hc⟩ : ∃ c, c = (s[k]'hlt).toNat := ⟨_, rfl⟩
          have hcl : c < 256 := by rw [hc]; exact UInt8.toNat_lt _
          rw [← hc] at hrun
          have hc2 := hc.symm
          have HR := hid hrun
          clear hrun hc
          by_cases hd : c < 48
          · have hd' : (c : Int) < 48 := by omega
            have HF : Hid (digV s.data.toList = -1) := by unfold Hid; rw [HV.out, HR.out, if_pos (Or.inl hd)]; rfl
            clear HR hd
            go_wp2
            go_ret
            exact ⟨by rw [HF.out]; rfl, rfl⟩
          · have hd' : decide ((c : Int) < 48) = false := by simp; omega
            have hda : (48 : Int) ≤ (c : Int) := by omega
            by_cases he : 57 < c
            · have he' : (57 : Int) < (c : Int) := by omega
              have HF : Hid (digV s.data.toList = -1) := by unfold Hid; rw [HV.out, HR.out, if_pos (Or.inr he)]; rfl
              clear HR hd he
              go_wp2
              go_ret
              exact ⟨by rw [HF.out]; rfl, rfl⟩
            · have he' : decide ((57 : Int) < (c : Int)) = false := by simp; omega
              have hea : (c : Int) ≤ 57 := by omega
              have HF : Hid (digRun 0 s.data.toList = digRun (10 * m + ((c : Int) - 48)) (s.data.toList.drop (k + 1))) := by unfold Hid; rw [HR.out, if_neg (by omega)]
              have HN : Hid (10 * m + ((c : Int) - 48) < 10 ^ (k + 1)) := by
                unfold Hid
                rw [Int.pow_succ]
                have := HP.out
                omega
              have hw1 := wrapI (10 * m) (by omega) (by omega)
              have hw2 := wrapI (10 * m + ((c : Int) - 48)) (by omega) (by omega)
              have hw3 : 0 ≤ 10 * m + ((c : Int) - 48) := by omega
              clear HR hd he
              go_wp2
              go_round
              case rel => exact ⟨k + 1, 10 * m + ((c : Int) - 48), by omega, by go_num, by first | rfl | rw [hw1, hw2] | rw [hw2], hw3, HN.out, HF.out⟩
              case measure => simp [intOf]; omega
        · have hlt' : decide ((k : Int) < (s.size : Int)) = false := by simp; omega
          have HF : Hid (digV s.data.toList = m) := by
            unfold Hid
            rw [HV.out, hrun, List.drop_eq_nil_of_le (by rw [hsl]; omega)]
            rfl
          clear hrun
          go_wp2
          go_ret
          exact ⟨by rw [HF.out]; rfl, rfl⟩
end Go.Proofs.YtjgohajlabdloaaDoor
