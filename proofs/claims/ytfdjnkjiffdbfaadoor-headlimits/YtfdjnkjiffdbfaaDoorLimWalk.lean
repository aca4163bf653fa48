/-
  The walk of HeadLimits.
-/
import Derived.Test.YtfdjnkjiffdbfaaDoorHAwake
namespace Go.Proofs.YtfdjnkjiffdbfaaDoor
open Go.RowKit
set_option linter.unusedVariables false

theorem str_app (a b : List UInt8) : (⟨a.toArray⟩ : ByteArray) ++ ⟨b.toArray⟩ = ⟨(a ++ b).toArray⟩ := by
  apply ByteArray.ext
  simp [ByteArray.data_append]
theorem and63 (a : Int) : ∃ c : Nat, c ≤ 63 ∧ bits .and .i64 a 63 = (c : Int) := by
  have h : (BitVec.ofInt IntKind.i64.bits a &&& BitVec.ofInt IntKind.i64.bits 63).toNat ≤ 63 := by
    rw [BitVec.toNat_and]
    exact Nat.and_le_right
  refine ⟨(BitVec.ofInt IntKind.i64.bits a &&& BitVec.ofInt IntKind.i64.bits 63).toNat, h, ?_⟩
  show IntKind.i64.wrap (((BitVec.ofInt IntKind.i64.bits a &&& BitVec.ofInt IntKind.i64.bits 63).toNat : Nat) : Int) = _
  rw [wrap_i64_nat _ (by omega)]
def limT (i k : Nat) : List UInt8 := baseS ++ joinE (List.replicate (i - 1) (xraw k))
theorem limT_next (i k : Nat) (h : 1 ≤ i) : limT i k ++ (120 :: 58 :: (List.replicate k 118 ++ [13, 10])) = limT (i + 1) k := by
  unfold limT
  rw [show i + 1 - 1 = (i - 1) + 1 by omega, ← List.replicate_append_replicate, joinE_app, List.append_assoc]
  simp [joinE, xraw]
theorem limT_len (i k : Nat) : (limT i k).length = 25 + (i - 1) * (k + 4) := by
  unfold limT
  rw [List.length_append, joinE_rep, xraw_len]
  rfl
theorem limS_T (n k : Nat) : limT n k ++ [13, 10] = limS n k := by
  unfold limT limS
  rw [List.append_assoc]
def limAt (i k : Nat) : Nat := if 33 ≤ i then 25 + 31 * (k + 4) else 0
theorem limT_small {i k : Nat} (hi : i ≤ 63) (hk : k ≤ 63) : (limT i k).length ≤ 4300 := by
  rw [limT_len]
  have : (i - 1) * (k + 4) ≤ 62 * 67 := Nat.mul_le_mul (by omega) (by omega)
  omega

set_option maxRecDepth 20000 in
set_option maxHeartbeats 8000000 in
theorem limits_walk (x y : Int) (w : World) (hM : ML w) :
    Calls Tryd.prog 5 #[.int .i64 x, .int .i64 y] w fun e w' => e = .returned (.bool true) ∧ Below w.heap.size w w' := by
  obtain ⟨n, hn, en⟩ := and63 x
  obtain ⟨kk, hk, ek⟩ := and63 y
  have HM := hid hM
  clear hM
  go_enter Tryd.func5, Tryd.ntmps5
  go_wp2_with fail
  clear en ek
  go_loop [7, 8, 9] (fun s a i => ∃ (j : Nat), 1 ≤ j ∧ (j ≤ n ∨ j = 1) ∧ i = .int .i64 (j : Int) ∧ s = .string ⟨(limT j kk).toArray⟩ ∧ a = .int .i64 ((limAt j kk : Nat) : Int)) (fun _ _ i => 64 - (intOf i).toNat)
  case atStart => exact ⟨1, Nat.le_refl _, Or.inr rfl, rfl, rfl, rfl⟩
  case round =>
    obtain ⟨j, hj1, hjn, rfl, rfl, rfl⟩ := hrel
    by_cases hlt : j < n
    · have hlt' : (j : Int) < (n : Int) := by omega
      have hTs := limT_small (i := j) (k := kk) (by omega) hk
      have hTl := limT_len j kk
      have HNx := hid (limT_next j kk hj1)
      obtain ⟨xs, hxs⟩ : ∃ xs, xs = limT j kk := ⟨_, rfl⟩
      rw [← hxs] at hTs hTl HNx ⊢
      obtain ⟨T, hT⟩ : ∃ T : ByteArray, T = ⟨xs.toArray⟩ := ⟨_, rfl⟩
      have sT : T.size = xs.length := by rw [hT, size_list]
      rw [← hT]
      have HT := hid hT
      have HAt : Hid ((if j = 32 then T.size else limAt j kk) = limAt (j + 1) kk) := by
        unfold Hid limAt
        by_cases h : j = 32
        · subst h; rw [if_pos rfl, if_pos (by omega), sT, hTl]
        · rw [if_neg h]
          by_cases h3 : 33 ≤ j
          · rw [if_pos h3, if_pos (by omega)]
          · rw [if_neg h3, if_neg (by omega)]
      have n1 : ¬ 9223372036854775807 < T.size + 2 := by omega
      obtain ⟨AJ, hAJ⟩ : ∃ a, a = limAt j kk := ⟨_, rfl⟩
      rw [← hAJ] at HAt ⊢
      have hTs2 : T.size ≤ 4300 := by omega
      clear hxs hT hTs hTl sT hAJ
      by_cases h32 : j = 32
      · have f32 : ((j : Int) == 32) = true := by rw [beq_iff_eq]; omega
        rw [if_pos h32] at HAt
        clear h32
        go_wp2_with fail
        (try rw [decide_eq_true hlt'])
        go_loop [7, 10] (fun s m => ∃ (t : Nat), t ≤ kk ∧ m = .int .i64 (t : Int) ∧ s = .string (T ++ ⟨(120 :: 58 :: List.replicate t 118).toArray⟩)) (fun _ m => kk - (intOf m).toNat)
        case atStart => exact ⟨0, Nat.zero_le _, rfl, rfl⟩
        case round =>
          obtain ⟨t, ht, rfl, rfl⟩ := hrel
          obtain ⟨S, hS⟩ : ∃ S : ByteArray, S = T ++ ⟨(120 :: 58 :: List.replicate t 118).toArray⟩ := ⟨_, rfl⟩
          have hls : (⟨(120 :: 58 :: List.replicate t 118).toArray⟩ : ByteArray).size = t + 2 := by rw [size_list]; simp
          have sS : S.size ≤ 4400 := by rw [hS, ByteArray.size_append, hls]; omega
          rw [← hS]
          have HS := hid hS
          have m1 : ¬ 9223372036854775807 < S.size + 1 := by omega
          have m2 : ¬ 9223372036854775807 < S.size + 2 := by omega
          clear hS hls
          by_cases htk : t < kk
          · have htk' : (t : Int) < (kk : Int) := by omega
            go_wp2
            go_round
            case rel =>
              refine ⟨t + 1, by omega, by go_num, ?_⟩
              rw [HS.out, ByteArray.append_assoc, show (⟨#[118]⟩ : ByteArray) = ⟨[118].toArray⟩ from rfl, str_app, List.replicate_succ']
              rfl
            case measure => simp [intOf]; omega
          · have htk' : ¬ (t : Int) < (kk : Int) := by omega
            have htk2 : t = kk := by omega
            have HFin : Hid (S ++ ⟨#[13, 10]⟩ = ⟨(limT (j + 1) kk).toArray⟩) := by
              unfold Hid
              rw [HS.out, HT.out, htk2, show (⟨#[13, 10]⟩ : ByteArray) = ⟨[13, 10].toArray⟩ from rfl, str_app, str_app, ← HNx.out]
              simp
            clear htk2
            go_wp2
            go_round
            case rel => exact ⟨j + 1, by omega, Or.inl (by omega), by go_num, by rw [← HFin.out], by rw [← HAt.out]⟩
            case measure => simp [intOf]; omega
      · have f32 : ((j : Int) == 32) = false := by rw [beq_eq_false_iff_ne]; omega
        rw [if_neg h32] at HAt
        clear h32
        go_wp2_with fail
        (try rw [decide_eq_true hlt'])
        go_loop [7, 10] (fun s m => ∃ (t : Nat), t ≤ kk ∧ m = .int .i64 (t : Int) ∧ s = .string (T ++ ⟨(120 :: 58 :: List.replicate t 118).toArray⟩)) (fun _ m => kk - (intOf m).toNat)
        case atStart => exact ⟨0, Nat.zero_le _, rfl, rfl⟩
        case round =>
          obtain ⟨t, ht, rfl, rfl⟩ := hrel
          obtain ⟨S, hS⟩ : ∃ S : ByteArray, S = T ++ ⟨(120 :: 58 :: List.replicate t 118).toArray⟩ := ⟨_, rfl⟩
          have hls : (⟨(120 :: 58 :: List.replicate t 118).toArray⟩ : ByteArray).size = t + 2 := by rw [size_list]; simp
          have sS : S.size ≤ 4400 := by rw [hS, ByteArray.size_append, hls]; omega
          rw [← hS]
          have HS := hid hS
          have m1 : ¬ 9223372036854775807 < S.size + 1 := by omega
          have m2 : ¬ 9223372036854775807 < S.size + 2 := by omega
          clear hS hls
          by_cases htk : t < kk
          · have htk' : (t : Int) < (kk : Int) := by omega
            go_wp2
            go_round
            case rel =>
              refine ⟨t + 1, by omega, by go_num, ?_⟩
              rw [HS.out, ByteArray.append_assoc, show (⟨#[118]⟩ : ByteArray) = ⟨[118].toArray⟩ from rfl, str_app, List.replicate_succ']
              rfl
            case measure => simp [intOf]; omega
          · have htk' : ¬ (t : Int) < (kk : Int) := by omega
            have htk2 : t = kk := by omega
            have HFin : Hid (S ++ ⟨#[13, 10]⟩ = ⟨(limT (j + 1) kk).toArray⟩) := by
              unfold Hid
              rw [HS.out, HT.out, htk2, show (⟨#[13, 10]⟩ : ByteArray) = ⟨[13, 10].toArray⟩ from rfl, str_app, str_app, ← HNx.out]
              simp
            clear htk2
            go_wp2
            go_round
            case rel => exact ⟨j + 1, by omega, Or.inl (by omega), by go_num, by rw [← HFin.out], by rw [← HAt.out]⟩
            case measure => simp [intOf]; omega
    · have hlt' : ¬ (j : Int) < (n : Int) := by omega
      have hTn : limT j kk = limT n kk := by
        unfold limT
        rw [show j - 1 = n - 1 by omega]
      have hTs := limT_small (i := n) (k := kk) hn hk
      obtain ⟨T, hT⟩ : ∃ T : ByteArray, T = ⟨(limT j kk).toArray⟩ := ⟨_, rfl⟩
      have sT : T.size = (limT n kk).length := by rw [hT, size_list, hTn]
      rw [← hT]
      have hSS : T ++ ⟨#[13, 10]⟩ = ⟨(limS n kk).toArray⟩ := by
        rw [hT, hTn, show (⟨#[13, 10]⟩ : ByteArray) = ⟨[13, 10].toArray⟩ from rfl, str_app, limS_T]
      have n1 : ¬ 9223372036854775807 < T.size + 2 := by omega
      have hSl : (limS n kk).length = T.size + 2 := by rw [← limS_T, List.length_append, sT]; rfl
      have hP := parse_any (limS n kk) w HM.out (by omega)
      have hLong := fun h => parse_long (s := limS n kk) h
      have hMany := fun h1 h2 => lim_many (n := n) (k := kk) hk h1 h2
      have hFew := fun h1 h2 => lim_few (n := n) (k := kk) hk h1 h2
      rw [← hSS] at hP
      have HA := hid awake_any
      have hAj : limAt j kk = limAt n kk := by unfold limAt; by_cases h : 33 ≤ j <;> (first | rw [if_pos h, if_pos (by omega)] | rw [if_neg h, if_neg (by omega)])
      rw [hAj]
      have hgl := HM.out.lt
      clear hT hTn hSS sT hAj hjn
      by_cases h4 : 4096 < (limS n kk).length
      · rw [hLong h4] at hP
        simp only [hz, strV] at hP
        have h4' : (4096 : Int) < (T.size : Int) + 2 := by omega
        obtain ⟨AA, hAA⟩ : ∃ a, a = limAt n kk := ⟨_, rfl⟩
        rw [← hAA]
        clear hLong hMany hFew hSl h4 hAA
        go_wp2_with fail
        refine hP.mono ?_
        clear hP
        rintro e w1 ⟨v1, rfl, hO1, hB1⟩
        obtain ⟨ao1, cap1, rfl⟩ := hO1.shape
        clear hO1
        have hM1 := HM.out.below hB1 hgl
        have HB1 := hid hB1
        have hBx := fun o => below_alloc w1 o
        have hMx := fun o => hM1.below (hBx o) hM1.lt
        have HMx := hid hMx
        have HBx := hid (fun o => hB1.trans ((hBx o).mono hB1.size))
        clear hB1 hM1 hBx hMx
        go_wp2_with fail
        refine (HA.out _ (HMx.out _)).mono ?_
        clear HA
        rintro e w2 ⟨rfl, hB2⟩
        have HB2 := hid ((HBx.out _).trans (hB2.mono (HBx.out _).size))
        clear hB2
        go_wp2
        go_ret
        exact ⟨rfl, HB2.out⟩
      have h4' : ¬ (4096 : Int) < (T.size : Int) + 2 := by omega
      by_cases h32 : 32 < n
      · have h32' : (32 : Int) < (n : Int) := by omega
        rw [hMany h32 (by omega)] at hP
        simp only [hz, strV] at hP
        rw [show limAt n kk = 25 + 31 * (kk + 4) by unfold limAt; rw [if_pos (by omega)]]
        obtain ⟨AA, hAA⟩ : ∃ a, a = 25 + 31 * (kk + 4) := ⟨_, rfl⟩
        rw [← hAA] at hP ⊢
        clear hLong hMany hFew hSl h4 hAA
        go_wp2_with fail
        refine hP.mono ?_
        clear hP
        rintro e w1 ⟨v1, rfl, hO1, hB1⟩
        obtain ⟨ao1, cap1, rfl⟩ := hO1.shape
        clear hO1
        have hM1 := HM.out.below hB1 hgl
        have hBx := fun o => below_alloc w1 o
        have hMx := fun o => hM1.below (hBx o) hM1.lt
        have HMx := hid hMx
        have HBx := hid (fun o => hB1.trans ((hBx o).mono hB1.size))
        clear hB1 hM1 hBx hMx
        go_wp2_with fail
        refine (HA.out _ (HMx.out _)).mono ?_
        clear HA
        rintro e w2 ⟨rfl, hB2⟩
        have HB2 := hid ((HBx.out _).trans (hB2.mono (HBx.out _).size))
        clear hB2
        go_wp2
        go_ret
        exact ⟨rfl, HB2.out⟩
      have h32' : ¬ (32 : Int) < (n : Int) := by omega
      rw [hFew (by omega) (by omega)] at hP
      simp only [strV] at hP
      obtain ⟨AA, hAA⟩ : ∃ a, a = limAt n kk := ⟨_, rfl⟩
      rw [← hAA]
      obtain ⟨fl, hfl⟩ : ∃ fl, fl = (hostS, ([97] : List UInt8)) :: List.replicate (n - 1) (xpair kk) := ⟨_, rfl⟩
      have hfll : fl.length = n - 1 + 1 := by rw [hfl]; simp
      rw [← hfl] at hP
      have hfm : ((fl.length : Int) == max 1 (n : Int)) = true := by rw [beq_iff_eq, hfll]; omega
      clear hLong hMany hFew hSl h4 hAA hfl hfll
      go_wp2_with fail
      refine hP.mono ?_
      clear hP
      rintro e w1 ⟨v1, rfl, hO1, hB1⟩
      obtain ⟨ao1, cap1, rfl⟩ := hO1.shape
      have hM1 := HM.out.below hB1 hgl
      have hBx := fun o => below_alloc w1 o
      have hMx := fun o => hM1.below (hBx o) hM1.lt
      have HMx := hid hMx
      have HBx := hid (fun o => hB1.trans ((hBx o).mono hB1.size))
      clear hB1 hM1 hBx hMx hO1
      go_wp2_with fail
      refine (HA.out _ (HMx.out _)).mono ?_
      clear HA
      rintro e w2 ⟨rfl, hB2⟩
      have HB2 := hid ((HBx.out _).trans (hB2.mono (HBx.out _).size))
      clear hB2
      go_wp2
      go_ret
      exact ⟨rfl, HB2.out⟩
end Go.Proofs.YtfdjnkjiffdbfaaDoor
