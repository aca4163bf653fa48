/-
  The law PortFull.
-/
import Derived.Test.YtahibklmcooanaaOAwakeB
namespace Go.Proofs.Ytahibklmcooanaa
open Go.RowKit
set_option linter.unusedVariables false
set_option linter.unusedSimpArgs false

theorem ofInt_nat (k : Nat) (y : Int) : (BitVec.ofInt k y).toNat = (y % 2 ^ k).toNat := by
  rw [BitVec.toNat_ofInt]
  simp
theorem wrap_i64_nat (n : Nat) (h : n < 9223372036854775808) : IntKind.i64.wrap (n : Int) = n := by
  simp [IntKind.wrap, IntKind.bits, IntKind.signed]
  split <;> omega
theorem and127 (n : Int) : bits .and .i64 n 127 = (((n % 128).toNat : Nat) : Int) := by
  show IntKind.i64.wrap ((BitVec.ofInt 64 n &&& BitVec.ofInt 64 127).toNat : Int) = _
  have e : ((127 : Int) % 2 ^ 64).toNat = 127 := by decide
  have e2 : ∀ m : Nat, m &&& 127 = m % 128 := fun m => Nat.and_two_pow_sub_one_eq_mod m 7
  rw [BitVec.toNat_and, ofInt_nat, ofInt_nat, e, e2, wrap_i64_nat _ (by omega)]
  omega
def mS : Msg := (((0 : Nat) : Int), ⟨#[109]⟩)
theorem pushed_rep (room : Int) (k : Nat) (h : 1 ≤ room) : pushed room (List.replicate (min k room.toNat) mS) mS = List.replicate (min (k + 1) room.toNat) mS := by
  unfold pushed
  by_cases hk : k < room.toNat
  · rw [if_pos (by simp; omega), Nat.min_eq_left (by omega), Nat.min_eq_left (by omega), List.replicate_succ']
  · rw [if_neg (by simp; omega), Nat.min_eq_right (by omega), Nat.min_eq_right (by omega)]
theorem seesOne (V : World) (x : Int) : Sees (V.alloc (.cells #[.int .i64 x] 3)) (.slice (some ⟨V.heap.size, 0, none⟩) 1 1) [x] := by
  refine ⟨V.heap.size, 0, _, 1, rfl, Nat.le_refl _, (fun h => by cases h), fun _ => rfl, fun j hj => ?_⟩
  have : j = 0 := by simp at hj; omega
  subst this
  simp

set_option maxRecDepth 20000 in
set_option maxHeartbeats 4000000 in
theorem full_bad (room many : Int) (w : World) (hr : room < 1 ∨ 64 < room) :
    Calls Try.prog 7 #[.int .i64 room, .int .i64 many] w fun e w' => e = .returned (.bool true) ∧ Below w.heap.size w w' := by
  have hN := hid (new_bad 2 room w (by omega))
  have hA := hid (awake_any w)
  by_cases h1 : room < 1
  · clear hr
    go_enter Try.func7, Try.ntmps7
    go_wp2_with fail
    refine hN.out.mono ?_
    rintro e w1 ⟨rfl, hw1⟩
    subst hw1
    go_wp2_with fail
    refine hA.out.mono ?_
    rintro e w2 ⟨rfl, hB⟩
    have HB := hid hB
    clear hB
    go_wp2
    go_ret
    exact ⟨rfl, HB.out⟩
  · have h2 : 64 < room := by omega
    clear hr
    go_enter Try.func7, Try.ntmps7
    go_wp2_with fail
    refine hN.out.mono ?_
    rintro e w1 ⟨rfl, hw1⟩
    subst hw1
    go_wp2_with fail
    refine hA.out.mono ?_
    rintro e w2 ⟨rfl, hB⟩
    have HB := hid hB
    clear hB
    go_wp2
    go_ret
    exact ⟨rfl, HB.out⟩

set_option maxRecDepth 20000 in
set_option maxHeartbeats 4000000 in
theorem full_good (room many : Int) (w : World) (h1 : 1 ≤ room) (h2 : room ≤ 64) :
    Calls Try.prog 7 #[.int .i64 room, .int .i64 many] w fun e w' => e = .returned (.bool true) ∧ Below w.heap.size w w' := by
  have hN := hid (new_any 2 room w (by decide) (by decide) h1 h2)
  have hPN := eqlP_some_nil
  obtain ⟨N, hNN, hNl⟩ : ∃ N : Nat, bits .and .i64 many 127 = (N : Int) ∧ N ≤ 127 := ⟨_, and127 many, by omega⟩
  go_enter Try.func7, Try.ntmps7
  go_wp2_with fail
  refine hN.out.mono ?_
  clear hN
  rintro e w1 ⟨p, m, rfl, ⟨bx, ql, v, hn, hP1, hB1, hF1⟩, hm⟩
  have hm0 := hm 0 (by decide)
  have hm1 := hm 1 (by decide)
  have H0 : Hid (∃ bx ql v m, ql.length = 2 ∧ PoAt w1 p bx room ql v m ∧ Below w.heap.size w w1 ∧ (∀ k, its p bx ql v k → w.heap.size ≤ k) ∧ m 0 = [] ∧ m 1 = List.replicate (min 0 room.toNat) mS) := hid ⟨bx, ql, v, m, hn, hP1, hB1, hF1, hm0, by rw [hm1]; simp⟩
  clear hn hP1 hB1 hF1 hm hm0 hm1
  go_wp2
  clear hNN
  go_loopw [8] (fun i wr => ∃ k : Nat, k ≤ N ∧ i = .int .i64 k ∧ ∃ bx ql v m, ql.length = 2 ∧ PoAt wr p bx room ql v m ∧ Below w.heap.size w wr ∧ (∀ k, its p bx ql v k → w.heap.size ≤ k) ∧ m 0 = [] ∧ m 1 = List.replicate (min k room.toNat) mS) (fun i _ => N - (intOf i).toNat)
  case atStart => exact ⟨0, Nat.zero_le _, rfl, H0.out⟩
  case round =>
    clear H0 bx ql v m
    obtain ⟨k, hk, rfl, bx, ql, v, m, hn, hP, hB, hF, hm0, hm1⟩ := hrel
    have HP := hid hP
    have HB := hid hB
    have HF := hid hF
    have HN := hid hn
    have HM0 := hid hm0
    have HM1 := hid hm1
    clear hP hB hF hn hm0 hm1
    by_cases hlt : k < N
    · have hltI : (k : Int) < N := by omega
      go_wp2_with fail
      refine (subject_any 0 (by decide) wr).mono ?_
      rintro e w2 ⟨vs2, vo2, rfl, hS2, hB2⟩
      have hn := HN.out
      have hL : lackS [2 * ((0 : Nat) : Int) + 1] 1 = [1] := by rw [lack_other 0 1 (by decide)]; rfl
      have hsend := send_subject p bx room ql v m 0 1 (by omega) (by omega) vs2 vo2 ⟨#[109]⟩ true w2 (HP.out.below hB2) hS2 (by decide)
      rw [comes_open] at hsend
      simp only [if_true] at hsend
      rw [HM1.out, hL] at hsend
      have HB2 := hid (HB.out.trans (hB2.mono HB.out.size))
      have HP2 := hid (HP.out.below hB2)
      have HS := hid hsend
      clear hsend hS2 hB2 hn hL HP HB
      unfold suV at *
      go_wp2_with fail
      refine HS.out.mono ?_
      clear HS
      rintro e w3 ⟨u, rfl, hO3, v3, hP3, hG3, hM3⟩
      have HF3 := hid (its_turn HF.out HB2.out.size hM3)
      have HB3 := hid (bel_turn HB2.out HF.out hG3)
      have HP3 := hid hP3
      have HSM := hid (same_any u (.slice (some ⟨w3.heap.size, 0, none⟩) 1 1) [1] [1] (w3.alloc (.cells #[.int .i64 1] 3)) (hO3.sees.box _) (seesOne w3 1) (by decide) (by decide))
      obtain ⟨ao, nn, cc, huv⟩ : ∃ ao nn cc, u = .slice ao nn cc := by
        obtain ⟨b, off, ao, cap, hv, _⟩ := hO3.sees
        exact ⟨ao, _, cap, hv⟩
      subst huv
      clear hO3 hP3 hG3 hM3 HP2 HF HB2
      go_wp2_with fail
      refine HSM.out.mono ?_
      clear HSM
      rintro e w4 ⟨rfl, hB4⟩
      have hb34 : Below w3.heap.size w3 w4 := (below_alloc w3 _).trans (hB4.mono (by simp))
      have HB4 := hid (HB3.out.trans (hb34.mono HB3.out.size))
      have HP4 := hid (HP3.out.below hb34)
      clear hB4 hb34 HP3 HB3
      go_wp2
      go_roundw
      case rel =>
        refine ⟨k + 1, by omega, by go_num, bx, ql, v3, _, HN.out, HP4.out, HB4.out, HF3.out, ?_, ?_⟩
        · simpa using HM0.out
        · simp only [if_true]
          exact pushed_rep room k h1
      case measure => simp [intOf]; omega
    · have hke : k = N := by omega
      subst hke
      have hltI : ¬ (k : Int) < k := by omega
      have hn := HN.out
      have HL1 := hid (len_yes p bx room ql v m 1 (by omega) wr HP.out)
      have HL0 := hid (len_yes p bx room ql v m 0 (by omega) wr HP.out)
      rw [HM1.out] at HL1
      rw [HM0.out] at HL0
      have hmin : (if room < (k : Int) then room else (k : Int)) = ((min k room.toNat : Nat) : Int) := by split <;> omega
      rw [List.length_replicate] at HL1
      generalize min k room.toNat = M at *
      clear hn
      go_wp2_with fail
      refine HL1.out.mono ?_
      rintro e w2 ⟨rfl, hw2⟩
      subst hw2
      go_wp2_with fail
      refine HL0.out.mono ?_
      rintro e w2 ⟨rfl, hw2⟩
      subst hw2
      go_wp2_with fail
      refine (awake_any _).mono ?_
      rintro e w3 ⟨rfl, hB3⟩
      have HB3 := hid (HB.out.trans (hB3.mono HB.out.size))
      clear hB3
      go_wp2
      go_ret
      exact ⟨rfl, HB3.out⟩
theorem full_walk (room many : Int) (w : World) :
    Calls Try.prog 7 #[.int .i64 room, .int .i64 many] w fun e w' => e = .returned (.bool true) ∧ Below w.heap.size w w' := by
  by_cases h : room < 1 ∨ 64 < room
  · exact full_bad room many w h
  · exact full_good room many w (by omega) (by omega)
end Go.Proofs.Ytahibklmcooanaa
