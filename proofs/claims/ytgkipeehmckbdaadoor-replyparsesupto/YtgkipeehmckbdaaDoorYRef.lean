/-
  The document's: reasons, values, numbers, plain responses, whether two are the same.
-/
import Derived.Test.YtgkipeehmckbdaaDoorYTools
namespace Go.Proofs.YtgkipeehmckbdaaDoor
open Go.RowKit
set_option linter.unusedVariables false

set_option maxRecDepth 20000 in
set_option maxHeartbeats 4000000 in
theorem rreason_any (n : Int) (w : World) : Calls Tryd.prog 10 #[.int .i64 n] w fun e w' => e = .returned (.tuple #[.string ⟨((reasonL n).getD []).toArray⟩, .int .i64 (if (reasonL n).isSome = true then 0 else 3)]) ∧ w = w' := by
  by_cases h0 : n = 200
  · subst h0
    go_enter Tryd.func10, Tryd.ntmps10
    go_wp2
    go_ret2
    exact ⟨rfl, rfl⟩
  have f0 : (n == 200) = false := by rw [beq_eq_false_iff_ne]; exact h0
  by_cases h1 : n = 201
  · subst h1
    clear h0
    go_enter Tryd.func10, Tryd.ntmps10
    go_wp2
    go_ret2
    exact ⟨rfl, rfl⟩
  have f1 : (n == 201) = false := by rw [beq_eq_false_iff_ne]; exact h1
  by_cases h2 : n = 204
  · subst h2
    clear h0 h1
    go_enter Tryd.func10, Tryd.ntmps10
    go_wp2
    go_ret2
    exact ⟨rfl, rfl⟩
  have f2 : (n == 204) = false := by rw [beq_eq_false_iff_ne]; exact h2
  by_cases h3 : n = 400
  · subst h3
    clear h0 h1 h2
    go_enter Tryd.func10, Tryd.ntmps10
    go_wp2
    go_ret2
    exact ⟨rfl, rfl⟩
  have f3 : (n == 400) = false := by rw [beq_eq_false_iff_ne]; exact h3
  by_cases h4 : n = 401
  · subst h4
    clear h0 h1 h2 h3
    go_enter Tryd.func10, Tryd.ntmps10
    go_wp2
    go_ret2
    exact ⟨rfl, rfl⟩
  have f4 : (n == 401) = false := by rw [beq_eq_false_iff_ne]; exact h4
  by_cases h5 : n = 403
  · subst h5
    clear h0 h1 h2 h3 h4
    go_enter Tryd.func10, Tryd.ntmps10
    go_wp2
    go_ret2
    exact ⟨rfl, rfl⟩
  have f5 : (n == 403) = false := by rw [beq_eq_false_iff_ne]; exact h5
  by_cases h6 : n = 404
  · subst h6
    clear h0 h1 h2 h3 h4 h5
    go_enter Tryd.func10, Tryd.ntmps10
    go_wp2
    go_ret2
    exact ⟨rfl, rfl⟩
  have f6 : (n == 404) = false := by rw [beq_eq_false_iff_ne]; exact h6
  by_cases h7 : n = 409
  · subst h7
    clear h0 h1 h2 h3 h4 h5 h6
    go_enter Tryd.func10, Tryd.ntmps10
    go_wp2
    go_ret2
    exact ⟨rfl, rfl⟩
  have f7 : (n == 409) = false := by rw [beq_eq_false_iff_ne]; exact h7
  by_cases h8 : n = 413
  · subst h8
    clear h0 h1 h2 h3 h4 h5 h6 h7
    go_enter Tryd.func10, Tryd.ntmps10
    go_wp2
    go_ret2
    exact ⟨rfl, rfl⟩
  have f8 : (n == 413) = false := by rw [beq_eq_false_iff_ne]; exact h8
  by_cases h9 : n = 431
  · subst h9
    clear h0 h1 h2 h3 h4 h5 h6 h7 h8
    go_enter Tryd.func10, Tryd.ntmps10
    go_wp2
    go_ret2
    exact ⟨rfl, rfl⟩
  have f9 : (n == 431) = false := by rw [beq_eq_false_iff_ne]; exact h9
  by_cases h10 : n = 500
  · subst h10
    clear h0 h1 h2 h3 h4 h5 h6 h7 h8 h9
    go_enter Tryd.func10, Tryd.ntmps10
    go_wp2
    go_ret2
    exact ⟨rfl, rfl⟩
  have f10 : (n == 500) = false := by rw [beq_eq_false_iff_ne]; exact h10
  by_cases h11 : n = 503
  · subst h11
    clear h0 h1 h2 h3 h4 h5 h6 h7 h8 h9 h10
    go_enter Tryd.func10, Tryd.ntmps10
    go_wp2
    go_ret2
    exact ⟨rfl, rfl⟩
  have f11 : (n == 503) = false := by rw [beq_eq_false_iff_ne]; exact h11
  by_cases h12 : n = 505
  · subst h12
    clear h0 h1 h2 h3 h4 h5 h6 h7 h8 h9 h10 h11
    go_enter Tryd.func10, Tryd.ntmps10
    go_wp2
    go_ret2
    exact ⟨rfl, rfl⟩
  have f12 : (n == 505) = false := by rw [beq_eq_false_iff_ne]; exact h12
  have hN : reasonL n = none := by
    simp only [reasonL, reasonT, findR]
    rw [if_neg (Ne.symm h0), if_neg (Ne.symm h1), if_neg (Ne.symm h2), if_neg (Ne.symm h3), if_neg (Ne.symm h4), if_neg (Ne.symm h5), if_neg (Ne.symm h6), if_neg (Ne.symm h7), if_neg (Ne.symm h8), if_neg (Ne.symm h9), if_neg (Ne.symm h10), if_neg (Ne.symm h11), if_neg (Ne.symm h12)]
  rw [hN]
  clear hN h0 h1 h2 h3 h4 h5 h6 h7 h8 h9 h10 h11 h12
  go_enter Tryd.func10, Tryd.ntmps10
  go_wp2
  go_ret2
  exact ⟨rfl, rfl⟩

theorem val_cases (b : UInt8) (Z : Prop) (z1 : ¬ (b.toNat : Int) < 33 → ¬ (126 : Int) < (b.toNat : Int) → isVl b = true → Z) (z2 : (b.toNat : Int) < 33 → ((b.toNat : Int) != 32) = false → isVl b = true → Z)
    (z3 : (b.toNat : Int) < 33 → ((b.toNat : Int) != 32) = true → ((b.toNat : Int) != 9) = false → isVl b = true → Z) (z4 : (b.toNat : Int) < 33 → ((b.toNat : Int) != 32) = true → ((b.toNat : Int) != 9) = true → isVl b = false → Z)
    (z5 : ¬ (b.toNat : Int) < 33 → (126 : Int) < (b.toNat : Int) → ((b.toNat : Int) != 32) = true → ((b.toNat : Int) != 9) = true → isVl b = false → Z) : Z := by
  have e32 : ((b.toNat : Int) != 32) = !decide (b = 32) := by
    have := byteN 32 (by decide) (b := b)
    rw [bne, show ((32 : Int)) = ((32 : Nat) : Int) from rfl, this]
    rfl
  have e9 : ((b.toNat : Int) != 9) = !decide (b = 9) := by
    have := byteN 9 (by decide) (b := b)
    rw [bne, show ((9 : Int)) = ((9 : Nat) : Int) from rfl, this]
    rfl
  by_cases h1 : b.toNat < 33
  · have hv : isVs b = false := by simp [isVs]; omega
    by_cases h2 : b = 32
    · exact z2 (by omega) (by rw [e32, h2]; rfl) (by rw [h2]; rfl)
    · by_cases h3 : b = 9
      · exact z3 (by omega) (by rw [e32]; simp [h2]) (by rw [e9, h3]; rfl) (by rw [h3]; rfl)
      · exact z4 (by omega) (by rw [e32]; simp [h2]) (by rw [e9]; simp [h3]) (isVl_no hv h2 h3)
  · by_cases h2 : b.toNat ≤ 126
    · exact z1 (by omega) (by omega) (isVl_of (by simp [isVs]; omega))
    · have hv : isVs b = false := by simp [isVs]; omega
      have h3 : b ≠ 32 := by intro e; subst e; exact h2 (by decide)
      have h4 : b ≠ 9 := by intro e; subst e; exact h2 (by decide)
      exact z5 (by omega) (by omega) (by rw [e32]; simp [h3]) (by rw [e9]; simp [h4]) (isVl_no hv h3 h4)

theorem eql_list (a b : List UInt8) : (a == b) = decide (a = b) := by
  by_cases h : a = b
  · subst h; simp
  · rw [decide_eq_false h, beq_eq_false_iff_ne]
    exact h
theorem str_eql (a b : List UInt8) : ((⟨a.toArray⟩ : ByteArray).toList == (⟨b.toArray⟩ : ByteArray).toList) = decide (a = b) := by
  rw [toList_str, toList_str]
  by_cases h : a = b
  · subst h; simp
  · rw [decide_eq_false h, beq_eq_false_iff_ne]
    exact h
set_option maxRecDepth 20000 in
set_option maxHeartbeats 2000000 in
theorem rvalue_any (L : List UInt8) (w : World) (hs : L.length ≤ 140737488355328) :
    Calls Tryd.prog 31 #[.string ⟨L.toArray⟩] w fun e w' => e = .returned (.bool (valueY L)) ∧ w = w' := by
  have hTr := rtrim_any L w hs
  have heq : (trimB L == (⟨L.toArray⟩ : ByteArray).toList) = decide (trimB L = L) := by rw [toList_str]; exact eql_list _ _
  obtain ⟨T, hT⟩ : ∃ T, T = trimB L := ⟨_, rfl⟩
  obtain ⟨V, hV⟩ : ∃ V, V = valueY L := ⟨_, rfl⟩
  rw [show Lib.trimS L [32, 9] = trimB L from rfl, ← hT] at hTr
  rw [← hT] at heq
  rw [← hV]
  have HV : Hid (V = (decide (T = L) && L.all isVl)) := by unfold Hid; rw [hV, hT]; rfl
  clear hT hV
  obtain ⟨s, hse⟩ : ∃ s : ByteArray, s = ⟨L.toArray⟩ := ⟨_, rfl⟩
  have hsz : s.size = L.length := by rw [hse, size_list]
  have hgt : ∀ j (h : j < s.size) (h' : j < L.length), s[j] = L[j] := by subst hse; intro j h h'; rfl
  rw [← hse] at hTr heq ⊢
  have HZ := hid hsz
  have HG := hid hgt
  have HTr := hid hTr
  have HEQ := hid heq
  clear hsz hgt hse hTr heq
  go_enter Tryd.func31, Tryd.ntmps31
  go_wp2_with fail
  go_loop [3] (fun i => ∃ (k : Nat), k ≤ L.length ∧ i = .int .i64 (k : Int) ∧ (L.take k).all isVl = true) (fun i => L.length - (intOf i).toNat)
  case atStart => exact ⟨0, Nat.zero_le _, rfl, by simp⟩
  case round =>
    obtain ⟨k, hk, rfl, hall⟩ := hrel
    have hsz := HZ.out
    have HA := hid hall
    clear hall
    by_cases hlt : k < L.length
    · have hlt' : (k : Int) < (s.size : Int) := by omega
      have hk1 : k < s.size := by omega
      have i1 := index_byte s .i64 (k : Int) k rfl hk1
      rw [HG.out k hk1 hlt] at i1
      have HB : Hid (isVl L[k] = false → V = false) := by
        unfold Hid
        intro hb
        rw [HV.out, all_take_false hlt hb]
        simp
      have HN : Hid (isVl L[k] = true → (L.take (k + 1)).all isVl = true) := by
        unfold Hid
        intro hb
        rw [all_take_succ _ _ _ hlt, HA.out, hb]
        rfl
      obtain ⟨b, hb⟩ : ∃ b, b = L[k] := ⟨_, rfl⟩
      rw [← hb] at i1 HB HN
      clear hb hsz
      refine val_cases b _ (fun y1 y2 yb => ?_) (fun y1 y2 yb => ?_) (fun y1 y2 y3 yb => ?_) (fun y1 y2 y3 yb => ?_) (fun y1 y2 y3 y4 yb => ?_)
      · have HE := hid (HN.out yb)
        clear HB HN yb
        go_wp2
        go_round
        case rel => exact ⟨k + 1, by omega, by go_num, HE.out⟩
        case measure => simp [intOf]; omega
      · have HE := hid (HN.out yb)
        clear HB HN yb
        go_wp2
        go_round
        case rel => exact ⟨k + 1, by omega, by go_num, HE.out⟩
        case measure => simp [intOf]; omega
      · have HE := hid (HN.out yb)
        clear HB HN yb
        go_wp2
        go_round
        case rel => exact ⟨k + 1, by omega, by go_num, HE.out⟩
        case measure => simp [intOf]; omega
      · have HE := hid (HB.out yb)
        clear HB HN yb
        go_wp2
        go_ret
        exact ⟨by rw [HE.out]; rfl, rfl⟩
      · have HE := hid (HB.out yb)
        clear HB HN yb
        go_wp2
        go_ret
        exact ⟨by rw [HE.out]; rfl, rfl⟩
    · have hlt' : ¬ (k : Int) < (s.size : Int) := by omega
      have hTr := HTr.out
      have HE : Hid (V = (T == s.toList)) := by
        unfold Hid
        have := HA.out
        rw [List.take_of_length_le (by omega)] at this
        rw [HV.out, this, HEQ.out]
        simp
      clear HA hsz
      go_wp2_with fail
      refine hTr.mono ?_
      clear hTr
      rintro e w1 ⟨rfl, hw1⟩
      subst hw1
      go_wp2
      go_ret
      exact ⟨by rw [HE.out]; rfl, rfl⟩

theorem num_take {L : List UInt8} {k : Nat} (h : k < L.length) : numL (L.take (k + 1)) = 10 * numL (L.take k) + (L[k].toNat - 48) := by
  unfold numL
  rw [List.take_succ_eq_append_getElem h, List.foldl_append]
  rfl
theorem num_lt : ∀ (l : List UInt8), l.all isDg = true → numL l < 10 ^ l.length := by
  intro l
  have key : ∀ (l : List UInt8) (acc k : Nat), l.all isDg = true → acc < 10 ^ k → numA acc l < 10 ^ (k + l.length) := by
    intro l
    induction l with
    | nil => intro acc k _ h; exact h
    | cons b l ih =>
      intro acc k hd h
      rw [List.all_cons, Bool.and_eq_true] at hd
      have hb : 48 ≤ b.toNat ∧ b.toNat ≤ 57 := by simpa [isDg] using hd.1
      have := ih (10 * acc + (b.toNat - 48)) (k + 1) hd.2 (by rw [Nat.pow_succ]; omega)
      rw [List.length_cons, show k + (l.length + 1) = k + 1 + l.length by omega]
      exact this
  intro h
  have := key l 0 0 h (by decide)
  rw [Nat.zero_add] at this
  exact this
theorem num_eight {l : List UInt8} (h : l.all isDg = true) (hl : l.length ≤ 8) : numL l < 100000000 := by
  have := num_lt l h
  have h2 : (10 : Nat) ^ l.length ≤ 10 ^ 8 := Nat.pow_le_pow_right (by decide) hl
  have h3 : (10 : Nat) ^ 8 = 100000000 := by decide
  omega
theorem dg_cases (b : UInt8) (Z : Prop) (z1 : (b.toNat : Int) < 48 → isDg b = false → Z) (z2 : ¬ (b.toNat : Int) < 48 → (57 : Int) < (b.toNat : Int) → isDg b = false → Z) (z3 : ¬ (b.toNat : Int) < 48 → ¬ (57 : Int) < (b.toNat : Int) → isDg b = true → Z) : Z := by
  by_cases h1 : b.toNat < 48
  · exact z1 (by omega) (by simp [isDg]; omega)
  · by_cases h2 : 57 < b.toNat
    · exact z2 (by omega) (by omega) (by simp [isDg]; omega)
    · exact z3 (by omega) (by omega) (by simp [isDg]; omega)
set_option maxRecDepth 20000 in
set_option maxHeartbeats 2000000 in
theorem rdigits_any (L : List UInt8) (w : World) (hs : L.length ≤ 140737488355328) :
    Calls Tryd.prog 27 #[.string ⟨L.toArray⟩] w fun e w' => e = .returned (.int .i64 (digY L)) ∧ w = w' := by
  obtain ⟨V, hV⟩ : ∃ V, V = digY L := ⟨_, rfl⟩
  rw [← hV]
  have HV := hid hV
  clear hV
  obtain ⟨s, hse⟩ : ∃ s : ByteArray, s = ⟨L.toArray⟩ := ⟨_, rfl⟩
  have hsz : s.size = L.length := by rw [hse, size_list]
  have hgt : ∀ j (h : j < s.size) (h' : j < L.length), s[j] = L[j] := by subst hse; intro j h h'; rfl
  rw [← hse]
  have HZ := hid hsz
  have HG := hid hgt
  clear hsz hgt hse
  go_enter Tryd.func27, Tryd.ntmps27
  go_wp2_with fail
  go_loop [3, 4] (fun m i => ∃ (k : Nat) (z : Int), k ≤ L.length ∧ i = .int .i64 (k : Int) ∧ m = .int .i64 z ∧ (L.take k).all isDg = true ∧ (k ≤ 8 → z = (numL (L.take k) : Int))) (fun _ i => L.length - (intOf i).toNat)
  case atStart => exact ⟨0, 0, Nat.zero_le _, rfl, rfl, by simp, fun _ => rfl⟩
  case round =>
    obtain ⟨k, z, hk, rfl, rfl, hall, hnum⟩ := hrel
    have hsz := HZ.out
    have HA := hid hall
    have HNm := hid hnum
    clear hall hnum
    by_cases hlt : k < L.length
    · have hlt' : (k : Int) < (s.size : Int) := by omega
      have hk1 : k < s.size := by omega
      have i1 := index_byte s .i64 (k : Int) k rfl hk1
      rw [HG.out k hk1 hlt] at i1
      have HB : Hid (isDg L[k] = false → V = -1) := by
        unfold Hid
        intro hb
        rw [HV.out, digY, if_neg]
        rw [all_take_false hlt hb]
        simp
      have HN : Hid (isDg L[k] = true → (L.take (k + 1)).all isDg = true) := by
        unfold Hid
        intro hb
        rw [all_take_succ _ _ _ hlt, HA.out, hb]
        rfl
      have HM := hid (num_take hlt)
      obtain ⟨b, hb⟩ : ∃ b, b = L[k] := ⟨_, rfl⟩
      rw [← hb] at i1 HB HN HM
      clear hb hsz
      refine dg_cases b _ (fun y1 yb => ?_) (fun y1 y2 yb => ?_) (fun y1 y2 yb => ?_)
      · have HE := hid (HB.out yb)
        clear HB HN HM HNm yb
        go_wp2
        go_ret
        exact ⟨by rw [HE.out]; rfl, rfl⟩
      · have HE := hid (HB.out yb)
        clear HB HN HM HNm yb
        go_wp2
        go_ret
        exact ⟨by rw [HE.out]; rfl, rfl⟩
      · have HE := hid (HN.out yb)
        have hbd : (b.toNat : Int) - 48 = ((b.toNat - 48 : Nat) : Int) := by omega
        have hbl : b.toNat - 48 ≤ 9 := by omega
        obtain ⟨d, hd⟩ : ∃ d, d = b.toNat - 48 := ⟨_, rfl⟩
        rw [← hd] at hbd hbl HM
        have HD := hid hd
        clear HB HN yb hd
        by_cases h8 : k + 1 ≤ 8
        · have hz := HNm.out (by omega)
          have hzl := num_eight HA.out (by rw [List.length_take]; omega)
          obtain ⟨q, hq⟩ : ∃ q, q = numL (L.take k) := ⟨_, rfl⟩
          rw [← hq] at hz hzl HM
          subst hz
          clear hq HNm
          go_wp2
          go_round
          case rel => exact ⟨k + 1, _, by omega, by go_num, rfl, HE.out, fun _ => by rw [HM.out]; go_num⟩
          case measure => simp [intOf]; omega
        · clear HNm HM
          go_wp2
          go_round
          case rel => exact ⟨k + 1, _, by omega, by go_num, rfl, HE.out, fun h => absurd h h8⟩
          case measure => simp [intOf]; omega
    · have hlt' : ¬ (k : Int) < (s.size : Int) := by omega
      have hkl : k = L.length := by omega
      have HAl : Hid (L.all isDg = true) := by
        unfold Hid
        have := HA.out
        rwa [List.take_of_length_le (by omega)] at this
      by_cases h1 : L.length < 1
      · have g1 : (s.size : Int) < 1 := by omega
        have HE : Hid (V = -1) := by unfold Hid; rw [HV.out, digY, if_neg (by omega)]
        clear HA HNm HAl hsz
        go_wp2
        go_ret
        exact ⟨by rw [HE.out]; rfl, rfl⟩
      · have g1 : ¬ (s.size : Int) < 1 := by omega
        by_cases h8 : 8 < L.length
        · have g2 : (8 : Int) < (s.size : Int) := by omega
          have HE : Hid (V = -1) := by unfold Hid; rw [HV.out, digY, if_neg (by omega)]
          clear HA HNm HAl hsz
          go_wp2
          go_ret
          exact ⟨by rw [HE.out]; rfl, rfl⟩
        · have g2 : ¬ (8 : Int) < (s.size : Int) := by omega
          have HE : Hid (V = z) := by
            unfold Hid
            have := HNm.out (by omega)
            rw [List.take_of_length_le (by omega)] at this
            rw [HV.out, digY, if_pos ⟨HAl.out, by omega, by omega⟩, this]
          clear HA HNm HAl hsz
          go_wp2
          go_ret
          exact ⟨by rw [HE.out]; rfl, rfl⟩
end Go.Proofs.YtgkipeehmckbdaaDoor
