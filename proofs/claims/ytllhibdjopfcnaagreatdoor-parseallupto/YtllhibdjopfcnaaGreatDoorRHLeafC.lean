/-
  The document's: names of fields.
-/
import Derived.Test.YtllhibdjopfcnaaGreatDoorRHLeafB
namespace Go.Proofs.YtllhibdjopfcnaaGreatDoor
open Go.RowKit
set_option linter.unusedVariables false

def signsA : ByteArray := ⟨#[33, 35, 36, 37, 38, 39, 42, 43, 45, 46, 94, 95, 96, 124, 126]⟩
theorem signsA_get : ∀ n : Nat, (h : n < 15) → (signsA[n]'h).toNat = (signs.getD n 0).toNat := by decide
theorem index_sign (q : IntKind) (i : Int) (n : Nat) (hi : i = (n : Int)) (hn : n < 15) (w : World) : (Instr.index 9 (.string { data := #[33, 35, 36, 37, 38, 39, 42, 43, 45, 46, 94, 95, 96, 124, 126] }) (.int q i)).run Tryz.prog w = .ok (.int .u8 (((signs.getD n 0).toNat : Nat) : Int)) w := by
  rw [← signsA_get n hn]
  exact index_byte signsA q i n hi hn w
theorem sign_next (a : UInt8) (m : Nat) (h : m < 15) : (signs.take (m + 1)).contains a = ((signs.take m).contains a || ((a.toNat : Int) == ((signs.getD m 0).toNat : Int))) := by
  have hl : m < signs.length := h
  rw [List.take_succ_eq_append_getElem hl]
  have hg : signs.getD m 0 = signs[m] := by simp [List.getD, hl]
  rw [hg]
  obtain ⟨x, hx⟩ : ∃ x, x = signs[m] := ⟨_, rfl⟩
  rw [← hx]
  have he : ((a.toNat : Int) == (x.toNat : Int)) = (a == x) := by
    by_cases e : a = x
    · subst e; simp
    · have : ¬ (a.toNat : Int) = (x.toNat : Int) := by
        intro h'
        apply e
        exact UInt8.toNat_inj.1 (by omega)
      rw [beq_eq_false_iff_ne.2 this, beq_eq_false_iff_ne.2 e]
  rw [he]
  by_cases e : a = x
  · simp [e]
  · simp [e]
theorem nm_is (a : UInt8) (B : Bool) (h : (isSm a || isLg a || isDg a) = B) : isNm a = (B || signs.contains a) := by
  rw [← h, isNm]
  cases isLg a <;> cases isSm a <;> cases isDg a <;> simp

set_option maxRecDepth 20000 in
set_option maxHeartbeats 4000000 in
theorem rname_any (L : List UInt8) (w : World) (hs : L.length ≤ 140737488355328) :
    Calls Tryz.prog 64 #[.string ⟨L.toArray⟩] w fun e w' => e = .returned (.bool (madeL isNm L)) ∧ w' = w := by
  obtain ⟨s, hse⟩ : ∃ s : ByteArray, s = ⟨L.toArray⟩ := ⟨_, rfl⟩
  have hsz : s.size = L.length := by rw [hse, size_list]
  have hgt : ∀ j (h : j < s.size) (h' : j < L.length), s[j] = L[j] := by subst hse; intro j h h'; rfl
  rw [← hse]
  obtain ⟨V, hV⟩ : ∃ V, V = madeL isNm L := ⟨_, rfl⟩
  rw [← hV]
  have HV := hid hV
  have HZ := hid hsz
  have HG := hid hgt
  clear hV hsz hgt hse
  go_enter Tryz.func64, Tryz.ntmps64
  go_wp2_with fail
  go_loop [4] (fun i => ∃ (k : Nat), k ≤ L.length ∧ i = .int .i64 (k : Int) ∧ (L.take k).all isNm = true) (fun i => L.length - (intOf i).toNat)
  case atStart => exact ⟨0, Nat.zero_le _, rfl, by simp⟩
  case round =>
    obtain ⟨k, hk, rfl, ha⟩ := hrel
    have hsz := HZ.out
    have HA := hid ha
    clear ha
    by_cases hlt : k < L.length
    · have hlt' : (k : Int) < (s.size : Int) := by omega
      have hk1 : k < s.size := by omega
      have i1 := index_byte s .i64 (k : Int) k rfl hk1
      rw [HG.out k hk1 hlt] at i1
      have HB : Hid (isNm L[k] = false → V = false) := by
        unfold Hid
        intro h
        rw [HV.out, madeL, all_take_false hlt h]
        rfl
      have HN : Hid (isNm L[k] = true → (L.take (k + 1)).all isNm = true) := by
        unfold Hid
        intro h
        rw [all_take_succ _ _ _ hlt, HA.out, h]
        rfl
      obtain ⟨a, hae⟩ : ∃ a, a = L[k] := ⟨_, rfl⟩
      rw [← hae] at i1 HB HN
      have la := a.toNat_lt
      clear hae hsz HA
      by_cases r0 : a.toNat ≤ 47
      · have f97 : decide ((97 : Int) ≤ ((a.toNat : Nat) : Int)) = false := by simp; omega
        have f122 : decide (((a.toNat : Nat) : Int) ≤ 122) = true := by simp; omega
        have f65 : decide ((65 : Int) ≤ ((a.toNat : Nat) : Int)) = false := by simp; omega
        have f90 : decide (((a.toNat : Nat) : Int) ≤ 90) = true := by simp; omega
        have f48 : decide ((48 : Int) ≤ ((a.toNat : Nat) : Int)) = false := by simp; omega
        have f57 : decide (((a.toNat : Nat) : Int) ≤ 57) = true := by simp; omega
        have HNm : Hid (isNm a = (false || signs.contains a)) := by
          unfold Hid
          refine nm_is a _ ?_
          have eisSm : isSm a = false := by unfold isSm; rw [decide_eq_false]; omega
          have eisLg : isLg a = false := by unfold isLg; rw [decide_eq_false]; omega
          have eisDg : isDg a = false := by unfold isDg; rw [decide_eq_false]; omega
          rw [eisSm, eisLg, eisDg]
          rfl
        go_wp2_with fail
        (try rw [decide_eq_true hlt'])
        go_loop [6, 7] (fun ok j => ∃ (m : Nat), m ≤ 15 ∧ j = .int .i64 (m : Int) ∧ ok = .bool (false || (signs.take m).contains a)) (fun _ j => 15 - (intOf j).toNat)
        case atStart => exact ⟨0, by omega, rfl, rfl⟩
        case round =>
          obtain ⟨m, hm, rfl, rfl⟩ := hrel
          by_cases hm15 : m < 15
          · have hm' : (m : Int) < 15 := by omega
            have i2 := index_sign .i64 (m : Int) m rfl hm15
            have HS := hid (sign_next a m hm15)
            obtain ⟨o, ho⟩ : ∃ o, o = (false || (signs.take m).contains a) := ⟨_, rfl⟩
            rw [← ho]
            have HO := hid ho
            clear ho
            cases o with
            | true =>
              go_wp2
              go_round
              case rel => exact ⟨m + 1, by omega, by go_num, by rw [HS.out, ← Bool.or_assoc, ← HO.out]; rfl⟩
              case measure => simp [intOf]; omega
            | false =>
              go_wp2
              go_round
              case rel => exact ⟨m + 1, by omega, by go_num, by rw [HS.out, ← Bool.or_assoc, ← HO.out]; rfl⟩
              case measure => simp [intOf]; omega
          · have hm' : ¬ (m : Int) < 15 := by omega
            have hm15' : m = 15 := by omega
            have hno := HNm.out
            rw [show signs = signs.take 15 from rfl, ← hm15'] at hno
            rw [← hno]
            clear hno hm15'
            cases hn : isNm a with
            | true =>
              have HE := hid (HN.out hn)
              clear HB HN
              go_wp2
              go_round
              case rel => exact ⟨k + 1, by omega, by go_num, HE.out⟩
              case measure => simp [intOf]; omega
            | false =>
              have HE := hid (HB.out hn)
              clear HB HN
              go_wp2
              go_ret
              exact ⟨by rw [HE.out]; rfl, rfl⟩
      by_cases r1 : a.toNat ≤ 57
      · have f97 : decide ((97 : Int) ≤ ((a.toNat : Nat) : Int)) = false := by simp; omega
        have f122 : decide (((a.toNat : Nat) : Int) ≤ 122) = true := by simp; omega
        have f65 : decide ((65 : Int) ≤ ((a.toNat : Nat) : Int)) = false := by simp; omega
        have f90 : decide (((a.toNat : Nat) : Int) ≤ 90) = true := by simp; omega
        have f48 : decide ((48 : Int) ≤ ((a.toNat : Nat) : Int)) = true := by simp; omega
        have f57 : decide (((a.toNat : Nat) : Int) ≤ 57) = true := by simp; omega
        have HNm : Hid (isNm a = (true || signs.contains a)) := by
          unfold Hid
          refine nm_is a _ ?_
          have eisSm : isSm a = false := by unfold isSm; rw [decide_eq_false]; omega
          have eisLg : isLg a = false := by unfold isLg; rw [decide_eq_false]; omega
          have eisDg : isDg a = true := by unfold isDg; rw [decide_eq_true]; omega
          rw [eisSm, eisLg, eisDg]
          rfl
        go_wp2_with fail
        (try rw [decide_eq_true hlt'])
        go_loop [6, 7] (fun ok j => ∃ (m : Nat), m ≤ 15 ∧ j = .int .i64 (m : Int) ∧ ok = .bool (true || (signs.take m).contains a)) (fun _ j => 15 - (intOf j).toNat)
        case atStart => exact ⟨0, by omega, rfl, rfl⟩
        case round =>
          obtain ⟨m, hm, rfl, rfl⟩ := hrel
          by_cases hm15 : m < 15
          · have hm' : (m : Int) < 15 := by omega
            have i2 := index_sign .i64 (m : Int) m rfl hm15
            have HS := hid (sign_next a m hm15)
            obtain ⟨o, ho⟩ : ∃ o, o = (true || (signs.take m).contains a) := ⟨_, rfl⟩
            rw [← ho]
            have HO := hid ho
            clear ho
            cases o with
            | true =>
              go_wp2
              go_round
              case rel => exact ⟨m + 1, by omega, by go_num, by rw [HS.out, ← Bool.or_assoc, ← HO.out]; rfl⟩
              case measure => simp [intOf]; omega
            | false =>
              go_wp2
              go_round
              case rel => exact ⟨m + 1, by omega, by go_num, by rw [HS.out, ← Bool.or_assoc, ← HO.out]; rfl⟩
              case measure => simp [intOf]; omega
          · have hm' : ¬ (m : Int) < 15 := by omega
            have hm15' : m = 15 := by omega
            have hno := HNm.out
            rw [show signs = signs.take 15 from rfl, ← hm15'] at hno
            rw [← hno]
            clear hno hm15'
            cases hn : isNm a with
            | true =>
              have HE := hid (HN.out hn)
              clear HB HN
              go_wp2
              go_round
              case rel => exact ⟨k + 1, by omega, by go_num, HE.out⟩
              case measure => simp [intOf]; omega
            | false =>
              have HE := hid (HB.out hn)
              clear HB HN
              go_wp2
              go_ret
              exact ⟨by rw [HE.out]; rfl, rfl⟩
      by_cases r2 : a.toNat ≤ 64
      · have f97 : decide ((97 : Int) ≤ ((a.toNat : Nat) : Int)) = false := by simp; omega
        have f122 : decide (((a.toNat : Nat) : Int) ≤ 122) = true := by simp; omega
        have f65 : decide ((65 : Int) ≤ ((a.toNat : Nat) : Int)) = false := by simp; omega
        have f90 : decide (((a.toNat : Nat) : Int) ≤ 90) = true := by simp; omega
        have f48 : decide ((48 : Int) ≤ ((a.toNat : Nat) : Int)) = true := by simp; omega
        have f57 : decide (((a.toNat : Nat) : Int) ≤ 57) = false := by simp; omega
        have HNm : Hid (isNm a = (false || signs.contains a)) := by
          unfold Hid
          refine nm_is a _ ?_
          have eisSm : isSm a = false := by unfold isSm; rw [decide_eq_false]; omega
          have eisLg : isLg a = false := by unfold isLg; rw [decide_eq_false]; omega
          have eisDg : isDg a = false := by unfold isDg; rw [decide_eq_false]; omega
          rw [eisSm, eisLg, eisDg]
          rfl
        go_wp2_with fail
        (try rw [decide_eq_true hlt'])
        go_loop [6, 7] (fun ok j => ∃ (m : Nat), m ≤ 15 ∧ j = .int .i64 (m : Int) ∧ ok = .bool (false || (signs.take m).contains a)) (fun _ j => 15 - (intOf j).toNat)
        case atStart => exact ⟨0, by omega, rfl, rfl⟩
        case round =>
          obtain ⟨m, hm, rfl, rfl⟩ := hrel
          by_cases hm15 : m < 15
          · have hm' : (m : Int) < 15 := by omega
            have i2 := index_sign .i64 (m : Int) m rfl hm15
            have HS := hid (sign_next a m hm15)
            obtain ⟨o, ho⟩ : ∃ o, o = (false || (signs.take m).contains a) := ⟨_, rfl⟩
            rw [← ho]
            have HO := hid ho
            clear ho
            cases o with
            | true =>
              go_wp2
              go_round
              case rel => exact ⟨m + 1, by omega, by go_num, by rw [HS.out, ← Bool.or_assoc, ← HO.out]; rfl⟩
              case measure => simp [intOf]; omega
            | false =>
              go_wp2
              go_round
              case rel => exact ⟨m + 1, by omega, by go_num, by rw [HS.out, ← Bool.or_assoc, ← HO.out]; rfl⟩
              case measure => simp [intOf]; omega
          · have hm' : ¬ (m : Int) < 15 := by omega
            have hm15' : m = 15 := by omega
            have hno := HNm.out
            rw [show signs = signs.take 15 from rfl, ← hm15'] at hno
            rw [← hno]
            clear hno hm15'
            cases hn : isNm a with
            | true =>
              have HE := hid (HN.out hn)
              clear HB HN
              go_wp2
              go_round
              case rel => exact ⟨k + 1, by omega, by go_num, HE.out⟩
              case measure => simp [intOf]; omega
            | false =>
              have HE := hid (HB.out hn)
              clear HB HN
              go_wp2
              go_ret
              exact ⟨by rw [HE.out]; rfl, rfl⟩
      by_cases r3 : a.toNat ≤ 90
      · have f97 : decide ((97 : Int) ≤ ((a.toNat : Nat) : Int)) = false := by simp; omega
        have f122 : decide (((a.toNat : Nat) : Int) ≤ 122) = true := by simp; omega
        have f65 : decide ((65 : Int) ≤ ((a.toNat : Nat) : Int)) = true := by simp; omega
        have f90 : decide (((a.toNat : Nat) : Int) ≤ 90) = true := by simp; omega
        have f48 : decide ((48 : Int) ≤ ((a.toNat : Nat) : Int)) = true := by simp; omega
        have f57 : decide (((a.toNat : Nat) : Int) ≤ 57) = false := by simp; omega
        have HNm : Hid (isNm a = (true || signs.contains a)) := by
          unfold Hid
          refine nm_is a _ ?_
          have eisSm : isSm a = false := by unfold isSm; rw [decide_eq_false]; omega
          have eisLg : isLg a = true := by unfold isLg; rw [decide_eq_true]; omega
          have eisDg : isDg a = false := by unfold isDg; rw [decide_eq_false]; omega
          rw [eisSm, eisLg, eisDg]
          rfl
        go_wp2_with fail
        (try rw [decide_eq_true hlt'])
        go_loop [6, 7] (fun ok j => ∃ (m : Nat), m ≤ 15 ∧ j = .int .i64 (m : Int) ∧ ok = .bool (true || (signs.take m).contains a)) (fun _ j => 15 - (intOf j).toNat)
        case atStart => exact ⟨0, by omega, rfl, rfl⟩
        case round =>
          obtain ⟨m, hm, rfl, rfl⟩ := hrel
          by_cases hm15 : m < 15
          · have hm' : (m : Int) < 15 := by omega
            have i2 := index_sign .i64 (m : Int) m rfl hm15
            have HS := hid (sign_next a m hm15)
            obtain ⟨o, ho⟩ : ∃ o, o = (true || (signs.take m).contains a) := ⟨_, rfl⟩
            rw [← ho]
            have HO := hid ho
            clear ho
            cases o with
            | true =>
              go_wp2
              go_round
              case rel => exact ⟨m + 1, by omega, by go_num, by rw [HS.out, ← Bool.or_assoc, ← HO.out]; rfl⟩
              case measure => simp [intOf]; omega
            | false =>
              go_wp2
              go_round
              case rel => exact ⟨m + 1, by omega, by go_num, by rw [HS.out, ← Bool.or_assoc, ← HO.out]; rfl⟩
              case measure => simp [intOf]; omega
          · have hm' : ¬ (m : Int) < 15 := by omega
            have hm15' : m = 15 := by omega
            have hno := HNm.out
            rw [show signs = signs.take 15 from rfl, ← hm15'] at hno
            rw [← hno]
            clear hno hm15'
            cases hn : isNm a with
            | true =>
              have HE := hid (HN.out hn)
              clear HB HN
              go_wp2
              go_round
              case rel => exact ⟨k + 1, by omega, by go_num, HE.out⟩
              case measure => simp [intOf]; omega
            | false =>
              have HE := hid (HB.out hn)
              clear HB HN
              go_wp2
              go_ret
              exact ⟨by rw [HE.out]; rfl, rfl⟩
      by_cases r4 : a.toNat ≤ 96
      · have f97 : decide ((97 : Int) ≤ ((a.toNat : Nat) : Int)) = false := by simp; omega
        have f122 : decide (((a.toNat : Nat) : Int) ≤ 122) = true := by simp; omega
        have f65 : decide ((65 : Int) ≤ ((a.toNat : Nat) : Int)) = true := by simp; omega
        have f90 : decide (((a.toNat : Nat) : Int) ≤ 90) = false := by simp; omega
        have f48 : decide ((48 : Int) ≤ ((a.toNat : Nat) : Int)) = true := by simp; omega
        have f57 : decide (((a.toNat : Nat) : Int) ≤ 57) = false := by simp; omega
        have HNm : Hid (isNm a = (false || signs.contains a)) := by
          unfold Hid
          refine nm_is a _ ?_
          have eisSm : isSm a = false := by unfold isSm; rw [decide_eq_false]; omega
          have eisLg : isLg a = false := by unfold isLg; rw [decide_eq_false]; omega
          have eisDg : isDg a = false := by unfold isDg; rw [decide_eq_false]; omega
          rw [eisSm, eisLg, eisDg]
          rfl
        go_wp2_with fail
        (try rw [decide_eq_true hlt'])
        go_loop [6, 7] (fun ok j => ∃ (m : Nat), m ≤ 15 ∧ j = .int .i64 (m : Int) ∧ ok = .bool (false || (signs.take m).contains a)) (fun _ j => 15 - (intOf j).toNat)
        case atStart => exact ⟨0, by omega, rfl, rfl⟩
        case round =>
          obtain ⟨m, hm, rfl, rfl⟩ := hrel
          by_cases hm15 : m < 15
          · have hm' : (m : Int) < 15 := by omega
            have i2 := index_sign .i64 (m : Int) m rfl hm15
            have HS := hid (sign_next a m hm15)
            obtain ⟨o, ho⟩ : ∃ o, o = (false || (signs.take m).contains a) := ⟨_, rfl⟩
            rw [← ho]
            have HO := hid ho
            clear ho
            cases o with
            | true =>
              go_wp2
              go_round
              case rel => exact ⟨m + 1, by omega, by go_num, by rw [HS.out, ← Bool.or_assoc, ← HO.out]; rfl⟩
              case measure => simp [intOf]; omega
            | false =>
              go_wp2
              go_round
              case rel => exact ⟨m + 1, by omega, by go_num, by rw [HS.out, ← Bool.or_assoc, ← HO.out]; rfl⟩
              case measure => simp [intOf]; omega
          · have hm' : ¬ (m : Int) < 15 := by omega
            have hm15' : m = 15 := by omega
            have hno := HNm.out
            rw [show signs = signs.take 15 from rfl, ← hm15'] at hno
            rw [← hno]
            clear hno hm15'
            cases hn : isNm a with
            | true =>
              have HE := hid (HN.out hn)
              clear HB HN
              go_wp2
              go_round
              case rel => exact ⟨k + 1, by omega, by go_num, HE.out⟩
              case measure => simp [intOf]; omega
            | false =>
              have HE := hid (HB.out hn)
              clear HB HN
              go_wp2
              go_ret
              exact ⟨by rw [HE.out]; rfl, rfl⟩
      by_cases r5 : a.toNat ≤ 122
      · have f97 : decide ((97 : Int) ≤ ((a.toNat : Nat) : Int)) = true := by simp; omega
        have f122 : decide (((a.toNat : Nat) : Int) ≤ 122) = true := by simp; omega
        have f65 : decide ((65 : Int) ≤ ((a.toNat : Nat) : Int)) = true := by simp; omega
        have f90 : decide (((a.toNat : Nat) : Int) ≤ 90) = false := by simp; omega
        have f48 : decide ((48 : Int) ≤ ((a.toNat : Nat) : Int)) = true := by simp; omega
        have f57 : decide (((a.toNat : Nat) : Int) ≤ 57) = false := by simp; omega
        have HNm : Hid (isNm a = (true || signs.contains a)) := by
          unfold Hid
          refine nm_is a _ ?_
          have eisSm : isSm a = true := by unfold isSm; rw [decide_eq_true]; omega
          have eisLg : isLg a = false := by unfold isLg; rw [decide_eq_false]; omega
          have eisDg : isDg a = false := by unfold isDg; rw [decide_eq_false]; omega
          rw [eisSm, eisLg, eisDg]
          rfl
        go_wp2_with fail
        (try rw [decide_eq_true hlt'])
        go_loop [6, 7] (fun ok j => ∃ (m : Nat), m ≤ 15 ∧ j = .int .i64 (m : Int) ∧ ok = .bool (true || (signs.take m).contains a)) (fun _ j => 15 - (intOf j).toNat)
        case atStart => exact ⟨0, by omega, rfl, rfl⟩
        case round =>
          obtain ⟨m, hm, rfl, rfl⟩ := hrel
          by_cases hm15 : m < 15
          · have hm' : (m : Int) < 15 := by omega
            have i2 := index_sign .i64 (m : Int) m rfl hm15
            have HS := hid (sign_next a m hm15)
            obtain ⟨o, ho⟩ : ∃ o, o = (true || (signs.take m).contains a) := ⟨_, rfl⟩
            rw [← ho]
            have HO := hid ho
            clear ho
            cases o with
            | true =>
              go_wp2
              go_round
              case rel => exact ⟨m + 1, by omega, by go_num, by rw [HS.out, ← Bool.or_assoc, ← HO.out]; rfl⟩
              case measure => simp [intOf]; omega
            | false =>
              go_wp2
              go_round
              case rel => exact ⟨m + 1, by omega, by go_num, by rw [HS.out, ← Bool.or_assoc, ← HO.out]; rfl⟩
              case measure => simp [intOf]; omega
          · have hm' : ¬ (m : Int) < 15 := by omega
            have hm15' : m = 15 := by omega
            have hno := HNm.out
            rw [show signs = signs.take 15 from rfl, ← hm15'] at hno
            rw [← hno]
            clear hno hm15'
            cases hn : isNm a with
            | true =>
              have HE := hid (HN.out hn)
              clear HB HN
              go_wp2
              go_round
              case rel => exact ⟨k + 1, by omega, by go_num, HE.out⟩
              case measure => simp [intOf]; omega
            | false =>
              have HE := hid (HB.out hn)
              clear HB HN
              go_wp2
              go_ret
              exact ⟨by rw [HE.out]; rfl, rfl⟩
      have f97 : decide ((97 : Int) ≤ ((a.toNat : Nat) : Int)) = true := by simp; omega
      have f122 : decide (((a.toNat : Nat) : Int) ≤ 122) = false := by simp; omega
      have f65 : decide ((65 : Int) ≤ ((a.toNat : Nat) : Int)) = true := by simp; omega
      have f90 : decide (((a.toNat : Nat) : Int) ≤ 90) = false := by simp; omega
      have f48 : decide ((48 : Int) ≤ ((a.toNat : Nat) : Int)) = true := by simp; omega
      have f57 : decide (((a.toNat : Nat) : Int) ≤ 57) = false := by simp; omega
      have HNm : Hid (isNm a = (false || signs.contains a)) := by
        unfold Hid
        refine nm_is a _ ?_
        have eisSm : isSm a = false := by unfold isSm; rw [decide_eq_false]; omega
        have eisLg : isLg a = false := by unfold isLg; rw [decide_eq_false]; omega
        have eisDg : isDg a = false := by unfold isDg; rw [decide_eq_false]; omega
        rw [eisSm, eisLg, eisDg]
        rfl
      go_wp2_with fail
      (try rw [decide_eq_true hlt'])
      go_loop [6, 7] (fun ok j => ∃ (m : Nat), m ≤ 15 ∧ j = .int .i64 (m : Int) ∧ ok = .bool (false || (signs.take m).contains a)) (fun _ j => 15 - (intOf j).toNat)
      case atStart => exact ⟨0, by omega, rfl, rfl⟩
      case round =>
        obtain ⟨m, hm, rfl, rfl⟩ := hrel
        by_cases hm15 : m < 15
        · have hm' : (m : Int) < 15 := by omega
          have i2 := index_sign .i64 (m : Int) m rfl hm15
          have HS := hid (sign_next a m hm15)
          obtain ⟨o, ho⟩ : ∃ o, o = (false || (signs.take m).contains a) := ⟨_, rfl⟩
          rw [← ho]
          have HO := hid ho
          clear ho
          cases o with
          | true =>
            go_wp2
            go_round
            case rel => exact ⟨m + 1, by omega, by go_num, by rw [HS.out, ← Bool.or_assoc, ← HO.out]; rfl⟩
            case measure => simp [intOf]; omega
          | false =>
            go_wp2
            go_round
            case rel => exact ⟨m + 1, by omega, by go_num, by rw [HS.out, ← Bool.or_assoc, ← HO.out]; rfl⟩
            case measure => simp [intOf]; omega
        · have hm' : ¬ (m : Int) < 15 := by omega
          have hm15' : m = 15 := by omega
          have hno := HNm.out
          rw [show signs = signs.take 15 from rfl, ← hm15'] at hno
          rw [← hno]
          clear hno hm15'
          cases hn : isNm a with
          | true =>
            have HE := hid (HN.out hn)
            clear HB HN
            go_wp2
            go_round
            case rel => exact ⟨k + 1, by omega, by go_num, HE.out⟩
            case measure => simp [intOf]; omega
          | false =>
            have HE := hid (HB.out hn)
            clear HB HN
            go_wp2
            go_ret
            exact ⟨by rw [HE.out]; rfl, rfl⟩
    · have hlt' : ¬ (k : Int) < (s.size : Int) := by omega
      have hv : V = decide (1 ≤ L.length) := by
        have := HA.out
        rw [List.take_of_length_le (by omega)] at this
        rw [HV.out, madeL, this]
        cases L <;> simp
      have hv2 : decide ((1 : Int) ≤ (s.size : Int)) = decide (1 ≤ L.length) := by
        by_cases h : 1 ≤ L.length
        · rw [decide_eq_true h, decide_eq_true (by omega)]
        · rw [decide_eq_false h, decide_eq_false (by omega)]
      have HE := hid (hv.trans hv2.symm)
      clear hsz hv hv2
      go_wp2
      go_ret
      exact ⟨by rw [HE.out]; rfl, rfl⟩
end Go.Proofs.YtllhibdjopfcnaaGreatDoor
