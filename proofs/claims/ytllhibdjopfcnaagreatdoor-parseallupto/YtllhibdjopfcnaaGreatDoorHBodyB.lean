/-
  The body that lengths ask for; the body of a head.
-/
import Derived.Test.YtllhibdjopfcnaaGreatDoorHBody
namespace Go.Proofs.YtllhibdjopfcnaaGreatDoor
open Go.RowKit
set_option linter.unusedVariables false

set_option maxRecDepth 20000 in
set_option maxHeartbeats 1000000 in
theorem lengths_any (v : Value) (l : List (List UInt8)) (w : World) (hS : SeesS w v l) (hne : l ≠ []) (hb : ∀ x ∈ l, x.length ≤ 140737488355328) (hl : l.length ≤ 140737488355328) :
    Calls Tryz.prog 82 #[v] w fun e w' => e = .returned (outB (lenL l)) ∧ Below w.heap.size w w' := by
  obtain ⟨bb, off, ao, cap, rfl, hcap, _, hao, hcell⟩ := hS
  obtain rfl := hao hne
  have hpos : 0 < l.length := List.length_pos_iff.2 hne
  have c0 := hcell 0 hpos
  obtain ⟨x, hx⟩ : ∃ x, x = l.headD [] := ⟨_, rfl⟩
  have hx0 : l[0] = x := by
    rw [hx]
    cases l with
    | nil => simp at hpos
    | cons y r => rfl
  have hxl : x.length ≤ 140737488355328 := by rw [← hx0]; exact hb _ (List.getElem_mem _)
  rw [hx0] at c0
  simp only [strV, Nat.add_zero] at c0
  have hM := madeL_Dg x w hxl
  unfold lenL
  rw [← hx]
  have hpos' : (0 : Int) < (l.length : Int) := by omega
  have h0' : ((l.length : Int) == 0) = false := by rw [beq_eq_false_iff_ne]; omega
  clear hb hx hx0 hne hao
  by_cases h9 : 9 < x.length
  · rw [if_pos (Or.inl h9)]
    have h9' : (9 : Int) < (x.length : Int) := by omega
    clear h9 hM hcell
    go_enter Tryz.func82, Tryz.ntmps82
    go_wp2
    go_ret3
    exact ⟨rfl, Below.refl _ _⟩
  have h9' : ¬ (9 : Int) < (x.length : Int) := by omega
  cases hm : madeL isDg x with
  | false =>
    rw [if_pos (Or.inr rfl)]
    rw [hm] at hM
    clear hcell
    go_enter Tryz.func82, Tryz.ntmps82
    go_wp2_with fail
    refine hM.mono ?_
    clear hM
    rintro e w1 ⟨rfl, rfl⟩
    go_wp2
    go_ret3
    exact ⟨rfl, Below.refl _ _⟩
  | true =>
    rw [if_neg (by simp; omega)]
    rw [hm] at hM
    have HC := hid hcell
    have HD := hid (madeL_all hm)
    obtain ⟨V, hV⟩ : ∃ V, V = (if (l.all (· == x)) = false then ((0 : Int), (0 : Int), (400 : Int)) else if 16384 < numL x then (0, 0, 413) else (1, (numL x : Int), 0)) := ⟨_, rfl⟩
    rw [← hV]
    have HV := hid hV
    clear hcell hV hm
    go_enter Tryz.func82, Tryz.ntmps82
    go_wp2_with fail
    refine hM.mono ?_
    clear hM
    rintro e w1 ⟨rfl, rfl⟩
    go_wp2_with fail
    go_loop [3, 22] (fun z i => ∃ (k : Nat), k ≤ l.length ∧ z = .int .i64 0 ∧ i = .int .i64 (k : Int) ∧ (l.take k).all (· == x) = true) (fun _ i => l.length - (intOf i).toNat)
    case atStart => exact ⟨0, Nat.zero_le _, rfl, rfl, by simp⟩
    case round =>
      obtain ⟨k, hk, rfl, rfl, hall⟩ := hrel
      by_cases hlt : k < l.length
      · have hlt' : (k : Int) < (l.length : Int) := by omega
        have d1 := HC.out k hlt
        unfold strV at d1
        have HY := hid (fun h => all_same_take hlt hall h)
        have HN := hid (fun h => all_same_bad (x := x) hlt h)
        obtain ⟨P, hP⟩ : ∃ P, P = l[k] := ⟨_, rfl⟩
        rw [← hP] at d1 HY HN
        clear hP hall
        cases he : (P == x) with
        | true =>
          have HE := hid (HY.out he)
          clear HY HN
          go_wp2
          go_round
          case rel => exact ⟨k + 1, by omega, rfl, by go_num, HE.out⟩
          case measure => simp [intOf]; omega
        | false =>
          have HE : Hid (V = (0, 0, 400)) := by unfold Hid; rw [HV.out, if_pos (HN.out he)]
          clear HY HN HV
          go_wp2
          go_ret3
          exact ⟨by rw [HE.out]; rfl, Below.refl _ _⟩
      · have hlt' : ¬ (k : Int) < (l.length : Int) := by omega
        rw [List.take_of_length_le (by omega)] at hall
        have HV2 : Hid (V = if 16384 < numL x then ((0 : Int), (0 : Int), (413 : Int)) else (1, (numL x : Int), 0)) := by unfold Hid; rw [HV.out, if_neg (by simp [hall])]
        clear HV hall HC c0
        go_wp2_with fail
        go_loop [3, 32] (fun n i => ∃ (k : Nat), k ≤ x.length ∧ i = .int .i64 (k : Int) ∧ n = .int .i64 ((numL (x.take k) : Nat) : Int)) (fun _ i => x.length - (intOf i).toNat)
        case atStart => exact ⟨0, Nat.zero_le _, rfl, rfl⟩
        case round =>
          obtain ⟨q, hq, rfl, rfl⟩ := hrel
          have hns := numL_small HD.out.1 hq
          have hp10 : 10 ^ q ≤ 10 ^ 9 := Nat.pow_le_pow_right (by omega) (by omega)
          by_cases hql : q < x.length
          · have hql' : (q : Int) < (x.length : Int) := by omega
            have hst := numL_take hql
            have hdg := u8_digit (List.all_eq_true.1 HD.out.1 x[q] (List.getElem_mem _))
            have hdg2 := byteL x[q]
            have i1 := index_byte (⟨x.toArray⟩ : ByteArray) .i64 (q : Int) q rfl (by rw [size_list]; exact hql)
            rw [show (⟨x.toArray⟩ : ByteArray)[q]'(by rw [size_list]; exact hql) = x[q] from rfl] at i1
            obtain ⟨c, hc⟩ : ∃ c, c = x[q] := ⟨_, rfl⟩
            rw [← hc] at hst hdg hdg2 i1
            clear hc
            obtain ⟨n0, hn0⟩ : ∃ n, n = numL (x.take q) := ⟨_, rfl⟩
            rw [← hn0] at hst hns ⊢
            have HST := hid hst
            clear hn0 hst
            go_wp2
            go_round
            case rel => exact ⟨q + 1, by omega, by go_num, by rw [HST.out]; go_num⟩
            case measure => simp [intOf]; omega
          · have hql' : ¬ (q : Int) < (x.length : Int) := by omega
            rw [List.take_of_length_le (by omega)] at hns ⊢
            obtain ⟨n0, hn0⟩ : ∃ n, n = numL x := ⟨_, rfl⟩
            rw [← hn0] at HV2 hns ⊢
            clear hn0
            by_cases hbig : 16384 < n0
            · have hbig' : (16384 : Int) < (n0 : Int) := by omega
              rw [if_pos hbig] at HV2
              clear hbig
              go_wp2
              go_ret3
              exact ⟨by rw [HV2.out]; rfl, Below.refl _ _⟩
            · have hbig' : ¬ (16384 : Int) < (n0 : Int) := by omega
              rw [if_neg hbig] at HV2
              clear hbig
              go_wp2
              go_ret3
              exact ⟨by rw [HV2.out]; rfl, Below.refl _ _⟩
end Go.Proofs.YtllhibdjopfcnaaGreatDoor
