/-
  The request line: the code's.
-/
import Derived.Test.YtllhibdjopfcnaaGreatDoorZHAny
namespace Go.Proofs.YtllhibdjopfcnaaGreatDoor
open Go.RowKit
set_option linter.unusedVariables false

set_option maxRecDepth 20000 in
set_option maxHeartbeats 4000000 in
theorem takeRequest_any (l : List UInt8) (p : Nat) (a b c d : Value) (w : World) (hH : HeadAt w p a b c d) (hs : l.length ≤ 4096) :
    Calls Tryz.prog 103 #[.pointer (some ⟨p, 0, none⟩), .string ⟨l.toArray⟩] w fun e w' => e = .returned (.int .i64 (reqL l).2) ∧ Kept p w.heap.size w w' ∧
      ((reqL l).2 = 0 → HeadAt w' p (strV (reqL l).1.1) (strV (reqL l).1.2.1) (.int .i64 (reqL l).1.2.2.1) d) ∧ ((reqL l).2 ≠ 0 → HeadAt w' p a b c d) := by
  have hC1 := fun w => cut_any l 32 w (by omega)
  obtain ⟨g1, _, g2⟩ := cutC_len 32 l
  have hC2 := fun w => cut_any (cutC 32 l).2.1 32 w (by omega)
  obtain ⟨g3, _, g4⟩ := cutC_len 32 (cutC 32 l).2.1
  have hM := fun w => madeL_Lg (cutC 32 l).1 w (by omega)
  have hT := fun w => madeL_Vs (cutC 32 (cutC 32 l).2.1).1 w (by omega)
  have hV := fun w => minorOf_any (cutC 32 (cutC 32 l).2.1).2.1 w (by omega)
  have hU := fun w => target_any (cutC 32 (cutC 32 l).2.1).1 w (by omega)
  have hF1 := fun w => fresh_any (cutC 32 l).1 w
  have hF2 := fun w => fresh_any (cutC 32 (cutC 32 l).2.1).1 w
  obtain ⟨R, hR⟩ : ∃ R, R = reqL l := ⟨_, rfl⟩
  rw [← hR]
  unfold reqL at hR
  obtain ⟨m, hm⟩ : ∃ x, x = (cutC 32 l).1 := ⟨_, rfl⟩
  obtain ⟨bh, hbh⟩ : ∃ x, x = (cutC 32 l).2.1 := ⟨_, rfl⟩
  obtain ⟨c3, hc3⟩ : ∃ x, x = (cutC 32 l).2.2 := ⟨_, rfl⟩
  rw [← hm, ← hbh] at hR
  rw [← hm, ← hbh, ← hc3] at hC1
  rw [← hm] at hM hF1 g1
  rw [← hbh] at hC2 hT hV hU hF2 g2 g3 g4
  obtain ⟨t, ht⟩ : ∃ x, x = (cutC 32 bh).1 := ⟨_, rfl⟩
  obtain ⟨v, hv⟩ : ∃ x, x = (cutC 32 bh).2.1 := ⟨_, rfl⟩
  obtain ⟨c4, hc4⟩ : ∃ x, x = (cutC 32 bh).2.2 := ⟨_, rfl⟩
  rw [← ht, ← hv] at hR
  rw [← ht, ← hv, ← hc4] at hC2
  rw [← ht] at hT hU hF2 g3
  rw [← hv] at hV g4
  obtain ⟨M, hMe⟩ : ∃ M : ByteArray, M = ⟨m.toArray⟩ := ⟨_, rfl⟩
  have hMs : M.size = m.length := by rw [hMe, size_list]
  rw [← hMe] at hC1 hM hF1
  have HME : Hid (strV m = .string M) := by unfold Hid; rw [hMe, strV]
  have HTE : Hid (strV t = .string ⟨t.toArray⟩) := rfl
  have hpl := hH.lt
  have HH := hid hH
  have HC1 := hid hC1
  have HC2 := hid hC2
  have HM := hid hM
  have HT := hid hT
  have HV := hid hV
  have HU := hid hU
  have HF1 := hid hF1
  have HF2 := hid hF2
  clear hm hbh hc3 ht hv hc4 hMe hC1 hC2 hM hT hV hU hF1 hF2 hH
  by_cases h16 : 16 < m.length
  · have h16' : (16 : Int) < (M.size : Int) := by omega
    have HE : Hid (R = (hz, 400)) := by unfold Hid; rw [hR, if_pos (Or.inl h16)]
    clear hR hMs
    go_enter Tryz.func103, Tryz.ntmps103
    go_wp2_with fail
    refine (HC1.out _).mono ?_
    clear HC1
    rintro e w1 ⟨rfl, n1, hw1⟩
    have HB1 : Hid (Below w.heap.size w w1) := by unfold Hid; rw [hw1]; exact below_drewN' _ _ _
    clear hw1
    go_wp2_with fail
    refine (HC2.out _).mono ?_
    clear HC2
    rintro e w2 ⟨rfl, n2, hw2⟩
    have HB2 : Hid (Below w.heap.size w w2) := by unfold Hid; rw [hw2]; exact below_drewN HB1.out n2
    clear hw2 HB1
    go_wp2
    go_ret
    rw [HE.out]
    exact ⟨rfl, Kept.of_below HB2.out, fun h => absurd h (by decide), fun _ => HH.out.below HB2.out hpl⟩
  have h16' : ¬ (16 : Int) < (M.size : Int) := by omega
  cases hm : madeL isLg m with
  | false =>
    rw [hm] at HM
    have HE : Hid (R = (hz, 400)) := by unfold Hid; rw [hR, if_pos (Or.inr (Or.inl hm))]
    clear hR hMs
    go_enter Tryz.func103, Tryz.ntmps103
    go_wp2_with fail
    refine (HC1.out _).mono ?_
    clear HC1
    rintro e w1 ⟨rfl, n1, hw1⟩
    have HB1 : Hid (Below w.heap.size w w1) := by unfold Hid; rw [hw1]; exact below_drewN' _ _ _
    clear hw1
    go_wp2_with fail
    refine (HC2.out _).mono ?_
    clear HC2
    rintro e w2 ⟨rfl, n2, hw2⟩
    have HB2 : Hid (Below w.heap.size w w2) := by unfold Hid; rw [hw2]; exact below_drewN HB1.out n2
    clear hw2 HB1
    go_wp2_with fail
    refine (HM.out _).mono ?_
    clear HM
    rintro e w3 ⟨rfl, hw3⟩
    subst hw3
    go_wp2
    go_ret
    rw [HE.out]
    exact ⟨rfl, Kept.of_below HB2.out, fun h => absurd h (by decide), fun _ => HH.out.below HB2.out hpl⟩
  | true =>
    rw [hm] at HM
    cases ht : madeL isVs t with
    | false =>
      rw [ht] at HT
      have HE : Hid (R = (hz, 400)) := by unfold Hid; rw [hR, if_pos (Or.inr (Or.inr ht))]
      clear hR hMs
      go_enter Tryz.func103, Tryz.ntmps103
      go_wp2_with fail
      refine (HC1.out _).mono ?_
      clear HC1
      rintro e w1 ⟨rfl, n1, hw1⟩
      have HB1 : Hid (Below w.heap.size w w1) := by unfold Hid; rw [hw1]; exact below_drewN' _ _ _
      clear hw1
      go_wp2_with fail
      refine (HC2.out _).mono ?_
      clear HC2
      rintro e w2 ⟨rfl, n2, hw2⟩
      have HB2 : Hid (Below w.heap.size w w2) := by unfold Hid; rw [hw2]; exact below_drewN HB1.out n2
      clear hw2 HB1
      go_wp2_with fail
      refine (HM.out _).mono ?_
      clear HM
      rintro e w3 ⟨rfl, hw3⟩
      subst hw3
      go_wp2_with fail
      refine (HT.out _).mono ?_
      clear HT
      rintro e w4 ⟨rfl, hw4⟩
      subst hw4
      go_wp2
      go_ret
      rw [HE.out]
      exact ⟨rfl, Kept.of_below HB2.out, fun h => absurd h (by decide), fun _ => HH.out.below HB2.out hpl⟩
    | true =>
      rw [ht] at HT
      rw [if_neg (by rw [hm, ht]; simp; omega)] at hR
      obtain ⟨V, hV⟩ : ∃ V, V = verL v := ⟨_, rfl⟩
      rw [← hV] at HV hR
      clear hV hm ht
      by_cases hv0 : V.2 = 0
      · rw [if_neg (by simp [hv0])] at hR
        obtain ⟨V1, V2⟩ := V
        simp only at hv0
        subst hv0
        obtain ⟨E, hE⟩ : ∃ E, E = (tgt t).err := ⟨_, rfl⟩
        rw [← hE] at HU hR
        clear hE
        by_cases he : E = 0
        · subst he
          have HE : Hid (R = ((m, t, V1, []), 0)) := by unfold Hid; rw [hR, if_neg (by simp)]
          clear hR hMs
          go_enter Tryz.func103, Tryz.ntmps103
          go_wp2_with fail
          refine (HC1.out _).mono ?_
          clear HC1
          rintro e w1 ⟨rfl, n1, hw1⟩
          have HB1 : Hid (Below w.heap.size w w1) := by unfold Hid; rw [hw1]; exact below_drewN' _ _ _
          clear hw1
          go_wp2_with fail
          refine (HC2.out _).mono ?_
          clear HC2
          rintro e w2 ⟨rfl, n2, hw2⟩
          have HB2 : Hid (Below w.heap.size w w2) := by unfold Hid; rw [hw2]; exact below_drewN HB1.out n2
          clear hw2 HB1
          go_wp2_with fail
          refine (HM.out _).mono ?_
          clear HM
          rintro e w3 ⟨rfl, hw3⟩
          subst hw3
          go_wp2_with fail
          refine (HT.out _).mono ?_
          clear HT
          rintro e w4 ⟨rfl, hw4⟩
          subst hw4
          go_wp2_with fail
          refine (HV.out _).mono ?_
          clear HV
          rintro e w5 ⟨rfl, hw5⟩
          subst hw5
          go_wp2_with fail
          refine (HU.out _).mono ?_
          clear HU
          rintro e w6 ⟨v6, rfl, _, hB6⟩
          have HB6 := hid (HB2.out.trans (hB6.mono HB2.out.size))
          clear hB6 HB2
          have hp6 : p < w6.heap.size := Nat.lt_of_lt_of_le hpl HB6.out.size
          have HH6 := hid (HH.out.below HB6.out hpl)
          go_wp2_with fail
          refine (HF1.out _).mono ?_
          clear HF1
          rintro e w7 ⟨rfl, hB7⟩
          have HH7 := hid (HH6.out.below hB7 hp6)
          have HB7 := hid (HB6.out.trans (hB7.mono HB6.out.size))
          clear hB7 HB6 HH6
          go_wp2_with fail
          refine (HF2.out _).mono ?_
          clear HF2
          rintro e w8 ⟨rfl, hB8⟩
          have HH8 := hid (HH7.out.below hB8 HH7.out.lt)
          have HB8 := hid (HB7.out.trans (hB8.mono HB7.out.size))
          clear hB8 HB7 HH7
          obtain ⟨q0, q1, q2, q3, z0, z1, z2, z3⟩ := HH8.out.cells
          have HHF := hid (((HH8.out.store0 (x := .string M)).store1 (x := .string ⟨t.toArray⟩)).store2 (x := .int .i64 V1))
          have HKF : Hid (Kept p w.heap.size w (((w8.setCell ⟨p, 0, none⟩ (.string M)).setCell ⟨p, 1, none⟩ (.string ⟨t.toArray⟩)).setCell ⟨p, 2, none⟩ (.int .i64 V1))) := by
            unfold Hid
            exact (((Kept.of_below HB8.out).trans (Kept.store _ _ _)).trans (Kept.store _ _ _)).trans (Kept.store _ _ _)
          go_wp2
          go_ret
          rw [HE.out]
          exact ⟨rfl, HKF.out, fun _ => by rw [HME.out, HTE.out]; exact HHF.out, fun h => absurd rfl h⟩
        · have he' : (E == 0) = false := by rw [beq_eq_false_iff_ne]; exact he
          have HE : Hid (R = (hz, 400)) := by unfold Hid; rw [hR, if_pos he]
          clear hR hMs
          go_enter Tryz.func103, Tryz.ntmps103
          go_wp2_with fail
          refine (HC1.out _).mono ?_
          clear HC1
          rintro e w1 ⟨rfl, n1, hw1⟩
          have HB1 : Hid (Below w.heap.size w w1) := by unfold Hid; rw [hw1]; exact below_drewN' _ _ _
          clear hw1
          go_wp2_with fail
          refine (HC2.out _).mono ?_
          clear HC2
          rintro e w2 ⟨rfl, n2, hw2⟩
          have HB2 : Hid (Below w.heap.size w w2) := by unfold Hid; rw [hw2]; exact below_drewN HB1.out n2
          clear hw2 HB1
          go_wp2_with fail
          refine (HM.out _).mono ?_
          clear HM
          rintro e w3 ⟨rfl, hw3⟩
          subst hw3
          go_wp2_with fail
          refine (HT.out _).mono ?_
          clear HT
          rintro e w4 ⟨rfl, hw4⟩
          subst hw4
          go_wp2_with fail
          refine (HV.out _).mono ?_
          clear HV
          rintro e w5 ⟨rfl, hw5⟩
          subst hw5
          go_wp2_with fail
          refine (HU.out _).mono ?_
          clear HU
          rintro e w6 ⟨v6, rfl, _, hB6⟩
          have HB6 := hid (HB2.out.trans (hB6.mono HB2.out.size))
          clear hB6 HB2
          go_wp2
          go_ret
          rw [HE.out]
          exact ⟨rfl, Kept.of_below HB6.out, fun h => absurd h (by decide), fun _ => HH.out.below HB6.out hpl⟩
      · rw [if_pos hv0] at hR
        have hv0' : (V.2 == 0) = false := by rw [beq_eq_false_iff_ne]; exact hv0
        have HE := hid hR
        have HN := hid hv0
        clear hR hMs hv0
        go_enter Tryz.func103, Tryz.ntmps103
        go_wp2_with fail
        refine (HC1.out _).mono ?_
        clear HC1
        rintro e w1 ⟨rfl, n1, hw1⟩
        have HB1 : Hid (Below w.heap.size w w1) := by unfold Hid; rw [hw1]; exact below_drewN' _ _ _
        clear hw1
        go_wp2_with fail
        refine (HC2.out _).mono ?_
        clear HC2
        rintro e w2 ⟨rfl, n2, hw2⟩
        have HB2 : Hid (Below w.heap.size w w2) := by unfold Hid; rw [hw2]; exact below_drewN HB1.out n2
        clear hw2 HB1
        go_wp2_with fail
        refine (HM.out _).mono ?_
        clear HM
        rintro e w3 ⟨rfl, hw3⟩
        subst hw3
        go_wp2_with fail
        refine (HT.out _).mono ?_
        clear HT
        rintro e w4 ⟨rfl, hw4⟩
        subst hw4
        go_wp2_with fail
        refine (HV.out _).mono ?_
        clear HV
        rintro e w5 ⟨rfl, hw5⟩
        subst hw5
        go_wp2
        go_ret
        rw [HE.out]
        exact ⟨rfl, Kept.of_below HB2.out, fun h => absurd h HN.out, fun _ => HH.out.below HB2.out hpl⟩
end Go.Proofs.YtllhibdjopfcnaaGreatDoor
