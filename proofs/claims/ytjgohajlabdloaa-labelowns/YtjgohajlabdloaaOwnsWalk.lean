/-
  The walk of LabelOwns.
-/
import Derived.Test.YtjgohajlabdloaaOwnsMath
namespace Go.Proofs.Ytjgohajlabdloaa
open Go.RowKit
set_option linter.unusedVariables false

set_option maxRecDepth 20000 in
set_option maxHeartbeats 2000000 in
theorem owns_walk (a b o : Value) (s i t j own : List Int) (w : World) (h1 : SeesL w a s i) (h2 : SeesL w b t j) (h3 : Sees w o own) (hl : own.length ≤ 4611686018427387904) :
    Calls Try.prog 7 #[a, b, o] w fun e w' => e = .returned (.bool true) ∧ Below w.heap.size w w' := by
  have hA1 := h1
  obtain ⟨u1, x1, rfl, _⟩ := h1
  have hA2 := h2
  obtain ⟨u2, x2, rfl, _⟩ := h2
  obtain ⟨W, hW⟩ : ∃ W, W = (w.alloc (.cells #[u1, x1] 24)).alloc (.cells #[u2, x2] 24) := ⟨_, rfl⟩
  have d1 : SeesL W (.agg #[u1, x1]) s i := by rw [hW]; exact ((hA1.box _).box _)
  have d2 : SeesL W (.agg #[u2, x2]) t j := by rw [hW]; exact ((hA2.box _).box _)
  have hZ : Below w.heap.size w W := by rw [hW]; exact ((below_alloc w _).alloc (by simp) _)
  have HA1 := hid (show Boxed W (w.heap.size) u1 x1 by rw [hW]; exact ((Boxed.new _ _ _).box _))
  have HA2 := hid (show Boxed W (w.heap.size + 1) u2 x2 by rw [hW]; exact (Boxed.new2 _ _ _ _))
  have HZ := hid hZ
  have hsz := hZ.size
  have HW := hid hW
  have HB := hid (Below.refl W.heap.size W)
  have d3 : Sees W o own := by rw [hW]; exact (h3.box _).box _
  have HF := hid (fun w1 (h : Below W.heap.size W w1) => flows_any _ _ o s i t j own w1 (d1.below h) (d2.below h) (d3.below h) hl)
  have HG := hid (fun w1 (h : Below W.heap.size W w1) => refFlows_any _ _ o s i t j own w1 (d1.below h) (d2.below h) (d3.below h) hl)
  have HX := hid (fun w1 (h : Below W.heap.size W w1) v' (xs : List Int) (hs : Sees w1 v' xs) (hn : xs.length ≤ 4611686018427387904) => flows_any _ _ v' s i t j xs w1 (d1.below h) (d2.below h) hs hn)
  have HD3 := hid d3
  have hq := hid (owns_facts (s := s) (i := i) (t := t) (j := j) (own := own))
  have hq2 := hid (flowsL_ok (s := s) (i := i) (t := t) (j := j) (own := own))
  have hq3 := hid (flowsL_ok (s := s) (i := i) (t := t) (j := j) (own := lacksL s i t j))
  have hq4 := hid (flowsL_ok (s := s) (i := i) (t := t) (j := j) (own := sd (own ++ [1, 5, 9])))
  have hq5 := hid (fun h => (flowsE_ok (s := s) (i := i) (t := t) (j := j) (own := own) h).2.2.2)
  clear d1 d2 d3 hA1 hA2 hW hZ h3
  obtain ⟨c1, c2⟩ := HA1.out
  obtain ⟨c3, c4⟩ := HA2.out
  by_cases h0 : flowsE s i t j own = 0
  · obtain ⟨e1, e2, e3, n1, n2⟩ := hq.out h0
    have f1 := hq2.out h0
    have f2 := hq3.out e1
    have f3 := hq4.out e2
    have f4 := hq5.out h0
    have nn : (sd (own ++ [1, 5, 9])).length ≤ 4611686018427387904 := by
      have := length_sd_le (own ++ [1, 5, 9])
      simp at this
      omega
    have hF := hid (fun w1 h => HF.out w1 h)
    rw [h0, f1] at hF
    have hF2 := hid (fun w1 h v' hs hn => HX.out w1 h v' (lacksL s i t j) hs hn)
    rw [e1, f2] at hF2
    have hF3 := hid (fun w1 h v' hs hn => HX.out w1 h v' (sd (own ++ [1, 5, 9])) hs hn)
    rw [e2, f3] at hF3
    have hF4 := hid (fun (x : Int) w1 h v' hs hn => HX.out w1 h v' (lessL (lacksL s i t j) [x]) hs hn)
    have HE3 := hid e3
    clear HF HX HG hq hq2 hq3 hq4 hq5 f1 f2 f3 e1 e2 h0 e3
    generalize lacksL s i t j = U at *
    have HW4 := hid f4
    clear f4
    go_enter Try.func7, Try.ntmps7
    go_wp2_with fail
    rw [← HW.out]
    clear HW
    refine (hF.out _ HB.out).mono ?_
    clear hF c1 c2 c3 c4
    rintro e w1 ⟨u, rfl, hO, h'⟩
    have HB1 := hid (HB.out.trans (h'.mono HB.out.size))
    clear HB h'
    have HB := HB1
    clear HB1
    obtain ⟨b, off, ao, cap, rfl, hcap, _, hao, _⟩ := hO.sees
    have HU := hid hO.sees
    clear hO
    obtain ⟨c1, c2⟩ := HA1.out.below HB.out
    obtain ⟨c3, c4⟩ := HA2.out.below HB.out
    go_wp2_with fail
    refine (hF2.out _ HB.out _ HU.out (by omega)).mono ?_
    clear hF2 c1 c2 c3 c4
    rintro e w2 ⟨v2, rfl, hO2, h'⟩
    have HB1 := hid (HB.out.trans (h'.mono HB.out.size))
    have HU1 := hid (HU.out.below h')
    have HV := hid hO2.sees
    clear HB h' hO2 HU
    have HB := HB1
    have HU := HU1
    clear HB1 HU1
    obtain ⟨c1, c2⟩ := HA1.out.below HB.out
    obtain ⟨c3, c4⟩ := HA2.out.below HB.out
    go_wp2_with fail
    have HBd := hid (Below.drew HB.out)
    have HUd := hid (HU.out.below (Below.drew (Below.refl _ _)))
    have HVd := hid (HV.out.below (Below.drew (Below.refl _ _)))
    clear HB HU HV
    first
      | (go_region_held3 (fun w' => w'.cell? ⟨w.heap.size, 0, none⟩ = some u1 ∧ w'.cell? ⟨w.heap.size, 1, none⟩ = some x1 ∧ w'.cell? ⟨w.heap.size + 1, 0, none⟩ = some u2 ∧ w'.cell? ⟨w.heap.size + 1, 1, none⟩ = some x2)
          (first | (refine ⟨?_, ?_, ?_, ?_⟩ <;> first | assumption | go_keep))
          (first
            | (go_at_call 24; refine (refJoin_any o _ own [1, 5, 9] _ ((HD3.out.below HBd.out).box _) (sees_lit3 _ 1 5 9) (by simp only [List.length_cons, List.length_nil]; omega)).mono ?_
               clear c1 c2 c3 c4
               rintro e w3 ⟨v3, rfl, hO3, h'⟩
               have HB1 := hid ((HBd.out.alloc HBd.out.size _).trans (h'.mono (by simp; have := HBd.out.size; simp at this; omega)))
               have HU1 := hid ((HUd.out.box _).below h')
               have HV1 := hid ((HVd.out.box _).below h')
               have HJ := hid hO3.sees
               clear HBd HUd HVd h' hO3
               obtain ⟨c1, c2⟩ := HA1.out.below HB1.out
               obtain ⟨c3, c4⟩ := HA2.out.below HB1.out
              )
            | (go_at_call 9; refine (hF3.out _ HB1.out _ HJ.out nn).mono ?_
               clear c1 c2 c3 c4 hF3
               rintro e w4 ⟨v4, rfl, hO4, h'⟩
               have HB2 := hid (HB1.out.trans (h'.mono HB1.out.size))
               have HU2 := hid (HU1.out.below h')
               have HV2 := hid (HV1.out.below h')
               have HJ2 := hid hO4.sees
               clear HB1 HU1 HV1 h' hO4 HJ
               obtain ⟨c1, c2⟩ := HA1.out.below HB2.out
               obtain ⟨c3, c4⟩ := HA2.out.below HB2.out
              )))
      | fail
    have HB := HB2
    have HU := HU2
    have HV := HV2
    have HJ := HJ2
    clear HB2 HU2 HV2 HJ2 c1 c2 c3 c4
    go_wp2_with fail
    refine (same_any _ v2 U U _ HU.out HV.out (by omega) (by omega)).mono ?_
    rintro e w5 ⟨he, h'⟩
    rw [show decide (U = U) = true by simp] at he
    subst he
    have HB1 := hid (HB.out.trans (h'.mono HB.out.size))
    have HU1 := hid (HU.out.below h')
    have HJ1 := hid (HJ.out.below h')
    clear HB h' HU HJ
    have HB := HB1
    have HU := HU1
    have HJ := HJ1
    clear HJ1
    clear HB1 HU1
    go_wp2_with fail
    refine (same_any _ v4 U U _ HU.out HJ.out (by omega) (by omega)).mono ?_
    rintro e w6 ⟨he, h'⟩
    rw [show decide (U = U) = true by simp] at he
    subst he
    have HB1 := hid (HB.out.trans (h'.mono HB.out.size))
    have HU1 := hid (HU.out.below h')

    clear HB h' HU 
    have HB := HB1
    have HU := HU1

    clear HB1 HU1
    go_wp2_with fail
    refine (refWithin_any _ o U own _ HU.out (HD3.out.below HB.out) (by omega)).mono ?_
    rintro e w7 ⟨he, h'⟩
    rw [HW4.out] at he
    subst he
    have HB1 := hid (HB.out.trans (h'.mono HB.out.size))
    have HU1 := hid (HU.out.below h')
    clear HB h' HU
    go_wp2
    go_loopw [15] (fun i wr => ∃ k : Nat, k ≤ U.length ∧ i = .int .i64 k ∧ Below W.heap.size W wr ∧ Sees wr (.slice ao U.length cap) U) (fun i _ => U.length - (intOf i).toNat)
    case atStart => exact ⟨0, Nat.zero_le _, rfl, HB1.out, HU1.out⟩
    case round =>
      obtain ⟨k, hk, rfl, hBr, hUr⟩ := hrel
      have HB := hid hBr
      have HU := hid hUr
      clear hBr hUr HB1 HU1
      by_cases hlt : k < U.length
      · have hne : U ≠ [] := by intro h; rw [h] at hlt; simp at hlt
        obtain rfl := hao hne
        clear hao hne
        obtain ⟨x, hx⟩ : ∃ x, x = U.getD k 0 := ⟨_, rfl⟩
        have hxU : x ∈ U := by rw [hx]; simp [List.getD, hlt]
        have HC := hid (sees_cut HU.out hlt)
        rw [← hx] at HC
        have hE := HE3.out x hxU
        have hF5 := hid (fun w1 h v' hs hn => hF4.out x w1 h v' hs hn)
        rw [hE] at hF5
        have hlk := length_lessL U [x]
        have k1 : (k : Int) + 1 ≤ (cap : Int) := by omega
        have k2 : (k : Int) ≤ (k : Int) + 1 := by omega
        have k3 : (0 : Int) ≤ (k : Int) := by omega
        have k4 : (k : Int) < (U.length : Int) := by omega
        have k6 : ¬ cap = k := by omega
        have k5 : IntKind.i64.wrap ((k : Int) + 1) = (k : Int) + 1 := by rw [IntKind.wrap_i64]; omega
        clear hx hxU hE
        obtain ⟨c1, c2⟩ := HA1.out.below HB.out
        obtain ⟨c3, c4⟩ := HA2.out.below HB.out
        go_wp2_with fail
        have HBd := hid (Below.drew HB.out)
        have HUd := hid (HU.out.below (Below.drew (Below.refl _ _)))
        have HCd := hid (HC.out.below (Below.drew (Below.refl _ _)))
        clear HB HU HC
        first
          | (go_region_held3 (fun w' => w'.cell? ⟨w.heap.size, 0, none⟩ = some u1 ∧ w'.cell? ⟨w.heap.size, 1, none⟩ = some x1 ∧ w'.cell? ⟨w.heap.size + 1, 0, none⟩ = some u2 ∧ w'.cell? ⟨w.heap.size + 1, 1, none⟩ = some x2)
              (first | (refine ⟨?_, ?_, ?_, ?_⟩ <;> first | assumption | go_keep))
              (first
                | (go_at_call 26; refine (refLess_any _ _ U [x] _ HUd.out HCd.out (by simp only [List.length_cons, List.length_nil]; omega)).mono ?_
                   clear c1 c2 c3 c4
                   rintro e w8 ⟨v8, rfl, hO8, h'⟩
                   have HB1 := hid (HBd.out.trans (h'.mono HBd.out.size))
                   have HU1 := hid (HUd.out.below h')
                   have HJ := hid hO8.sees
                   clear HBd HUd HCd h' hO8
                   obtain ⟨c1, c2⟩ := HA1.out.below HB1.out
                   obtain ⟨c3, c4⟩ := HA2.out.below HB1.out
                  )
                | (go_at_call 9; refine (hF5.out _ HB1.out _ HJ.out (by omega)).mono ?_
                   clear c1 c2 c3 c4 hF5
                   rintro e w9 ⟨v9, rfl, _, h'⟩
                   have HB2 := hid (HB1.out.trans (h'.mono HB1.out.size))
                   have HU2 := hid (HU1.out.below h')
                   clear HB1 HU1 h' HJ
                   obtain ⟨c1, c2⟩ := HA1.out.below HB2.out
                   obtain ⟨c3, c4⟩ := HA2.out.below HB2.out
                  )))
          | fail
        go_wp2
        go_roundw
        case rel => exact ⟨k + 1, by omega, by go_num, HB2.out, HU2.out⟩
        case measure => simp [intOf]; omega
      · go_wp2_with fail
        refine (awake_any _).mono ?_
        rintro e w10 ⟨rfl, h'⟩
        have HB1 := hid (HB.out.trans (h'.mono HB.out.size))
        clear h'
        go_wp2
        go_ret
        exact ⟨rfl, HZ.out.trans (HB1.out.mono hsz)⟩

  · have h0' : (flowsE s i t j own != 0) = true := by simpa using h0
    generalize flowsE s i t j own = fe at *
    clear hq hq2 hq3 hq4 hq5 HX h0
    go_enter Try.func7, Try.ntmps7
    go_wp2_with fail
    rw [← HW.out]
    clear HW
    refine (HF.out _ HB.out).mono ?_
    clear c1 c2 c3 c4
    rintro e w1 ⟨u, rfl, _, h'⟩
    have HB1 := hid (HB.out.trans (h'.mono HB.out.size))
    clear HB h'
    have HB := HB1
    clear HB1
    obtain ⟨c1, c2⟩ := HA1.out.below HB.out
    obtain ⟨c3, c4⟩ := HA2.out.below HB.out
    go_wp2_with fail
    refine (HG.out _ HB.out).mono ?_
    clear c1 c2 c3 c4
    rintro e w2 ⟨u', rfl, _, h'⟩
    have HB1 := hid (HB.out.trans (h'.mono HB.out.size))
    clear HB h'
    go_wp2_with fail
    refine (awake_any _).mono ?_
    rintro e w10 ⟨rfl, h'⟩
    have HB2 := hid (HB1.out.trans (h'.mono HB1.out.size))
    clear h'
    go_wp2
    go_ret
    exact ⟨rfl, HZ.out.trans (HB2.out.mono hsz)⟩

end Go.Proofs.Ytjgohajlabdloaa
