/-
  The document's single instruction: three ways.
-/
import Derived.Test.YtfnojlgmbfocfaaDoorVOneC
import Derived.BigRegion
namespace Go.Proofs.YtfnojlgmbfocfaaDoor
open Go.RowKit
set_option linter.unusedVariables false
set_option linter.unusedSimpArgs false
set_option maxRecDepth 100000

set_option maxHeartbeats 8000000 in
theorem rone_if (v : Value) (l : List InsL) (k : Nat) (a : Int) (vs vk vb : Value) (st ca : List Int) (b : List Nat) (w : World) (hV : SeesI w v l) (hs : Sees w vs st) (hk : Sees w vk ca) (hbs : SeesN .u8 w vb b) (hkl : k < l.length) (hat : l[k] = (21, a)) (hll : l.length ≤ 1024) (hst : st.length ≤ 64) (hca : ca.length ≤ 32) :
    Calls Tryd.prog 28 #[v, .agg #[.int .i64 (k : Int), vs, vk], .agg #[vb]] w (OneR w vs vk vb (stepL l ⟨(k : Int), st, ca⟩ b)) := by
  obtain ⟨n, hn⟩ : ∃ n, st.length = n := ⟨_, rfl⟩
  obtain ⟨sa, ks, es⟩ : ∃ ao cap, vs = .slice ao n cap := by obtain ⟨_, _, ao, cap, e, _⟩ := hs; exact ⟨ao, cap, by rw [← hn]; exact e⟩
  obtain ⟨cn, hcn⟩ : ∃ cn, ca.length = cn := ⟨_, rfl⟩
  obtain ⟨ak, kk, ek⟩ : ∃ ao cap, vk = .slice ao cn cap := by obtain ⟨_, _, ao, cap, e, _⟩ := hk; exact ⟨ao, cap, by rw [← hcn]; exact e⟩
  have hblt : ∀ bb off ao cap, vb = .slice ao b.length cap → ao = some ⟨bb, off, none⟩ → b ≠ [] → bb < w.heap.size := by
    obtain ⟨b0, o0, ao0, c0, e, _, _, hao, hcell⟩ := hbs
    intro bb off ao cap e1 e2 hne
    rw [e] at e1
    cases e1
    rw [hao hne] at e2
    cases e2
    have h0 : 0 < b.length := by cases b with | nil => exact absurd rfl hne | cons x y => simp
    exact World.block_lt_of_cell? w _ (hcell 0 h0)
  obtain ⟨ab, kb, eb⟩ : ∃ ao cap, vb = .slice ao b.length cap := by obtain ⟨_, _, ao, cap, e, _⟩ := hbs; exact ⟨ao, cap, e⟩
  subst es ek eb
  obtain ⟨hsix, hbel, hsz⟩ := six_new w (k : Int) (.slice sa n ks) (.slice ak cn kk) (.slice ab b.length kb)
  obtain ⟨W, hW⟩ : ∃ W, W = sixW w (k : Int) (.slice sa n ks) (.slice ak cn kk) (.slice ab b.length kb) := ⟨_, rfl⟩
  rw [← hW] at hsix hbel hsz
  unfold sixW at hW
  obtain ⟨a0, a1, a2, _, _, _⟩ := cel3 hsix.b0
  obtain ⟨vb', vo, ao, cap, rfl, hcap, hnil, hao, hcell⟩ := hV
  obtain rfl := hao (by intro e; rw [e] at hkl; simp at hkl)
  obtain ⟨y1, y2⟩ := hcell k hkl
  rw [hat] at y1 y2
  have hne : ((k : Int) == (l.length : Int)) = false := by rw [beq_eq_false_iff_ne]; omega
  have hkI : (k : Int) < (l.length : Int) := by omega
  have hk0 : (0 : Int) ≤ (k : Int) := by omega
  have hkc : k < cap := by omega
  have y1 := (hbel.cell (World.block_lt_of_cell? w _ y1)).trans y1
  have y2 := (hbel.cell (World.block_lt_of_cell? w _ y2)).trans y2
  have hbA := below_alloc W (.cells #[.int .i64 21, .int .i64 a] 57)
  have za0 := (hbA.cell (World.block_lt_of_cell? W _ a0)).trans a0
  have za1 := (hbA.cell (World.block_lt_of_cell? W _ a1)).trans a1
  have za2 := (hbA.cell (World.block_lt_of_cell? W _ a2)).trans a2
  have hC := rcopy_any (.agg #[.int .i64 (k : Int), .slice sa n ks, .slice ak cn kk]) ⟨(k : Int), st, ca⟩ (.slice sa n ks) (.slice ak cn kk) (W.alloc (.cells #[.int .i64 21, .int .i64 a] 57)) ⟨rfl, (hs.below hbel).below hbA, (hk.below hbel).below hbA, by show st.length ≤ _; omega, by show ca.length ≤ _; omega⟩ (by show st.length * 8 ≤ _; omega) (by show ca.length * 8 ≤ _; omega)
  obtain ⟨R, hR⟩ : ∃ R, R = stepL l ⟨(k : Int), st, ca⟩ b := ⟨_, rfl⟩
  rw [← hR]
  have HR := hid hR
  have HS := hid hs
  have HK := hid hk
  have HBS := hid hbs
  have HAT := hid (And.intro hkl hat)
  have HSIX := hid hsix
  have HBEL := hid hbel
  have HSZ := hid hsz
  have HBL := hid hblt
  have HFAR : Hid (b ≠ [] → ∀ bb off ao cap, Value.slice ab b.length kb = .slice ao b.length cap → ao = some ⟨bb, off, none⟩ → bb ≠ w.heap.size + 1 + 1 ∧ bb ≠ w.heap.size + 1 + 1 + 1 ∧ bb ≠ w.heap.size + 1 + 1 + 1 + 1) := hid (fun hne bb off ao cap e1 e2 => by have := hblt bb off ao cap e1 e2 hne; omega)
  have HN := hid hn
  have HCN := hid hcn
  have hcn32 : cn ≤ 32 := by omega
  have hn64 : n ≤ 64 := by omega
  clear hsix hbel hs hk hbs hsz hblt hR hbA hcell hat hn hcn hao
  go_enter Tryd.func28, Tryd.ntmps28
  go_upto_region 2 with fail
  rw [← hW]
  clear hW
  go_wp2_with fail
  refine hC.mono ?_
  clear hC a0 a1 a2 y1 y2 za0 za1 za2
  rintro e w2 ⟨us, uk, rfl, o1, o2, sd, b1⟩
  obtain ⟨u1, m1, eu1, hm1⟩ := o1.shape
  obtain ⟨u2, m2, eu2, hm2⟩ := o2.shape
  have o1' : Owns w2 (W.alloc (.cells #[.int .i64 21, .int .i64 a] 57)).heap.size us st := o1
  have o2' : Owns w2 (W.alloc (.cells #[.int .i64 21, .int .i64 a] 57)).heap.size uk ca := o2
  have hM2 := mid_new HSIX.out HBEL.out HSZ.out o1' o2' sd b1
  change us = .slice u1 st.length m1 at eu1
  change uk = .slice u2 ca.length m2 at eu2
  change st.length ≤ m1 at hm1
  change ca.length ≤ m2 at hm2
  rw [HN.out] at eu1 hm1
  rw [HCN.out] at eu2 hm2
  subst eu1 eu2
  obtain ⟨W2, hW2⟩ : ∃ W2, W2 = w2.alloc (.cells #[.int .i64 (k : Int), .slice u1 n m1, .slice u2 cn m2] 25) := ⟨_, rfl⟩
  rw [← hW2] at hM2
  have HM2 := hid hM2
  have HM1 := hid hm1
  have HM2' := hid hm2
  obtain ⟨⟨ma0, ma1, ma2⟩, ⟨mc0, mc1⟩, ⟨md0, md1, md2, mf0, mf1, mf2⟩, ⟨me0, me1⟩, ⟨mh0, mh1, mh2, mi0, mi1, mi2⟩, ⟨mj0, mj1, mj2⟩, ⟨mp0, mp1, mp2, mq0, mq1, mq2⟩, ⟨mo0, mo1⟩⟩ := hM2.cells
  have HTk := hid (fun W => rtakes_any 21 a (by omega) (by omega) (fun h => by omega) W)
  have htk : tkI (21, a) = 1 := by simp [tkI, effO, effT]
  rw [htk] at HTk
  clear o1 o2 o1' o2' sd b1 hM2 hm1 hm2
  obtain ⟨p, hp⟩ : ∃ p, p = w2.heap.size := ⟨_, rfl⟩
  obtain ⟨q, hq⟩ : ∃ q, q = W.heap.size := ⟨_, rfl⟩
  rw [← hp, ← hq] at HM2
  rw [← hp] at mp0 mp1 mp2 mq0 mq1 mq2
  rw [← hq] at mo0 mo1
  go_upto_region 6 with fail
  rw [← hW2, ← hp, ← hq]
  clear hW2 hp hq
  go_wp2_with fail
  refine (HTk.out _).mono ?_
  rintro e w3 ⟨rfl, b3⟩
  have HM3 := hid (HM2.out.below b3)
  clear b3
  clear ma0 ma1 ma2 mc0 mc1 md0 md1 md2 mf0 mf1 mf2 me0 me1 mh0 mh1 mh2 mi0 mi1 mi2 mj0 mj1 mj2 mp0 mp1 mp2 mq0 mq1 mq2 mo0 mo1
  obtain ⟨⟨ma0, ma1, ma2⟩, ⟨mc0, mc1⟩, ⟨md0, md1, md2, mf0, mf1, mf2⟩, ⟨me0, me1⟩, ⟨mh0, mh1, mh2, mi0, mi1, mi2⟩, ⟨mj0, mj1, mj2⟩, ⟨mp0, mp1, mp2, mq0, mq1, mq2⟩, ⟨mo0, mo1⟩⟩ := HM3.out.cells
  by_cases hnt : (n : Int) < 1
  · have HF : Hid (R = ((4, 0), ⟨(k : Int), st, ca⟩, b)) := hid (by
      rw [HR.out]
      refine step_nofit HAT.out.1 HAT.out.2 ?_
      unfold fitsL
      rw [htk, HN.out, decide_eq_false (by omega)]
      rfl)
    clear HTk htk
    go_wp2
    go_region
    all_goals
      clear ma0 ma1 ma2 mc0 mc1 md0 md1 md2 mf0 mf1 mf2 me0 me1 mh0 mh1 mh2 mi0 mi1 mi2 mj0 mj1 mj2 mp0 mp1 mp2 mq0 mq1 mq2 mo0 mo1
      rename_i hKz
      refine hKz _ _ ?_
      refine wp_ret ?_
      refine bodyPost_ret (v := .tuple #[.agg #[.int .i64 (k : Int), .slice sa n ks, .slice ak cn kk], .agg #[.slice ab b.length kb], .agg #[.int .i64 4, .int .i64 0, .int .i64 0]]) (w := (fill7 w3 w.heap.size (.int .i64 (k : Int)) (.slice sa n ks) (.slice ak cn kk) (.slice ab b.length kb) (.int .i64 4) (.int .i64 0) (.int .i64 0)).drew) (results_ccc (fn := Tryd.f28) (p1 := 6) (p2 := 7) (p3 := 8) rfl _ (fill7 w3 w.heap.size (.int .i64 (k : Int)) (.slice sa n ks) (.slice ak cn kk) (.slice ab b.length kb) (.int .i64 4) (.int .i64 0) (.int .i64 0)).drew (w.heap.size + 1 + 1) (w.heap.size + 1 + 1 + 1) (w.heap.size + 1 + 1 + 1 + 1) 25 39 33 #[.int .i64 (k : Int), .slice sa n ks, .slice ak cn kk] #[.slice ab b.length kb] #[.int .i64 4, .int .i64 0, .int .i64 0] (0, 0) (0, 0) (0, 0) _ _ _ rfl rfl rfl (fill7_getD HM3.out.six (.int .i64 (k : Int)) (.slice sa n ks) (.slice ak cn kk) (.slice ab b.length kb) (.int .i64 4) (.int .i64 0) (.int .i64 0)).1 (fill7_getD HM3.out.six (.int .i64 (k : Int)) (.slice sa n ks) (.slice ak cn kk) (.slice ab b.length kb) (.int .i64 4) (.int .i64 0) (.int .i64 0)).2.1 (fill7_getD HM3.out.six (.int .i64 (k : Int)) (.slice sa n ks) (.slice ak cn kk) (.slice ab b.length kb) (.int .i64 4) (.int .i64 0) (.int .i64 0)).2.2 Tryd.underlying25 rfl Tryd.underlying39 rfl Tryd.underlying33 rfl) rfl ?_
      exact one_old HM3.out.bel HS.out HK.out HBS.out 4 HF.out
  · obtain ⟨g, hg⟩ := own_row HM3.out.os (by have := HN.out; omega)
    subst hg
    have k0 : w3.drew.cell? ⟨p, 1, none⟩ = some (.slice (some ⟨g, 0, none⟩) n m1) ∧ w3.drew.cell? ⟨q, 0, none⟩ = some (.int .i64 21) ∧ w3.drew.cell? ⟨q, 1, none⟩ = some (.int .i64 a) := ⟨mp1, mo0, mo1⟩
    obtain ⟨j, hj⟩ : ∃ j, n = j + 1 := ⟨n - 1, by omega⟩
    have hsub : IntKind.i64.wrap ((n : Int) - (1)) = (j : Int) := by rw [IntKind.wrap_i64]; omega
    have hnj : n - j = 1 := by omega
    have hj0 : (0 : Int) ≤ (j : Int) := by omega
    have hjn : (j : Int) ≤ (n : Int) := by omega
    have hnm : (n : Int) ≤ (m1 : Int) := by have := HM1.out; omega
    have hmj : ¬ m1 = j := by have := HM1.out; omega
    have HJ := hid hj
    clear hj
    go_upto_region 9 with fail
    go_cut [13] (fun x13 wx => x13 = .slice (some ⟨g, j, none⟩) 1 (m1 - j) ∧ Hid (Below w3.heap.size w3 wx))
    case first =>
      clear ma0 ma1 ma2 mc0 mc1 md0 md1 md2 mf0 mf1 mf2 me0 me1 mh0 mh1 mh2 mi0 mi1 mi2 mj0 mj1 mj2 mp0 mp2 mq0 mq1 mq2
      go_region_held3 (fun X => X.cell? ⟨p, 1, none⟩ = some (.slice (some ⟨g, 0, none⟩) n m1) ∧ X.cell? ⟨q, 0, none⟩ = some (.int .i64 21) ∧ X.cell? ⟨q, 1, none⟩ = some (.int .i64 a))
        (first | (with_reducible exact k0) | (with_reducible exact k1))
        (first
          | (go_at_call 36
             refine (HTk.out _).mono ?_
             rintro e' w4 ⟨rfl, b4⟩
             have B4 : Hid (Below w3.heap.size w3 w4) := hid ((Below.drew (Below.refl _ _)).trans b4)
             have k1 : w4.cell? ⟨p, 1, none⟩ = some (.slice (some ⟨g, 0, none⟩) n m1) ∧ w4.cell? ⟨q, 0, none⟩ = some (.int .i64 21) ∧ w4.cell? ⟨q, 1, none⟩ = some (.int .i64 a) := by
               have c := (HM3.out.below B4.out).cells
               exact ⟨c.2.2.2.2.2.2.1.2.1, c.2.2.2.2.2.2.2.1, c.2.2.2.2.2.2.2.2⟩
             clear b4))
      all_goals
        go_wp2
        all_goals
          go_meet
          case rel => exact ⟨(by first | rfl | simp [hmj, hnj, Addr.add] | simp), B4⟩
    case rest =>
      obtain ⟨rfl, HBC⟩ := hcut
      have HM4 := hid (HM3.out.below HBC.out)
      clear HBC
      clear ma0 ma1 ma2 mc0 mc1 md0 md1 md2 mf0 mf1 mf2 me0 me1 mh0 mh1 mh2 mi0 mi1 mi2 mj0 mj1 mj2 mp0 mp1 mp2 mq0 mq1 mq2 mo0 mo1
      obtain ⟨⟨ma0, ma1, ma2⟩, ⟨mc0, mc1⟩, ⟨md0, md1, md2, mf0, mf1, mf2⟩, ⟨me0, me1⟩, ⟨mh0, mh1, mh2, mi0, mi1, mi2⟩, ⟨mj0, mj1, mj2⟩, ⟨mp0, mp1, mp2, mq0, mq1, mq2⟩, ⟨mo0, mo1⟩⟩ := HM4.out.cells
      have HM5 := hid (HM4.out.setPc ((k : Int) + 1))
      obtain ⟨Y, hY⟩ : ∃ Y, Y = wc.setCell ⟨p, 0, none⟩ (.int .i64 ((k : Int) + 1)) := ⟨_, rfl⟩
      rw [← hY] at HM5
      have hwk : IntKind.i64.wrap ((k : Int) + 1) = (k : Int) + 1 := by rw [IntKind.wrap_i64]; omega
      go_upto_region 11 with fail
      rw [← hY]
      clear hY
      clear ma0 ma1 ma2 mc0 mc1 md0 md1 md2 mf0 mf1 mf2 me0 me1 mh0 mh1 mh2 mi0 mi1 mi2 mj0 mj1 mj2 mp0 mp1 mp2 mq0 mq1 mq2 mo0 mo1
      obtain ⟨⟨ma0, ma1, ma2⟩, ⟨mc0, mc1⟩, ⟨md0, md1, md2, mf0, mf1, mf2⟩, ⟨me0, me1⟩, ⟨mh0, mh1, mh2, mi0, mi1, mi2⟩, ⟨mj0, mj1, mj2⟩, ⟨mp0, mp1, mp2, mq0, mq1, mq2⟩, ⟨mo0, mo1⟩⟩ := HM5.out.cells
      have hjm : (j : Int) ≤ (m1 : Int) := by omega
      have htop : topL st 0 = st.getD j 0 := by unfold topL; rw [HN.out, show n - 1 - 0 = j by have := HJ.out; omega]
      obtain ⟨lc0, _⟩ := own_cell HM5.out.os j (by have := HN.out; first | omega | (have := HJ.out; omega))
      obtain ⟨t0, ht0⟩ : ∃ t0, t0 = st.getD j 0 := ⟨_, rfl⟩
      rw [← ht0] at lc0 htop
      have HT0 := hid htop
      clear ht0 htop
      have hput : putL st 1 [] = st.take j := by unfold putL; rw [HN.out, show n - 1 = j by have := HJ.out; omega, List.append_nil]
      have HPUT := hid hput
      clear hput
      have hli : ¬ (64 : Int) < (j : Int) := by omega
      by_cases hz : t0 = 0
      · have f1 : (t0 != 0) = false := by simp [hz]
        have HM7 := hid (HM5.out.cutSt j (by have := HN.out; first | omega | (have := HJ.out; omega)))
        obtain ⟨Z, hZ⟩ : ∃ Z, Z = Y.setCell ⟨p, 1, none⟩ (.slice (some ⟨g, 0, none⟩) j m1) := ⟨_, rfl⟩
        rw [← hZ] at HM7
        have HF : Hid (R = ((0, 0), ⟨(k : Int) + 1, st.take j, ca⟩, b)) := hid (by
          rw [HR.out]
          exact step_done HAT.out.1 HAT.out.2 (by unfold fitsL; rw [htk, HN.out]; simp [lvI, effO, effT]; omega) (by simp [doL, HPUT.out, HT0.out, hz]))
        clear hz
        go_wp2_with fail
        rw [← hZ]
        clear hZ
        clear ma0 ma1 ma2 mc0 mc1 md0 md1 md2 mf0 mf1 mf2 me0 me1 mh0 mh1 mh2 mi0 mi1 mi2 mj0 mj1 mj2 mp0 mp1 mp2 mq0 mq1 mq2 mo0 mo1
        obtain ⟨⟨ma0, ma1, ma2⟩, ⟨mc0, mc1⟩, ⟨md0, md1, md2, mf0, mf1, mf2⟩, ⟨me0, me1⟩, ⟨mh0, mh1, mh2, mi0, mi1, mi2⟩, ⟨mj0, mj1, mj2⟩, ⟨mp0, mp1, mp2, mq0, mq1, mq2⟩, ⟨mo0, mo1⟩⟩ := HM7.out.cells
        go_region
        all_goals
          clear ma0 ma1 ma2 mc0 mc1 md0 md1 md2 mf0 mf1 mf2 me0 me1 mh0 mh1 mh2 mi0 mi1 mi2 mj0 mj1 mj2 mp0 mp1 mp2 mq0 mq1 mq2 mo0 mo1
          rename_i hKz
          refine hKz _ _ ?_
          refine wp_ret ?_
          refine bodyPost_ret (v := .tuple #[.agg #[.int .i64 ((k : Int) + 1), .slice (some ⟨g, 0, none⟩) j m1, .slice u2 cn m2], .agg #[.slice ab b.length kb], .agg #[.int .i64 0, .int .i64 0, .int .i64 0]]) (w := (fill7 Z w.heap.size (.int .i64 ((k : Int) + 1)) (.slice (some ⟨g, 0, none⟩) j m1) (.slice u2 cn m2) (.slice ab b.length kb) (.int .i64 0) (.int .i64 0) (.int .i64 0)).drew) (results_ccc (fn := Tryd.f28) (p1 := 6) (p2 := 7) (p3 := 8) rfl _ (fill7 Z w.heap.size (.int .i64 ((k : Int) + 1)) (.slice (some ⟨g, 0, none⟩) j m1) (.slice u2 cn m2) (.slice ab b.length kb) (.int .i64 0) (.int .i64 0) (.int .i64 0)).drew (w.heap.size + 1 + 1) (w.heap.size + 1 + 1 + 1) (w.heap.size + 1 + 1 + 1 + 1) 25 39 33 #[.int .i64 ((k : Int) + 1), .slice (some ⟨g, 0, none⟩) j m1, .slice u2 cn m2] #[.slice ab b.length kb] #[.int .i64 0, .int .i64 0, .int .i64 0] (0, 0) (0, 0) (0, 0) _ _ _ rfl rfl rfl (fill7_getD HM7.out.six (.int .i64 ((k : Int) + 1)) (.slice (some ⟨g, 0, none⟩) j m1) (.slice u2 cn m2) (.slice ab b.length kb) (.int .i64 0) (.int .i64 0) (.int .i64 0)).1 (fill7_getD HM7.out.six (.int .i64 ((k : Int) + 1)) (.slice (some ⟨g, 0, none⟩) j m1) (.slice u2 cn m2) (.slice ab b.length kb) (.int .i64 0) (.int .i64 0) (.int .i64 0)).2.1 (fill7_getD HM7.out.six (.int .i64 ((k : Int) + 1)) (.slice (some ⟨g, 0, none⟩) j m1) (.slice u2 cn m2) (.slice ab b.length kb) (.int .i64 0) (.int .i64 0) (.int .i64 0)).2.2 Tryd.underlying25 rfl Tryd.underlying39 rfl Tryd.underlying33 rfl) rfl ?_
          exact one_new HM7.out (HBS.out.below HM7.out.bel) HFAR.out (Or.inl rfl) 0 0 HF.out
      · have f1 : (t0 != 0) = true := by simp [hz]
        have hpy := (HM5.out.setPc a).cells.2.2.2.2.2.2.1
        obtain ⟨_, hpy1, _, _, hpy2, _⟩ := hpy
        have HM7 := hid ((HM5.out.setPc a).cutSt j (by have := HN.out; first | omega | (have := HJ.out; omega)))
        obtain ⟨Z, hZ⟩ : ∃ Z, Z = (Y.setCell ⟨p, 0, none⟩ (.int .i64 a)).setCell ⟨p, 1, none⟩ (.slice (some ⟨g, 0, none⟩) j m1) := ⟨_, rfl⟩
        rw [← hZ] at HM7
        have HF : Hid (R = ((0, 0), ⟨a, st.take j, ca⟩, b)) := hid (by
          rw [HR.out]
          exact step_done HAT.out.1 HAT.out.2 (by unfold fitsL; rw [htk, HN.out]; simp [lvI, effO, effT]; omega) (by simp [doL, HPUT.out, HT0.out, hz]))
        clear hz
        go_wp2_with fail
        rw [← hZ]
        clear hZ
        clear ma0 ma1 ma2 mc0 mc1 md0 md1 md2 mf0 mf1 mf2 me0 me1 mh0 mh1 mh2 mi0 mi1 mi2 mj0 mj1 mj2 mp0 mp1 mp2 mq0 mq1 mq2 mo0 mo1
        obtain ⟨⟨ma0, ma1, ma2⟩, ⟨mc0, mc1⟩, ⟨md0, md1, md2, mf0, mf1, mf2⟩, ⟨me0, me1⟩, ⟨mh0, mh1, mh2, mi0, mi1, mi2⟩, ⟨mj0, mj1, mj2⟩, ⟨mp0, mp1, mp2, mq0, mq1, mq2⟩, ⟨mo0, mo1⟩⟩ := HM7.out.cells
        go_region
        all_goals
          clear ma0 ma1 ma2 mc0 mc1 md0 md1 md2 mf0 mf1 mf2 me0 me1 mh0 mh1 mh2 mi0 mi1 mi2 mj0 mj1 mj2 mp0 mp1 mp2 mq0 mq1 mq2 mo0 mo1
          rename_i hKz
          refine hKz _ _ ?_
          refine wp_ret ?_
          refine bodyPost_ret (v := .tuple #[.agg #[.int .i64 (a), .slice (some ⟨g, 0, none⟩) j m1, .slice u2 cn m2], .agg #[.slice ab b.length kb], .agg #[.int .i64 0, .int .i64 0, .int .i64 0]]) (w := (fill7 Z w.heap.size (.int .i64 (a)) (.slice (some ⟨g, 0, none⟩) j m1) (.slice u2 cn m2) (.slice ab b.length kb) (.int .i64 0) (.int .i64 0) (.int .i64 0)).drew) (results_ccc (fn := Tryd.f28) (p1 := 6) (p2 := 7) (p3 := 8) rfl _ (fill7 Z w.heap.size (.int .i64 (a)) (.slice (some ⟨g, 0, none⟩) j m1) (.slice u2 cn m2) (.slice ab b.length kb) (.int .i64 0) (.int .i64 0) (.int .i64 0)).drew (w.heap.size + 1 + 1) (w.heap.size + 1 + 1 + 1) (w.heap.size + 1 + 1 + 1 + 1) 25 39 33 #[.int .i64 (a), .slice (some ⟨g, 0, none⟩) j m1, .slice u2 cn m2] #[.slice ab b.length kb] #[.int .i64 0, .int .i64 0, .int .i64 0] (0, 0) (0, 0) (0, 0) _ _ _ rfl rfl rfl (fill7_getD HM7.out.six (.int .i64 (a)) (.slice (some ⟨g, 0, none⟩) j m1) (.slice u2 cn m2) (.slice ab b.length kb) (.int .i64 0) (.int .i64 0) (.int .i64 0)).1 (fill7_getD HM7.out.six (.int .i64 (a)) (.slice (some ⟨g, 0, none⟩) j m1) (.slice u2 cn m2) (.slice ab b.length kb) (.int .i64 0) (.int .i64 0) (.int .i64 0)).2.1 (fill7_getD HM7.out.six (.int .i64 (a)) (.slice (some ⟨g, 0, none⟩) j m1) (.slice u2 cn m2) (.slice ab b.length kb) (.int .i64 0) (.int .i64 0) (.int .i64 0)).2.2 Tryd.underlying25 rfl Tryd.underlying39 rfl Tryd.underlying33 rfl) rfl ?_
          exact one_new HM7.out (HBS.out.below HM7.out.bel) HFAR.out (Or.inl rfl) 0 0 HF.out
end Go.Proofs.YtfnojlgmbfocfaaDoor

namespace Go.Proofs.YtfnojlgmbfocfaaDoor
open Go.RowKit
set_option linter.unusedVariables false
set_option linter.unusedSimpArgs false
set_option maxRecDepth 100000

set_option maxHeartbeats 8000000 in
theorem rone_call (v : Value) (l : List InsL) (k : Nat) (a : Int) (vs vk vb : Value) (st ca : List Int) (b : List Nat) (w : World) (hV : SeesI w v l) (hs : Sees w vs st) (hk : Sees w vk ca) (hbs : SeesN .u8 w vb b) (hkl : k < l.length) (hat : l[k] = (22, a)) (hll : l.length ≤ 1024) (hst : st.length ≤ 64) (hca : ca.length ≤ 32) :
    Calls Tryd.prog 28 #[v, .agg #[.int .i64 (k : Int), vs, vk], .agg #[vb]] w (OneR w vs vk vb (stepL l ⟨(k : Int), st, ca⟩ b)) := by
  obtain ⟨n, hn⟩ : ∃ n, st.length = n := ⟨_, rfl⟩
  obtain ⟨sa, ks, es⟩ : ∃ ao cap, vs = .slice ao n cap := by obtain ⟨_, _, ao, cap, e, _⟩ := hs; exact ⟨ao, cap, by rw [← hn]; exact e⟩
  obtain ⟨cn, hcn⟩ : ∃ cn, ca.length = cn := ⟨_, rfl⟩
  obtain ⟨ak, kk, ek⟩ : ∃ ao cap, vk = .slice ao cn cap := by obtain ⟨_, _, ao, cap, e, _⟩ := hk; exact ⟨ao, cap, by rw [← hcn]; exact e⟩
  have hblt : ∀ bb off ao cap, vb = .slice ao b.length cap → ao = some ⟨bb, off, none⟩ → b ≠ [] → bb < w.heap.size := by
    obtain ⟨b0, o0, ao0, c0, e, _, _, hao, hcell⟩ := hbs
    intro bb off ao cap e1 e2 hne
    rw [e] at e1
    cases e1
    rw [hao hne] at e2
    cases e2
    have h0 : 0 < b.length := by cases b with | nil => exact absurd rfl hne | cons x y => simp
    exact World.block_lt_of_cell? w _ (hcell 0 h0)
  obtain ⟨ab, kb, eb⟩ : ∃ ao cap, vb = .slice ao b.length cap := by obtain ⟨_, _, ao, cap, e, _⟩ := hbs; exact ⟨ao, cap, e⟩
  subst es ek eb
  obtain ⟨hsix, hbel, hsz⟩ := six_new w (k : Int) (.slice sa n ks) (.slice ak cn kk) (.slice ab b.length kb)
  obtain ⟨W, hW⟩ : ∃ W, W = sixW w (k : Int) (.slice sa n ks) (.slice ak cn kk) (.slice ab b.length kb) := ⟨_, rfl⟩
  rw [← hW] at hsix hbel hsz
  unfold sixW at hW
  obtain ⟨a0, a1, a2, _, _, _⟩ := cel3 hsix.b0
  obtain ⟨vb', vo, ao, cap, rfl, hcap, hnil, hao, hcell⟩ := hV
  obtain rfl := hao (by intro e; rw [e] at hkl; simp at hkl)
  obtain ⟨y1, y2⟩ := hcell k hkl
  rw [hat] at y1 y2
  have hne : ((k : Int) == (l.length : Int)) = false := by rw [beq_eq_false_iff_ne]; omega
  have hkI : (k : Int) < (l.length : Int) := by omega
  have hk0 : (0 : Int) ≤ (k : Int) := by omega
  have hkc : k < cap := by omega
  have y1 := (hbel.cell (World.block_lt_of_cell? w _ y1)).trans y1
  have y2 := (hbel.cell (World.block_lt_of_cell? w _ y2)).trans y2
  have hbA := below_alloc W (.cells #[.int .i64 22, .int .i64 a] 57)
  have za0 := (hbA.cell (World.block_lt_of_cell? W _ a0)).trans a0
  have za1 := (hbA.cell (World.block_lt_of_cell? W _ a1)).trans a1
  have za2 := (hbA.cell (World.block_lt_of_cell? W _ a2)).trans a2
  have hC := rcopy_any (.agg #[.int .i64 (k : Int), .slice sa n ks, .slice ak cn kk]) ⟨(k : Int), st, ca⟩ (.slice sa n ks) (.slice ak cn kk) (W.alloc (.cells #[.int .i64 22, .int .i64 a] 57)) ⟨rfl, (hs.below hbel).below hbA, (hk.below hbel).below hbA, by show st.length ≤ _; omega, by show ca.length ≤ _; omega⟩ (by show st.length * 8 ≤ _; omega) (by show ca.length * 8 ≤ _; omega)
  obtain ⟨R, hR⟩ : ∃ R, R = stepL l ⟨(k : Int), st, ca⟩ b := ⟨_, rfl⟩
  rw [← hR]
  have HR := hid hR
  have HS := hid hs
  have HK := hid hk
  have HBS := hid hbs
  have HAT := hid (And.intro hkl hat)
  have HSIX := hid hsix
  have HBEL := hid hbel
  have HSZ := hid hsz
  have HBL := hid hblt
  have HFAR : Hid (b ≠ [] → ∀ bb off ao cap, Value.slice ab b.length kb = .slice ao b.length cap → ao = some ⟨bb, off, none⟩ → bb ≠ w.heap.size + 1 + 1 ∧ bb ≠ w.heap.size + 1 + 1 + 1 ∧ bb ≠ w.heap.size + 1 + 1 + 1 + 1) := hid (fun hne bb off ao cap e1 e2 => by have := hblt bb off ao cap e1 e2 hne; omega)
  have HN := hid hn
  have HCN := hid hcn
  have hcn32 : cn ≤ 32 := by omega
  have hn64 : n ≤ 64 := by omega
  clear hsix hbel hs hk hbs hsz hblt hR hbA hcell hat hn hcn hao
  go_enter Tryd.func28, Tryd.ntmps28
  go_upto_region 2 with fail
  rw [← hW]
  clear hW
  go_wp2_with fail
  refine hC.mono ?_
  clear hC a0 a1 a2 y1 y2 za0 za1 za2
  rintro e w2 ⟨us, uk, rfl, o1, o2, sd, b1⟩
  obtain ⟨u1, m1, eu1, hm1⟩ := o1.shape
  obtain ⟨u2, m2, eu2, hm2⟩ := o2.shape
  have o1' : Owns w2 (W.alloc (.cells #[.int .i64 22, .int .i64 a] 57)).heap.size us st := o1
  have o2' : Owns w2 (W.alloc (.cells #[.int .i64 22, .int .i64 a] 57)).heap.size uk ca := o2
  have hM2 := mid_new HSIX.out HBEL.out HSZ.out o1' o2' sd b1
  change us = .slice u1 st.length m1 at eu1
  change uk = .slice u2 ca.length m2 at eu2
  change st.length ≤ m1 at hm1
  change ca.length ≤ m2 at hm2
  rw [HN.out] at eu1 hm1
  rw [HCN.out] at eu2 hm2
  subst eu1 eu2
  obtain ⟨W2, hW2⟩ : ∃ W2, W2 = w2.alloc (.cells #[.int .i64 (k : Int), .slice u1 n m1, .slice u2 cn m2] 25) := ⟨_, rfl⟩
  rw [← hW2] at hM2
  have HM2 := hid hM2
  have HM1 := hid hm1
  have HM2' := hid hm2
  obtain ⟨⟨ma0, ma1, ma2⟩, ⟨mc0, mc1⟩, ⟨md0, md1, md2, mf0, mf1, mf2⟩, ⟨me0, me1⟩, ⟨mh0, mh1, mh2, mi0, mi1, mi2⟩, ⟨mj0, mj1, mj2⟩, ⟨mp0, mp1, mp2, mq0, mq1, mq2⟩, ⟨mo0, mo1⟩⟩ := hM2.cells
  have HTk := hid (fun W => rtakes_any 22 a (by omega) (by omega) (fun h => by omega) W)
  have htk : tkI (22, a) = 0 := by simp [tkI, effO, effT]
  rw [htk] at HTk
  clear o1 o2 o1' o2' sd b1 hM2 hm1 hm2
  obtain ⟨p, hp⟩ : ∃ p, p = w2.heap.size := ⟨_, rfl⟩
  obtain ⟨q, hq⟩ : ∃ q, q = W.heap.size := ⟨_, rfl⟩
  rw [← hp, ← hq] at HM2
  rw [← hp] at mp0 mp1 mp2 mq0 mq1 mq2
  rw [← hq] at mo0 mo1
  go_upto_region 6 with fail
  rw [← hW2, ← hp, ← hq]
  clear hW2 hp hq
  go_wp2_with fail
  refine (HTk.out _).mono ?_
  rintro e w3 ⟨rfl, b3⟩
  have HM3 := hid (HM2.out.below b3)
  clear b3
  clear ma0 ma1 ma2 mc0 mc1 md0 md1 md2 mf0 mf1 mf2 me0 me1 mh0 mh1 mh2 mi0 mi1 mi2 mj0 mj1 mj2 mp0 mp1 mp2 mq0 mq1 mq2 mo0 mo1
  obtain ⟨⟨ma0, ma1, ma2⟩, ⟨mc0, mc1⟩, ⟨md0, md1, md2, mf0, mf1, mf2⟩, ⟨me0, me1⟩, ⟨mh0, mh1, mh2, mi0, mi1, mi2⟩, ⟨mj0, mj1, mj2⟩, ⟨mp0, mp1, mp2, mq0, mq1, mq2⟩, ⟨mo0, mo1⟩⟩ := HM3.out.cells
  have k0 : w3.drew.cell? ⟨p, 1, none⟩ = some (.slice u1 n m1) ∧ w3.drew.cell? ⟨q, 0, none⟩ = some (.int .i64 22) ∧ w3.drew.cell? ⟨q, 1, none⟩ = some (.int .i64 a) := ⟨mp1, mo0, mo1⟩
  have hsub : IntKind.i64.wrap (n : Int) = (n : Int) := by rw [IntKind.wrap_i64]; omega
  have hnm : (n : Int) ≤ (m1 : Int) := by have := HM1.out; omega
  go_upto_region 9 with fail
  go_cut [13] (fun x13 wx => Hid (Below w3.heap.size w3 wx))
  case first =>
    clear ma0 ma1 ma2 mc0 mc1 md0 md1 md2 mf0 mf1 mf2 me0 me1 mh0 mh1 mh2 mi0 mi1 mi2 mj0 mj1 mj2 mp0 mp2 mq0 mq1 mq2
    go_region_held3 (fun X => X.cell? ⟨p, 1, none⟩ = some (.slice u1 n m1) ∧ X.cell? ⟨q, 0, none⟩ = some (.int .i64 22) ∧ X.cell? ⟨q, 1, none⟩ = some (.int .i64 a))
      (first | (with_reducible exact k0) | (with_reducible exact k1))
      (first
        | (go_at_call 36
           refine (HTk.out _).mono ?_
           rintro e' w4 ⟨rfl, b4⟩
           have B4 : Hid (Below w3.heap.size w3 w4) := hid ((Below.drew (Below.refl _ _)).trans b4)
           have k1 : w4.cell? ⟨p, 1, none⟩ = some (.slice u1 n m1) ∧ w4.cell? ⟨q, 0, none⟩ = some (.int .i64 22) ∧ w4.cell? ⟨q, 1, none⟩ = some (.int .i64 a) := by
             have c := (HM3.out.below B4.out).cells
             exact ⟨c.2.2.2.2.2.2.1.2.1, c.2.2.2.2.2.2.2.1, c.2.2.2.2.2.2.2.2⟩
           clear b4))
    all_goals
      go_wp2
      all_goals
        go_meet
        case rel => exact B4
  case rest =>
    have HBC := hcut
    have HM4 := hid (HM3.out.below HBC.out)
    clear HBC
    clear ma0 ma1 ma2 mc0 mc1 md0 md1 md2 mf0 mf1 mf2 me0 me1 mh0 mh1 mh2 mi0 mi1 mi2 mj0 mj1 mj2 mp0 mp1 mp2 mq0 mq1 mq2 mo0 mo1
    obtain ⟨⟨ma0, ma1, ma2⟩, ⟨mc0, mc1⟩, ⟨md0, md1, md2, mf0, mf1, mf2⟩, ⟨me0, me1⟩, ⟨mh0, mh1, mh2, mi0, mi1, mi2⟩, ⟨mj0, mj1, mj2⟩, ⟨mp0, mp1, mp2, mq0, mq1, mq2⟩, ⟨mo0, mo1⟩⟩ := HM4.out.cells
    have HM5 := hid (HM4.out.setPc ((k : Int) + 1))
    obtain ⟨Y, hY⟩ : ∃ Y, Y = wc.setCell ⟨p, 0, none⟩ (.int .i64 ((k : Int) + 1)) := ⟨_, rfl⟩
    rw [← hY] at HM5
    have hwk : IntKind.i64.wrap ((k : Int) + 1) = (k : Int) + 1 := by rw [IntKind.wrap_i64]; omega
    go_upto_region 11 with fail
    rw [← hY]
    clear hY
    clear ma0 ma1 ma2 mc0 mc1 md0 md1 md2 mf0 mf1 mf2 me0 me1 mh0 mh1 mh2 mi0 mi1 mi2 mj0 mj1 mj2 mp0 mp1 mp2 mq0 mq1 mq2 mo0 mo1
    obtain ⟨⟨ma0, ma1, ma2⟩, ⟨mc0, mc1⟩, ⟨md0, md1, md2, mf0, mf1, mf2⟩, ⟨me0, me1⟩, ⟨mh0, mh1, mh2, mi0, mi1, mi2⟩, ⟨mj0, mj1, mj2⟩, ⟨mp0, mp1, mp2, mq0, mq1, mq2⟩, ⟨mo0, mo1⟩⟩ := HM5.out.cells
    by_cases hfull : cn = 32
    · have hci : (32 : Int) ≤ (cn : Int) := by omega
      have HF : Hid (R = ((4, 0), ⟨(k : Int), st, ca⟩, b)) := hid (by
        rw [HR.out]
        exact step_fail HAT.out.1 HAT.out.2 (by simp [doL, HCN.out, hfull]))
      clear hfull
      go_wp2_with fail
      go_region
      all_goals
        clear ma0 ma1 ma2 mc0 mc1 md0 md1 md2 mf0 mf1 mf2 me0 me1 mh0 mh1 mh2 mi0 mi1 mi2 mj0 mj1 mj2 mp0 mp1 mp2 mq0 mq1 mq2 mo0 mo1
        rename_i hKz
        refine hKz _ _ ?_
        refine wp_ret ?_
        refine bodyPost_ret (v := .tuple #[.agg #[.int .i64 (k : Int), .slice sa n ks, .slice ak cn kk], .agg #[.slice ab b.length kb], .agg #[.int .i64 4, .int .i64 0, .int .i64 0]]) (w := (fill7 Y w.heap.size (.int .i64 (k : Int)) (.slice sa n ks) (.slice ak cn kk) (.slice ab b.length kb) (.int .i64 4) (.int .i64 0) (.int .i64 0)).drew) (results_ccc (fn := Tryd.f28) (p1 := 6) (p2 := 7) (p3 := 8) rfl _ (fill7 Y w.heap.size (.int .i64 (k : Int)) (.slice sa n ks) (.slice ak cn kk) (.slice ab b.length kb) (.int .i64 4) (.int .i64 0) (.int .i64 0)).drew (w.heap.size + 1 + 1) (w.heap.size + 1 + 1 + 1) (w.heap.size + 1 + 1 + 1 + 1) 25 39 33 #[.int .i64 (k : Int), .slice sa n ks, .slice ak cn kk] #[.slice ab b.length kb] #[.int .i64 4, .int .i64 0, .int .i64 0] (0, 0) (0, 0) (0, 0) _ _ _ rfl rfl rfl (fill7_getD HM5.out.six (.int .i64 (k : Int)) (.slice sa n ks) (.slice ak cn kk) (.slice ab b.length kb) (.int .i64 4) (.int .i64 0) (.int .i64 0)).1 (fill7_getD HM5.out.six (.int .i64 (k : Int)) (.slice sa n ks) (.slice ak cn kk) (.slice ab b.length kb) (.int .i64 4) (.int .i64 0) (.int .i64 0)).2.1 (fill7_getD HM5.out.six (.int .i64 (k : Int)) (.slice sa n ks) (.slice ak cn kk) (.slice ab b.length kb) (.int .i64 4) (.int .i64 0) (.int .i64 0)).2.2 Tryd.underlying25 rfl Tryd.underlying39 rfl Tryd.underlying33 rfl) rfl ?_
        exact one_old HM5.out.bel HS.out HK.out HBS.out 4 HF.out
    · have hci : ¬ (32 : Int) ≤ (cn : Int) := by omega
      have hY2 := below_alloc Y (.cells #[.int .i64 ((k : Int) + 1)] 3)
      have HM6 := hid (HM5.out.below hY2)
      obtain ⟨v', X, hr, ho, hg, hv⟩ := run_app (Y.alloc (.cells #[.int .i64 ((k : Int) + 1)] 3)) 23 q (.slice u2 cn m2) ca HM6.out.ok _ [(k : Int) + 1] (sees_one Y ((k : Int) + 1)) (by have := HCN.out; simp; omega) (by have := HM6.out.lt.2; omega)
      have hbX := HM6.out.grownK hg
      have HM8 := hid (HM6.out.setCa hg ho hv)
      obtain ⟨a3, c3, e3, _⟩ := ho.shape
      obtain ⟨L, hL⟩ : ∃ L, L = (ca ++ [(k : Int) + 1]).length := ⟨_, rfl⟩
      rw [← hL] at e3
      subst e3
      have HRR := hid hr
      have HM7 := hid (HM8.out.setPc a)
      obtain ⟨x0, x1, x3, x4, x5, x2⟩ := cel3 hbX
      obtain ⟨z0, z1, z2, z3, z4, z5⟩ := HM8.out.cells.2.2.2.2.2.2.1
      obtain ⟨y0, y1, y2, y3, y4, y5⟩ := HM7.out.cells.2.2.2.2.2.2.1
      obtain ⟨_, i1⟩ := HM8.out.cells.2.2.2.2.2.2.2
      obtain ⟨Z, hZ⟩ : ∃ Z, Z = (X.setCell ⟨p, 2, none⟩ (.slice a3 L c3)).setCell ⟨p, 0, none⟩ (.int .i64 a) := ⟨_, rfl⟩
      rw [← hZ] at HM7
      have HF : Hid (R = ((0, 0), ⟨a, st, ca ++ [(k : Int) + 1]⟩, b)) := hid (by
        rw [HR.out]
        exact step_done HAT.out.1 HAT.out.2 (by unfold fitsL; rw [htk, HN.out]; simp [lvI, effO, effT]; omega) (by simp [doL, HCN.out, hfull]))
      have hli : ¬ (64 : Int) < (n : Int) := by omega
      clear hY2 hr ho hg hv hbX hL hfull
      go_wp2_with (first
        | (at_builtin
           refine wpList_append_run rfl _ _ 23 23 rfl _ _ rfl rfl HRR.out ?_)
        | fail)
      clear x0 x1 x2 x3 x4 x5 z0 z1 z2 z3 z4 z5 y0 y1 y2 y3 y4 y5 i1
      rw [← hZ]
      clear hZ
      clear ma0 ma1 ma2 mc0 mc1 md0 md1 md2 mf0 mf1 mf2 me0 me1 mh0 mh1 mh2 mi0 mi1 mi2 mj0 mj1 mj2 mp0 mp1 mp2 mq0 mq1 mq2 mo0 mo1
      obtain ⟨⟨ma0, ma1, ma2⟩, ⟨mc0, mc1⟩, ⟨md0, md1, md2, mf0, mf1, mf2⟩, ⟨me0, me1⟩, ⟨mh0, mh1, mh2, mi0, mi1, mi2⟩, ⟨mj0, mj1, mj2⟩, ⟨mp0, mp1, mp2, mq0, mq1, mq2⟩, ⟨mo0, mo1⟩⟩ := HM7.out.cells
      go_region
      all_goals
        clear ma0 ma1 ma2 mc0 mc1 md0 md1 md2 mf0 mf1 mf2 me0 me1 mh0 mh1 mh2 mi0 mi1 mi2 mj0 mj1 mj2 mp0 mp1 mp2 mq0 mq1 mq2 mo0 mo1
        rename_i hKz
        refine hKz _ _ ?_
        refine wp_ret ?_
        refine bodyPost_ret (v := .tuple #[.agg #[.int .i64 (a), .slice u1 n m1, .slice a3 L c3], .agg #[.slice ab b.length kb], .agg #[.int .i64 0, .int .i64 0, .int .i64 0]]) (w := (fill7 Z w.heap.size (.int .i64 (a)) (.slice u1 n m1) (.slice a3 L c3) (.slice ab b.length kb) (.int .i64 0) (.int .i64 0) (.int .i64 0)).drew) (results_ccc (fn := Tryd.f28) (p1 := 6) (p2 := 7) (p3 := 8) rfl _ (fill7 Z w.heap.size (.int .i64 (a)) (.slice u1 n m1) (.slice a3 L c3) (.slice ab b.length kb) (.int .i64 0) (.int .i64 0) (.int .i64 0)).drew (w.heap.size + 1 + 1) (w.heap.size + 1 + 1 + 1) (w.heap.size + 1 + 1 + 1 + 1) 25 39 33 #[.int .i64 (a), .slice u1 n m1, .slice a3 L c3] #[.slice ab b.length kb] #[.int .i64 0, .int .i64 0, .int .i64 0] (0, 0) (0, 0) (0, 0) _ _ _ rfl rfl rfl (fill7_getD HM7.out.six (.int .i64 (a)) (.slice u1 n m1) (.slice a3 L c3) (.slice ab b.length kb) (.int .i64 0) (.int .i64 0) (.int .i64 0)).1 (fill7_getD HM7.out.six (.int .i64 (a)) (.slice u1 n m1) (.slice a3 L c3) (.slice ab b.length kb) (.int .i64 0) (.int .i64 0) (.int .i64 0)).2.1 (fill7_getD HM7.out.six (.int .i64 (a)) (.slice u1 n m1) (.slice a3 L c3) (.slice ab b.length kb) (.int .i64 0) (.int .i64 0) (.int .i64 0)).2.2 Tryd.underlying25 rfl Tryd.underlying39 rfl Tryd.underlying33 rfl) rfl ?_
        exact one_new HM7.out (HBS.out.below HM7.out.bel) HFAR.out (Or.inl rfl) 0 0 HF.out
end Go.Proofs.YtfnojlgmbfocfaaDoor

namespace Go.Proofs.YtfnojlgmbfocfaaDoor
open Go.RowKit
set_option linter.unusedVariables false
set_option linter.unusedSimpArgs false
set_option maxRecDepth 100000

set_option maxHeartbeats 8000000 in
theorem rone_ret (v : Value) (l : List InsL) (k : Nat) (a : Int) (vs vk vb : Value) (st ca : List Int) (b : List Nat) (w : World) (hV : SeesI w v l) (hs : Sees w vs st) (hk : Sees w vk ca) (hbs : SeesN .u8 w vb b) (hkl : k < l.length) (hat : l[k] = (23, a)) (hll : l.length ≤ 1024) (hst : st.length ≤ 64) (hca : ca.length ≤ 32) :
    Calls Tryd.prog 28 #[v, .agg #[.int .i64 (k : Int), vs, vk], .agg #[vb]] w (OneR w vs vk vb (stepL l ⟨(k : Int), st, ca⟩ b)) := by
  obtain ⟨n, hn⟩ : ∃ n, st.length = n := ⟨_, rfl⟩
  obtain ⟨sa, ks, es⟩ : ∃ ao cap, vs = .slice ao n cap := by obtain ⟨_, _, ao, cap, e, _⟩ := hs; exact ⟨ao, cap, by rw [← hn]; exact e⟩
  obtain ⟨cn, hcn⟩ : ∃ cn, ca.length = cn := ⟨_, rfl⟩
  obtain ⟨ak, kk, ek⟩ : ∃ ao cap, vk = .slice ao cn cap := by obtain ⟨_, _, ao, cap, e, _⟩ := hk; exact ⟨ao, cap, by rw [← hcn]; exact e⟩
  have hblt : ∀ bb off ao cap, vb = .slice ao b.length cap → ao = some ⟨bb, off, none⟩ → b ≠ [] → bb < w.heap.size := by
    obtain ⟨b0, o0, ao0, c0, e, _, _, hao, hcell⟩ := hbs
    intro bb off ao cap e1 e2 hne
    rw [e] at e1
    cases e1
    rw [hao hne] at e2
    cases e2
    have h0 : 0 < b.length := by cases b with | nil => exact absurd rfl hne | cons x y => simp
    exact World.block_lt_of_cell? w _ (hcell 0 h0)
  obtain ⟨ab, kb, eb⟩ : ∃ ao cap, vb = .slice ao b.length cap := by obtain ⟨_, _, ao, cap, e, _⟩ := hbs; exact ⟨ao, cap, e⟩
  subst es ek eb
  obtain ⟨hsix, hbel, hsz⟩ := six_new w (k : Int) (.slice sa n ks) (.slice ak cn kk) (.slice ab b.length kb)
  obtain ⟨W, hW⟩ : ∃ W, W = sixW w (k : Int) (.slice sa n ks) (.slice ak cn kk) (.slice ab b.length kb) := ⟨_, rfl⟩
  rw [← hW] at hsix hbel hsz
  unfold sixW at hW
  obtain ⟨a0, a1, a2, _, _, _⟩ := cel3 hsix.b0
  obtain ⟨vb', vo, ao, cap, rfl, hcap, hnil, hao, hcell⟩ := hV
  obtain rfl := hao (by intro e; rw [e] at hkl; simp at hkl)
  obtain ⟨y1, y2⟩ := hcell k hkl
  rw [hat] at y1 y2
  have hne : ((k : Int) == (l.length : Int)) = false := by rw [beq_eq_false_iff_ne]; omega
  have hkI : (k : Int) < (l.length : Int) := by omega
  have hk0 : (0 : Int) ≤ (k : Int) := by omega
  have hkc : k < cap := by omega
  have y1 := (hbel.cell (World.block_lt_of_cell? w _ y1)).trans y1
  have y2 := (hbel.cell (World.block_lt_of_cell? w _ y2)).trans y2
  have hbA := below_alloc W (.cells #[.int .i64 23, .int .i64 a] 57)
  have za0 := (hbA.cell (World.block_lt_of_cell? W _ a0)).trans a0
  have za1 := (hbA.cell (World.block_lt_of_cell? W _ a1)).trans a1
  have za2 := (hbA.cell (World.block_lt_of_cell? W _ a2)).trans a2
  have hC := rcopy_any (.agg #[.int .i64 (k : Int), .slice sa n ks, .slice ak cn kk]) ⟨(k : Int), st, ca⟩ (.slice sa n ks) (.slice ak cn kk) (W.alloc (.cells #[.int .i64 23, .int .i64 a] 57)) ⟨rfl, (hs.below hbel).below hbA, (hk.below hbel).below hbA, by show st.length ≤ _; omega, by show ca.length ≤ _; omega⟩ (by show st.length * 8 ≤ _; omega) (by show ca.length * 8 ≤ _; omega)
  obtain ⟨R, hR⟩ : ∃ R, R = stepL l ⟨(k : Int), st, ca⟩ b := ⟨_, rfl⟩
  rw [← hR]
  have HR := hid hR
  have HS := hid hs
  have HK := hid hk
  have HBS := hid hbs
  have HAT := hid (And.intro hkl hat)
  have HSIX := hid hsix
  have HBEL := hid hbel
  have HSZ := hid hsz
  have HBL := hid hblt
  have HFAR : Hid (b ≠ [] → ∀ bb off ao cap, Value.slice ab b.length kb = .slice ao b.length cap → ao = some ⟨bb, off, none⟩ → bb ≠ w.heap.size + 1 + 1 ∧ bb ≠ w.heap.size + 1 + 1 + 1 ∧ bb ≠ w.heap.size + 1 + 1 + 1 + 1) := hid (fun hne bb off ao cap e1 e2 => by have := hblt bb off ao cap e1 e2 hne; omega)
  have HN := hid hn
  have HCN := hid hcn
  have hcn32 : cn ≤ 32 := by omega
  have hn64 : n ≤ 64 := by omega
  clear hsix hbel hs hk hbs hsz hblt hR hbA hcell hat hn hcn hao
  go_enter Tryd.func28, Tryd.ntmps28
  go_upto_region 2 with fail
  rw [← hW]
  clear hW
  go_wp2_with fail
  refine hC.mono ?_
  clear hC a0 a1 a2 y1 y2 za0 za1 za2
  rintro e w2 ⟨us, uk, rfl, o1, o2, sd, b1⟩
  obtain ⟨u1, m1, eu1, hm1⟩ := o1.shape
  obtain ⟨u2, m2, eu2, hm2⟩ := o2.shape
  have o1' : Owns w2 (W.alloc (.cells #[.int .i64 23, .int .i64 a] 57)).heap.size us st := o1
  have o2' : Owns w2 (W.alloc (.cells #[.int .i64 23, .int .i64 a] 57)).heap.size uk ca := o2
  have hM2 := mid_new HSIX.out HBEL.out HSZ.out o1' o2' sd b1
  change us = .slice u1 st.length m1 at eu1
  change uk = .slice u2 ca.length m2 at eu2
  change st.length ≤ m1 at hm1
  change ca.length ≤ m2 at hm2
  rw [HN.out] at eu1 hm1
  rw [HCN.out] at eu2 hm2
  subst eu1 eu2
  obtain ⟨W2, hW2⟩ : ∃ W2, W2 = w2.alloc (.cells #[.int .i64 (k : Int), .slice u1 n m1, .slice u2 cn m2] 25) := ⟨_, rfl⟩
  rw [← hW2] at hM2
  have HM2 := hid hM2
  have HM1 := hid hm1
  have HM2' := hid hm2
  obtain ⟨⟨ma0, ma1, ma2⟩, ⟨mc0, mc1⟩, ⟨md0, md1, md2, mf0, mf1, mf2⟩, ⟨me0, me1⟩, ⟨mh0, mh1, mh2, mi0, mi1, mi2⟩, ⟨mj0, mj1, mj2⟩, ⟨mp0, mp1, mp2, mq0, mq1, mq2⟩, ⟨mo0, mo1⟩⟩ := hM2.cells
  have HTk := hid (fun W => rtakes_any 23 a (by omega) (by omega) (fun h => by omega) W)
  have htk : tkI (23, a) = 0 := by simp [tkI, effO, effT]
  rw [htk] at HTk
  clear o1 o2 o1' o2' sd b1 hM2 hm1 hm2
  obtain ⟨p, hp⟩ : ∃ p, p = w2.heap.size := ⟨_, rfl⟩
  obtain ⟨q, hq⟩ : ∃ q, q = W.heap.size := ⟨_, rfl⟩
  rw [← hp, ← hq] at HM2
  rw [← hp] at mp0 mp1 mp2 mq0 mq1 mq2
  rw [← hq] at mo0 mo1
  go_upto_region 6 with fail
  rw [← hW2, ← hp, ← hq]
  clear hW2 hp hq
  go_wp2_with fail
  refine (HTk.out _).mono ?_
  rintro e w3 ⟨rfl, b3⟩
  have HM3 := hid (HM2.out.below b3)
  clear b3
  clear ma0 ma1 ma2 mc0 mc1 md0 md1 md2 mf0 mf1 mf2 me0 me1 mh0 mh1 mh2 mi0 mi1 mi2 mj0 mj1 mj2 mp0 mp1 mp2 mq0 mq1 mq2 mo0 mo1
  obtain ⟨⟨ma0, ma1, ma2⟩, ⟨mc0, mc1⟩, ⟨md0, md1, md2, mf0, mf1, mf2⟩, ⟨me0, me1⟩, ⟨mh0, mh1, mh2, mi0, mi1, mi2⟩, ⟨mj0, mj1, mj2⟩, ⟨mp0, mp1, mp2, mq0, mq1, mq2⟩, ⟨mo0, mo1⟩⟩ := HM3.out.cells
  have k0 : w3.drew.cell? ⟨p, 1, none⟩ = some (.slice u1 n m1) ∧ w3.drew.cell? ⟨q, 0, none⟩ = some (.int .i64 23) ∧ w3.drew.cell? ⟨q, 1, none⟩ = some (.int .i64 a) := ⟨mp1, mo0, mo1⟩
  have hsub : IntKind.i64.wrap (n : Int) = (n : Int) := by rw [IntKind.wrap_i64]; omega
  have hnm : (n : Int) ≤ (m1 : Int) := by have := HM1.out; omega
  go_upto_region 9 with fail
  go_cut [13] (fun x13 wx => Hid (Below w3.heap.size w3 wx))
  case first =>
    clear ma0 ma1 ma2 mc0 mc1 md0 md1 md2 mf0 mf1 mf2 me0 me1 mh0 mh1 mh2 mi0 mi1 mi2 mj0 mj1 mj2 mp0 mp2 mq0 mq1 mq2
    go_region_held3 (fun X => X.cell? ⟨p, 1, none⟩ = some (.slice u1 n m1) ∧ X.cell? ⟨q, 0, none⟩ = some (.int .i64 23) ∧ X.cell? ⟨q, 1, none⟩ = some (.int .i64 a))
      (first | (with_reducible exact k0) | (with_reducible exact k1))
      (first
        | (go_at_call 36
           refine (HTk.out _).mono ?_
           rintro e' w4 ⟨rfl, b4⟩
           have B4 : Hid (Below w3.heap.size w3 w4) := hid ((Below.drew (Below.refl _ _)).trans b4)
           have k1 : w4.cell? ⟨p, 1, none⟩ = some (.slice u1 n m1) ∧ w4.cell? ⟨q, 0, none⟩ = some (.int .i64 23) ∧ w4.cell? ⟨q, 1, none⟩ = some (.int .i64 a) := by
             have c := (HM3.out.below B4.out).cells
             exact ⟨c.2.2.2.2.2.2.1.2.1, c.2.2.2.2.2.2.2.1, c.2.2.2.2.2.2.2.2⟩
           clear b4))
    all_goals
      go_wp2
      all_goals
        go_meet
        case rel => exact B4
  case rest =>
    have HBC := hcut
    have HM4 := hid (HM3.out.below HBC.out)
    clear HBC
    clear ma0 ma1 ma2 mc0 mc1 md0 md1 md2 mf0 mf1 mf2 me0 me1 mh0 mh1 mh2 mi0 mi1 mi2 mj0 mj1 mj2 mp0 mp1 mp2 mq0 mq1 mq2 mo0 mo1
    obtain ⟨⟨ma0, ma1, ma2⟩, ⟨mc0, mc1⟩, ⟨md0, md1, md2, mf0, mf1, mf2⟩, ⟨me0, me1⟩, ⟨mh0, mh1, mh2, mi0, mi1, mi2⟩, ⟨mj0, mj1, mj2⟩, ⟨mp0, mp1, mp2, mq0, mq1, mq2⟩, ⟨mo0, mo1⟩⟩ := HM4.out.cells
    have HM5 := hid (HM4.out.setPc ((k : Int) + 1))
    obtain ⟨Y, hY⟩ : ∃ Y, Y = wc.setCell ⟨p, 0, none⟩ (.int .i64 ((k : Int) + 1)) := ⟨_, rfl⟩
    rw [← hY] at HM5
    have hwk : IntKind.i64.wrap ((k : Int) + 1) = (k : Int) + 1 := by rw [IntKind.wrap_i64]; omega
    go_upto_region 11 with fail
    rw [← hY]
    clear hY
    clear ma0 ma1 ma2 mc0 mc1 md0 md1 md2 mf0 mf1 mf2 me0 me1 mh0 mh1 mh2 mi0 mi1 mi2 mj0 mj1 mj2 mp0 mp1 mp2 mq0 mq1 mq2 mo0 mo1
    obtain ⟨⟨ma0, ma1, ma2⟩, ⟨mc0, mc1⟩, ⟨md0, md1, md2, mf0, mf1, mf2⟩, ⟨me0, me1⟩, ⟨mh0, mh1, mh2, mi0, mi1, mi2⟩, ⟨mj0, mj1, mj2⟩, ⟨mp0, mp1, mp2, mq0, mq1, mq2⟩, ⟨mo0, mo1⟩⟩ := HM5.out.cells
    by_cases hfull : cn = 0
    · subst hfull
      have HF : Hid (R = ((4, 0), ⟨(k : Int), st, ca⟩, b)) := hid (by
        rw [HR.out]
        exact step_fail HAT.out.1 HAT.out.2 (by simp [doL, HCN.out]))
      go_wp2_with fail
      go_region
      all_goals
        clear ma0 ma1 ma2 mc0 mc1 md0 md1 md2 mf0 mf1 mf2 me0 me1 mh0 mh1 mh2 mi0 mi1 mi2 mj0 mj1 mj2 mp0 mp1 mp2 mq0 mq1 mq2 mo0 mo1
        rename_i hKz
        refine hKz _ _ ?_
        refine wp_ret ?_
        refine bodyPost_ret (v := .tuple #[.agg #[.int .i64 (k : Int), .slice sa n ks, .slice ak 0 kk], .agg #[.slice ab b.length kb], .agg #[.int .i64 4, .int .i64 0, .int .i64 0]]) (w := (fill7 Y w.heap.size (.int .i64 (k : Int)) (.slice sa n ks) (.slice ak 0 kk) (.slice ab b.length kb) (.int .i64 4) (.int .i64 0) (.int .i64 0)).drew) (results_ccc (fn := Tryd.f28) (p1 := 6) (p2 := 7) (p3 := 8) rfl _ (fill7 Y w.heap.size (.int .i64 (k : Int)) (.slice sa n ks) (.slice ak 0 kk) (.slice ab b.length kb) (.int .i64 4) (.int .i64 0) (.int .i64 0)).drew (w.heap.size + 1 + 1) (w.heap.size + 1 + 1 + 1) (w.heap.size + 1 + 1 + 1 + 1) 25 39 33 #[.int .i64 (k : Int), .slice sa n ks, .slice ak 0 kk] #[.slice ab b.length kb] #[.int .i64 4, .int .i64 0, .int .i64 0] (0, 0) (0, 0) (0, 0) _ _ _ rfl rfl rfl (fill7_getD HM5.out.six (.int .i64 (k : Int)) (.slice sa n ks) (.slice ak 0 kk) (.slice ab b.length kb) (.int .i64 4) (.int .i64 0) (.int .i64 0)).1 (fill7_getD HM5.out.six (.int .i64 (k : Int)) (.slice sa n ks) (.slice ak 0 kk) (.slice ab b.length kb) (.int .i64 4) (.int .i64 0) (.int .i64 0)).2.1 (fill7_getD HM5.out.six (.int .i64 (k : Int)) (.slice sa n ks) (.slice ak 0 kk) (.slice ab b.length kb) (.int .i64 4) (.int .i64 0) (.int .i64 0)).2.2 Tryd.underlying25 rfl Tryd.underlying39 rfl Tryd.underlying33 rfl) rfl ?_
        exact one_old HM5.out.bel HS.out HK.out HBS.out 4 HF.out
    · have hci : ((cn : Int) == 0) = false := by rw [beq_eq_false_iff_ne]; omega
      obtain ⟨h, hh⟩ := own_row HM5.out.ok (by have := HCN.out; omega)
      subst hh
      obtain ⟨c, hc⟩ : ∃ c, cn = c + 1 := ⟨cn - 1, by omega⟩
      have hcw : IntKind.i64.wrap ((cn : Int) - 1) = (c : Int) := by rw [IntKind.wrap_i64]; omega
      have hcl : (c : Int) < (cn : Int) := by omega
      have hcl2 : c < ca.length := by have := HCN.out; omega
      have hcm : (c : Int) ≤ (m2 : Int) := by have := HM2'.out; omega
      have hcm2 : c < m2 := by have := HM2'.out; omega
      have hc0 : (0 : Int) ≤ (c : Int) := by omega
      obtain ⟨kc, _⟩ := own_cell HM5.out.ok c hcl2
      obtain ⟨rc, hrc⟩ : ∃ rc, rc = ca.getD c 0 := ⟨_, rfl⟩
      rw [← hrc] at kc
      have HRC := hid hrc
      have HM8 := hid (HM5.out.setPc rc)
      have HM7 := hid (HM8.out.cutCa c (by have := HCN.out; omega))
      obtain ⟨z0, z1, z2, z3, z4, z5⟩ := HM8.out.cells.2.2.2.2.2.2.1
      obtain ⟨y0, y1, y2, y3, y4, y5⟩ := HM7.out.cells.2.2.2.2.2.2.1
      obtain ⟨Z, hZ⟩ : ∃ Z, Z = (Y.setCell ⟨p, 0, none⟩ (.int .i64 rc)).setCell ⟨p, 2, none⟩ (.slice (some ⟨h, 0, none⟩) c m2) := ⟨_, rfl⟩
      rw [← hZ] at HM7
      have HF : Hid (R = ((0, 0), ⟨rc, st, ca.take c⟩, b)) := hid (by
        rw [HR.out]
        exact step_done HAT.out.1 HAT.out.2 (by unfold fitsL; rw [htk, HN.out]; simp [lvI, effO, effT]; omega) (by
          have e : doL (23, a) ⟨(k : Int), st, ca⟩ b = some (⟨ca.getD (ca.length - 1) 0, st, ca.take (ca.length - 1)⟩, b) := by unfold doL; simp [HCN.out, hfull]
          rw [e, show ca.length - 1 = c by have := HCN.out; omega, ← HRC.out]))
      have hli : ¬ (64 : Int) < (n : Int) := by omega
      clear hfull hrc hc
      go_wp2_with fail
      clear z0 z1 z2 z3 z4 z5 y0 y1 y2 y3 y4 y5
      rw [← hZ]
      clear hZ
      clear ma0 ma1 ma2 mc0 mc1 md0 md1 md2 mf0 mf1 mf2 me0 me1 mh0 mh1 mh2 mi0 mi1 mi2 mj0 mj1 mj2 mp0 mp1 mp2 mq0 mq1 mq2 mo0 mo1
      obtain ⟨⟨ma0, ma1, ma2⟩, ⟨mc0, mc1⟩, ⟨md0, md1, md2, mf0, mf1, mf2⟩, ⟨me0, me1⟩, ⟨mh0, mh1, mh2, mi0, mi1, mi2⟩, ⟨mj0, mj1, mj2⟩, ⟨mp0, mp1, mp2, mq0, mq1, mq2⟩, ⟨mo0, mo1⟩⟩ := HM7.out.cells
      go_region
      all_goals
        clear ma0 ma1 ma2 mc0 mc1 md0 md1 md2 mf0 mf1 mf2 me0 me1 mh0 mh1 mh2 mi0 mi1 mi2 mj0 mj1 mj2 mp0 mp1 mp2 mq0 mq1 mq2 mo0 mo1
        rename_i hKz
        refine hKz _ _ ?_
        refine wp_ret ?_
        refine bodyPost_ret (v := .tuple #[.agg #[.int .i64 (rc), .slice u1 n m1, .slice (some ⟨h, 0, none⟩) c m2], .agg #[.slice ab b.length kb], .agg #[.int .i64 0, .int .i64 0, .int .i64 0]]) (w := (fill7 Z w.heap.size (.int .i64 (rc)) (.slice u1 n m1) (.slice (some ⟨h, 0, none⟩) c m2) (.slice ab b.length kb) (.int .i64 0) (.int .i64 0) (.int .i64 0)).drew) (results_ccc (fn := Tryd.f28) (p1 := 6) (p2 := 7) (p3 := 8) rfl _ (fill7 Z w.heap.size (.int .i64 (rc)) (.slice u1 n m1) (.slice (some ⟨h, 0, none⟩) c m2) (.slice ab b.length kb) (.int .i64 0) (.int .i64 0) (.int .i64 0)).drew (w.heap.size + 1 + 1) (w.heap.size + 1 + 1 + 1) (w.heap.size + 1 + 1 + 1 + 1) 25 39 33 #[.int .i64 (rc), .slice u1 n m1, .slice (some ⟨h, 0, none⟩) c m2] #[.slice ab b.length kb] #[.int .i64 0, .int .i64 0, .int .i64 0] (0, 0) (0, 0) (0, 0) _ _ _ rfl rfl rfl (fill7_getD HM7.out.six (.int .i64 (rc)) (.slice u1 n m1) (.slice (some ⟨h, 0, none⟩) c m2) (.slice ab b.length kb) (.int .i64 0) (.int .i64 0) (.int .i64 0)).1 (fill7_getD HM7.out.six (.int .i64 (rc)) (.slice u1 n m1) (.slice (some ⟨h, 0, none⟩) c m2) (.slice ab b.length kb) (.int .i64 0) (.int .i64 0) (.int .i64 0)).2.1 (fill7_getD HM7.out.six (.int .i64 (rc)) (.slice u1 n m1) (.slice (some ⟨h, 0, none⟩) c m2) (.slice ab b.length kb) (.int .i64 0) (.int .i64 0) (.int .i64 0)).2.2 Tryd.underlying25 rfl Tryd.underlying39 rfl Tryd.underlying33 rfl) rfl ?_
        exact one_new HM7.out (HBS.out.below HM7.out.bel) HFAR.out (Or.inl rfl) 0 0 HF.out
end Go.Proofs.YtfnojlgmbfocfaaDoor
