/-
  The document's single instruction: swap.
-/
import Derived.Test.YtfnojlgmbfocfaaDoorVOneC
import Derived.BigRegion
namespace Go.Proofs.YtfnojlgmbfocfaaDoor
open Go.RowKit
set_option linter.unusedVariables false
set_option linter.unusedSimpArgs false
set_option maxRecDepth 100000

set_option maxHeartbeats 8000000 in
theorem rone_swap (v : Value) (l : List InsL) (k : Nat) (a : Int) (vs vk vb : Value) (st ca : List Int) (b : List Nat) (w : World) (hV : SeesI w v l) (hs : Sees w vs st) (hk : Sees w vk ca) (hbs : SeesN .u8 w vb b) (hkl : k < l.length) (hat : l[k] = (4, a)) (hll : l.length ≤ 1024) (hst : st.length ≤ 64) (hca : ca.length ≤ 32) :
    Calls Tryd.prog 28 #[v, .agg #[.int .i64 (k : Int), vs, vk], .agg #[vb]] w (OneR w vs vk vb (stepL l ⟨(k : Int), st, ca⟩ b)) := by
  obtain ⟨n, hn⟩ : ∃ n, st.length = n := ⟨_, rfl⟩
  obtain ⟨sa, ks, es⟩ : ∃ ao cap, vs = .slice ao n cap := by obtain ⟨_, _, ao, cap, e, _⟩ := hs; exact ⟨ao, cap, by rw [← hn]; exact e⟩
  obtain ⟨cn, hcn⟩ : ∃ cn, ca.length = cn := ⟨_, rfl⟩
  obtain ⟨ak, kk, ek⟩ : ∃ ao cap, vk = .slice ao cn cap := by obtain ⟨_, _, ao, cap, e, _⟩ := hk; exact ⟨ao, cap, by rw [← hcn]; exact e⟩
  have hblt : ∀ bb off ao cap, vb = .slice ao b.length cap → ao = some ⟨bb, off, none⟩ → b ≠ [] → bb < w.heap.size := by
    obtain ⟨b0, o0, ao0, c0, e, _, _, hao, hcell⟩ := hbs
    intro bb off ao cap e1 e2 hne
    rw [e] at e1
    cases e1
    rw [hao hne] at e2
    cases e2
    have h0 : 0 < b.length := by cases b with | nil => exact absurd rfl hne | cons x y => simp
    exact World.block_lt_of_cell? w _ (hcell 0 h0)
  obtain ⟨ab, kb, eb⟩ : ∃ ao cap, vb = .slice ao b.length cap := by obtain ⟨_, _, ao, cap, e, _⟩ := hbs; exact ⟨ao, cap, e⟩
  subst es ek eb
  obtain ⟨hsix, hbel, hsz⟩ := six_new w (k : Int) (.slice sa n ks) (.slice ak cn kk) (.slice ab b.length kb)
  obtain ⟨W, hW⟩ : ∃ W, W = sixW w (k : Int) (.slice sa n ks) (.slice ak cn kk) (.slice ab b.length kb) := ⟨_, rfl⟩
  rw [← hW] at hsix hbel hsz
  unfold sixW at hW
  obtain ⟨a0, a1, a2, _, _, _⟩ := cel3 hsix.b0
  obtain ⟨vb', vo, ao, cap, rfl, hcap, hnil, hao, hcell⟩ := hV
  obtain rfl := hao (by intro e; rw [e] at hkl; simp at hkl)
  obtain ⟨y1, y2⟩ := hcell k hkl
  rw [hat] at y1 y2
  have hne : ((k : Int) == (l.length : Int)) = false := by rw [beq_eq_false_iff_ne]; omega
  have hkI : (k : Int) < (l.length : Int) := by omega
  have hk0 : (0 : Int) ≤ (k : Int) := by omega
  have hkc : k < cap := by omega
  have y1 := (hbel.cell (World.block_lt_of_cell? w _ y1)).trans y1
  have y2 := (hbel.cell (World.block_lt_of_cell? w _ y2)).trans y2
  have hbA := below_alloc W (.cells #[.int .i64 4, .int .i64 a] 57)
  have za0 := (hbA.cell (World.block_lt_of_cell? W _ a0)).trans a0
  have za1 := (hbA.cell (World.block_lt_of_cell? W _ a1)).trans a1
  have za2 := (hbA.cell (World.block_lt_of_cell? W _ a2)).trans a2
  have hC := rcopy_any (.agg #[.int .i64 (k : Int), .slice sa n ks, .slice ak cn kk]) ⟨(k : Int), st, ca⟩ (.slice sa n ks) (.slice ak cn kk) (W.alloc (.cells #[.int .i64 4, .int .i64 a] 57)) ⟨rfl, (hs.below hbel).below hbA, (hk.below hbel).below hbA, by show st.length ≤ _; omega, by show ca.length ≤ _; omega⟩ (by show st.length * 8 ≤ _; omega) (by show ca.length * 8 ≤ _; omega)
  obtain ⟨R, hR⟩ : ∃ R, R = stepL l ⟨(k : Int), st, ca⟩ b := ⟨_, rfl⟩
  rw [← hR]
  have HR := hid hR
  have HS := hid hs
  have HK := hid hk
  have HBS := hid hbs
  have HAT := hid (And.intro hkl hat)
  have HSIX := hid hsix
  have HBEL := hid hbel
  have HSZ := hid hsz
  have HBL := hid hblt
  have HFAR : Hid (b ≠ [] → ∀ bb off ao cap, Value.slice ab b.length kb = .slice ao b.length cap → ao = some ⟨bb, off, none⟩ → bb ≠ w.heap.size + 1 + 1 ∧ bb ≠ w.heap.size + 1 + 1 + 1 ∧ bb ≠ w.heap.size + 1 + 1 + 1 + 1) := hid (fun hne bb off ao cap e1 e2 => by have := hblt bb off ao cap e1 e2 hne; omega)
  have HN := hid hn
  have HCN := hid hcn
  have hcn32 : cn ≤ 32 := by omega
  have hn64 : n ≤ 64 := by omega
  clear hsix hbel hs hk hbs hsz hblt hR hbA hcell hat hn hcn hao
  go_enter Tryd.func28, Tryd.ntmps28
  go_upto_region 2 with fail
  rw [← hW]
  clear hW
  go_wp2_with fail
  refine hC.mono ?_
  clear hC a0 a1 a2 y1 y2 za0 za1 za2
  rintro e w2 ⟨us, uk, rfl, o1, o2, sd, b1⟩
  obtain ⟨u1, m1, eu1, hm1⟩ := o1.shape
  obtain ⟨u2, m2, eu2, hm2⟩ := o2.shape
  have o1' : Owns w2 (W.alloc (.cells #[.int .i64 4, .int .i64 a] 57)).heap.size us st := o1
  have o2' : Owns w2 (W.alloc (.cells #[.int .i64 4, .int .i64 a] 57)).heap.size uk ca := o2
  have hM2 := mid_new HSIX.out HBEL.out HSZ.out o1' o2' sd b1
  change us = .slice u1 st.length m1 at eu1
  change uk = .slice u2 ca.length m2 at eu2
  change st.length ≤ m1 at hm1
  change ca.length ≤ m2 at hm2
  rw [HN.out] at eu1 hm1
  rw [HCN.out] at eu2 hm2
  subst eu1 eu2
  obtain ⟨W2, hW2⟩ : ∃ W2, W2 = w2.alloc (.cells #[.int .i64 (k : Int), .slice u1 n m1, .slice u2 cn m2] 25) := ⟨_, rfl⟩
  rw [← hW2] at hM2
  have HM2 := hid hM2
  have HM1 := hid hm1
  have HM2' := hid hm2
  obtain ⟨⟨ma0, ma1, ma2⟩, ⟨mc0, mc1⟩, ⟨md0, md1, md2, mf0, mf1, mf2⟩, ⟨me0, me1⟩, ⟨mh0, mh1, mh2, mi0, mi1, mi2⟩, ⟨mj0, mj1, mj2⟩, ⟨mp0, mp1, mp2, mq0, mq1, mq2⟩, ⟨mo0, mo1⟩⟩ := hM2.cells
  have HTk := hid (fun W => rtakes_any 4 a (by omega) (by omega) (fun h => by omega) W)
  have htk : tkI (4, a) = 2 := by simp [tkI, effO, effT]
  rw [htk] at HTk
  clear o1 o2 o1' o2' sd b1 hM2 hm1 hm2
  obtain ⟨p, hp⟩ : ∃ p, p = w2.heap.size := ⟨_, rfl⟩
  obtain ⟨q, hq⟩ : ∃ q, q = W.heap.size := ⟨_, rfl⟩
  rw [← hp, ← hq] at HM2
  rw [← hp] at mp0 mp1 mp2 mq0 mq1 mq2
  rw [← hq] at mo0 mo1
  go_upto_region 6 with fail
  rw [← hW2, ← hp, ← hq]
  clear hW2 hp hq
  go_wp2_with fail
  refine (HTk.out _).mono ?_
  rintro e w3 ⟨rfl, b3⟩
  have HM3 := hid (HM2.out.below b3)
  clear b3
  clear ma0 ma1 ma2 mc0 mc1 md0 md1 md2 mf0 mf1 mf2 me0 me1 mh0 mh1 mh2 mi0 mi1 mi2 mj0 mj1 mj2 mp0 mp1 mp2 mq0 mq1 mq2 mo0 mo1
  obtain ⟨⟨ma0, ma1, ma2⟩, ⟨mc0, mc1⟩, ⟨md0, md1, md2, mf0, mf1, mf2⟩, ⟨me0, me1⟩, ⟨mh0, mh1, mh2, mi0, mi1, mi2⟩, ⟨mj0, mj1, mj2⟩, ⟨mp0, mp1, mp2, mq0, mq1, mq2⟩, ⟨mo0, mo1⟩⟩ := HM3.out.cells
  by_cases hnt : (n : Int) < 2
  · have HF : Hid (R = ((4, 0), ⟨(k : Int), st, ca⟩, b)) := hid (by
      rw [HR.out]
      refine step_nofit HAT.out.1 HAT.out.2 ?_
      unfold fitsL
      rw [htk, HN.out, decide_eq_false (by omega)]
      rfl)
    clear HTk htk
    go_wp2
    go_region
    all_goals
      clear ma0 ma1 ma2 mc0 mc1 md0 md1 md2 mf0 mf1 mf2 me0 me1 mh0 mh1 mh2 mi0 mi1 mi2 mj0 mj1 mj2 mp0 mp1 mp2 mq0 mq1 mq2 mo0 mo1
      rename_i hKz
      refine hKz _ _ ?_
      refine wp_ret ?_
      refine bodyPost_ret (v := .tuple #[.agg #[.int .i64 (k : Int), .slice sa n ks, .slice ak cn kk], .agg #[.slice ab b.length kb], .agg #[.int .i64 4, .int .i64 0, .int .i64 0]]) (w := (fill7 w3 w.heap.size (.int .i64 (k : Int)) (.slice sa n ks) (.slice ak cn kk) (.slice ab b.length kb) (.int .i64 4) (.int .i64 0) (.int .i64 0)).drew) (results_ccc (fn := Tryd.f28) (p1 := 6) (p2 := 7) (p3 := 8) rfl _ (fill7 w3 w.heap.size (.int .i64 (k : Int)) (.slice sa n ks) (.slice ak cn kk) (.slice ab b.length kb) (.int .i64 4) (.int .i64 0) (.int .i64 0)).drew (w.heap.size + 1 + 1) (w.heap.size + 1 + 1 + 1) (w.heap.size + 1 + 1 + 1 + 1) 25 39 33 #[.int .i64 (k : Int), .slice sa n ks, .slice ak cn kk] #[.slice ab b.length kb] #[.int .i64 4, .int .i64 0, .int .i64 0] (0, 0) (0, 0) (0, 0) _ _ _ rfl rfl rfl (fill7_getD HM3.out.six (.int .i64 (k : Int)) (.slice sa n ks) (.slice ak cn kk) (.slice ab b.length kb) (.int .i64 4) (.int .i64 0) (.int .i64 0)).1 (fill7_getD HM3.out.six (.int .i64 (k : Int)) (.slice sa n ks) (.slice ak cn kk) (.slice ab b.length kb) (.int .i64 4) (.int .i64 0) (.int .i64 0)).2.1 (fill7_getD HM3.out.six (.int .i64 (k : Int)) (.slice sa n ks) (.slice ak cn kk) (.slice ab b.length kb) (.int .i64 4) (.int .i64 0) (.int .i64 0)).2.2 Tryd.underlying25 rfl Tryd.underlying39 rfl Tryd.underlying33 rfl) rfl ?_
      exact one_old HM3.out.bel HS.out HK.out HBS.out 4 HF.out
  · obtain ⟨g, hg⟩ := own_row HM3.out.os (by have := HN.out; omega)
    subst hg
    have k0 : w3.drew.cell? ⟨p, 1, none⟩ = some (.slice (some ⟨g, 0, none⟩) n m1) ∧ w3.drew.cell? ⟨q, 0, none⟩ = some (.int .i64 4) ∧ w3.drew.cell? ⟨q, 1, none⟩ = some (.int .i64 a) := ⟨mp1, mo0, mo1⟩
    obtain ⟨j, hj⟩ : ∃ j, n = j + 2 := ⟨n - 2, by omega⟩
    have hsub : IntKind.i64.wrap ((n : Int) - (2)) = (j : Int) := by rw [IntKind.wrap_i64]; omega
    have hnj : n - j = 2 := by omega
    have hj0 : (0 : Int) ≤ (j : Int) := by omega
    have hjn : (j : Int) ≤ (n : Int) := by omega
    have hnm : (n : Int) ≤ (m1 : Int) := by have := HM1.out; omega
    have hmj : ¬ m1 = j := by have := HM1.out; omega
    have HJ := hid hj
    clear hj
    go_upto_region 9 with fail
    go_cut [13] (fun x13 wx => x13 = .slice (some ⟨g, j, none⟩) 2 (m1 - j) ∧ Hid (Below w3.heap.size w3 wx))
    case first =>
      clear ma0 ma1 ma2 mc0 mc1 md0 md1 md2 mf0 mf1 mf2 me0 me1 mh0 mh1 mh2 mi0 mi1 mi2 mj0 mj1 mj2 mp0 mp2 mq0 mq1 mq2
      go_region_held3 (fun X => X.cell? ⟨p, 1, none⟩ = some (.slice (some ⟨g, 0, none⟩) n m1) ∧ X.cell? ⟨q, 0, none⟩ = some (.int .i64 4) ∧ X.cell? ⟨q, 1, none⟩ = some (.int .i64 a))
        (first | (with_reducible exact k0) | (with_reducible exact k1))
        (first
          | (go_at_call 36
             refine (HTk.out _).mono ?_
             rintro e' w4 ⟨rfl, b4⟩
             have B4 : Hid (Below w3.heap.size w3 w4) := hid ((Below.drew (Below.refl _ _)).trans b4)
             have k1 : w4.cell? ⟨p, 1, none⟩ = some (.slice (some ⟨g, 0, none⟩) n m1) ∧ w4.cell? ⟨q, 0, none⟩ = some (.int .i64 4) ∧ w4.cell? ⟨q, 1, none⟩ = some (.int .i64 a) := by
               have c := (HM3.out.below B4.out).cells
               exact ⟨c.2.2.2.2.2.2.1.2.1, c.2.2.2.2.2.2.2.1, c.2.2.2.2.2.2.2.2⟩
             clear b4))
      all_goals
        go_wp2
        all_goals
          go_meet
          case rel => exact ⟨(by first | rfl | simp [hmj, hnj, Addr.add] | simp), B4⟩
    case rest =>
      obtain ⟨rfl, HBC⟩ := hcut
      have HM4 := hid (HM3.out.below HBC.out)
      clear HBC
      clear ma0 ma1 ma2 mc0 mc1 md0 md1 md2 mf0 mf1 mf2 me0 me1 mh0 mh1 mh2 mi0 mi1 mi2 mj0 mj1 mj2 mp0 mp1 mp2 mq0 mq1 mq2 mo0 mo1
      obtain ⟨⟨ma0, ma1, ma2⟩, ⟨mc0, mc1⟩, ⟨md0, md1, md2, mf0, mf1, mf2⟩, ⟨me0, me1⟩, ⟨mh0, mh1, mh2, mi0, mi1, mi2⟩, ⟨mj0, mj1, mj2⟩, ⟨mp0, mp1, mp2, mq0, mq1, mq2⟩, ⟨mo0, mo1⟩⟩ := HM4.out.cells
      have HM5 := hid (HM4.out.setPc ((k : Int) + 1))
      obtain ⟨Y, hY⟩ : ∃ Y, Y = wc.setCell ⟨p, 0, none⟩ (.int .i64 ((k : Int) + 1)) := ⟨_, rfl⟩
      rw [← hY] at HM5
      have hwk : IntKind.i64.wrap ((k : Int) + 1) = (k : Int) + 1 := by rw [IntKind.wrap_i64]; omega
      go_upto_region 11 with fail
      rw [← hY]
      clear hY
      clear ma0 ma1 ma2 mc0 mc1 md0 md1 md2 mf0 mf1 mf2 me0 me1 mh0 mh1 mh2 mi0 mi1 mi2 mj0 mj1 mj2 mp0 mp1 mp2 mq0 mq1 mq2 mo0 mo1
      obtain ⟨⟨ma0, ma1, ma2⟩, ⟨mc0, mc1⟩, ⟨md0, md1, md2, mf0, mf1, mf2⟩, ⟨me0, me1⟩, ⟨mh0, mh1, mh2, mi0, mi1, mi2⟩, ⟨mj0, mj1, mj2⟩, ⟨mp0, mp1, mp2, mq0, mq1, mq2⟩, ⟨mo0, mo1⟩⟩ := HM5.out.cells
      obtain ⟨lc1, _⟩ := own_cell HM5.out.os (j + 1) (by have := HN.out; have := HJ.out; omega)
      obtain ⟨x1, hx1⟩ : ∃ x1, x1 = topL st 0 := ⟨_, rfl⟩
      obtain ⟨x0, hx0⟩ : ∃ x0, x0 = topL st 1 := ⟨_, rfl⟩
      obtain ⟨lc0, _⟩ := own_cell HM5.out.os j (by have := HN.out; have := HJ.out; omega)
      rw [show st.getD (j + 1) 0 = x1 by rw [hx1]; unfold topL; rw [HN.out, show n - 1 - 0 = j + 1 by have := HJ.out; omega]] at lc1
      rw [show st.getD j 0 = x0 by rw [hx0]; unfold topL; rw [HN.out, show n - 1 - 1 = j by have := HJ.out; omega]] at lc0
      have HX1 := hid hx1
      have HX0 := hid hx0
      clear hx0 hx1
      have hi2 : (1 : Int) < ((2 : Nat) : Int) := by omega
      have hput : ∀ l, putL st 2 l = st.take j ++ l := fun l => by unfold putL; rw [HN.out, show n - 2 = j by have := HJ.out; omega]
      have HPUT := hid hput
      clear hput
      have hY2 : Below Y.heap.size Y (Y.alloc (.cells #[.int .i64 x1, .int .i64 x0] 3)).drew := Below.drew (below_alloc Y _)
      have HM6 := hid (HM5.out.below hY2)
      have hoc6 := HM6.out.os.cut j (by have := HN.out; have := HJ.out; omega)
      obtain ⟨v', X, hr, ho, hg2, hv⟩ := run_app (Y.alloc (.cells #[.int .i64 x1, .int .i64 x0] 3)).drew 23 q (.slice (some ⟨g, 0, none⟩) j m1) (st.take j) hoc6 _ [x1, x0] ((sees_two Y x1 x0).below (Below.drew (Below.refl _ _))) (by have := HN.out; simp; omega) (by have := HM6.out.lt.2; omega)
      have hbX := HM6.out.grown hg2
      have HM7 := hid (HM6.out.setSt hg2 ho hv)
      obtain ⟨a3, c3, e3, hc3⟩ := ho.shape
      have hLn : (st.take j ++ [x1, x0]).length = n := by have := HN.out; have := HJ.out; simp; omega
      rw [hLn] at e3 hc3
      subst e3
      have HRR := hid hr
      obtain ⟨g3, hg3⟩ := own_row HM7.out.os (by rw [hLn]; have := HJ.out; omega)
      subst hg3
      obtain ⟨Z, hZ⟩ : ∃ Z, Z = X.setCell ⟨p, 1, none⟩ (.slice (some ⟨g3, 0, none⟩) n c3) := ⟨_, rfl⟩
      rw [← hZ] at HM7
      obtain ⟨_, x1', _, _, x2', _⟩ := cel3 hbX
      have ya1 := ((below_alloc Y (.cells #[.int .i64 x1, .int .i64 x0] 3)).cell (World.block_lt_of_cell? Y _ mp1)).trans mp1
      have ya2 := ((below_alloc Y (.cells #[.int .i64 x1, .int .i64 x0] 3)).cell (World.block_lt_of_cell? Y _ lc0)).trans lc0
      have ya3 := ((below_alloc Y (.cells #[.int .i64 x1, .int .i64 x0] 3)).cell (World.block_lt_of_cell? Y _ lc1)).trans lc1
      have hjm : (j : Int) ≤ (m1 : Int) := by omega
      have HLN := hid hLn
      have HC3 := hid hc3
      have hz0 : (0 : Int) < ((2 : Nat) : Int) := by omega
      clear hY2 hr ho hg2 hv hbX hoc6 hLn hc3
      go_upto_region 23 with fail
      go_cut [13] (fun x13 wx => x13 = .slice (some ⟨g, j, none⟩) 2 (m1 - j) ∧ Hid (Z = wx))
      case first =>
        go_region_law (refine step_append_run rfl (.tmp 116) (.tmp 123) 23 23 rfl _ _ (by simp [Act.eval, Act.put]) (by simp [Act.eval, Act.put]) HRR.out ?_)
        all_goals
          go_wp2
          all_goals
            go_meet
            case rel => exact ⟨rfl, hid hZ⟩
      case rest =>
        obtain ⟨rfl, HW⟩ := hcut
        have hw := HW.out
        subst hw
        clear HW
        clear hZ x1' x2' ya1 ya2 ya3
        clear ma0 ma1 ma2 mc0 mc1 md0 md1 md2 mf0 mf1 mf2 me0 me1 mh0 mh1 mh2 mi0 mi1 mi2 mj0 mj1 mj2 mp0 mp1 mp2 mq0 mq1 mq2 mo0 mo1
        obtain ⟨⟨ma0, ma1, ma2⟩, ⟨mc0, mc1⟩, ⟨md0, md1, md2, mf0, mf1, mf2⟩, ⟨me0, me1⟩, ⟨mh0, mh1, mh2, mi0, mi1, mi2⟩, ⟨mj0, mj1, mj2⟩, ⟨mp0, mp1, mp2, mq0, mq1, mq2⟩, ⟨mo0, mo1⟩⟩ := HM7.out.cells
        obtain ⟨jn, hjn1⟩ : ∃ jn, jn = j + 1 := ⟨_, rfl⟩
        have HJN := hid hjn1
        have hw1 : IntKind.i64.wrap ((n : Int) - 1) = (jn : Int) := by rw [IntKind.wrap_i64]; have := HJ.out; omega
        have hjl : (j : Int) < (n : Int) := by have := HJ.out; omega
        have hjl2 : (jn : Int) < (n : Int) := by have := HJ.out; omega
        have hjn0 : (0 : Int) ≤ (jn : Int) := by omega
        obtain ⟨sb, so, hsa, oc⟩ : ∃ sb so, sa = some ⟨sb, so, none⟩ ∧ ∀ i, i < n → w.cell? ⟨sb, so + i, none⟩ = some (.int .i64 (st.getD i 0)) := by
          obtain ⟨b0, o0, ao0, c0, e, hcp, _, hao, hcell⟩ := HS.out
          cases e
          exact ⟨b0, o0, hao (by intro e; have := HJ.out; rw [e] at this; simp at this), fun i hi => hcell i (by have := HN.out; omega)⟩
        subst hsa
        have hks : n ≤ ks := by
          obtain ⟨b0, o0, ao0, c0, e, hcp, _, hao, hcell⟩ := HS.out
          cases e
          exact hcp
        have oc1 := oc jn (by have := HJ.out; omega)
        have oc0 := oc j (by have := HJ.out; omega)
        rw [show st.getD jn 0 = x1 by rw [hjn1, HX1.out]; unfold topL; rw [HN.out, show n - 1 - 0 = j + 1 by have := HJ.out; omega]] at oc1
        rw [show st.getD j 0 = x0 by rw [HX0.out]; unfold topL; rw [HN.out, show n - 1 - 1 = j by have := HJ.out; omega]] at oc0
        have oc1 := (HM7.out.bel.cell (World.block_lt_of_cell? w _ oc1)).trans oc1
        have oc0' := oc0
        have oc0 := (HM7.out.bel.cell (World.block_lt_of_cell? w _ oc0)).trans oc0
        obtain ⟨_, lf0⟩ := own_cell HM7.out.os j (by rw [HLN.out]; have := HJ.out; omega)
        have hkj : j < ks := by have := HJ.out; omega
        have hkjn : jn < ks := by have := HJ.out; omega
        have hc3j : j < c3 := by have := HC3.out; have := HJ.out; omega
        have hc3jn : jn < c3 := by have := HC3.out; have := HJ.out; omega
        have HM8 := hid ((HM7.out.putSt j x1 (by rw [HLN.out]; have := HJ.out; omega)).below (Below.drew (Below.refl _ _)))
        have OC0 := hid oc0'
        clear oc hjn1 oc0'
        go_upto_region 24 with fail
        go_region
        all_goals
          go_upto_region 25 with fail
          obtain ⟨Z2, hZ2⟩ : ∃ Z2, Z2 = (Z.setCell ⟨g3, j, none⟩ (.int .i64 x1)).drew := ⟨_, rfl⟩
          rw [← hZ2] at HM8
          rw [← hZ2]
          clear hZ2 oc1 oc0 lf0
          clear ma0 ma1 ma2 mc0 mc1 md0 md1 md2 mf0 mf1 mf2 me0 me1 mh0 mh1 mh2 mi0 mi1 mi2 mj0 mj1 mj2 mp0 mp1 mp2 mq0 mq1 mq2 mo0 mo1
          obtain ⟨⟨ma0, ma1, ma2⟩, ⟨mc0, mc1⟩, ⟨md0, md1, md2, mf0, mf1, mf2⟩, ⟨me0, me1⟩, ⟨mh0, mh1, mh2, mi0, mi1, mi2⟩, ⟨mj0, mj1, mj2⟩, ⟨mp0, mp1, mp2, mq0, mq1, mq2⟩, ⟨mo0, mo1⟩⟩ := HM8.out.cells
          have oc0 := (HM8.out.bel.cell (World.block_lt_of_cell? w _ OC0.out)).trans OC0.out
          obtain ⟨_, lf1⟩ := own_cell HM8.out.os jn (by rw [List.length_set, HLN.out]; have := HJ.out; have := HJN.out; omega)
          have HM9 := hid ((HM8.out.putSt jn x0 (by rw [List.length_set, HLN.out]; have := HJ.out; have := HJN.out; omega)).below (Below.drew (Below.refl _ _)))
          have hli : ¬ (64 : Int) < (n : Int) := by omega
          have HF : Hid (R = ((0, 0), ⟨(k : Int) + 1, (((st.take j ++ [x1, x0]).set j x1).set jn x0), ca⟩, b)) := hid (by
            rw [HR.out]
            refine step_done HAT.out.1 HAT.out.2 (by unfold fitsL; rw [htk, HN.out]; simp [lvI, effO, effT]; omega) ?_
            have hlt : (st.take j).length = j := by rw [List.length_take]; have := HN.out; have := HJ.out; omega
            have e1 : (st.take j ++ [x1, x0]).set j x1 = st.take j ++ [x1, x0] := by
              rw [List.set_append_right _ _ (by omega), hlt, Nat.sub_self]
              rfl
            have e2 : (st.take j ++ [x1, x0]).set jn x0 = st.take j ++ [x1, x0] := by
              rw [HJN.out, List.set_append_right _ _ (by omega), hlt, show j + 1 - j = 1 by omega]
              rfl
            rw [e1, e2]
            unfold doL
            simp [HPUT.out, HX0.out, HX1.out])
          go_region
          all_goals
            go_upto_region 61 with fail
            obtain ⟨Z3, hZ3⟩ : ∃ Z3, Z3 = (Z2.setCell ⟨g3, jn, none⟩ (.int .i64 x0)).drew := ⟨_, rfl⟩
            rw [← hZ3] at HM9
            rw [← hZ3]
            clear hZ3 oc0 lf1
            clear ma0 ma1 ma2 mc0 mc1 md0 md1 md2 mf0 mf1 mf2 me0 me1 mh0 mh1 mh2 mi0 mi1 mi2 mj0 mj1 mj2 mp0 mp1 mp2 mq0 mq1 mq2 mo0 mo1
            obtain ⟨⟨ma0, ma1, ma2⟩, ⟨mc0, mc1⟩, ⟨md0, md1, md2, mf0, mf1, mf2⟩, ⟨me0, me1⟩, ⟨mh0, mh1, mh2, mi0, mi1, mi2⟩, ⟨mj0, mj1, mj2⟩, ⟨mp0, mp1, mp2, mq0, mq1, mq2⟩, ⟨mo0, mo1⟩⟩ := HM9.out.cells
            go_wp2
            go_region
            all_goals
              clear ma0 ma1 ma2 mc0 mc1 md0 md1 md2 mf0 mf1 mf2 me0 me1 mh0 mh1 mh2 mi0 mi1 mi2 mj0 mj1 mj2 mp0 mp1 mp2 mq0 mq1 mq2 mo0 mo1
              rename_i hKz
              refine hKz _ _ ?_
              refine wp_ret ?_
              refine bodyPost_ret (v := .tuple #[.agg #[.int .i64 ((k : Int) + 1), .slice (some ⟨g3, 0, none⟩) n c3, .slice u2 cn m2], .agg #[.slice ab b.length kb], .agg #[.int .i64 0, .int .i64 0, .int .i64 0]]) (w := (fill7 Z3 w.heap.size (.int .i64 ((k : Int) + 1)) (.slice (some ⟨g3, 0, none⟩) n c3) (.slice u2 cn m2) (.slice ab b.length kb) (.int .i64 0) (.int .i64 0) (.int .i64 0)).drew) (results_ccc (fn := Tryd.f28) (p1 := 6) (p2 := 7) (p3 := 8) rfl _ (fill7 Z3 w.heap.size (.int .i64 ((k : Int) + 1)) (.slice (some ⟨g3, 0, none⟩) n c3) (.slice u2 cn m2) (.slice ab b.length kb) (.int .i64 0) (.int .i64 0) (.int .i64 0)).drew (w.heap.size + 1 + 1) (w.heap.size + 1 + 1 + 1) (w.heap.size + 1 + 1 + 1 + 1) 25 39 33 #[.int .i64 ((k : Int) + 1), .slice (some ⟨g3, 0, none⟩) n c3, .slice u2 cn m2] #[.slice ab b.length kb] #[.int .i64 0, .int .i64 0, .int .i64 0] (0, 0) (0, 0) (0, 0) _ _ _ rfl rfl rfl (fill7_getD HM9.out.six (.int .i64 ((k : Int) + 1)) (.slice (some ⟨g3, 0, none⟩) n c3) (.slice u2 cn m2) (.slice ab b.length kb) (.int .i64 0) (.int .i64 0) (.int .i64 0)).1 (fill7_getD HM9.out.six (.int .i64 ((k : Int) + 1)) (.slice (some ⟨g3, 0, none⟩) n c3) (.slice u2 cn m2) (.slice ab b.length kb) (.int .i64 0) (.int .i64 0) (.int .i64 0)).2.1 (fill7_getD HM9.out.six (.int .i64 ((k : Int) + 1)) (.slice (some ⟨g3, 0, none⟩) n c3) (.slice u2 cn m2) (.slice ab b.length kb) (.int .i64 0) (.int .i64 0) (.int .i64 0)).2.2 Tryd.underlying25 rfl Tryd.underlying39 rfl Tryd.underlying33 rfl) rfl ?_
              exact one_new HM9.out (HBS.out.below HM9.out.bel) HFAR.out (Or.inl rfl) 0 0 HF.out
end Go.Proofs.YtfnojlgmbfocfaaDoor
