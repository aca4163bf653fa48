/-
  The document's Run where it may not be.
-/
import Derived.Test.YtfnojlgmbfocfaaDoorVRunR
import Derived.BigRegion
namespace Go.Proofs.YtfnojlgmbfocfaaDoor
open Go.RowKit
set_option linter.unusedVariables false
set_option linter.unusedSimpArgs false
set_option maxRecDepth 100000

set_option maxHeartbeats 8000000 in
theorem rrun_bad (v : Value) (l : List InsL) (s : StL) (vs vk vb : Value) (b : List Nat) (fuel : Int) (w : World) (hV : SeesI w v l) (hS : SeesS w (.agg #[.int .i64 s.pc, vs, vk]) s vs vk) (hbs : SeesN .u8 w vb b) (hlen : l.length ≤ 140737488355328) (hE : refL l s true fuel ≠ 0) :
    Calls Tryd.prog 14 #[v, .agg #[.int .i64 s.pc, vs, vk], .agg #[vb], .int .i64 fuel] w (RunQ w vb (refL l s true fuel) ((0, 0, 0), ⟨0, [], []⟩, b)) := by
  obtain ⟨pc, st, ca⟩ := s
  obtain ⟨n, hn⟩ : ∃ n, st.length = n := ⟨_, rfl⟩
  obtain ⟨sa, ks, es⟩ : ∃ ao cap, vs = .slice ao n cap := by obtain ⟨_, _, ao, cap, e, _⟩ := hS.st; exact ⟨ao, cap, by rw [← hn]; exact e⟩
  obtain ⟨cn, hcn⟩ : ∃ cn, ca.length = cn := ⟨_, rfl⟩
  obtain ⟨ak, kk, ek⟩ : ∃ ao cap, vk = .slice ao cn cap := by obtain ⟨_, _, ao, cap, e, _⟩ := hS.ca; exact ⟨ao, cap, by rw [← hcn]; exact e⟩
  obtain ⟨ab, kb, eb⟩ : ∃ ao cap, vb = .slice ao b.length cap := by obtain ⟨_, _, ao, cap, e, _⟩ := hbs; exact ⟨ao, cap, e⟩
  subst es ek eb
  obtain ⟨h5, hbel, hsz⟩ := five_new w pc (.slice sa n ks) (.slice ak cn kk) (.slice ab b.length kb)
  obtain ⟨W, hW⟩ : ∃ W, W = fiveW w pc (.slice sa n ks) (.slice ak cn kk) (.slice ab b.length kb) := ⟨_, rfl⟩
  rw [← hW] at h5 hbel hsz
  unfold fiveW at hW
  have hCk := rcheck_any v l W (hV.below hbel) hlen
  have HMay := hid (fun W' (hb : Below w.heap.size w W') => rMayS_any (.agg #[.int .i64 pc, .slice sa n ks, .slice ak cn kk]) ⟨pc, st, ca⟩ (.slice sa n ks) (.slice ak cn kk) l.length W' (hS.below hb))
  obtain ⟨vo, vc, rfl⟩ : ∃ ao cap, v = .slice ao l.length cap := by obtain ⟨_, _, ao, cap, e, _⟩ := hV; exact ⟨ao, cap, e⟩
  obtain ⟨E, hEE⟩ : ∃ E, E = refL l ⟨pc, st, ca⟩ true fuel := ⟨_, rfl⟩
  rw [← hEE] at hE
  rw [← hEE]
  obtain ⟨⟨ce, ck⟩, hcc⟩ : ∃ C, C = checkL l := ⟨_, rfl⟩
  obtain ⟨ok, hok⟩ : ∃ ok, ok = okS l.length ⟨pc, st, ca⟩ := ⟨_, rfl⟩
  have HE : Hid (E = if ce = 0 then (if ok = true ∧ true = true ∧ 0 ≤ fuel ∧ fuel ≤ 1048576 then 0 else 1) else ce) := hid (by rw [hEE, refL, ← hcc, ← hok])
  rw [← hcc] at hCk
  rw [← hok] at HMay
  have HH5 := hid h5
  have HBEL := hid hbel
  have HBS := hid hbs
  have HSZ := hid hsz
  have HEN := hid hE
  clear h5 hbel hbs hV hS hsz hE hEE hcc hok hn hcn
  by_cases hz : ce = 0
  · subst hz
    have hEV : E = 1 := by
      have h := HE.out
      rw [if_pos rfl] at h
      split at h
      · exact absurd h HEN.out
      · exact h
    have HBAD : Hid (¬ (ok = true ∧ 0 ≤ fuel ∧ fuel ≤ 1048576)) := hid (fun h => by
      have h2 := HE.out
      rw [if_pos rfl, if_pos ⟨h.1, rfl, h.2.1, h.2.2⟩] at h2
      exact HEN.out h2)
    subst hEV
    clear HE HEN
    go_enter Tryd.func14, Tryd.ntmps14
    go_upto_region 1 with fail
    rw [← hW]
    clear hW
    go_wp2_with fail
    refine hCk.mono ?_
    clear hCk
    rintro e w1 ⟨rfl, hb1⟩
    have H51 := hid (HH5.out.below hb1 (by have := HSZ.out; omega))
    have HB1 := hid (HBEL.out.trans (hb1.mono HBEL.out.size))
    obtain ⟨⟨ma0, ma1, ma2, _, _, _⟩, _⟩ := H51.out.cells
    have hMy := HMay.out w1 HB1.out
    clear hb1 HMay
    go_wp2_with fail
    refine hMy.mono ?_
    clear hMy ma0 ma1 ma2
    rintro e w2 ⟨rfl, hb2⟩
    have H52 := hid (H51.out.below hb2 (by have := HSZ.out; have := (Array.getElem?_eq_some_iff.1 H51.out.b4).1; omega))
    have HB2 := hid (HB1.out.trans (hb2.mono HB1.out.size))
    obtain ⟨⟨ma0, ma1, ma2, mb0, mb1, mb2⟩, ⟨mc0, mc1⟩, ⟨md0, md1, md2, mf0, mf1, mf2⟩, ⟨me0, me1⟩, ⟨mh0, mh1, mh2, mi0, mi1, mi2⟩⟩ := H52.out.cells
    clear hb2
    cases ok with
    | false =>
      go_upto_region 5 with fail
      go_region
      all_goals
        clear ma0 ma1 ma2 mb0 mb1 mb2 mc0 mc1 md0 md1 md2 mf0 mf1 mf2 me0 me1 mh0 mh1 mh2 mi0 mi1 mi2
        rename_i hKz
        refine hKz _ _ ?_
        refine wp_ret ?_
        refine bodyPost_ret (v := .tuple #[.agg #[.int .i64 0, .slice none 0 0, .slice none 0 0], .agg #[.slice ab b.length kb], .agg #[.int .i64 0, .int .i64 0, .int .i64 0], .int .i64 1]) (w := (fill7 w2 w.heap.size (.int .i64 0) (.slice none 0 0) (.slice none 0 0) (.slice ab b.length kb) (.int .i64 0) (.int .i64 0) (.int .i64 0)).drew) (results_ccct (fn := Tryd.f14) (p1 := 8) (p2 := 9) (p3 := 10) (u := 11) rfl _ (fill7 w2 w.heap.size (.int .i64 0) (.slice none 0 0) (.slice none 0 0) (.slice ab b.length kb) (.int .i64 0) (.int .i64 0) (.int .i64 0)).drew (w.heap.size + 1 + 1) (w.heap.size + 1 + 1 + 1) (w.heap.size + 1 + 1 + 1 + 1) 25 39 33 #[.int .i64 0, .slice none 0 0, .slice none 0 0] #[.slice ab b.length kb] #[.int .i64 0, .int .i64 0, .int .i64 0] (0, 0) (0, 0) (0, 0) _ _ _ (.int .i64 1) rfl rfl rfl rfl (five_get H52.out (.int .i64 0) (.slice none 0 0) (.slice none 0 0) (.slice ab b.length kb) (.int .i64 0) (.int .i64 0) (.int .i64 0)).1 (five_get H52.out (.int .i64 0) (.slice none 0 0) (.slice none 0 0) (.slice ab b.length kb) (.int .i64 0) (.int .i64 0) (.int .i64 0)).2.1 (five_get H52.out (.int .i64 0) (.slice none 0 0) (.slice none 0 0) (.slice ab b.length kb) (.int .i64 0) (.int .i64 0) (.int .i64 0)).2.2 Tryd.underlying25 rfl Tryd.underlying39 rfl Tryd.underlying33 rfl) rfl ?_
        exact run_none HB2.out HBS.out _
    | true =>
      by_cases hf0 : fuel < 0
      · go_upto_region 5 with fail
        go_region
        all_goals
          clear ma0 ma1 ma2 mb0 mb1 mb2 mc0 mc1 md0 md1 md2 mf0 mf1 mf2 me0 me1 mh0 mh1 mh2 mi0 mi1 mi2
          rename_i hKz
          refine hKz _ _ ?_
          refine wp_ret ?_
          refine bodyPost_ret (v := .tuple #[.agg #[.int .i64 0, .slice none 0 0, .slice none 0 0], .agg #[.slice ab b.length kb], .agg #[.int .i64 0, .int .i64 0, .int .i64 0], .int .i64 1]) (w := (fill7 w2 w.heap.size (.int .i64 0) (.slice none 0 0) (.slice none 0 0) (.slice ab b.length kb) (.int .i64 0) (.int .i64 0) (.int .i64 0)).drew) (results_ccct (fn := Tryd.f14) (p1 := 8) (p2 := 9) (p3 := 10) (u := 11) rfl _ (fill7 w2 w.heap.size (.int .i64 0) (.slice none 0 0) (.slice none 0 0) (.slice ab b.length kb) (.int .i64 0) (.int .i64 0) (.int .i64 0)).drew (w.heap.size + 1 + 1) (w.heap.size + 1 + 1 + 1) (w.heap.size + 1 + 1 + 1 + 1) 25 39 33 #[.int .i64 0, .slice none 0 0, .slice none 0 0] #[.slice ab b.length kb] #[.int .i64 0, .int .i64 0, .int .i64 0] (0, 0) (0, 0) (0, 0) _ _ _ (.int .i64 1) rfl rfl rfl rfl (five_get H52.out (.int .i64 0) (.slice none 0 0) (.slice none 0 0) (.slice ab b.length kb) (.int .i64 0) (.int .i64 0) (.int .i64 0)).1 (five_get H52.out (.int .i64 0) (.slice none 0 0) (.slice none 0 0) (.slice ab b.length kb) (.int .i64 0) (.int .i64 0) (.int .i64 0)).2.1 (five_get H52.out (.int .i64 0) (.slice none 0 0) (.slice none 0 0) (.slice ab b.length kb) (.int .i64 0) (.int .i64 0) (.int .i64 0)).2.2 Tryd.underlying25 rfl Tryd.underlying39 rfl Tryd.underlying33 rfl) rfl ?_
          exact run_none HB2.out HBS.out _
      · have hf1 : 1048576 < fuel := by
          have := HBAD.out
          by_cases h : 1048576 < fuel
          · exact h
          · exact absurd ⟨rfl, by omega, by omega⟩ this
        go_upto_region 5 with fail
        go_region
        all_goals
          clear ma0 ma1 ma2 mb0 mb1 mb2 mc0 mc1 md0 md1 md2 mf0 mf1 mf2 me0 me1 mh0 mh1 mh2 mi0 mi1 mi2
          rename_i hKz
          refine hKz _ _ ?_
          refine wp_ret ?_
          refine bodyPost_ret (v := .tuple #[.agg #[.int .i64 0, .slice none 0 0, .slice none 0 0], .agg #[.slice ab b.length kb], .agg #[.int .i64 0, .int .i64 0, .int .i64 0], .int .i64 1]) (w := (fill7 w2 w.heap.size (.int .i64 0) (.slice none 0 0) (.slice none 0 0) (.slice ab b.length kb) (.int .i64 0) (.int .i64 0) (.int .i64 0)).drew) (results_ccct (fn := Tryd.f14) (p1 := 8) (p2 := 9) (p3 := 10) (u := 11) rfl _ (fill7 w2 w.heap.size (.int .i64 0) (.slice none 0 0) (.slice none 0 0) (.slice ab b.length kb) (.int .i64 0) (.int .i64 0) (.int .i64 0)).drew (w.heap.size + 1 + 1) (w.heap.size + 1 + 1 + 1) (w.heap.size + 1 + 1 + 1 + 1) 25 39 33 #[.int .i64 0, .slice none 0 0, .slice none 0 0] #[.slice ab b.length kb] #[.int .i64 0, .int .i64 0, .int .i64 0] (0, 0) (0, 0) (0, 0) _ _ _ (.int .i64 1) rfl rfl rfl rfl (five_get H52.out (.int .i64 0) (.slice none 0 0) (.slice none 0 0) (.slice ab b.length kb) (.int .i64 0) (.int .i64 0) (.int .i64 0)).1 (five_get H52.out (.int .i64 0) (.slice none 0 0) (.slice none 0 0) (.slice ab b.length kb) (.int .i64 0) (.int .i64 0) (.int .i64 0)).2.1 (five_get H52.out (.int .i64 0) (.slice none 0 0) (.slice none 0 0) (.slice ab b.length kb) (.int .i64 0) (.int .i64 0) (.int .i64 0)).2.2 Tryd.underlying25 rfl Tryd.underlying39 rfl Tryd.underlying33 rfl) rfl ?_
          exact run_none HB2.out HBS.out _
  · have hz' : (ce != 0) = true := by simpa using hz
    have hEV : E = ce := by rw [HE.out, if_neg hz]
    subst hEV
    clear HE HMay
    go_enter Tryd.func14, Tryd.ntmps14
    go_upto_region 1 with fail
    rw [← hW]
    clear hW
    go_wp2_with fail
    refine hCk.mono ?_
    clear hCk
    rintro e w1 ⟨rfl, hb1⟩
    have H52 := hid (HH5.out.below hb1 (by have := HSZ.out; omega))
    have HB2 := hid (HBEL.out.trans (hb1.mono HBEL.out.size))
    obtain ⟨⟨ma0, ma1, ma2, mb0, mb1, mb2⟩, ⟨mc0, mc1⟩, ⟨md0, md1, md2, mf0, mf1, mf2⟩, ⟨me0, me1⟩, ⟨mh0, mh1, mh2, mi0, mi1, mi2⟩⟩ := H52.out.cells
    clear hb1
    go_upto_region 3 with fail
    go_region
    all_goals
      clear ma0 ma1 ma2 mb0 mb1 mb2 mc0 mc1 md0 md1 md2 mf0 mf1 mf2 me0 me1 mh0 mh1 mh2 mi0 mi1 mi2
      rename_i hKz
      refine hKz _ _ ?_
      refine wp_ret ?_
      refine bodyPost_ret (v := .tuple #[.agg #[.int .i64 0, .slice none 0 0, .slice none 0 0], .agg #[.slice ab b.length kb], .agg #[.int .i64 0, .int .i64 0, .int .i64 0], .int .i64 E]) (w := (fill7 w1 w.heap.size (.int .i64 0) (.slice none 0 0) (.slice none 0 0) (.slice ab b.length kb) (.int .i64 0) (.int .i64 0) (.int .i64 0)).drew) (results_ccct (fn := Tryd.f14) (p1 := 8) (p2 := 9) (p3 := 10) (u := 11) rfl _ (fill7 w1 w.heap.size (.int .i64 0) (.slice none 0 0) (.slice none 0 0) (.slice ab b.length kb) (.int .i64 0) (.int .i64 0) (.int .i64 0)).drew (w.heap.size + 1 + 1) (w.heap.size + 1 + 1 + 1) (w.heap.size + 1 + 1 + 1 + 1) 25 39 33 #[.int .i64 0, .slice none 0 0, .slice none 0 0] #[.slice ab b.length kb] #[.int .i64 0, .int .i64 0, .int .i64 0] (0, 0) (0, 0) (0, 0) _ _ _ (.int .i64 E) rfl rfl rfl rfl (five_get H52.out (.int .i64 0) (.slice none 0 0) (.slice none 0 0) (.slice ab b.length kb) (.int .i64 0) (.int .i64 0) (.int .i64 0)).1 (five_get H52.out (.int .i64 0) (.slice none 0 0) (.slice none 0 0) (.slice ab b.length kb) (.int .i64 0) (.int .i64 0) (.int .i64 0)).2.1 (five_get H52.out (.int .i64 0) (.slice none 0 0) (.slice none 0 0) (.slice ab b.length kb) (.int .i64 0) (.int .i64 0) (.int .i64 0)).2.2 Tryd.underlying25 rfl Tryd.underlying39 rfl Tryd.underlying33 rfl) rfl ?_
      exact run_none HB2.out HBS.out _
end Go.Proofs.YtfnojlgmbfocfaaDoor
