/-
  The document's Run where it may be.
-/
import Derived.Test.YtfnojlgmbfocfaaDoorVRunL
namespace Go.Proofs.YtfnojlgmbfocfaaDoor
open Go.RowKit
set_option linter.unusedVariables false
set_option linter.unusedSimpArgs false
set_option maxRecDepth 100000


theorem run_newQ {w w5 : World} {pc : Int} {ub cs ck vb0 : Value} {st ca : List Int} {b : List Nat} {kd tr : Int} {u B : Nat} {x : Int} (hbel : Below w.heap.size w w5) (hB : w.heap.size + 5 ≤ B) (o1 : Owns w5 B cs st) (o2 : Owns w5 B ck ca) (sb : SeesN .u8 w5 ub b) (ob : OffZ w.heap.size ub (b ≠ [])) (nb : NewV w ub vb0) (hx : x = (u : Nat)) :
    RunQ w vb0 0 ((kd, tr, u), ⟨pc, st, ca⟩, b) (.returned (.tuple #[.agg #[.int .i64 pc, cs, ck], .agg #[ub], .agg #[.int .i64 kd, .int .i64 tr, .int .i64 x], .int .i64 0])) (fill7 w5 w.heap.size (.int .i64 pc) cs ck ub (.int .i64 kd) (.int .i64 tr) (.int .i64 x)) := by
  subst hx
  exact run_new hbel hB o1 o2 sb ob nb
theorem run_ret {w : World} {vb0 : Value} {R : (Int × Int × Nat) × StL × List Nat} {act : Act} {w5 : World} {z : Nat} {pc0 : Int} {us0 uk0 ub0 : Value} (h5 : Five w5 z pc0 us0 uk0 ub0) (a b c x d e f : Value)
    (p1 : act.tmps.getD 8 undef = .pointer (some ⟨z + 1 + 1, 0, none⟩)) (p2 : act.tmps.getD 9 undef = .pointer (some ⟨z + 1 + 1 + 1, 0, none⟩)) (p3 : act.tmps.getD 10 undef = .pointer (some ⟨z + 1 + 1 + 1 + 1, 0, none⟩)) (p4 : act.tmps.getD 11 undef = .int .i64 0) (hd : act.defers = [])
    (h : RunQ w vb0 0 R (.returned (.tuple #[.agg #[a, b, c], .agg #[x], .agg #[d, e, f], .int .i64 0])) (fill7 w5 z a b c x d e f)) :
    bodyPost Tryd.prog Tryd.f14 (RunQ w vb0 0 R) Exit.ret act (fill7 w5 z a b c x d e f) := by
  obtain ⟨g1, g2, g3⟩ := five_get' h5 a b c x d e f
  refine bodyPost_ret (v := .tuple #[.agg #[a, b, c], .agg #[x], .agg #[d, e, f], .int .i64 0]) (w := fill7 w5 z a b c x d e f) (results_ccct (fn := Tryd.f14) (p1 := 8) (p2 := 9) (p3 := 10) (u := 11) rfl act.tmps (fill7 w5 z a b c x d e f) (z + 1 + 1) (z + 1 + 1 + 1) (z + 1 + 1 + 1 + 1) 25 39 33 #[a, b, c] #[x] #[d, e, f] (0, 0) (0, 0) (0, 0) _ _ _ (.int .i64 0) p1 p2 p3 p4 g1 g2 g3 Tryd.underlying25 rfl Tryd.underlying39 rfl Tryd.underlying33 rfl) hd h

set_option maxHeartbeats 16000000 in
theorem rrun_good (v : Value) (l : List InsL) (s : StL) (vs vk vb : Value) (b : List Nat) (fuel : Nat) (w : World) (hV : SeesI w v l) (hS : SeesS w (.agg #[.int .i64 s.pc, vs, vk]) s vs vk) (hbs : SeesN .u8 w vb b) (hlen : l.length ≤ 140737488355328) (hE : refL l s true (fuel : Int) = 0) (hby : ∀ y ∈ b, y < 256) (hbm : b.length ≤ 140737488355328) :
    Calls Tryd.prog 14 #[v, .agg #[.int .i64 s.pc, vs, vk], .agg #[vb], .int .i64 (fuel : Int)] w (RunQ w vb 0 (runL l fuel 0 s b)) := by
  obtain ⟨hck, hok, hf2⟩ : (checkL l).1 = 0 ∧ OkS l.length s ∧ fuel ≤ 1048576 := by
    unfold refL at hE
    by_cases h1 : (checkL l).1 = 0
    · rw [if_pos h1] at hE
      by_cases h2 : okS l.length s = true ∧ true = true ∧ 0 ≤ (fuel : Int) ∧ (fuel : Int) ≤ 1048576
      · exact ⟨h1, okS_iff.1 h2.1, by omega⟩
      · rw [if_neg h2] at hE; simp at hE
    · rw [if_neg h1] at hE; exact absurd hE h1
  obtain ⟨hll, hmay⟩ : l.length ≤ 1024 ∧ ∀ i ∈ l, mayI l.length i = true := by
    rcases check_cases l with h | ⟨h, _⟩ | ⟨_, hb, _, h⟩
    · rw [h] at hck; cases hck
    · rw [h] at hck; cases hck
    · exact ⟨h, badAt_all hb⟩
  obtain ⟨pc, st, ca⟩ := s
  obtain ⟨n, hn⟩ : ∃ n, st.length = n := ⟨_, rfl⟩
  obtain ⟨sa, ks, es⟩ : ∃ ao cap, vs = .slice ao n cap := by obtain ⟨_, _, ao, cap, e, _⟩ := hS.st; exact ⟨ao, cap, by rw [← hn]; exact e⟩
  obtain ⟨cn, hcn⟩ : ∃ cn, ca.length = cn := ⟨_, rfl⟩
  obtain ⟨ak, kk, ek⟩ : ∃ ao cap, vk = .slice ao cn cap := by obtain ⟨_, _, ao, cap, e, _⟩ := hS.ca; exact ⟨ao, cap, by rw [← hcn]; exact e⟩
  obtain ⟨ab, kb, eb⟩ : ∃ ao cap, vb = .slice ao b.length cap := by obtain ⟨_, _, ao, cap, e, _⟩ := hbs; exact ⟨ao, cap, e⟩
  subst es ek eb
  obtain ⟨h5, hbel, hsz⟩ := five_new w pc (.slice sa n ks) (.slice ak cn kk) (.slice ab b.length kb)
  obtain ⟨W, hW⟩ : ∃ W, W = fiveW w pc (.slice sa n ks) (.slice ak cn kk) (.slice ab b.length kb) := ⟨_, rfl⟩
  rw [← hW] at h5 hbel hsz
  unfold fiveW at hW
  have hCk := rcheck_any v l W (hV.below hbel) hlen
  have HMay := hid (fun W' (hb : Below w.heap.size w W') => rMayS_any (.agg #[.int .i64 pc, .slice sa n ks, .slice ak cn kk]) ⟨pc, st, ca⟩ (.slice sa n ks) (.slice ak cn kk) l.length W' (hS.below hb))
  rw [okS_iff.2 hok] at HMay
  obtain ⟨⟨ce, ck⟩, hcc⟩ : ∃ C, C = checkL l := ⟨_, rfl⟩
  rw [← hcc] at hCk hck
  simp only at hck
  subst hck
  have HONE := hid (fun (wr : World) (hb : Below w.heap.size w wr) (s' : StL) (us uk ub : Value) (b' : List Nat) (h1 : Sees wr us s'.st) (h2 : Sees wr uk s'.ca) (h3 : SeesN .u8 wr ub b') (h4 : OkS l.length s') (h5 : ∀ y ∈ b', y < 256) (h6 : b'.length = b.length) => rone_any v l s' us uk ub b' wr (hV.below hb) h1 h2 h3 hll h4 hmay h5 (by omega))
  have HSTEP := hid (fun (s' : StL) (b' : List Nat) (h : OkS l.length s') => step_ok (b := b') hmay h)
  obtain ⟨R, hR⟩ : ∃ R, R = runL l fuel 0 ⟨pc, st, ca⟩ b := ⟨_, rfl⟩
  rw [← hR]
  have HR := hid hR
  have H0 : Hid (RLoop w W l ⟨pc, st, ca⟩ (.slice sa n ks) (.slice ak cn kk) (.slice ab b.length kb) b (.slice ab b.length kb)) := hid ⟨h5, hbel, hS.st.below hbel, hS.ca.below hbel, hbs.below hbel, hok, hby, off_init hS.st, off_init hS.ca, offN_init hbs, Or.inl rfl⟩
  obtain ⟨vo, vc, rfl⟩ : ∃ ao cap, v = .slice ao l.length cap := by obtain ⟨_, _, ao, cap, e, _⟩ := hV; exact ⟨ao, cap, e⟩
  have HH5 := hid h5
  have HBEL := hid hbel
  have HSZ := hid hsz
  have HBM := hid hbm
  have hf0 : ¬ (fuel : Int) < 0 := by omega
  have hf1 : ¬ (1048576 : Int) < (fuel : Int) := by omega
  clear h5 hbel hbs hV hS hsz hcc hok hn hcn hR hE hby hbm hmay hll
  go_enter Tryd.func14, Tryd.ntmps14
  go_upto_region 1 with fail
  rw [← hW]
  clear hW
  go_wp2_with fail
  refine hCk.mono ?_
  clear hCk
  rintro e w1 ⟨rfl, hb1⟩
  have H51 := hid (HH5.out.below hb1 (by have := HSZ.out; omega))
  have HB1 := hid (HBEL.out.trans (hb1.mono HBEL.out.size))
  have H1L : Hid (RLoop w w1 l ⟨pc, st, ca⟩ (.slice sa n ks) (.slice ak cn kk) (.slice ab b.length kb) b (.slice ab b.length kb)) := by
    have h := H0.out
    exact hid ⟨H51.out, HB1.out, h.ss.below hb1, h.sk.below hb1, h.sb.below hb1, h.ok, h.by8, h.os, h.ok2, h.ob, h.nb⟩
  obtain ⟨⟨ma0, ma1, ma2, _, _, _⟩, _⟩ := H51.out.cells
  have hMy := HMay.out w1 HB1.out
  clear hb1 HMay
  go_wp2_with fail
  refine hMy.mono ?_
  clear hMy ma0 ma1 ma2
  rintro e w2 ⟨rfl, hb2⟩
  have H2L : Hid (RLoop w w2 l ⟨pc, st, ca⟩ (.slice sa n ks) (.slice ak cn kk) (.slice ab b.length kb) b (.slice ab b.length kb)) := by
    have h := H1L.out
    exact hid ⟨H51.out.below hb2 (by have := (Array.getElem?_eq_some_iff.1 H51.out.b4).1; omega), HB1.out.trans (hb2.mono HB1.out.size), h.ss.below hb2, h.sk.below hb2, h.sb.below hb2, h.ok, h.by8, h.os, h.ok2, h.ob, h.nb⟩
  clear hb2
  go_wp2_with fail
  go_loopw [14] (fun x14 wr => ∃ (u : Nat) (s' : StL) (us uk ub : Value) (b' : List Nat), x14 = .int .i64 (u : Int) ∧ u ≤ fuel ∧ Hid (RLoop w wr l s' us uk ub b' (.slice ab b.length kb) ∧ b'.length = b.length ∧ runL l (fuel - u) u s' b' = R)) (fun x14 _ => fuel - (intOf x14).toNat)
  case atStart => exact ⟨0, _, _, _, _, b, rfl, Nat.zero_le _, hid ⟨H2L.out, rfl, by rw [HR.out]; rfl⟩⟩
  case round =>
    obtain ⟨u, ⟨pc', st', ca'⟩, us, uk, ub, b', rfl, hu, HL⟩ := hrel
    clear H0 H1L H2L H51 HH5
    obtain ⟨hl, hbl, hrun⟩ := HL.out
    obtain ⟨n', hn'⟩ : ∃ n', st'.length = n' := ⟨_, rfl⟩
    obtain ⟨ua, uc, eu⟩ : ∃ ao cap, us = .slice ao n' cap := by obtain ⟨_, _, ao, cap, e, _⟩ := hl.ss; exact ⟨ao, cap, by rw [← hn']; exact e⟩
    obtain ⟨cn', hcn'⟩ : ∃ cn', ca'.length = cn' := ⟨_, rfl⟩
    obtain ⟨va, vc2, ev⟩ : ∃ ao cap, uk = .slice ao cn' cap := by obtain ⟨_, _, ao, cap, e, _⟩ := hl.sk; exact ⟨ao, cap, by rw [← hcn']; exact e⟩
    obtain ⟨bn', hbn'⟩ : ∃ bn', b'.length = bn' := ⟨_, rfl⟩
    obtain ⟨ba, bc, eb⟩ : ∃ ao cap, ub = .slice ao bn' cap := by obtain ⟨_, _, ao, cap, e, _⟩ := hl.sb; exact ⟨ao, cap, by rw [← hbn']; exact e⟩
    subst eu ev eb
    have HLL := hid hl
    obtain ⟨⟨ma0, ma1, ma2, mb0, mb1, mb2⟩, ⟨mc0, mc1⟩, ⟨md0, md1, md2, mf0, mf1, mf2⟩, ⟨me0, me1⟩, ⟨mh0, mh1, mh2, mi0, mi1, mi2⟩⟩ := hl.five.cells
    have HRUN := hid hrun
    have HBL := hid hbl
    have HN' := hid hn'
    have HCN' := hid hcn'
    have HBN' := hid hbn'
    by_cases hlt : u < fuel
    · have hlt' : (u : Int) < (fuel : Int) := by omega
      have hone := HONE.out wr hl.bel ⟨pc', st', ca'⟩ (.slice ua n' uc) (.slice va cn' vc2) (.slice ba bn' bc) b' hl.ss hl.sk hl.sb hl.ok hl.by8 hbl
      have hst := HSTEP.out ⟨pc', st', ca'⟩ b' hl.ok
      have hsy := step_bytes (l := l) (s := ⟨pc', st', ca'⟩) hl.by8
      have hrn : R = if (stepL l ⟨pc', st', ca'⟩ b').1.1 = 0 then runL l (fuel - (u + 1)) (u + 1) (stepL l ⟨pc', st', ca'⟩ b').2.1 (stepL l ⟨pc', st', ca'⟩ b').2.2 else (((stepL l ⟨pc', st', ca'⟩ b').1.1, (stepL l ⟨pc', st', ca'⟩ b').1.2, u + 1), (stepL l ⟨pc', st', ca'⟩ b').2.1, (stepL l ⟨pc', st', ca'⟩ b').2.2) := by
        rw [← hrun, show fuel - u = (fuel - (u + 1)) + 1 by omega, run_step]
      obtain ⟨⟨⟨kd, tr⟩, s2, b2⟩, hD⟩ : ∃ D, D = stepL l ⟨pc', st', ca'⟩ b' := ⟨_, rfl⟩
      rw [← hD] at hone hst hsy hrn
      simp only at hst hsy hrn
      obtain ⟨pc2, st2, ca2⟩ := s2
      have HST := hid hst
      have HSY := hid hsy
      have HRN := hid hrn
      clear hl hbl hrun hst hsy hrn hD hn' hcn' hbn' HONE HSTEP
      go_wp2_with fail
      refine hone.mono ?_
      clear hone
      rintro e w1' ⟨us2, uk2, ub2, rfl, ss2, sk2, sb2, hb1, nu, nk, nb⟩
      obtain ⟨n2, hn2⟩ : ∃ n2, st2.length = n2 := ⟨_, rfl⟩
      obtain ⟨ua2, uc2, eu⟩ : ∃ ao cap, us2 = .slice ao n2 cap := by obtain ⟨_, _, ao, cap, e, _⟩ := ss2; exact ⟨ao, cap, by rw [← hn2]; exact e⟩
      obtain ⟨cn2, hcn2⟩ : ∃ cn2, ca2.length = cn2 := ⟨_, rfl⟩
      obtain ⟨va2, vc3, ev⟩ : ∃ ao cap, uk2 = .slice ao cn2 cap := by obtain ⟨_, _, ao, cap, e, _⟩ := sk2; exact ⟨ao, cap, by rw [← hcn2]; exact e⟩
      obtain ⟨bn2, hbn2⟩ : ∃ bn2, b2.length = bn2 := ⟨_, rfl⟩
      obtain ⟨ba2, bc2, eb⟩ : ∃ ao cap, ub2 = .slice ao bn2 cap := by obtain ⟨_, _, ao, cap, e, _⟩ := sb2; exact ⟨ao, cap, by rw [← hbn2]; exact e⟩
      subst eu ev eb
      have hNX := rloop_next HLL.out hb1 (s2 := ⟨pc2, st2, ca2⟩) ss2 sk2 sb2 nu nk nb HST.out.1 HSY.out kd tr
      obtain ⟨A, hA, fA, q1, q2, q3⟩ := step_cells HLL.out hb1 pc2 kd tr (.slice ua2 n2 uc2) (.slice va2 cn2 vc3) (.slice ba2 bn2 bc2)
      clear ma0 ma1 ma2 mb0 mb1 mb2 mc0 mc1 md0 md1 md2 mf0 mf1 mf2 me0 me1 mh0 mh1 mh2 mi0 mi1 mi2
      have HNX := hid hNX
      have hzA := hNX.2.2
      obtain ⟨⟨ma0, ma1, ma2, mb0, mb1, mb2⟩, ⟨mc0, mc1⟩, _⟩ := fA.cells
      obtain ⟨g0, g1, g2, _, _, _⟩ := cel3 q1
      obtain ⟨p15, hp15⟩ : ∃ p15, p15 = w1'.heap.size := ⟨_, rfl⟩
      have HFA := hid fA
      have HQ2 := hid q2
      have HQ3 := hid q3
      have HN2 := hid hn2
      have HCN2 := hid hcn2
      have HBN2 := hid hbn2
      have HO1 := hid (off_init ss2)
      have HO2 := hid (off_init sk2)
      have HO3 := hid (offN_init sb2)
      clear ss2 sk2 sb2 nu nk nb hNX fA q1 q2 q3 hb1 hn2 hcn2 hbn2
      go_upto_region 10 with fail
      rw [← hA]
      obtain ⟨X1, hX1⟩ : ∃ X1, X1 = ((A.setCell ⟨w.heap.size, 0, none⟩ (.int .i64 pc2)).setCell ⟨w.heap.size, 1, none⟩ (.slice ua2 n2 uc2)).setCell ⟨w.heap.size, 2, none⟩ (.slice va2 cn2 vc3) := ⟨_, rfl⟩
      have f1 : Five X1 w.heap.size pc2 (.slice ua2 n2 uc2) (.slice va2 cn2 vc3) (.slice ba bn' bc) := by rw [hX1]; exact HFA.out.set0
      have r2 : X1.heap[w1'.heap.size + 1]? = some (.cells #[.slice ba2 bn2 bc2] 39 (0, 0)) := by rw [hX1, far_set (by omega), far_set (by omega), far_set (by omega)]; exact HQ2.out
      have r3 : X1.heap[w1'.heap.size + 1 + 1]? = some (.cells #[.int .i64 kd, .int .i64 tr, .int .i64 0] 33 (0, 0)) := by rw [hX1, far_set (by omega), far_set (by omega), far_set (by omega)]; exact HQ3.out
      obtain ⟨X2, hX2⟩ : ∃ X2, X2 = X1.setCell ⟨w.heap.size + 1, 0, none⟩ (.slice ba2 bn2 bc2) := ⟨_, rfl⟩
      have hXS : X2 = stepW w1' w.heap.size pc2 kd tr (.slice ua2 n2 uc2) (.slice va2 cn2 vc3) (.slice ba2 bn2 bc2) := by rw [hX2, hX1, hA]; rfl
      have HXS := hid hXS
      have r4 : X2.heap[w1'.heap.size + 1 + 1]? = some (.cells #[.int .i64 kd, .int .i64 tr, .int .i64 0] 33 (0, 0)) := by rw [hX2, far_set (by omega)]; exact r3
      have HNXX : Hid (RLoop w X2 l ⟨pc2, st2, ca2⟩ (.slice ua2 n2 uc2) (.slice va2 cn2 vc3) (.slice ba2 bn2 bc2) b2 (.slice ab b.length kb)) := by rw [hXS]; exact hid HNX.out.1
      obtain ⟨_, ⟨mc0', mc1'⟩, _⟩ := f1.cells
      obtain ⟨h20, _⟩ := cel1 r2
      obtain ⟨h30, h31, h32, h33, h34, h35⟩ := cel3 r4
      have HR4 := hid r4
      clear hA hXS r2 r3 r4 f1 HNX
      go_upto_region 11 with fail
      rw [← hX1]
      clear hX1 ma0 ma1 ma2 mb0 mb1 mb2 mc0 mc1 g0 g1 g2
      go_upto_region 12 with fail
      rw [← hX2]
      clear hX2 mc0' mc1' h20
      by_cases hkd : kd = 0
      · have hk1 : (kd != 0) = false := by simp [hkd]
        have HNR : Hid (runL l (fuel - (u + 1)) (u + 1) ⟨pc2, st2, ca2⟩ b2 = R) := hid (by rw [HRN.out, if_pos hkd])
        clear hkd
        go_wp2
        go_roundw
        case rel => exact ⟨u + 1, ⟨pc2, st2, ca2⟩, _, _, _, b2, by go_num, by omega, hid ⟨HNXX.out, by rw [HST.out.2]; exact HBL.out, HNR.out⟩⟩
        case measure => simp [intOf]; omega
      · have hk1 : (kd != 0) = true := by simp [hkd]
        have HRR : Hid (R = ((kd, tr, u + 1), ⟨pc2, st2, ca2⟩, b2)) := hid (by rw [HRN.out, if_neg hkd])
        have hwu : IntKind.i64.wrap ((u : Int) + 1) = (u : Int) + 1 := by rw [IntKind.wrap_i64]; omega
        clear hkd
        obtain ⟨X3, hX3⟩ : ∃ X3, X3 = X2.setCell ⟨w1'.heap.size + 1 + 1, 2, none⟩ (.int .i64 ((u : Int) + 1)) := ⟨_, rfl⟩
        have hL2 := HNXX.out
        have hk : w1'.heap.size ≤ w1'.heap.size + 1 + 1 ∧ w1'.heap.size + 1 + 1 < w1'.heap.size + 5 := by omega
        have HF3 : Hid (Five X3 w.heap.size pc2 (.slice ua2 n2 uc2) (.slice va2 cn2 vc3) (.slice ba2 bn2 bc2)) := hid (by rw [hX3]; exact hL2.five.far (by omega))
        have HB3 : Hid (Below w.heap.size w X3) := hid (by rw [hX3]; exact hL2.bel.setCell (p := ⟨w1'.heap.size + 1 + 1, 2, none⟩) (by show w.heap.size ≤ w1'.heap.size + 1 + 1; omega) _)
        have HSB3 : Hid (SeesN .u8 X3 (.slice ba2 bn2 bc2) b2) := hid (by rw [hX3]; exact seesN_set hL2.sb HO3.out hk)
        have hs3 : Sees X3 (.slice ua2 n2 uc2) st2 := by rw [hX3]; exact sees_set hL2.ss HO1.out hk
        have hk3 : Sees X3 (.slice va2 cn2 vc3) ca2 := by rw [hX3]; exact sees_set hL2.sk HO2.out hk
        have hq3 : X3.heap[w1'.heap.size + 1 + 1]? = some (.cells #[.int .i64 kd, .int .i64 tr, .int .i64 ((u : Int) + 1)] 33 (0, 0)) := by rw [hX3]; exact set3_c HR4.out
        have HQ3 := hid hq3
        have h64 : st2.length ≤ 64 := hL2.ok.st
        have h32 : ca2.length ≤ 32 := hL2.ok.cl
        have HCP := hid (fun (W' : World) (hb : Below X3.heap.size X3 W') => rcopy_any (.agg #[.int .i64 pc2, .slice ua2 n2 uc2, .slice va2 cn2 vc3]) ⟨pc2, st2, ca2⟩ (.slice ua2 n2 uc2) (.slice va2 cn2 vc3) W' ⟨rfl, hs3.below hb, hk3.below hb, by show st2.length ≤ _; omega, by show ca2.length ≤ _; omega⟩ (by show st2.length * 8 ≤ _; omega) (by show ca2.length * 8 ≤ _; omega))
        have HOB := hid hL2.ob
        have HNB := hid hL2.nb
        have HBB : Hid (w.heap.size + 5 ≤ X3.heap.size) := hid (by have := (Array.getElem?_eq_some_iff.1 HF3.out.b4).1; omega)
        have hne1 : ¬ w1'.heap.size = w.heap.size := by omega
        have hne2 : ¬ w1'.heap.size = w.heap.size + 1 := by omega
        have hne3 : ¬ w1'.heap.size = w.heap.size + 1 + 1 := by omega
        have hne1' : ¬ w.heap.size = w1'.heap.size := by omega
        have hne2' : ¬ w.heap.size + 1 = w1'.heap.size := by omega
        have hne3' : ¬ w.heap.size + 1 + 1 = w1'.heap.size := by omega
        obtain ⟨⟨ma0, ma1, ma2, mb0, mb1, mb2⟩, ⟨mc0, mc1⟩, ⟨md0, md1, md2, mf0, mf1, mf2⟩, ⟨me0, me1⟩, ⟨mh0, mh1, mh2, mi0, mi1, mi2⟩⟩ := HF3.out.cells
        obtain ⟨s30, s31, s32, s33, s34, s35⟩ := cel3 hq3
        clear hL2 hs3 hk3 hq3 h64 h32 hk
        go_upto_region 14 with fail
        rw [← hX3]
        clear hX3 h30 h31 h32 h33 h34 h35
        go_region_with (first
          | (go_at_call 12
             refine (HCP.out _ (Below.drew (Below.refl _ _))).mono ?_
             rintro e5 w5 ⟨cs, ck5, rfl, o1, o2, sd, b5⟩
             obtain ⟨c1, d1, e1, hd1⟩ := o1.shape
             obtain ⟨c2, d2, e2, hd2⟩ := o2.shape
             change cs = .slice c1 st2.length d1 at e1
             change ck5 = .slice c2 ca2.length d2 at e2
             rw [HN2.out] at e1
             rw [HCN2.out] at e2
             subst e1 e2
             have b6 := (Below.drew (Below.refl X3.heap.size X3)).trans b5
             have H5W := hid (HF3.out.below b6 (by have := (Array.getElem?_eq_some_iff.1 HF3.out.b4).1; omega))
             have HB5 := hid (HB3.out.trans (b6.mono HB3.out.size))
             rw [drew_heapW] at o1 o2
             have HO5 := hid o1
             have HO6 := hid o2
             have HS5 := hid (HSB3.out.below b6)
             obtain ⟨⟨na0, na1, na2, nb0, nb1, nb2⟩, ⟨nc0, nc1⟩, ⟨nd0, nd1, nd2, nf0, nf1, nf2⟩, ⟨ne0, ne1⟩, ⟨nh0, nh1, nh2, ni0, ni1, ni2⟩⟩ := H5W.out.cells
             have hq5 : w5.heap[w1'.heap.size + 1 + 1]? = some (.cells #[.int .i64 kd, .int .i64 tr, .int .i64 ((u : Int) + 1)] 33 (0, 0)) := by rw [b6.block _ (Array.getElem?_eq_some_iff.1 HQ3.out).1]; exact HQ3.out
             obtain ⟨t30, t31, t32, t33, t34, t35⟩ := cel3 hq5
             clear hq5
             clear o1 o2 sd b5 b6 hd1 hd2))
        all_goals
          clear na0 na1 na2 nb0 nb1 nb2 nc0 nc1 nd0 nd1 nd2 nf0 nf1 nf2 ne0 ne1 nh0 nh1 nh2 ni0 ni1 ni2 t30 t31 t32 t33 t34 t35
          rename_i hKz
          refine hKz _ _ ?_
          refine wp_ret ?_
          show bodyPost Tryd.prog Tryd.f14 (RunQ w (.slice ab b.length kb) 0 R) Exit.ret _ _
          refine run_ret H5W.out (.int .i64 pc2) (.slice c1 n2 d1) (.slice c2 cn2 d2) (.slice ba2 bn2 bc2) (.int .i64 kd) (.int .i64 tr) (.int .i64 ((u : Int) + 1)) rfl rfl rfl rfl rfl ?_
          rw [HRR.out]
          exact run_newQ HB5.out HBB.out HO5.out HO6.out HS5.out HOB.out HNB.out (by omega)
    · have hlt' : ¬ (u : Int) < (fuel : Int) := by omega
      have HRR : Hid (R = ((1, 0, u), ⟨pc', st', ca'⟩, b')) := hid (by
        have := HRUN.out
        rw [show fuel - u = 0 by omega] at this
        exact this.symm)
      clear hl hbl hrun hn' hcn' hbn' HONE HSTEP
      have hL2 := HLL.out
      have HF3 := hid hL2.five
      have HB3 := hid hL2.bel
      have HSB3 := hid hL2.sb
      have hs3 := hL2.ss
      have hk3 := hL2.sk
      have h64 : st'.length ≤ 64 := hL2.ok.st
      have h32 : ca'.length ≤ 32 := hL2.ok.cl
      have HCP := hid (fun (W' : World) (hb : Below wr.heap.size wr W') => rcopy_any (.agg #[.int .i64 pc', .slice ua n' uc, .slice va cn' vc2]) ⟨pc', st', ca'⟩ (.slice ua n' uc) (.slice va cn' vc2) W' ⟨rfl, hs3.below hb, hk3.below hb, by show st'.length ≤ _; omega, by show ca'.length ≤ _; omega⟩ (by show st'.length * 8 ≤ _; omega) (by show ca'.length * 8 ≤ _; omega))
      have HOB := hid hL2.ob
      have HNB := hid hL2.nb
      have HBB : Hid (w.heap.size + 5 ≤ wr.heap.size) := hid (by have := (Array.getElem?_eq_some_iff.1 HF3.out.b4).1; omega)
      have huf : (fuel : Int) = (u : Int) := by omega
      have HRR2 : Hid (R = ((1, 0, fuel), ⟨pc', st', ca'⟩, b')) := hid (by rw [HRR.out, show u = fuel by omega])
      clear hL2 hs3 hk3 h64 h32 huf HRR
      have HRR := HRR2
      clear HRR2
      go_upto_region 15 with fail
      go_region_with (first
        | (go_at_call 12
           refine (HCP.out _ (Below.drew (Below.refl _ _))).mono ?_
           rintro e5 w5 ⟨cs, ck5, rfl, o1, o2, sd, b5⟩
           obtain ⟨c1, d1, e1, hd1⟩ := o1.shape
           obtain ⟨c2, d2, e2, hd2⟩ := o2.shape
           change cs = .slice c1 st'.length d1 at e1
           change ck5 = .slice c2 ca'.length d2 at e2
           rw [HN'.out] at e1
           rw [HCN'.out] at e2
           subst e1 e2
           have b6 := (Below.drew (Below.refl wr.heap.size wr)).trans b5
           have H5W := hid (HF3.out.below b6 (by have := (Array.getElem?_eq_some_iff.1 HF3.out.b4).1; omega))
           have HB5 := hid (HB3.out.trans (b6.mono HB3.out.size))
           rw [drew_heapW] at o1 o2
           have HO5 := hid o1
           have HO6 := hid o2
           have HS5 := hid (HSB3.out.below b6)
           obtain ⟨⟨na0, na1, na2, nb0, nb1, nb2⟩, ⟨nc0, nc1⟩, ⟨nd0, nd1, nd2, nf0, nf1, nf2⟩, ⟨ne0, ne1⟩, ⟨nh0, nh1, nh2, ni0, ni1, ni2⟩⟩ := H5W.out.cells
           clear o1 o2 sd b5 b6 hd1 hd2))
      all_goals
        clear na0 na1 na2 nb0 nb1 nb2 nc0 nc1 nd0 nd1 nd2 nf0 nf1 nf2 ne0 ne1 nh0 nh1 nh2 ni0 ni1 ni2
        rename_i hKz
        refine hKz _ _ ?_
        refine wp_ret ?_
        refine run_ret H5W.out (.int .i64 pc') (.slice c1 n' d1) (.slice c2 cn' d2) (.slice ba bn' bc) (.int .i64 1) (.int .i64 0) (.int .i64 (fuel : Int)) rfl rfl rfl rfl rfl ?_
        rw [HRR.out]
        exact run_newQ HB5.out HBB.out HO5.out HO6.out HS5.out HOB.out HNB.out rfl
end Go.Proofs.YtfnojlgmbfocfaaDoor
