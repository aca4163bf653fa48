/-
  Chain of the code.
-/
import Derived.Test.YtciphhfaoljndaaUFsts
import Derived.Test.YtciphhfaoljndaaUChk
import Derived.Test.YtciphhfaoljndaaURev
import Derived.Test.YtciphhfaoljndaaURChain
namespace Go.Proofs.Ytciphhfaoljndaa
open Go.RowKit Go.Maps Go.ChangeMaps
set_option linter.unusedVariables false
set_option linter.unusedSimpArgs false

theorem owns_one (w : World) (base : Nat) (g : GrL) (hb : base ≤ w.heap.size) : OwnsG (w.alloc (.cells #[.int .i64 g.1, .int .i64 g.2.1, .int .i64 g.2.2.1, .int .i64 g.2.2.2] 37)) base (.slice (some ⟨w.heap.size, 0, none⟩) 1 1) [g] :=
  ⟨rfl, Or.inr ⟨w.heap.size, 1, _, rfl, hb, heap_alloc_new w _, Nat.le_refl _, by decide, rfl, rfl⟩⟩
theorem chn_cons {gs : List GrL} {cat : Int} {f k : Nat} (hk : k < gs.length) : chn gs cat (f + 1) k = gs[k] :: (chn gs cat (f + 1) k).tail := by
  rw [chn, List.getElem?_eq_getElem hk]
  simp only
  split
  · rfl
  · rfl
theorem chn_tail {gs : List GrL} {cat : Int} {f k j : Nat} (hk : k < gs.length) (h : gs[k].2.1 ≠ -1) (hj : fstG gs gs[k].2.1 cat = some j) (hjn : j < gs.length) (hf : j < f) : (chn gs cat (f + 1) k).tail = gs[j] :: (chn gs cat f j).tail := by
  rw [chn_next hk h hj, List.tail_cons]
  obtain ⟨f, rfl⟩ : ∃ f', f = f' + 1 := ⟨f - 1, by omega⟩
  exact chn_cons hjn
theorem chn_last {gs : List GrL} {cat : Int} {f k : Nat} (hk : k < gs.length) (h : gs[k].2.1 = -1) : (chn gs cat (f + 1) k).tail = [] := by
  rw [chn_end hk h]
  rfl
/-- An own row that is not empty, as a block; and back. -/
theorem OwnsG.blk {w : World} {base : Nat} {v : Value} {l : List GrL} (h : OwnsG w base v l) (hne : l ≠ []) : ∃ g cap, v = .slice (some ⟨g, 0, none⟩) l.length cap ∧ base ≤ g ∧ l.length ≤ cap ∧ cap ≤ maxLen ∧ BlkG w g l (cap * 4) := by
  rcases h.2 with ⟨_, hn⟩ | ⟨g, cap, cur, rfl, hbase, hg, hcap, hmx, hsz, ht⟩
  · exact absurd (List.eq_nil_of_length_eq_zero hn) hne
  · exact ⟨g, cap, rfl, hbase, hcap, hmx, cur, hg, hsz, by omega, ht⟩
theorem BlkG.owns {w : World} {base g cap : Nat} {l : List GrL} {n : Nat} (h : BlkG w g l (cap * 4)) (hn : n = l.length) (hb : base ≤ g) (hc : l.length ≤ cap) (hm : cap ≤ maxLen) : OwnsG w base (.slice (some ⟨g, 0, none⟩) n cap) l := by
  subst hn
  obtain ⟨cur, hg, hz, hle, ht⟩ := h
  exact ⟨cellsG_len l, Or.inr ⟨g, cap, cur, rfl, hb, hg, hc, hm, hz, ht⟩⟩

theorem map_below {P : Program} {k : TypeId} {R : Value → Option (DataW Unit × List MemPlace)} {w w' : World} {b n : Nat} {D : DataW Unit} (h : w.ownsMap P k R b n D) (hb : Below w.heap.size w w') : w'.ownsMap P k R b n D := by
  have hbl := h.lt
  obtain ⟨es, clock, hx, r⟩ := h
  exact ⟨es, clock, (hb.block b hbl).trans hx, r⟩
set_option maxHeartbeats 8000000 in
theorem chain_any (v : Value) (gs : List GrL) (who cat : Int) (w : World) (hS : SeesG w v gs) (hI : InG gs) (hwho : In64 who) (hlen : gs.length ≤ 4398046511104) :
    Calls Try.prog 6 #[v, .int .i64 who, .int .i64 cat] w fun e w' => ∃ v', e = .returned (.tuple #[v', .int .i64 (chainG gs who cat).2]) ∧ OwnsG w' w.heap.size v' (chainG gs who cat).1 ∧ Below w.heap.size w w' := by
  have hS0 := hS
  have HF := hid (firsts_any v gs cat w hS0 hI (by omega))
  have HCK := hid (fun (w' : World) (hb : Below w.heap.size w w') => check_any v gs w' (hS0.below hb) hI (by omega))
  obtain ⟨R, hR⟩ : ∃ R, R = chainG gs who cat := ⟨_, rfl⟩
  rw [← hR]
  unfold chainG at hR
  obtain ⟨b, off, ao, cap, rfl, hcap, _, hao, hcell⟩ := hS
  have HC := hid hcell
  have HII := hid hI
  have HKW := hid (keyI_mk who hwho)
  clear hcell hS0 hI
  have hfz := hid (fun D (h : FstD D gs cat gs.length) (a : Int) z => by
    have := h a z
    rwa [List.take_length] at this)
  cases hf : fstG gs who cat with
  | none =>
    rw [hf] at hR
    simp only at hR
    subst hR
    go_enter Try.func6, Try.ntmps6
    go_wp2_with fail
    refine HF.out.mono ?_
    rintro e w1 ⟨D, rfl, hm, hD, hb1⟩
    have hh := (hfz.out D hD who (.nil)).1
    rw [hf] at hh
    simp only [Option.isSome_none] at hh
    have HM := hid hm
    have HB1 := hid hb1
    have HH := hid hh
    clear hm hD hb1 hh
    go_upto_region 3 with (first | (at_lookup; refine wpList_lookup_own_ok_int _ rfl _ _ 44 rfl 3 3 .i64 keyI Try.underlying44 Try.underlying3 (zero3 _) w.heap.size gs.length D rfl HM.out _ _ rfl HKW.out ?_; intro c hat hwc))
    clear hat hwc
    rw [HH.out]
    go_wp2
    go_ret2
    exact ⟨_, rfl, OwnsG.nil _ _, HB1.out⟩
  | some k0 =>
    rw [hf] at hR
    simp only at hR
    obtain ⟨⟨ce, ck⟩, hcc⟩ : ∃ C, C = chkG gs := ⟨_, rfl⟩
    rw [← hcc] at HCK hR
    obtain ⟨hk0, _, hc0, _⟩ := fstG_inv hf
    obtain ⟨x1, x2, x3, x4, hg⟩ : ∃ x1 x2 x3 x4 : Int, gs[k0] = (x1, x2, x3, x4) := ⟨_, _, _, _, rfl⟩
    have hne : gs ≠ [] := by intro h; rw [h] at hk0; simp at hk0
    obtain rfl := hao hne
    have hbw : b < w.heap.size := World.block_lt_of_cell? w _ (HC.out k0 hk0).1
    by_cases hz : ce = 0
    · simp only [hz, if_true] at hR
      have HOK := hid (show (chkG gs).1 = 0 by rw [← hcc]; exact hz)
      subst hz
      obtain ⟨T, hT⟩ : ∃ T, T = chn gs cat gs.length k0 := ⟨_, rfl⟩
      rw [← hT] at hR
      have hTl : T.length ≤ gs.length := by rw [hT]; exact chn_len _ _
      have hT0 : T = [gs[k0]] ++ (chn gs cat gs.length k0).tail := by
        rw [hT]
        obtain ⟨n', hn'⟩ : ∃ n', gs.length = n' + 1 := ⟨gs.length - 1, by omega⟩
        rw [hn']
        exact chn_cons hk0
      rw [hg] at hT0
      have HT := hid hT0
      have HCA := hid hc0
      subst hR
      have HFF := hid hf
      obtain ⟨c1, c2, c3, c4⟩ := HC.out k0 hk0
      rw [hg] at c1 c2 c3 c4
      have HC1 := hid c1
      have HC2 := hid c2
      have HC3 := hid c3
      have HC4 := hid c4
      have hlg' : (k0 : Int) < (gs.length : Int) := by omega
      clear hcc hf hc0 hg hT hT0 c1 c2 c3 c4 hao
      go_enter Try.func6, Try.ntmps6
      go_wp2_with fail
      refine HF.out.mono ?_
      rintro e w1 ⟨D, rfl, hm, hD, hb1⟩
      have hh := (hfz.out D hD who (.nil)).1
      have hat0 := (hfz.out D hD who (.lit (.int .i64 0))).2
      rw [HFF.out] at hh hat0
      simp only [Option.isSome_some] at hh hat0
      have HFD := hid (hfz.out D hD)
      have HM := hid hm
      have HB1 := hid hb1
      have HH := hid hh
      have HAT := hid hat0
      clear hm hD hb1 hh hat0 hfz
      go_upto_region 3 with (first | (at_lookup; refine wpList_lookup_own_ok_int _ rfl _ _ 44 rfl 3 3 .i64 keyI Try.underlying44 Try.underlying3 (zero3 _) w.heap.size gs.length D rfl HM.out _ _ rfl HKW.out ?_; intro c hat hwc))
      have hc : c = (k0 : Int) := by
        rw [HAT.out] at hat
        cases hat
        rfl
      subst hc
      clear hat hwc
      rw [HH.out]
      go_wp2_with fail
      refine (HCK.out _ HB1.out).mono ?_
      rintro e w2 ⟨rfl, hb2⟩
      have HM2 := hid (map_below HM.out hb2)
      have HB2 := hid (HB1.out.trans (hb2.mono HB1.out.size))
      have d1 := (HB2.out.cell (p := ⟨b, off + k0 * 4, none⟩) hbw).trans HC1.out
      have d2 := (HB2.out.cell (p := ⟨b, off + k0 * 4 + 1, none⟩) hbw).trans HC2.out
      have d3 := (HB2.out.cell (p := ⟨b, off + k0 * 4 + 2, none⟩) hbw).trans HC3.out
      have d4 := (HB2.out.cell (p := ⟨b, off + k0 * 4 + 3, none⟩) hbw).trans HC4.out
      have hsz2 := HB2.out.size
      have hlt2 : w.heap.size + 1 ≤ w2.heap.size := HM2.out.lt
      clear hb2
      go_wp2
      clear d1 d2 d3 d4
      go_loopw [9, 13] (fun kk o wr => ∃ (k f : Nat) (l : List GrL), kk = .int .i64 (k : Int) ∧ k < gs.length ∧ k < f ∧ 1 ≤ l.length ∧ Hid (∀ h : k < gs.length, gs[k].2.2.2 = cat) ∧ Hid (T = l ++ (chn gs cat f k).tail) ∧ Hid (OwnsG wr (w.heap.size + 1) o l) ∧ Hid (wr.ownsMap Try.prog 3 (plainElem Try.prog 3) w.heap.size gs.length D) ∧ Below w.heap.size w wr) (fun kk _ _ => (intOf kk).toNat)
      case atStart => exact ⟨k0, gs.length, [(x1, x2, x3, x4)], rfl, hk0, hk0, Nat.le_refl _, hid (fun _ => HCA.out), HT, hid (owns_one w2 _ (x1, x2, x3, x4) hlt2), hid (HM2.out.alloc _), HB2.out.alloc hsz2 _⟩
      case round =>
        obtain ⟨k, f, l, rfl, hk, hkf, hl1, HCT, HTT, HO, HMM, hb⟩ := hrel
        clear HM2 HB2 HC1 HC2 HC3 HC4
        obtain ⟨f, rfl⟩ : ∃ f', f = f' + 1 := ⟨f - 1, by omega⟩
        obtain ⟨c1, c2, c3, c4⟩ := HC.out k hk
        have d2 := (hb.cell (p := ⟨b, off + k * 4 + 1, none⟩) hbw).trans c2
        have hlast := fun h => chn_last (cat := cat) (f := f) hk h
        have htail := fun h j hj hjn hjf => chn_tail (cat := cat) (f := f) (j := j) hk h hj hjn hjf
        have hgiv := fun h => giver hk (HCT.out hk) HOK.out h
        obtain ⟨_, i2, _, _⟩ := HII.out gs[k] (List.getElem_mem hk)
        obtain ⟨y1, y2, y3, y4, hg⟩ : ∃ x1 x2 x3 x4 : Int, gs[k] = (x1, x2, x3, x4) := ⟨_, _, _, _, rfl⟩
        rw [hg] at d2 i2
        simp only [hg] at hlast htail hgiv
        simp only at d2 i2
        have HLAST := hid hlast
        have HTAIL := hid htail
        have HGIV := hid hgiv
        have hlk : (k : Int) < (gs.length : Int) := by omega
        have hsz := hb.size
        have HB := hid hb
        have HKY := hid (keyI_mk y2 i2)
        have hll : l.length ≤ gs.length := by
          have := congrArg List.length HTT.out
          rw [List.length_append] at this
          omega
        clear c1 c2 c3 c4 hlast htail hgiv hb i2 hg
        by_cases e1 : y2 = -1
        · have f1 : (y2 != -1) = false := by simp [e1]
          have ht := HTT.out
          rw [HLAST.out e1, List.append_nil] at ht
          subst ht
          obtain ⟨g, cap2, rfl, hbg, hc2, hm2, hblk⟩ := HO.out.blk (by intro e; rw [e] at hl1; simp at hl1)
          have hrv := hid (reverse_any g cap2 (cap2 * 4) w.heap.size T wr hblk hc2 (by omega) (by omega) hsz)
          clear e1 HLAST HTAIL HGIV hblk
          go_wp2_with fail
          refine hrv.out.mono ?_
          rintro e w6 ⟨rfl, hb6, hbel6⟩
          have HB6 := hid hb6
          have HBE := hid (HB.out.trans hbel6)
          clear hb6 hbel6
          go_wp2
          go_ret2
          exact ⟨_, rfl, HB6.out.owns (by simp) (by omega) (by simpa using hc2) hm2, HBE.out⟩
        · have f1 : (y2 != -1) = true := by simpa using e1
          obtain ⟨j, hj, hjk⟩ := HGIV.out e1
          obtain ⟨hjn, _, hjc, _⟩ := fstG_inv hj
          have HJC := hid (fun h : j < gs.length => hjc)
          have htl := HTAIL.out e1 j hj hjn (by omega)
          have haty := (HFD.out y2 (.lit (.int .i64 0))).2
          rw [hj] at haty
          simp only at haty
          obtain ⟨c1, c2, c3, c4⟩ := HC.out j hjn
          have g1 := (HB.out.cell (p := ⟨b, off + j * 4, none⟩) hbw).trans c1
          have g2 := (HB.out.cell (p := ⟨b, off + j * 4 + 1, none⟩) hbw).trans c2
          have g3 := (HB.out.cell (p := ⟨b, off + j * 4 + 2, none⟩) hbw).trans c3
          have g4 := (HB.out.cell (p := ⟨b, off + j * 4 + 3, none⟩) hbw).trans c4
          obtain ⟨z1, z2, z3, z4, hg⟩ : ∃ x1 x2 x3 x4 : Int, gs[j] = (x1, x2, x3, x4) := ⟨_, _, _, _, rfl⟩
          rw [hg] at g1 g2 g3 g4 htl
          simp only at g1 g2 g3 g4
          have HTL := hid htl
          have HAY := hid haty
          have hlj : (j : Int) < (gs.length : Int) := by omega
          clear e1 HLAST HTAIL HGIV hj hjc c1 c2 c3 c4 htl haty hg
          go_upto_region 11 with (first | (at_lookup; refine wpList_lookup_own_int _ rfl _ _ 44 rfl 3 3 .i64 keyI Try.underlying44 Try.underlying3 (zero3 _) w.heap.size gs.length D rfl HMM.out _ _ rfl HKY.out ?_; intro c hat hwc))
          have hc : c = (j : Int) := by
            rw [HAY.out] at hat
            cases hat
            rfl
          subst hc
          clear hat hwc d2
          have hl2 : l.length + 1 ≤ gs.length := by
            have := congrArg List.length HTT.out
            rw [HTL.out, List.length_append, List.length_cons] at this
            omega
          go_wp2_with (first
            | (at_builtin; refine wpList_appG rfl _ _ rfl (w.heap.size + 1) _ l rfl (OwnsG.below HO.out ((Below.refl _ _).alloc (Nat.le_refl _) _)) _ [(z1, z2, z3, z4)] rfl (seesG_one _ (z1, z2, z3, z4)) (by simp only [List.length_singleton]; omega) (by have := HMM.out.lt; simp; omega) ?_; intro v4 w4 hO4 hG4))
          go_roundw
          case rel =>
            refine ⟨j, f, l ++ [(z1, z2, z3, z4)], rfl, hjn, by omega, by simp, HJC, hid ?_, hid hO4, hid ?_, ?_⟩
            · rw [HTT.out, HTL.out]
              simp
            · refine (HMM.out.alloc _).kept hG4 (fun e => ?_)
              have := (HO.out.lt _ e.symm).1
              omega
            · exact (HB.out.alloc hsz _).grown hG4 (by simp; omega) (fun j hj => by have := (HO.out.lt j hj).1; omega)
          case measure => simp [intOf]; omega
    · have hz' : (ce != 0) = true := by simpa using hz
      rw [if_neg hz] at hR
      subst hR
      have HFF := hid hf
      clear hcc hf hc0 hg
      go_enter Try.func6, Try.ntmps6
      go_wp2_with fail
      refine HF.out.mono ?_
      rintro e w1 ⟨D, rfl, hm, hD, hb1⟩
      have hh := (hfz.out D hD who (.nil)).1
      rw [HFF.out] at hh
      simp only [Option.isSome_some] at hh
      have HM := hid hm
      have HB1 := hid hb1
      have HH := hid hh
      clear hm hD hb1 hh
      go_upto_region 3 with (first | (at_lookup; refine wpList_lookup_own_ok_int _ rfl _ _ 44 rfl 3 3 .i64 keyI Try.underlying44 Try.underlying3 (zero3 _) w.heap.size gs.length D rfl HM.out _ _ rfl HKW.out ?_; intro c hat hwc))
      clear hat hwc
      rw [HH.out]
      go_wp2_with fail
      refine (HCK.out _ HB1.out).mono ?_
      rintro e w2 ⟨rfl, hb2⟩
      have HB2 := hid (HB1.out.trans (hb2.mono HB1.out.size))
      clear hb2
      go_wp2
      go_ret2
      exact ⟨_, rfl, OwnsG.nil _ _, HB2.out⟩
end Go.Proofs.Ytciphhfaoljndaa
