/-
  The document's Chain.
-/
import Derived.Test.YtciphhfaoljndaaUFst
import Derived.Test.YtciphhfaoljndaaURChk
import Derived.Deep.CutBlock
import Derived.Deep.DeepCutAuto
import Derived.OwnWalk
namespace Go.Proofs.Ytciphhfaoljndaa
open Go.RowKit
set_option linter.unusedVariables false
set_option linter.unusedSimpArgs false

theorem chn_pos {gs : List GrL} {cat : Int} {f k : Nat} (hk : k < gs.length) : 1 ≤ (chn gs cat (f + 1) k).length := by
  rw [chn, List.getElem?_eq_getElem hk]
  simp only
  split
  · simp
  · simp
theorem OwnsG.nil (w : World) (base : Nat) : OwnsG w base (.slice none 0 0) [] := World.ownsRow_nil _ _ _ _
set_option maxHeartbeats 4000000 in
theorem rchain_any (v : Value) (gs : List GrL) (who cat : Int) (w : World) (hS : SeesG w v gs) (hI : InG gs) (hlen : gs.length ≤ 4398046511104) :
    Calls Try.prog 7 #[v, .int .i64 who, .int .i64 cat] w fun e w' => ∃ v', e = .returned (.tuple #[v', .int .i64 (chainG gs who cat).2]) ∧ OwnsG w' w.heap.size v' (chainG gs who cat).1 ∧ Below w.heap.size w w' := by
  have hS0 := hS
  have HF := hid (fun (who : Int) (w' : World) (hb : Below w.heap.size w w') => rfirst_any v gs who cat w' (hS0.below hb) (by omega))
  have hchk := rcheck_any v gs w hS0 hI (by omega)
  have hfst := HF.out who w (Below.refl _ _)
  obtain ⟨R, hR⟩ : ∃ R, R = chainG gs who cat := ⟨_, rfl⟩
  rw [← hR]
  unfold chainG at hR
  obtain ⟨b, off, ao, cap, rfl, hcap, _, hao, hcell⟩ := hS
  have HC := hid hcell
  have HCK := hid hchk
  clear hcell hchk
  cases hf : fstG gs who cat with
  | none =>
    have hi : fstI gs who cat = -1 := by unfold fstI; rw [hf]
    rw [hf] at hR
    simp only at hR
    rw [hi] at hfst
    subst hR
    have HFS := hid hfst
    clear hfst
    go_enter Try.func7, Try.ntmps7
    go_wp2_with fail
    refine HFS.out.mono ?_
    rintro e w1 ⟨rfl, hw⟩
    subst w1
    go_wp2
    go_ret2
    exact ⟨_, rfl, OwnsG.nil _ _, Below.refl _ _⟩
  | some k0 =>
    have hi : fstI gs who cat = (k0 : Int) := by unfold fstI; rw [hf]
    rw [hf] at hR
    simp only at hR
    rw [hi] at hfst
    have HFS := hid hfst
    have hneg : ¬ (k0 : Int) < 0 := by omega
    clear hfst
    obtain ⟨⟨ce, ck⟩, hcc⟩ : ∃ C, C = chkG gs := ⟨_, rfl⟩
    rw [← hcc] at HCK hR
    by_cases hz : ce = 0
    · simp only [hz, if_true] at hR
      have HOK := hid (show (chkG gs).1 = 0 by rw [← hcc]; exact hz)
      subst hz
      have HCC := hid hcc
      obtain ⟨T, hT⟩ : ∃ T, T = chn gs cat gs.length k0 := ⟨_, rfl⟩
      rw [← hT] at hR
      have hTl : T.length ≤ gs.length := by rw [hT]; exact chn_len _ _
      obtain ⟨hk0, _, hc0, _⟩ := fstG_inv hf
      have HT := hid hT
      have HCA := hid hc0
      subst hR
      clear hT hcc hc0
      go_enter Try.func7, Try.ntmps7
      go_wp2_with fail
      refine HFS.out.mono ?_
      rintro e w1 ⟨rfl, hw⟩
      subst w1
      go_wp2_with fail
      refine HCK.out.mono ?_
      rintro e w2 ⟨rfl, hb2⟩
      have HB2 := hid hb2
      clear hb2
      go_wp2
      go_loopw [8, 11] (fun kk o wr => ∃ (k f : Nat) (l : List GrL), kk = .int .i64 (k : Int) ∧ k < gs.length ∧ k < f ∧ Hid (∀ h : k < gs.length, gs[k].2.2.2 = cat) ∧ Hid (T.reverse = (chn gs cat f k).reverse ++ l) ∧ OwnsG wr w.heap.size o l ∧ Below w.heap.size w wr) (fun kk _ _ => (intOf kk).toNat)
      case atStart => exact ⟨k0, gs.length, [], rfl, hk0, hk0, hid (fun _ => HCA.out), hid (by rw [HT.out]; simp), OwnsG.nil _ _, HB2.out⟩
      case round =>
        obtain ⟨k, f, l, rfl, hk, hkf, HCT, HTT, hown, hb⟩ := hrel
        obtain ⟨f, rfl⟩ : ∃ f', f = f' + 1 := ⟨f - 1, by omega⟩
        have hne : gs ≠ [] := by intro h; rw [h] at hk; simp at hk
        obtain rfl := hao hne
        obtain ⟨c1, c2, c3, c4⟩ := HC.out k hk
        have d1 := (hb.cell (World.block_lt_of_cell? w _ c1)).trans c1
        have d2 := (hb.cell (World.block_lt_of_cell? w _ c2)).trans c2
        have d3 := (hb.cell (World.block_lt_of_cell? w _ c3)).trans c3
        have d4 := (hb.cell (World.block_lt_of_cell? w _ c4)).trans c4
        have hbw : b < w.heap.size := World.block_lt_of_cell? w _ c1
        have hl1 : l.length + 1 ≤ gs.length := by
          have h1 := congrArg List.length HTT.out
          have h2 := chn_pos (cat := cat) (f := f) hk
          rw [List.length_append, List.length_reverse, List.length_reverse] at h1
          omega
        have hend := fun h => chn_end (cat := cat) (f := f) hk h
        have hnext := fun h j hj => chn_next (cat := cat) (f := f) (j := j) hk h hj
        have hgiv := fun h => giver hk (HCT.out hk) HOK.out h
        obtain ⟨x1, x2, x3, x4, hg⟩ : ∃ x1 x2 x3 x4 : Int, gs[k] = (x1, x2, x3, x4) := ⟨_, _, _, _, rfl⟩
        rw [hg] at d1 d2 d3 d4
        simp only [hg] at hend hnext hgiv
        simp only at d1 d2 d3 d4
        have HEND := hid hend
        have HNEXT := hid hnext
        have HGIV := hid hgiv
        have hlg' : (k : Int) < (gs.length : Int) := by omega
        have hsz := hb.size
        have HB := hid hb
        rw [hg] at c2
        have HC2 := hid c2
        clear hne hao c1 c2 c3 c4 hend hnext hgiv hb
        go_upto_region 11 with (first
          | (at_builtin; refine wpList_appG rfl (.tmp 27) (.tmp 32) rfl w.heap.size (.slice none 0 0) [] rfl (OwnsG.nil _ _) _ [(x1, x2, x3, x4)] rfl (seesG_one _ (x1, x2, x3, x4)) (by simp only [List.length_singleton, List.length_nil]; omega) (by simp; omega) ?_; intro v4 w4 hO4 hG4
             have HB4 := hid ((HB.out.alloc hsz (.cells #[.int .i64 x1, .int .i64 x2, .int .i64 x3, .int .i64 x4] 37)).grown hG4 (by simp; omega) (fun j hj => by simp [Value.ownBlock] at hj)))
          | (at_builtin; refine wpList_appG rfl (.tmp 34) (.tmp 35) rfl w.heap.size v4 [(x1, x2, x3, x4)] rfl hO4 _ l rfl (SeesG.below (SeesG.below hown.sees ((Below.refl _ _).alloc (Nat.le_refl _) _)) ((Below.refl _ _).grown hG4 (Nat.le_refl _) (fun j hj => by simp [Value.ownBlock] at hj))) (by simp only [List.length_singleton]; omega) HB4.out.size ?_; intro v5 w5 hO5 hG5))
        have HB5 := hid (HB4.out.grown hG5 HB4.out.size (fun j hj => (hO4.lt j hj).1))
        have g2 := (HB5.out.cell (p := ⟨b, off + k * 4 + 1, none⟩) hbw).trans HC2.out
        simp only at g2
        have HO5 := hid hO5
        clear hO4 hG4 hG5 hO5 hown d1 d2 d3 d4
        by_cases e1 : x2 = -1
        · have f1 : (x2 == -1) = true := by simpa using e1
          have HE := hid (HEND.out e1)
          clear e1 HEND HNEXT HGIV
          go_wp2
          go_ret2
          refine ⟨_, rfl, ?_, HB5.out⟩
          have ht := HTT.out
          rw [HE.out] at ht
          rw [ht]
          exact HO5.out
        · have f1 : (x2 == -1) = false := by simpa using e1
          obtain ⟨j, hj, hjk⟩ := HGIV.out e1
          have HE := hid (HNEXT.out e1 j hj)
          obtain ⟨hjn, _, hjc, _⟩ := fstG_inv hj
          have HJC := hid (fun h : j < gs.length => hjc)
          have hcall := HF.out x2 w5 HB5.out
          rw [show fstI gs x2 cat = (j : Int) by unfold fstI; rw [hj]] at hcall
          have HCALL := hid hcall
          clear e1 HEND HNEXT HGIV hj hjc hcall
          go_wp2_with fail
          refine HCALL.out.mono ?_
          rintro e w6 ⟨rfl, hw6⟩
          subst w6
          go_wp2
          go_roundw
          case rel =>
            refine ⟨j, f, [(x1, x2, x3, x4)] ++ l, rfl, hjn, by omega, HJC, hid ?_, HO5.out, HB5.out⟩
            have ht := HTT.out
            rw [HE.out] at ht
            rw [ht]
            simp
          case measure => simp [intOf]; omega
    · have hz' : (ce != 0) = true := by simpa using hz
      rw [if_neg hz] at hR
      subst hR
      clear hcc
      go_enter Try.func7, Try.ntmps7
      go_wp2_with fail
      refine HFS.out.mono ?_
      rintro e w1 ⟨rfl, hw⟩
      subst w1
      go_wp2_with fail
      refine HCK.out.mono ?_
      rintro e w2 ⟨rfl, hb2⟩
      have HB2 := hid hb2
      clear hb2
      go_wp2
      go_ret2
      exact ⟨_, rfl, OwnsG.nil _ _, HB2.out⟩
end Go.Proofs.Ytciphhfaoljndaa
