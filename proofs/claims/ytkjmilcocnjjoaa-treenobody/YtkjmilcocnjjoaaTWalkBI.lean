/-
  walk, at any depth.
-/
import Derived.Test.YtkjmilcocnjjoaaTWalkI
namespace Go.Proofs.Ytkjmilcocnjjoaa.I
open Go.RowKit Go.Shelf Tm
set_option linter.unusedVariables false

attribute [local go_sem] Oper.semAt_some

theorem pre_len_le {Y : Type} (a : List Y) (f : List (List Y)) (m : List Y) (b : List Y) (g : List (List Y)) (h : a.length = f.length) : (pre a f).length + m.length ≤ (weave (a ++ b) (f ++ m :: g)).length := by
  rw [weave_cut a f h]; simp

theorem post_mem2 {Y : Type} (a : List Y) (f : List (List Y)) (h : a.length = f.length) (l : List Y) (hl : l ∈ f) : ∀ x ∈ l, x ∈ post a f := by
  induction a generalizing f with
  | nil => cases f with
    | nil => cases hl
    | cons => simp at h
  | cons y a ih => cases f with
    | nil => cases hl
    | cons z f =>
      intro x hx
      simp only [post, List.mem_cons, List.mem_append]
      rcases List.mem_cons.1 hl with rfl | hl
      · exact .inr (.inl hx)
      · exact .inr (.inr (ih f (by simpa using h) hl x hx))

theorem kid_sub {d : Nat} (is : List It) (A : List (LT d)) (c : LT d) (D : List (LT d)) (h : A.length ≤ is.length) : (flat d (er d c)).Sublist (flat (d + 1) (nodeT is ((A ++ c :: D).map (er d)))) := by
  rw [List.map_append, List.map_cons]
  rw [show is = is.take A.length ++ is.drop A.length from (List.take_append_drop _ _).symm]
  rw [flat_cut _ _ _ _ _ (by simp; omega)]
  exact (List.sublist_append_left _ _).trans (List.sublist_append_right _ _)

set_option maxRecDepth 100000 in
set_option maxHeartbeats 4000000 in
theorem walk_any (l n₀ N o : Nat) (ho : 2 ≤ o) (ho2 : o ≤ 64) (J Jx : List It → World → Prop) (hJ : ∀ s W W', J s W → W.grownBy W' none → J s W')
    (hY : ∀ m pre x W, J pre W → pre.length < N → YieldAt Fence.wide m Try.prog l #[.string x.1, encI x.2] W fun e W' =>
      (e = .returned (.bool true) ∧ J (pre ++ [x]) W' ∧ Below n₀ W W') ∨ (e = .returned (.bool false) ∧ Jx (pre ++ [x]) W'))
    (k : ByteArray) (d : Nat) : ∀ (t : LT d) (n : Nat) (pr : List It) (W : World) (lo : Nat) (h : Low n₀ W d t) (hs : srt keyLt (flat d (er d t))) (hok : okT (o - 1) (2 * o - 1) lo (2 * o - 1) d (er d t)) (h0 : J pr W) (hN : pr.length + (geL keyLt k (flat d (er d t))).length ≤ N) (hn0 : n₀ ≤ W.heap.size),
    CallsIn Fence.wide n Try.prog 47 #[.pointer (some ⟨pT d t, 0, none⟩), .string k, .func (.yield l) #[] #[]] W fun e W' =>
      (e = .returned (.bool true) ∧ J (pr ++ geL keyLt k (flat d (er d t))) W' ∧ Below n₀ W W') ∨ (e = .returned (.bool false) ∧ ∃ q, q <+: geL keyLt k (flat d (er d t)) ∧ Jx (pr ++ q) W') := by
  induction d with
  | zero =>
    intro t n pr W lo h hs hok h0 hN hn0
    obtain ⟨p, vi, is, rfl⟩ := at_leaf h.1
    exact walk_leaf l n₀ N J Jx hJ hY k p vi is n pr W h hs (by have := (ok_leaf is).1 hok; omega) h0 hN hn0
  | succ d ih =>
    intro t n pr W lo h hs hok h0 hN hn0
    obtain ⟨p, vi, vk, is, ks, rfl⟩ := at_node t
    rw [er_nd] at hok hs hN ⊢
    obtain ⟨g1, g2, g3, g4⟩ := (ok_node _ _).1 hok
    have hks : ks.length = is.length + 1 := by simpa using g3
    obtain ⟨a1, a2, a3, a4⟩ := at_nd.1 h.1
    have hsi := its_srt (by simpa using hks) hs
    have hf := find_any p vi is k W (node_cell0 a1) a2.sees hsi (by omega)
    have hat := at_le (lt := keyLt) k is
    -- the rows that come
    have hk1 : atL keyLt k is < ks.length := by omega
    have hkk := cut_at ks _ hk1
    have hi : is = is.take (atL keyLt k is) ++ is.drop (atL keyLt k is) := (List.take_append_drop _ _).symm
    have hme : ks.map (er d) = (ks.take (atL keyLt k is)).map (er d) ++ er d (ks[atL keyLt k is]) :: (ks.drop (atL keyLt k is + 1)).map (er d) := by
      exact (congrArg (List.map (er d)) hkk).trans (by rw [List.map_append, List.map_cons])
    have hC : (is.take (atL keyLt k is)).length = ((ks.take (atL keyLt k is)).map (er d)).length := by simp; omega
    have hA : (is.take (atL keyLt k is)).length = atL keyLt k (is.take (atL keyLt k is) ++ is.drop (atL keyLt k is)) := by rw [← hi]; simp; omega
    have hs2 := hs
    rw [hi, hme] at hs2
    obtain ⟨n1, n2, n3⟩ := node_ge totB k _ _ _ _ _ hC hA hs2
    rw [← hme, ← hi] at n1
    obtain ⟨XS, hXS⟩ : ∃ XS, XS = geL keyLt k (flat d (er d (ks[atL keyLt k is]))) :: ((ks.drop (atL keyLt k is + 1)).map (er d)).map (flat d) := ⟨_, rfl⟩
    have hXl : XS.length = (is.drop (atL keyLt k is)).length + 1 := by rw [hXS]; simp; omega
    have hGE : geL keyLt k (flat (d + 1) (nodeT is (ks.map (er d)))) = weave (is.drop (atL keyLt k is)) XS := by rw [n1, hXS]; rfl
    -- each node below
    have HKID : Hid (∀ m, (hm : m < XS.length) → ∃ c, (ks.map (pT d))[atL keyLt k is + m]? = some (pT d c) ∧ c ∈ ks ∧ geL keyLt k (flat d (er d c)) = XS[m] ∧ srt keyLt (flat d (er d c)) ∧ okT (o - 1) (2 * o - 1) (o - 1) (2 * o - 1) d (er d c)) := by
      intro m hm
      have hmk : atL keyLt k is + m < ks.length := by rw [hXl] at hm; simp at hm; omega
      refine ⟨ks[atL keyLt k is + m], by simp [hmk], List.getElem_mem hmk, ?_, ?_, g4 _ (List.mem_map_of_mem (List.getElem_mem hmk))⟩
      · cases m with
        | zero => simp [hXS]
        | succ m =>
          have e1 : XS[m + 1] = flat d (er d (ks[atL keyLt k is + (m + 1)])) := by
            subst hXS
            simp only [List.getElem_cons_succ, List.getElem_map, List.getElem_drop]
            congr 3
            omega
          rw [e1]
          refine ge_all k _ (fun x hx => n3 x (post_mem2 _ _ (by simp; omega) _ ?_ x hx))
          refine List.mem_map_of_mem (List.mem_map_of_mem ?_)
          have : ks[atL keyLt k is + (m + 1)] = (ks.drop (atL keyLt k is + 1))[m]'(by simp; omega) := by
            simp only [List.getElem_drop]; congr 1; omega
          rw [this]; exact List.getElem_mem _
      · refine List.Pairwise.sublist ?_ hs
        have e := kid_sub is (ks.take (atL keyLt k is + m)) (ks[atL keyLt k is + m]) (ks.drop (atL keyLt k is + m + 1)) (by simp; omega)
        rw [← cut_at ks _ hmk] at e
        exact e
    rw [hGE] at hN ⊢
    have hdd : ∀ k : Nat, (Fence.wide.depth.isSome = true → 1 ≤ k) := fun k h => by simp [Fence.wide] at h
    have HX : Hid (XS.length = (is.drop (atL keyLt k is)).length + 1) := hid hXl
    generalize atL keyLt k is = at' at *
    generalize hasL keyLt k is = hb at *
    have hpl := h.2 p (by rw [cnt_nd]; have := eqN_self p; omega)
    have hq0 := node_cell0 a1
    have hq1 := node_cell1 a1
    obtain ⟨ao, cap, hvi, hx1, hx2⟩ := ownsRow_shape a2
    obtain ⟨gk, ck, hvk, hck, hgk, hfk, hcellk⟩ := rowP_form a3 (by simp; omega)
    have hgkl := h.2 gk (by rw [cnt_nd, hvk, rc_at, if_pos rfl]; omega)
    have hck3 := (kids_max a3 hvk).2.2
    have HLW := hid h
    have H0 := hid h0
    have HY := hid hY
    have HAT := hid hat
    have HN := hid hN
    have HJ := hid hJ
    have HIH := hid ih
    have HA2 := hid a2
    have HA4 := hid a4
    have HCK := hid hcellk
    have HKS := hid hks
    have HVK := hid hvk
    simp only [List.length_map] at hck hvk
    obtain ⟨nk, hnk⟩ : ∃ nk, nk = ks.length := ⟨_, rfl⟩
    rw [← hnk] at hck hvk
    have HNK := hid hnk
    have hnk0 : 0 < nk := by omega
    rw [hvi] at hq0
    rw [hvk] at hq1
    have HVI := hid hvi
    clear a1 a2 a3 a4 h h0 hY hat hN hJ hs hx1 hx2 ih hcellk hfk hs2 n1 n2 n3 hA hC hme hkk hi hXS hXl hk1 hks g3 g4 hok hsi hvk hnk hGE hvi
    refine callsIn_of_wp Try.func47 rfl trivial ?_ rfl
    simp only [Try.ntmps47, List.size_toArray, List.length_cons, List.length_nil, Nat.reduceAdd, Nat.reduceSub, Array.replicate_succ, Array.replicate_zero, List.push_toArray, List.append_toArray, List.nil_append, List.cons_append]
    unfold ptr at hf
    change Code.wpIn _ _ _ _ _ { tmps := #[.pointer (some ⟨p, 0, none⟩), _, _, _, _, _, _, _, _, _, _, _, _, _, _, _, _, _, _, _, _, _, _, _, _, _, _, _, _, _, _, _, _, _, _, _, _, _, _, _, _, _, _, _, _, _, _, _, _, _, _, _, _, _, _, _, _, _, _, _, _], defers := _ } _
    gi_wp2
    refine ⟨trivial, hdd _, ?_⟩
    refine (callsIn_wide.2 hf).mono ?_
    clear hf
    rintro e W1 ⟨rfl, hW1⟩
    have HB1 : Hid (Below n₀ W W1) := hid (hW1.mono hn0)
    have HJ1 : Hid (J pr W1) := hid (HJ.out _ _ _ H0.out ⟨hW1.os, hW1.tape, hW1.output, hW1.size, fun k hk _ => hW1.block k hk⟩)
    clear hW1
    gi_wp2
    gi_loopw [9] (fun i wr => ∃ j : Nat, i = .int .i64 (j : Int) ∧ at' ≤ j ∧ j ≤ is.length ∧ Hid (J (pr ++ pre ((is.drop at').take (j - at')) (XS.take (j - at'))) wr ∧ Below n₀ W wr)) (fun i _ => is.length - (intOf i).toNat)
    case atStart =>
      exact ⟨at', rfl, Nat.le_refl _, HAT.out, hid ⟨by simpa [pre] using HJ1.out, HB1.out⟩⟩
    case round =>
      obtain ⟨j, rfl, hj1, hj2, hJB⟩ := hrel
      have c0 : wr.cell? ⟨p, 0, none⟩ = some (.slice ao is.length cap) := (hJB.out.2.cell (p := ⟨p, 0, none⟩) hpl).trans hq0
      have c1 : wr.cell? ⟨p, 1, none⟩ = some (.slice (some ⟨gk, 0, none⟩) nk ck) := (hJB.out.2.cell (p := ⟨p, 1, none⟩) hpl).trans hq1
      have hmx : j - at' < XS.length := by rw [HX.out]; simp; omega
      obtain ⟨c, q1, q2, q3, q4, q5⟩ := HKID.out (j - at') hmx
      rw [show at' + (j - at') = j by omega] at q1
      obtain ⟨q6, q7⟩ := List.getElem?_eq_some_iff.1 q1
      have hkc := HCK.out j q6
      rw [q7] at hkc
      have c2 := (hJB.out.2.cell (p := ⟨gk, j, none⟩) hgkl).trans hkc
      have hjn : j < nk := by rw [HNK.out, HKS.out]; omega
      have hly := leaf_no p nk ck _ wr hnk0 c1
      have hwv : weave (is.drop at') XS = pre ((is.drop at').take (j - at')) (XS.take (j - at')) ++ (XS[j - at'] ++ post ((is.drop at').drop (j - at')) (XS.drop (j - at' + 1))) := by
        have e1 : is.drop at' = (is.drop at').take (j - at') ++ (is.drop at').drop (j - at') := (List.take_append_drop _ _).symm
        have e2 := cut_at XS (j - at') hmx
        have := weave_cut ((is.drop at').take (j - at')) (XS.take (j - at')) (by have e := HX.out; simp at e ⊢; omega) ((is.drop at').drop (j - at')) XS[j - at'] (XS.drop (j - at' + 1))
        rw [← e1, ← e2] at this
        exact this
      have HWV := hid hwv
      have hwl : (pr ++ pre ((is.drop at').take (j - at')) (XS.take (j - at'))).length + (XS[j - at']).length ≤ N ∧ (j < is.length → (pr ++ pre ((is.drop at').take (j - at')) (XS.take (j - at')) ++ XS[j - at']).length < N) := by
        have e := HN.out
        rw [hwv] at e
        simp only [List.length_append] at e ⊢
        refine ⟨by omega, fun hj => ?_⟩
        have : 0 < (post ((is.drop at').drop (j - at')) (XS.drop (j - at' + 1))).length := by
          rw [post_len _ _ (by simp; rw [HX.out]; simp; omega)]; simp; omega
        omega
      have HWL := hid hwl
      have hcl : Low n₀ wr d c := by
        refine Low.below (W := W) ⟨HA4.out c q2, fun b hb => HLW.out.2 b ?_⟩ hJB.out.2
        rw [cnt_nd]; have := sum_mem (cnt b d) ks c q2; omega
      have hcall := HIH.out c (n - 1) _ wr (o - 1) hcl q4 q5 hJB.out.1 (by rw [q3]; exact HWL.out.1) (Nat.le_trans hn0 hJB.out.2.size)
      rw [q3] at hcall
      unfold ptr at hly c2
      have HCALL := hid hcall
      clear hwv hwl q1 q2 q3 q4 q5 q6 q7 hkc hcl hcall
      gi_wp2
      refine ⟨trivial, hdd _, ?_⟩
      refine (callsIn_wide.2 hly).mono ?_
      clear hly
      rintro e wr2 ⟨rfl, hwr2⟩
      subst hwr2
      gi_wp2
      refine ⟨trivial, hdd _, ?_⟩
      refine HCALL.out.mono ?_
      clear HCALL
      rintro e W2 (⟨rfl, hJ2, hb2⟩ | ⟨rfl, qq, hqq, hx2⟩)
      · have HJ2 := hid hJ2
        have HB2 : Hid (Below n₀ W W2) := hid (hJB.out.2.trans hb2)
        have d0 : W2.cell? ⟨p, 0, none⟩ = some (.slice ao is.length cap) := (HB2.out.cell (p := ⟨p, 0, none⟩) hpl).trans hq0
        clear hJ2 hb2
        by_cases hjl : j = is.length
        · subst hjl
          gi_wp2
          go_ret
          refine .inl ⟨rfl, ?_, HB2.out⟩
          have e := HJ2.out
          rw [List.append_assoc] at e
          rw [HWV.out]
          have e2 : post ((is.drop at').drop (is.length - at')) (XS.drop (is.length - at' + 1)) = [] := by
            have e3 : (is.drop at').drop (is.length - at') = [] := List.drop_eq_nil_of_le (by simp)
            rw [e3]; rfl
          rw [e2, List.append_nil]
          exact e
        · have hjlt : j < is.length := by omega
          have hjl2 : ¬ ((j : Int) = (is.length : Int)) := by omega
          obtain ⟨g, cap2, hv2, hc2, hg2, hfr2, hcell2⟩ := row_form HA2.out (by omega)
          have hgl := HLW.out.2 g (by rw [cnt_nd, hv2, rc_at, if_pos rfl]; omega)
          rw [HVI.out] at hv2
          cases hv2
          obtain ⟨k1, k2⟩ := hcell2 j hjlt
          have k1' := (HB2.out.cell (p := ⟨g, j * 2, none⟩) hgl).trans k1
          have k2' := (HB2.out.cell (p := ⟨g, j * 2 + 1, none⟩) hgl).trans k2
          obtain ⟨fn, tmps, assign, body, hy, hR⟩ := HY.out (n - 1) _ (is[j]) W2.drew (HJ.out _ _ _ HJ2.out ⟨rfl, rfl, rfl, Nat.le_refl _, fun _ _ _ => rfl⟩) (HWL.out.2 hjlt)
          have hnx : pre ((is.drop at').take (j + 1 - at')) (XS.take (j + 1 - at')) = pre ((is.drop at').take (j - at')) (XS.take (j - at')) ++ (XS[j - at'] ++ [is[j]]) := by
            rw [show j + 1 - at' = (j - at') + 1 by omega, List.take_succ_eq_append_getElem (by simp; omega), List.take_succ_eq_append_getElem hmx, pre_app _ _ (by have e := HX.out; simp at e ⊢; omega)]
            simp only [pre, List.getElem_drop]
            rw [show is[at' + (j - at')]'(by omega) = is[j] by congr 1; omega]
          have hpx : (pre ((is.drop at').take (j - at')) (XS.take (j - at')) ++ (XS[j - at'] ++ [is[j]])) <+: weave (is.drop at') XS := by
            rw [HWV.out]
            refine (List.prefix_append_right_inj _).2 ((List.prefix_append_right_inj _).2 ?_)
            have e1 : (is.drop at').drop (j - at') = is[j] :: is.drop (j + 1) := by
              rw [List.drop_drop, show at' + (j - at') = j by omega]; exact (List.getElem_cons_drop (h := hjlt)).symm
            rw [e1]
            obtain ⟨y, ys, e2⟩ : ∃ y ys, XS.drop (j - at' + 1) = y :: ys := by
              cases hd : XS.drop (j - at' + 1) with
              | nil => have := congrArg List.length hd; rw [List.length_drop, HX.out] at this; simp at this; omega
              | cons y ys => exact ⟨y, ys, rfl⟩
            rw [e2]
            simp [post]
          generalize hx : is[j] = x at *
          have HNX := hid hnx
          have HPX := hid hpx
          clear hx hcell2 hfr2 k1 k2 hnx hpx
          simp only [encI] at k2' hy
          gi_wp2
          gi_region_with (refine ⟨hdd _, ?_⟩; refine hR.mono ?_; clear hR; rintro e W3 hres; obtain ⟨bb, rfl, hbb⟩ := two_ways (A := fun W' => J _ W' ∧ Below n₀ _ W') (B := fun W' => Jx _ W') hres; clear hres)
          all_goals
            cases bb with
            | true =>
              have hJ3 := hbb.out.1 rfl
              have HJ3 := hid hJ3
              clear hbb hJ3
              gi_wp2
              go_roundw
              case rel =>
                refine ⟨j + 1, by simp, by omega, by omega, hid ⟨?_, HB2.out.trans ((Below.drew (Below.refl _ _)).trans HJ3.out.2)⟩⟩
                rw [HNX.out]
                have e := HJ3.out.1
                simpa [List.append_assoc] using e
              case measure => simp [intOf]; omega
            | false =>
              have hJ3 := hbb.out.2 rfl
              have HJ3 := hid hJ3
              clear hbb hJ3
              gi_wp2
              go_ret
              refine .inr ⟨rfl, _, HPX.out, ?_⟩
              have e := HJ3.out
              simpa [List.append_assoc] using e
      · gi_wp2
        go_ret
        refine .inr ⟨rfl, pre ((is.drop at').take (j - at')) (XS.take (j - at')) ++ qq, ?_, by rw [← List.append_assoc]; exact hx2⟩
        rw [HWV.out]
        exact (List.prefix_append_right_inj _).2 (hqq.trans (List.prefix_append _ _))

end Go.Proofs.Ytkjmilcocnjjoaa.I
