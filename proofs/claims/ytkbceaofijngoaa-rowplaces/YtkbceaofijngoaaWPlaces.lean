/-
  The walk of the law RowPlaces.
-/
import Derived.Test.YtkbceaofijngoaaWPlace
import Derived.Test.YtkbceaofijngoaaWAwake
namespace Go.Proofs.Ytkbceaofijngoaa
open Go.RowKit
set_option linter.unusedVariables false

theorem place_way (k : ByteArray) (s : List Int) : (keyOk k = false ∧ placeOk k s = false) ∨ (keyOk k = true ∧ catsB s = false ∧ placeOk k s = false) ∨ (keyOk k = true ∧ catsB s = true ∧ ¬ s.length ≤ 64 ∧ placeOk k s = false) ∨ (keyOk k = true ∧ catsB s = true ∧ s.length ≤ 64 ∧ placeOk k s = true) := by
  cases h1 : keyOk k
  · exact Or.inl ⟨rfl, by rw [placeOk, h1]; rfl⟩
  · cases h2 : catsB s
    · exact Or.inr (Or.inl ⟨rfl, rfl, by rw [placeOk, h1, okB, h2]; simp⟩)
    · by_cases h3 : s.length ≤ 64
      · exact Or.inr (Or.inr (Or.inr ⟨rfl, rfl, h3, by rw [placeOk, h1, okB, h2]; simp [h3]⟩))
      · exact Or.inr (Or.inr (Or.inl ⟨rfl, rfl, h3, by rw [placeOk, h1, okB, h2]; simp [h3]⟩))
theorem place_strs (a b : ByteArray) (s t : List Int) (h1 : placeOk a s = true) (h2 : placeOk b t = true) :
    ((strOf (placeL a s)).toList == (strOf (placeL b t)).toList) = (decide (a = b) && decide (s = t)) ∧ Op.bytesLess (strOf (placeL a s)).toList (strOf (placeL b t)).toList = aheadB a s b t := by
  have o1 : okB s = true := by rw [placeOk, Bool.and_eq_true] at h1; exact h1.2
  have o2 : okB t = true := by rw [placeOk, Bool.and_eq_true] at h2; exact h2.2
  have e1 : placeL a s = placeB a s := by rw [placeL, h1, if_pos rfl]
  have e2 : placeL b t = placeB b t := by rw [placeL, h2, if_pos rfl]
  rw [e1, e2, less_str _ _ (placeB_bytes o1) (placeB_bytes o2), place_less o1 o2, beq_str, ← place_eq o1 o2]
  refine ⟨?_, rfl⟩
  apply decide_eq_decide.2
  constructor
  · intro h
    rw [← bytesOf_strOf (placeB_bytes (k := a) o1), ← bytesOf_strOf (placeB_bytes (k := b) o2), h]
  · intro h
    rw [h]
theorem place_none {k : ByteArray} {s : List Int} (h : placeOk k s = false) : strOf (placeL k s) = ⟨#[]⟩ := by
  rw [placeL, h]
  rfl

set_option maxRecDepth 40000 in
set_option maxHeartbeats 8000000 in
theorem places_walk (v1 v2 : Value) (r1 r2 : RowV) (vc vs vi uc us ui : Value) (w : World) (h1 : SeesR w v1 r1 vc vs vi) (h2 : SeesR w v2 r2 uc us ui) :
    Calls Try.prog 5 #[v1, v2] w fun e w' => e = .returned (.bool true) ∧ Below w.heap.size w w' := by
  obtain ⟨W, hW⟩ : ∃ W, W = (w.alloc (.cells #[.string r1.key, vc, vs, vi, .int .i64 r1.who] 27)).alloc (.cells #[.string r2.key, uc, us, ui, .int .i64 r2.who] 27) := ⟨_, rfl⟩
  have hB : Below w.heap.size w W := by rw [hW]; exact (below_alloc w _).alloc (by simp) _
  have hA1 : RowAt W w.heap.size (.string r1.key) vc vs vi (.int .i64 r1.who) := by rw [hW]; exact (RowAt.new _ _ _ _ _ _).box _
  have hA2 : RowAt W (w.heap.size + 1) (.string r2.key) uc us ui (.int .i64 r2.who) := by rw [hW]; exact RowAt.new2 _ _ _ _ _ _ _
  have hsz := hA2.lt
  have s1 := h1.below hB
  have s2 := h2.below hB
  have hR1 := place_any r1.key vs r1.s W s1.s h1.klen h1.slen
  have HR2 := hid (fun w1 (hb : Below W.heap.size W w1) => place_any r2.key us r2.s w1 (s2.s.below hb) h2.klen h2.slen)
  have HK1 := hid (fun w1 => rkey_any r1.key w1 h1.klen)
  have HK2 := hid (fun w1 => rkey_any r2.key w1 h2.klen)
  have HC1 := hid (fun w1 (hb : Below W.heap.size W w1) => cats_any vs r1.s w1 (s1.s.below hb) h1.slen)
  have HC2 := hid (fun w1 (hb : Below W.heap.size W w1) => cats_any us r2.s w1 (s2.s.below hb) h2.slen)
  have HSM := hid (fun w1 (hb : Below W.heap.size W w1) => same_any vs us r1.s r2.s w1 (s1.s.below hb) (s2.s.below hb) h1.slen h2.slen)
  have HAH := hid (fun w1 (hb : Below W.heap.size W w1) => ahead_any r1.key r2.key vs us r1.s r2.s w1 (s1.s.below hb) (s2.s.below hb) h1.slen h2.slen)
  have HST := hid (place_strs r1.key r2.key r1.s r2.s)
  have HP1 := hid (place_way r1.key r1.s)
  have HP2 := hid (place_way r2.key r2.s)
  have HN1 := hid (fun h => place_none (k := r1.key) (s := r1.s) h)
  have HN2 := hid (fun h => place_none (k := r2.key) (s := r2.s) h)
  have hkk := beq_str r1.key r2.key
  have HA1 := hid hA1
  have HA2 := hid hA2
  have HB := hid hB
  obtain ⟨b1, o1, a1, p1, hv1, _⟩ := s1.s
  obtain ⟨b2, o2, a2, p2, hv2, _⟩ := s2.s
  obtain ⟨c0, c1, c2, c3, c4, _⟩ := hA1.cells
  obtain ⟨d0, d1, d2, d3, d4, _⟩ := hA2.cells
  obtain rfl := h1.val
  obtain rfl := h2.val
  subst hv1
  subst hv2
  have hl1 := h1.slen
  have hl2 := h2.slen
  unfold rowVal at *
  clear hA1 hA2 hB s1 s2 h1 h2
  generalize strOf (placeL r1.key r1.s) = t1 at *
  generalize strOf (placeL r2.key r2.s) = t2 at *
  generalize aheadB r1.key r1.s r2.key r2.s = bh at *
  generalize placeOk r1.key r1.s = q1 at *
  generalize placeOk r2.key r2.s = q2 at *
  generalize decide (r1.key = r2.key) = bk at *
  generalize decide (r1.s = r2.s) = bq at *
  generalize keyOk r1.key = k1 at *
  generalize keyOk r2.key = k2 at *
  generalize catsB r1.s = g1 at *
  generalize catsB r2.s = g2 at *
  generalize r1.key = y1 at *
  generalize r2.key = y2 at *
  generalize r1.who = x1 at *
  generalize r2.who = x2 at *
  generalize r1.s = l1 at *
  generalize r2.s = l2 at *
  go_enter Try.func5, Try.ntmps5
  go_wp2_with fail
  rw [← hW]
  refine hR1.mono ?_
  clear hR1 hW
  rintro e w1 ⟨rfl, z1⟩
  have HQ1 := hid z1
  have hs1 := z1.size
  obtain ⟨e0, e1, e2, e3, e4, _⟩ := (HA1.out.below z1 (by omega)).cells
  obtain ⟨f0, f1, f2, f3, f4, _⟩ := (HA2.out.below z1 (by omega)).cells
  have hR2 := HR2.out w1 z1
  clear c0 c1 c2 c3 c4 d0 d1 d2 d3 d4 HR2 z1
  go_wp2_with fail
  refine hR2.mono ?_
  clear hR2
  rintro e w2 ⟨rfl, z2⟩
  have HQ2 := hid (HQ1.out.trans (z2.mono hs1))
  have hs2 := HQ2.out.size
  clear e0 e1 e2 e3 e4 f0 f1 f2 f3 f4 HQ1 z2
  obtain ⟨ta0, ta1, ta2, ta3, ta4, _⟩ := (HA1.out.below HQ2.out (by omega)).cells
  obtain ⟨taa, tab, tac, tad, tae, _⟩ := (HA2.out.below HQ2.out (by omega)).cells
  rcases HP1.out with ⟨m1, n1⟩ | ⟨m1, cc1, n1⟩ | ⟨m1, cc1, ll1, n1⟩ | ⟨m1, cc1, ll1, n1⟩
  · rcases HP2.out with ⟨m2, n2⟩ | ⟨m2, cc2, n2⟩ | ⟨m2, cc2, ll2, n2⟩ | ⟨m2, cc2, ll2, n2⟩
    · have ht1 := HN1.out n1
      subst ht1
      have ht2 := HN2.out n2
      subst ht2
      clear HST HAH HSM
      subst m1
      subst n1
      subst m2
      subst n2
      unfold errR
      have hK1 := HK1.out w2
      go_wp2_with fail
      refine hK1.mono ?_
      clear hK1
      rintro e ww ⟨rfl, hww⟩
      subst ww
      have hK2 := HK2.out w2
      go_wp2_with fail
      refine hK2.mono ?_
      clear hK2
      rintro e ww ⟨rfl, hww⟩
      subst ww
      have hAW := awake_any w2
      go_wp2_with fail
      refine hAW.mono ?_
      clear hAW
      rintro e wz ⟨rfl, zz⟩
      have HZ := hid zz
      clear zz
      go_wp2
      go_ret
      exact ⟨rfl, HB.out.trans ((HQ2.out.trans (HZ.out.mono (by omega))).mono (by omega))⟩
    · have ht1 := HN1.out n1
      subst ht1
      have ht2 := HN2.out n2
      subst ht2
      clear HST HAH HSM
      subst m1
      subst n1
      subst m2
      subst cc2
      subst n2
      unfold errR
      have hK1 := HK1.out w2
      go_wp2_with fail
      refine hK1.mono ?_
      clear hK1
      rintro e ww ⟨rfl, hww⟩
      subst ww
      have hK2 := HK2.out w2
      go_wp2_with fail
      refine hK2.mono ?_
      clear hK2
      rintro e ww ⟨rfl, hww⟩
      subst ww
      have hC2 := HC2.out _ HQ2.out
      go_wp2_with fail
      refine hC2.mono ?_
      clear hC2
      rintro e w42 ⟨rfl, zz2⟩
      have HQ42 := hid (HQ2.out.trans (zz2.mono (by omega)))
      have hsw42 := HQ42.out.size
      clear ta0 ta1 ta2 ta3 ta4 taa tab tac tad tae
      obtain ⟨t4y0, t4y1, t4y2, t4y3, t4y4, _⟩ := (HA1.out.below HQ42.out (by omega)).cells
      obtain ⟨t4ya, t4yb, t4yc, t4yd, t4ye, _⟩ := (HA2.out.below HQ42.out (by omega)).cells
      clear zz2
      have hAW := awake_any w42
      go_wp2_with fail
      refine hAW.mono ?_
      clear hAW
      rintro e wz ⟨rfl, zz⟩
      have HZ := hid zz
      clear zz
      go_wp2
      go_ret
      exact ⟨rfl, HB.out.trans ((HQ42.out.trans (HZ.out.mono (by omega))).mono (by omega))⟩
    · have ht1 := HN1.out n1
      subst ht1
      have ht2 := HN2.out n2
      subst ht2
      clear HST HAH HSM
      subst m1
      subst n1
      subst m2
      subst cc2
      subst n2
      have ll2' : decide ((l2.length : Int) ≤ 64) = false := by simp; omega
      unfold errR
      have hK1 := HK1.out w2
      go_wp2_with fail
      refine hK1.mono ?_
      clear hK1
      rintro e ww ⟨rfl, hww⟩
      subst ww
      have hK2 := HK2.out w2
      go_wp2_with fail
      refine hK2.mono ?_
      clear hK2
      rintro e ww ⟨rfl, hww⟩
      subst ww
      have hC2 := HC2.out _ HQ2.out
      go_wp2_with fail
      refine hC2.mono ?_
      clear hC2
      rintro e w42 ⟨rfl, zz2⟩
      have HQ42 := hid (HQ2.out.trans (zz2.mono (by omega)))
      have hsw42 := HQ42.out.size
      clear ta0 ta1 ta2 ta3 ta4 taa tab tac tad tae
      obtain ⟨t4y0, t4y1, t4y2, t4y3, t4y4, _⟩ := (HA1.out.below HQ42.out (by omega)).cells
      obtain ⟨t4ya, t4yb, t4yc, t4yd, t4ye, _⟩ := (HA2.out.below HQ42.out (by omega)).cells
      clear zz2
      have hAW := awake_any w42
      go_wp2_with fail
      refine hAW.mono ?_
      clear hAW
      rintro e wz ⟨rfl, zz⟩
      have HZ := hid zz
      clear zz
      go_wp2
      go_ret
      exact ⟨rfl, HB.out.trans ((HQ42.out.trans (HZ.out.mono (by omega))).mono (by omega))⟩
    · have ht1 := HN1.out n1
      subst ht1
      clear HST HAH HSM
      subst m1
      subst n1
      subst m2
      subst cc2
      subst n2
      have ll2' : (l2.length : Int) ≤ 64 := by omega
      unfold errR
      have hK1 := HK1.out w2
      go_wp2_with fail
      refine hK1.mono ?_
      clear hK1
      rintro e ww ⟨rfl, hww⟩
      subst ww
      have hK2 := HK2.out w2
      go_wp2_with fail
      refine hK2.mono ?_
      clear hK2
      rintro e ww ⟨rfl, hww⟩
      subst ww
      have hC2 := HC2.out _ HQ2.out
      go_wp2_with fail
      refine hC2.mono ?_
      clear hC2
      rintro e w42 ⟨rfl, zz2⟩
      have HQ42 := hid (HQ2.out.trans (zz2.mono (by omega)))
      have hsw42 := HQ42.out.size
      clear ta0 ta1 ta2 ta3 ta4 taa tab tac tad tae
      obtain ⟨t4y0, t4y1, t4y2, t4y3, t4y4, _⟩ := (HA1.out.below HQ42.out (by omega)).cells
      obtain ⟨t4ya, t4yb, t4yc, t4yd, t4ye, _⟩ := (HA2.out.below HQ42.out (by omega)).cells
      clear zz2
      have hAW := awake_any w42
      go_wp2_with fail
      refine hAW.mono ?_
      clear hAW
      rintro e wz ⟨rfl, zz⟩
      have HZ := hid zz
      clear zz
      go_wp2
      go_ret
      exact ⟨rfl, HB.out.trans ((HQ42.out.trans (HZ.out.mono (by omega))).mono (by omega))⟩
  · rcases HP2.out with ⟨m2, n2⟩ | ⟨m2, cc2, n2⟩ | ⟨m2, cc2, ll2, n2⟩ | ⟨m2, cc2, ll2, n2⟩
    · have ht1 := HN1.out n1
      subst ht1
      have ht2 := HN2.out n2
      subst ht2
      clear HST HAH HSM
      subst m1
      subst cc1
      subst n1
      subst m2
      subst n2
      unfold errR
      have hK1 := HK1.out w2
      go_wp2_with fail
      refine hK1.mono ?_
      clear hK1
      rintro e ww ⟨rfl, hww⟩
      subst ww
      have hC1 := HC1.out _ HQ2.out
      go_wp2_with fail
      refine hC1.mono ?_
      clear hC1
      rintro e w31 ⟨rfl, zz1⟩
      have HQ31 := hid (HQ2.out.trans (zz1.mono (by omega)))
      have hsw31 := HQ31.out.size
      clear ta0 ta1 ta2 ta3 ta4 taa tab tac tad tae
      obtain ⟨t3x0, t3x1, t3x2, t3x3, t3x4, _⟩ := (HA1.out.below HQ31.out (by omega)).cells
      obtain ⟨t3xa, t3xb, t3xc, t3xd, t3xe, _⟩ := (HA2.out.below HQ31.out (by omega)).cells
      clear zz1
      have hK2 := HK2.out w31
      go_wp2_with fail
      refine hK2.mono ?_
      clear hK2
      rintro e ww ⟨rfl, hww⟩
      subst ww
      have hAW := awake_any w31
      go_wp2_with fail
      refine hAW.mono ?_
      clear hAW
      rintro e wz ⟨rfl, zz⟩
      have HZ := hid zz
      clear zz
      go_wp2
      go_ret
      exact ⟨rfl, HB.out.trans ((HQ31.out.trans (HZ.out.mono (by omega))).mono (by omega))⟩
    · have ht1 := HN1.out n1
      subst ht1
      have ht2 := HN2.out n2
      subst ht2
      clear HST HAH HSM
      subst m1
      subst cc1
      subst n1
      subst m2
      subst cc2
      subst n2
      unfold errR
      have hK1 := HK1.out w2
      go_wp2_with fail
      refine hK1.mono ?_
      clear hK1
      rintro e ww ⟨rfl, hww⟩
      subst ww
      have hC1 := HC1.out _ HQ2.out
      go_wp2_with fail
      refine hC1.mono ?_
      clear hC1
      rintro e w31 ⟨rfl, zz1⟩
      have HQ31 := hid (HQ2.out.trans (zz1.mono (by omega)))
      have hsw31 := HQ31.out.size
      clear ta0 ta1 ta2 ta3 ta4 taa tab tac tad tae
      obtain ⟨t3x0, t3x1, t3x2, t3x3, t3x4, _⟩ := (HA1.out.below HQ31.out (by omega)).cells
      obtain ⟨t3xa, t3xb, t3xc, t3xd, t3xe, _⟩ := (HA2.out.below HQ31.out (by omega)).cells
      clear zz1
      have hK2 := HK2.out w31
      go_wp2_with fail
      refine hK2.mono ?_
      clear hK2
      rintro e ww ⟨rfl, hww⟩
      subst ww
      have hC2 := HC2.out _ HQ31.out
      go_wp2_with fail
      refine hC2.mono ?_
      clear hC2
      rintro e w42 ⟨rfl, zz2⟩
      have HQ42 := hid (HQ31.out.trans (zz2.mono (by omega)))
      have hsw42 := HQ42.out.size
      clear t3x0 t3x1 t3x2 t3x3 t3x4 t3xa t3xb t3xc t3xd t3xe
      obtain ⟨t4y0, t4y1, t4y2, t4y3, t4y4, _⟩ := (HA1.out.below HQ42.out (by omega)).cells
      obtain ⟨t4ya, t4yb, t4yc, t4yd, t4ye, _⟩ := (HA2.out.below HQ42.out (by omega)).cells
      clear zz2
      have hAW := awake_any w42
      go_wp2_with fail
      refine hAW.mono ?_
      clear hAW
      rintro e wz ⟨rfl, zz⟩
      have HZ := hid zz
      clear zz
      go_wp2
      go_ret
      exact ⟨rfl, HB.out.trans ((HQ42.out.trans (HZ.out.mono (by omega))).mono (by omega))⟩
    · have ht1 := HN1.out n1
      subst ht1
      have ht2 := HN2.out n2
      subst ht2
      clear HST HAH HSM
      subst m1
      subst cc1
      subst n1
      subst m2
      subst cc2
      subst n2
      have ll2' : decide ((l2.length : Int) ≤ 64) = false := by simp; omega
      unfold errR
      have hK1 := HK1.out w2
      go_wp2_with fail
      refine hK1.mono ?_
      clear hK1
      rintro e ww ⟨rfl, hww⟩
      subst ww
      have hC1 := HC1.out _ HQ2.out
      go_wp2_with fail
      refine hC1.mono ?_
      clear hC1
      rintro e w31 ⟨rfl, zz1⟩
      have HQ31 := hid (HQ2.out.trans (zz1.mono (by omega)))
      have hsw31 := HQ31.out.size
      clear ta0 ta1 ta2 ta3 ta4 taa tab tac tad tae
      obtain ⟨t3x0, t3x1, t3x2, t3x3, t3x4, _⟩ := (HA1.out.below HQ31.out (by omega)).cells
      obtain ⟨t3xa, t3xb, t3xc, t3xd, t3xe, _⟩ := (HA2.out.below HQ31.out (by omega)).cells
      clear zz1
      have hK2 := HK2.out w31
      go_wp2_with fail
      refine hK2.mono ?_
      clear hK2
      rintro e ww ⟨rfl, hww⟩
      subst ww
      have hC2 := HC2.out _ HQ31.out
      go_wp2_with fail
      refine hC2.mono ?_
      clear hC2
      rintro e w42 ⟨rfl, zz2⟩
      have HQ42 := hid (HQ31.out.trans (zz2.mono (by omega)))
      have hsw42 := HQ42.out.size
      clear t3x0 t3x1 t3x2 t3x3 t3x4 t3xa t3xb t3xc t3xd t3xe
      obtain ⟨t4y0, t4y1, t4y2, t4y3, t4y4, _⟩ := (HA1.out.below HQ42.out (by omega)).cells
      obtain ⟨t4ya, t4yb, t4yc, t4yd, t4ye, _⟩ := (HA2.out.below HQ42.out (by omega)).cells
      clear zz2
      have hAW := awake_any w42
      go_wp2_with fail
      refine hAW.mono ?_
      clear hAW
      rintro e wz ⟨rfl, zz⟩
      have HZ := hid zz
      clear zz
      go_wp2
      go_ret
      exact ⟨rfl, HB.out.trans ((HQ42.out.trans (HZ.out.mono (by omega))).mono (by omega))⟩
    · have ht1 := HN1.out n1
      subst ht1
      clear HST HAH HSM
      subst m1
      subst cc1
      subst n1
      subst m2
      subst cc2
      subst n2
      have ll2' : (l2.length : Int) ≤ 64 := by omega
      unfold errR
      have hK1 := HK1.out w2
      go_wp2_with fail
      refine hK1.mono ?_
      clear hK1
      rintro e ww ⟨rfl, hww⟩
      subst ww
      have hC1 := HC1.out _ HQ2.out
      go_wp2_with fail
      refine hC1.mono ?_
      clear hC1
      rintro e w31 ⟨rfl, zz1⟩
      have HQ31 := hid (HQ2.out.trans (zz1.mono (by omega)))
      have hsw31 := HQ31.out.size
      clear ta0 ta1 ta2 ta3 ta4 taa tab tac tad tae
      obtain ⟨t3x0, t3x1, t3x2, t3x3, t3x4, _⟩ := (HA1.out.below HQ31.out (by omega)).cells
      obtain ⟨t3xa, t3xb, t3xc, t3xd, t3xe, _⟩ := (HA2.out.below HQ31.out (by omega)).cells
      clear zz1
      have hK2 := HK2.out w31
      go_wp2_with fail
      refine hK2.mono ?_
      clear hK2
      rintro e ww ⟨rfl, hww⟩
      subst ww
      have hC2 := HC2.out _ HQ31.out
      go_wp2_with fail
      refine hC2.mono ?_
      clear hC2
      rintro e w42 ⟨rfl, zz2⟩
      have HQ42 := hid (HQ31.out.trans (zz2.mono (by omega)))
      have hsw42 := HQ42.out.size
      clear t3x0 t3x1 t3x2 t3x3 t3x4 t3xa t3xb t3xc t3xd t3xe
      obtain ⟨t4y0, t4y1, t4y2, t4y3, t4y4, _⟩ := (HA1.out.below HQ42.out (by omega)).cells
      obtain ⟨t4ya, t4yb, t4yc, t4yd, t4ye, _⟩ := (HA2.out.below HQ42.out (by omega)).cells
      clear zz2
      have hAW := awake_any w42
      go_wp2_with fail
      refine hAW.mono ?_
      clear hAW
      rintro e wz ⟨rfl, zz⟩
      have HZ := hid zz
      clear zz
      go_wp2
      go_ret
      exact ⟨rfl, HB.out.trans ((HQ42.out.trans (HZ.out.mono (by omega))).mono (by omega))⟩
  · rcases HP2.out with ⟨m2, n2⟩ | ⟨m2, cc2, n2⟩ | ⟨m2, cc2, ll2, n2⟩ | ⟨m2, cc2, ll2, n2⟩
    · have ht1 := HN1.out n1
      subst ht1
      have ht2 := HN2.out n2
      subst ht2
      clear HST HAH HSM
      subst m1
      subst cc1
      subst n1
      have ll1' : decide ((l1.length : Int) ≤ 64) = false := by simp; omega
      subst m2
      subst n2
      unfold errR
      have hK1 := HK1.out w2
      go_wp2_with fail
      refine hK1.mono ?_
      clear hK1
      rintro e ww ⟨rfl, hww⟩
      subst ww
      have hC1 := HC1.out _ HQ2.out
      go_wp2_with fail
      refine hC1.mono ?_
      clear hC1
      rintro e w31 ⟨rfl, zz1⟩
      have HQ31 := hid (HQ2.out.trans (zz1.mono (by omega)))
      have hsw31 := HQ31.out.size
      clear ta0 ta1 ta2 ta3 ta4 taa tab tac tad tae
      obtain ⟨t3x0, t3x1, t3x2, t3x3, t3x4, _⟩ := (HA1.out.below HQ31.out (by omega)).cells
      obtain ⟨t3xa, t3xb, t3xc, t3xd, t3xe, _⟩ := (HA2.out.below HQ31.out (by omega)).cells
      clear zz1
      have hK2 := HK2.out w31
      go_wp2_with fail
      refine hK2.mono ?_
      clear hK2
      rintro e ww ⟨rfl, hww⟩
      subst ww
      have hAW := awake_any w31
      go_wp2_with fail
      refine hAW.mono ?_
      clear hAW
      rintro e wz ⟨rfl, zz⟩
      have HZ := hid zz
      clear zz
      go_wp2
      go_ret
      exact ⟨rfl, HB.out.trans ((HQ31.out.trans (HZ.out.mono (by omega))).mono (by omega))⟩
    · have ht1 := HN1.out n1
      subst ht1
      have ht2 := HN2.out n2
      subst ht2
      clear HST HAH HSM
      subst m1
      subst cc1
      subst n1
      have ll1' : decide ((l1.length : Int) ≤ 64) = false := by simp; omega
      subst m2
      subst cc2
      subst n2
      unfold errR
      have hK1 := HK1.out w2
      go_wp2_with fail
      refine hK1.mono ?_
      clear hK1
      rintro e ww ⟨rfl, hww⟩
      subst ww
      have hC1 := HC1.out _ HQ2.out
      go_wp2_with fail
      refine hC1.mono ?_
      clear hC1
      rintro e w31 ⟨rfl, zz1⟩
      have HQ31 := hid (HQ2.out.trans (zz1.mono (by omega)))
      have hsw31 := HQ31.out.size
      clear ta0 ta1 ta2 ta3 ta4 taa tab tac tad tae
      obtain ⟨t3x0, t3x1, t3x2, t3x3, t3x4, _⟩ := (HA1.out.below HQ31.out (by omega)).cells
      obtain ⟨t3xa, t3xb, t3xc, t3xd, t3xe, _⟩ := (HA2.out.below HQ31.out (by omega)).cells
      clear zz1
      have hK2 := HK2.out w31
      go_wp2_with fail
      refine hK2.mono ?_
      clear hK2
      rintro e ww ⟨rfl, hww⟩
      subst ww
      have hC2 := HC2.out _ HQ31.out
      go_wp2_with fail
      refine hC2.mono ?_
      clear hC2
      rintro e w42 ⟨rfl, zz2⟩
      have HQ42 := hid (HQ31.out.trans (zz2.mono (by omega)))
      have hsw42 := HQ42.out.size
      clear t3x0 t3x1 t3x2 t3x3 t3x4 t3xa t3xb t3xc t3xd t3xe
      obtain ⟨t4y0, t4y1, t4y2, t4y3, t4y4, _⟩ := (HA1.out.below HQ42.out (by omega)).cells
      obtain ⟨t4ya, t4yb, t4yc, t4yd, t4ye, _⟩ := (HA2.out.below HQ42.out (by omega)).cells
      clear zz2
      have hAW := awake_any w42
      go_wp2_with fail
      refine hAW.mono ?_
      clear hAW
      rintro e wz ⟨rfl, zz⟩
      have HZ := hid zz
      clear zz
      go_wp2
      go_ret
      exact ⟨rfl, HB.out.trans ((HQ42.out.trans (HZ.out.mono (by omega))).mono (by omega))⟩
    · have ht1 := HN1.out n1
      subst ht1
      have ht2 := HN2.out n2
      subst ht2
      clear HST HAH HSM
      subst m1
      subst cc1
      subst n1
      have ll1' : decide ((l1.length : Int) ≤ 64) = false := by simp; omega
      subst m2
      subst cc2
      subst n2
      have ll2' : decide ((l2.length : Int) ≤ 64) = false := by simp; omega
      unfold errR
      have hK1 := HK1.out w2
      go_wp2_with fail
      refine hK1.mono ?_
      clear hK1
      rintro e ww ⟨rfl, hww⟩
      subst ww
      have hC1 := HC1.out _ HQ2.out
      go_wp2_with fail
      refine hC1.mono ?_
      clear hC1
      rintro e w31 ⟨rfl, zz1⟩
      have HQ31 := hid (HQ2.out.trans (zz1.mono (by omega)))
      have hsw31 := HQ31.out.size
      clear ta0 ta1 ta2 ta3 ta4 taa tab tac tad tae
      obtain ⟨t3x0, t3x1, t3x2, t3x3, t3x4, _⟩ := (HA1.out.below HQ31.out (by omega)).cells
      obtain ⟨t3xa, t3xb, t3xc, t3xd, t3xe, _⟩ := (HA2.out.below HQ31.out (by omega)).cells
      clear zz1
      have hK2 := HK2.out w31
      go_wp2_with fail
      refine hK2.mono ?_
      clear hK2
      rintro e ww ⟨rfl, hww⟩
      subst ww
      have hC2 := HC2.out _ HQ31.out
      go_wp2_with fail
      refine hC2.mono ?_
      clear hC2
      rintro e w42 ⟨rfl, zz2⟩
      have HQ42 := hid (HQ31.out.trans (zz2.mono (by omega)))
      have hsw42 := HQ42.out.size
      clear t3x0 t3x1 t3x2 t3x3 t3x4 t3xa t3xb t3xc t3xd t3xe
      obtain ⟨t4y0, t4y1, t4y2, t4y3, t4y4, _⟩ := (HA1.out.below HQ42.out (by omega)).cells
      obtain ⟨t4ya, t4yb, t4yc, t4yd, t4ye, _⟩ := (HA2.out.below HQ42.out (by omega)).cells
      clear zz2
      have hAW := awake_any w42
      go_wp2_with fail
      refine hAW.mono ?_
      clear hAW
      rintro e wz ⟨rfl, zz⟩
      have HZ := hid zz
      clear zz
      go_wp2
      go_ret
      exact ⟨rfl, HB.out.trans ((HQ42.out.trans (HZ.out.mono (by omega))).mono (by omega))⟩
    · have ht1 := HN1.out n1
      subst ht1
      clear HST HAH HSM
      subst m1
      subst cc1
      subst n1
      have ll1' : decide ((l1.length : Int) ≤ 64) = false := by simp; omega
      subst m2
      subst cc2
      subst n2
      have ll2' : (l2.length : Int) ≤ 64 := by omega
      unfold errR
      have hK1 := HK1.out w2
      go_wp2_with fail
      refine hK1.mono ?_
      clear hK1
      rintro e ww ⟨rfl, hww⟩
      subst ww
      have hC1 := HC1.out _ HQ2.out
      go_wp2_with fail
      refine hC1.mono ?_
      clear hC1
      rintro e w31 ⟨rfl, zz1⟩
      have HQ31 := hid (HQ2.out.trans (zz1.mono (by omega)))
      have hsw31 := HQ31.out.size
      clear ta0 ta1 ta2 ta3 ta4 taa tab tac tad tae
      obtain ⟨t3x0, t3x1, t3x2, t3x3, t3x4, _⟩ := (HA1.out.below HQ31.out (by omega)).cells
      obtain ⟨t3xa, t3xb, t3xc, t3xd, t3xe, _⟩ := (HA2.out.below HQ31.out (by omega)).cells
      clear zz1
      have hK2 := HK2.out w31
      go_wp2_with fail
      refine hK2.mono ?_
      clear hK2
      rintro e ww ⟨rfl, hww⟩
      subst ww
      have hC2 := HC2.out _ HQ31.out
      go_wp2_with fail
      refine hC2.mono ?_
      clear hC2
      rintro e w42 ⟨rfl, zz2⟩
      have HQ42 := hid (HQ31.out.trans (zz2.mono (by omega)))
      have hsw42 := HQ42.out.size
      clear t3x0 t3x1 t3x2 t3x3 t3x4 t3xa t3xb t3xc t3xd t3xe
      obtain ⟨t4y0, t4y1, t4y2, t4y3, t4y4, _⟩ := (HA1.out.below HQ42.out (by omega)).cells
      obtain ⟨t4ya, t4yb, t4yc, t4yd, t4ye, _⟩ := (HA2.out.below HQ42.out (by omega)).cells
      clear zz2
      have hAW := awake_any w42
      go_wp2_with fail
      refine hAW.mono ?_
      clear hAW
      rintro e wz ⟨rfl, zz⟩
      have HZ := hid zz
      clear zz
      go_wp2
      go_ret
      exact ⟨rfl, HB.out.trans ((HQ42.out.trans (HZ.out.mono (by omega))).mono (by omega))⟩
  · rcases HP2.out with ⟨m2, n2⟩ | ⟨m2, cc2, n2⟩ | ⟨m2, cc2, ll2, n2⟩ | ⟨m2, cc2, ll2, n2⟩
    · have ht2 := HN2.out n2
      subst ht2
      clear HST HAH HSM
      subst m1
      subst cc1
      subst n1
      have ll1' : (l1.length : Int) ≤ 64 := by omega
      subst m2
      subst n2
      unfold errR
      have hK1 := HK1.out w2
      go_wp2_with fail
      refine hK1.mono ?_
      clear hK1
      rintro e ww ⟨rfl, hww⟩
      subst ww
      have hC1 := HC1.out _ HQ2.out
      go_wp2_with fail
      refine hC1.mono ?_
      clear hC1
      rintro e w31 ⟨rfl, zz1⟩
      have HQ31 := hid (HQ2.out.trans (zz1.mono (by omega)))
      have hsw31 := HQ31.out.size
      clear ta0 ta1 ta2 ta3 ta4 taa tab tac tad tae
      obtain ⟨t3x0, t3x1, t3x2, t3x3, t3x4, _⟩ := (HA1.out.below HQ31.out (by omega)).cells
      obtain ⟨t3xa, t3xb, t3xc, t3xd, t3xe, _⟩ := (HA2.out.below HQ31.out (by omega)).cells
      clear zz1
      have hK2 := HK2.out w31
      go_wp2_with fail
      refine hK2.mono ?_
      clear hK2
      rintro e ww ⟨rfl, hww⟩
      subst ww
      have hAW := awake_any w31
      go_wp2_with fail
      refine hAW.mono ?_
      clear hAW
      rintro e wz ⟨rfl, zz⟩
      have HZ := hid zz
      clear zz
      go_wp2
      go_ret
      exact ⟨rfl, HB.out.trans ((HQ31.out.trans (HZ.out.mono (by omega))).mono (by omega))⟩
    · have ht2 := HN2.out n2
      subst ht2
      clear HST HAH HSM
      subst m1
      subst cc1
      subst n1
      have ll1' : (l1.length : Int) ≤ 64 := by omega
      subst m2
      subst cc2
      subst n2
      unfold errR
      have hK1 := HK1.out w2
      go_wp2_with fail
      refine hK1.mono ?_
      clear hK1
      rintro e ww ⟨rfl, hww⟩
      subst ww
      have hC1 := HC1.out _ HQ2.out
      go_wp2_with fail
      refine hC1.mono ?_
      clear hC1
      rintro e w31 ⟨rfl, zz1⟩
      have HQ31 := hid (HQ2.out.trans (zz1.mono (by omega)))
      have hsw31 := HQ31.out.size
      clear ta0 ta1 ta2 ta3 ta4 taa tab tac tad tae
      obtain ⟨t3x0, t3x1, t3x2, t3x3, t3x4, _⟩ := (HA1.out.below HQ31.out (by omega)).cells
      obtain ⟨t3xa, t3xb, t3xc, t3xd, t3xe, _⟩ := (HA2.out.below HQ31.out (by omega)).cells
      clear zz1
      have hK2 := HK2.out w31
      go_wp2_with fail
      refine hK2.mono ?_
      clear hK2
      rintro e ww ⟨rfl, hww⟩
      subst ww
      have hC2 := HC2.out _ HQ31.out
      go_wp2_with fail
      refine hC2.mono ?_
      clear hC2
      rintro e w42 ⟨rfl, zz2⟩
      have HQ42 := hid (HQ31.out.trans (zz2.mono (by omega)))
      have hsw42 := HQ42.out.size
      clear t3x0 t3x1 t3x2 t3x3 t3x4 t3xa t3xb t3xc t3xd t3xe
      obtain ⟨t4y0, t4y1, t4y2, t4y3, t4y4, _⟩ := (HA1.out.below HQ42.out (by omega)).cells
      obtain ⟨t4ya, t4yb, t4yc, t4yd, t4ye, _⟩ := (HA2.out.below HQ42.out (by omega)).cells
      clear zz2
      have hAW := awake_any w42
      go_wp2_with fail
      refine hAW.mono ?_
      clear hAW
      rintro e wz ⟨rfl, zz⟩
      have HZ := hid zz
      clear zz
      go_wp2
      go_ret
      exact ⟨rfl, HB.out.trans ((HQ42.out.trans (HZ.out.mono (by omega))).mono (by omega))⟩
    · have ht2 := HN2.out n2
      subst ht2
      clear HST HAH HSM
      subst m1
      subst cc1
      subst n1
      have ll1' : (l1.length : Int) ≤ 64 := by omega
      subst m2
      subst cc2
      subst n2
      have ll2' : decide ((l2.length : Int) ≤ 64) = false := by simp; omega
      unfold errR
      have hK1 := HK1.out w2
      go_wp2_with fail
      refine hK1.mono ?_
      clear hK1
      rintro e ww ⟨rfl, hww⟩
      subst ww
      have hC1 := HC1.out _ HQ2.out
      go_wp2_with fail
      refine hC1.mono ?_
      clear hC1
      rintro e w31 ⟨rfl, zz1⟩
      have HQ31 := hid (HQ2.out.trans (zz1.mono (by omega)))
      have hsw31 := HQ31.out.size
      clear ta0 ta1 ta2 ta3 ta4 taa tab tac tad tae
      obtain ⟨t3x0, t3x1, t3x2, t3x3, t3x4, _⟩ := (HA1.out.below HQ31.out (by omega)).cells
      obtain ⟨t3xa, t3xb, t3xc, t3xd, t3xe, _⟩ := (HA2.out.below HQ31.out (by omega)).cells
      clear zz1
      have hK2 := HK2.out w31
      go_wp2_with fail
      refine hK2.mono ?_
      clear hK2
      rintro e ww ⟨rfl, hww⟩
      subst ww
      have hC2 := HC2.out _ HQ31.out
      go_wp2_with fail
      refine hC2.mono ?_
      clear hC2
      rintro e w42 ⟨rfl, zz2⟩
      have HQ42 := hid (HQ31.out.trans (zz2.mono (by omega)))
      have hsw42 := HQ42.out.size
      clear t3x0 t3x1 t3x2 t3x3 t3x4 t3xa t3xb t3xc t3xd t3xe
      obtain ⟨t4y0, t4y1, t4y2, t4y3, t4y4, _⟩ := (HA1.out.below HQ42.out (by omega)).cells
      obtain ⟨t4ya, t4yb, t4yc, t4yd, t4ye, _⟩ := (HA2.out.below HQ42.out (by omega)).cells
      clear zz2
      have hAW := awake_any w42
      go_wp2_with fail
      refine hAW.mono ?_
      clear hAW
      rintro e wz ⟨rfl, zz⟩
      have HZ := hid zz
      clear zz
      go_wp2
      go_ret
      exact ⟨rfl, HB.out.trans ((HQ42.out.trans (HZ.out.mono (by omega))).mono (by omega))⟩
    · have hst := (HST.out n1 n2).1
      have hlt := (HST.out n1 n2).2
      clear HST
      subst m1
      subst cc1
      subst n1
      have ll1' : (l1.length : Int) ≤ 64 := by omega
      subst m2
      subst cc2
      subst n2
      have ll2' : (l2.length : Int) ≤ 64 := by omega
      unfold errR
      have hK1 := HK1.out w2
      go_wp2_with fail
      refine hK1.mono ?_
      clear hK1
      rintro e ww ⟨rfl, hww⟩
      subst ww
      have hC1 := HC1.out _ HQ2.out
      go_wp2_with fail
      refine hC1.mono ?_
      clear hC1
      rintro e w31 ⟨rfl, zz1⟩
      have HQ31 := hid (HQ2.out.trans (zz1.mono (by omega)))
      have hsw31 := HQ31.out.size
      clear ta0 ta1 ta2 ta3 ta4 taa tab tac tad tae
      obtain ⟨t3x0, t3x1, t3x2, t3x3, t3x4, _⟩ := (HA1.out.below HQ31.out (by omega)).cells
      obtain ⟨t3xa, t3xb, t3xc, t3xd, t3xe, _⟩ := (HA2.out.below HQ31.out (by omega)).cells
      clear zz1
      have hK2 := HK2.out w31
      go_wp2_with fail
      refine hK2.mono ?_
      clear hK2
      rintro e ww ⟨rfl, hww⟩
      subst ww
      have hC2 := HC2.out _ HQ31.out
      go_wp2_with fail
      refine hC2.mono ?_
      clear hC2
      rintro e w42 ⟨rfl, zz2⟩
      have HQ42 := hid (HQ31.out.trans (zz2.mono (by omega)))
      have hsw42 := HQ42.out.size
      clear t3x0 t3x1 t3x2 t3x3 t3x4 t3xa t3xb t3xc t3xd t3xe
      obtain ⟨t4y0, t4y1, t4y2, t4y3, t4y4, _⟩ := (HA1.out.below HQ42.out (by omega)).cells
      obtain ⟨t4ya, t4yb, t4yc, t4yd, t4ye, _⟩ := (HA2.out.below HQ42.out (by omega)).cells
      clear zz2
      cases bk
      · clear HSM
        have hAH := HAH.out w42 HQ42.out
        clear HAH
        go_wp2_with fail
        refine hAH.mono ?_
        clear hAH
        rintro e wh ⟨rfl, zh⟩
        have HQh := hid (HQ42.out.trans (zh.mono (by omega)))
        have hsh := HQh.out.size
        clear zh
        cases bh
        · have hAW := awake_any wh
          go_wp2_with fail
          refine hAW.mono ?_
          clear hAW
          rintro e wz ⟨rfl, zz⟩
          have HZ := hid zz
          clear zz
          go_wp2
          go_ret
          exact ⟨rfl, HB.out.trans ((HQh.out.trans (HZ.out.mono (by omega))).mono (by omega))⟩
        · have hAW := awake_any wh
          go_wp2_with fail
          refine hAW.mono ?_
          clear hAW
          rintro e wz ⟨rfl, zz⟩
          have HZ := hid zz
          clear zz
          go_wp2
          go_ret
          exact ⟨rfl, HB.out.trans ((HQh.out.trans (HZ.out.mono (by omega))).mono (by omega))⟩
      · have hSM := HSM.out w42 HQ42.out
        clear HSM
        go_wp2_with fail
        refine hSM.mono ?_
        clear hSM
        rintro e wm ⟨rfl, zm⟩
        have HQm := hid (HQ42.out.trans (zm.mono (by omega)))
        have hsm := HQm.out.size
        clear zm
        clear t4y0 t4y1 t4y2 t4y3 t4y4 t4ya t4yb t4yc t4yd t4ye
        obtain ⟨tm0, tm1, tm2, tm3, tm4, _⟩ := (HA1.out.below HQm.out (by omega)).cells
        obtain ⟨tma, tmb, tmc, tmd, tme, _⟩ := (HA2.out.below HQm.out (by omega)).cells
        cases bq
        · have hAH := HAH.out wm HQm.out
          clear HAH
          go_wp2_with fail
          refine hAH.mono ?_
          clear hAH
          rintro e wh ⟨rfl, zh⟩
          have HQh := hid (HQm.out.trans (zh.mono (by omega)))
          have hsh := HQh.out.size
          clear zh
          cases bh
          · have hAW := awake_any wh
            go_wp2_with fail
            refine hAW.mono ?_
            clear hAW
            rintro e wz ⟨rfl, zz⟩
            have HZ := hid zz
            clear zz
            go_wp2
            go_ret
            exact ⟨rfl, HB.out.trans ((HQh.out.trans (HZ.out.mono (by omega))).mono (by omega))⟩
          · have hAW := awake_any wh
            go_wp2_with fail
            refine hAW.mono ?_
            clear hAW
            rintro e wz ⟨rfl, zz⟩
            have HZ := hid zz
            clear zz
            go_wp2
            go_ret
            exact ⟨rfl, HB.out.trans ((HQh.out.trans (HZ.out.mono (by omega))).mono (by omega))⟩
        · have hAH := HAH.out wm HQm.out
          clear HAH
          go_wp2_with fail
          refine hAH.mono ?_
          clear hAH
          rintro e wh ⟨rfl, zh⟩
          have HQh := hid (HQm.out.trans (zh.mono (by omega)))
          have hsh := HQh.out.size
          clear zh
          cases bh
          · have hAW := awake_any wh
            go_wp2_with fail
            refine hAW.mono ?_
            clear hAW
            rintro e wz ⟨rfl, zz⟩
            have HZ := hid zz
            clear zz
            go_wp2
            go_ret
            exact ⟨rfl, HB.out.trans ((HQh.out.trans (HZ.out.mono (by omega))).mono (by omega))⟩
          · have hAW := awake_any wh
            go_wp2_with fail
            refine hAW.mono ?_
            clear hAW
            rintro e wz ⟨rfl, zz⟩
            have HZ := hid zz
            clear zz
            go_wp2
            go_ret
            exact ⟨rfl, HB.out.trans ((HQh.out.trans (HZ.out.mono (by omega))).mono (by omega))⟩

end Go.Proofs.Ytkbceaofijngoaa
