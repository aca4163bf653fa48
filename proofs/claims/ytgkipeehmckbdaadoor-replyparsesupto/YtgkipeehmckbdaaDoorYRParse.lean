/-
  Parse of the document.
-/
import Derived.Test.YtgkipeehmckbdaaDoorYPrintsWalk
import Derived.Deep.CutBlock
import Derived.Deep.DeepCutAuto
namespace Go.Proofs.YtgkipeehmckbdaaDoor
open Go.RowKit
set_option linter.unusedVariables false

theorem cutC_at {c : UInt8} {l : List UInt8} {k : Nat} (hk : k ≤ l.length) (hno : ∀ j (hj : j < l.length), j < k → l[j] ≠ c) (hend : k = l.length ∨ ∃ h : k < l.length, l[k] = c) : (cutC c l).1 = l.take k := by
  have hn : c ∉ l.take k := by
    intro hm
    obtain ⟨i, hi, e⟩ := List.getElem_of_mem hm
    rw [List.length_take] at hi
    rw [List.getElem_take] at e
    exact hno i (by omega) (by omega) e
  rcases hend with rfl | ⟨h, e⟩
  · rw [List.take_length] at hn ⊢
    rw [cutC_none hn]
  · have hs : l = l.take k ++ c :: l.drop (k + 1) := by
      rw [← e, ← List.drop_eq_getElem_cons h, List.take_append_drop]
    have h2 := cutC_app (c := c) (l.drop (k + 1)) hn
    rw [← hs] at h2
    rw [h2]
theorem next_drop {L : List UInt8} {k : Nat} (hc : (cutE (L.drop k)).2.2 = true) (hk : k ≤ L.length) : L.drop (k + (cutE (L.drop k)).1.length + 2) = (cutE (L.drop k)).2.1 ∧ k + (cutE (L.drop k)).1.length + 2 ≤ L.length := by
  have h1 := cutE_true hc
  have h2 := (cutE_len (L.drop k)).2 hc
  rw [List.length_drop] at h2
  refine ⟨?_, by omega⟩
  have h3 := congrArg (List.drop ((cutE (L.drop k)).1.length + 2)) h1
  rw [List.drop_drop] at h3
  rw [Nat.add_assoc, h3, show (cutE (L.drop k)).1 ++ 13 :: 10 :: (cutE (L.drop k)).2.1 = ((cutE (L.drop k)).1 ++ [13, 10]) ++ (cutE (L.drop k)).2.1 by simp, List.drop_left' (by simp)]
theorem prefix_take (t s : List UInt8) : t.isPrefixOf s = true ↔ t.length ≤ s.length ∧ s.take t.length = t := by
  rw [List.isPrefixOf_iff_prefix]
  constructor
  · rintro ⟨z, rfl⟩
    exact ⟨by simp, by simp⟩
  · rintro ⟨_, h⟩
    rw [← h]
    exact List.take_prefix _ _
theorem fD_none {f : Nat} {n : Int} {acc : List PairL} {D : List UInt8} (h : (cutE D).2.2 = false) : fieldsD (f + 1) n acc D = none := by rw [fieldsD, if_pos h]
theorem fD_short {f : Nat} {n : Int} {acc : List PairL} {D : List UInt8} (h : (cutE D).2.2 = true) (h2 : (cutE D).1.length < (cutC 58 (cutE D).1).1.length + 2) : fieldsD (f + 1) n acc D = none := by
  rw [fieldsD, if_neg (by rw [h]; simp), if_pos h2]
theorem fD_next {f : Nat} {n : Int} {acc : List PairL} {D : List UInt8} (h : (cutE D).2.2 = true) (h2 : ¬ (cutE D).1.length < (cutC 58 (cutE D).1).1.length + 2) (h3 : (cutC 58 (cutE D).1).1 ≠ clS) :
    fieldsD (f + 1) n acc D = fieldsD f n (acc ++ [((cutC 58 (cutE D).1).1, (cutE D).1.drop ((cutC 58 (cutE D).1).1.length + 2))]) (cutE D).2.1 := by
  rw [fieldsD, if_neg (by rw [h]; simp), if_neg h2, if_neg h3]
theorem fD_cl {f : Nat} {n : Int} {acc : List PairL} {D : List UInt8} (h : (cutE D).2.2 = true) (h2 : ¬ (cutE D).1.length < (cutC 58 (cutE D).1).1.length + 2) (h3 : (cutC 58 (cutE D).1).1 = clS) :
    fieldsD (f + 1) n acc D = if digY ((cutE D).1.drop ((cutC 58 (cutE D).1).1.length + 2)) < 0 ∨ (cutE (cutE D).2.1).2.2 = false ∨ ((cutE (cutE D).2.1).2.1.length : Int) - 2 < digY ((cutE D).1.drop ((cutC 58 (cutE D).1).1.length + 2)) then none
       else some (n, acc, ((cutE (cutE D).2.1).2.1.drop 2).take (digY ((cutE D).1.drop ((cutC 58 (cutE D).1).1.length + 2))).toNat, decide ((cutE (cutE D).2.1).1 = cnY true)) := by
  rw [fieldsD, if_neg (by rw [h]; simp), if_neg h2, if_pos h3]
theorem digY_le (l : List UInt8) : digY l < 100000000 := by
  unfold digY
  split
  · rename_i h
    have := num_eight h.1 h.2.2
    omega
  · omega
structure DAt (w : World) (L : List UInt8) (dg : Int) (TD : Option RespL) (k : Nat) (acc : List PairL) (u : Value) (wr : World) : Prop where
  le : k ≤ L.length
  fuel : ∃ f, L.length - k < f ∧ fieldsD f dg acc (L.drop k) = TD
  few : acc.length ≤ k
  each : ∀ p ∈ acc, p.1.length ≤ L.length ∧ p.2.length ≤ L.length
  below : Below w.heap.size w wr
  res : RspAt wr w.heap.size (.int .i64 0) (.slice none 0 0) (.string ⟨#[]⟩) (.bool false)
  non : RspAt wr (w.heap.size + 1) (.int .i64 0) (.slice none 0 0) (.string ⟨#[]⟩) (.bool false)
  resp : RspAt wr (w.heap.size + 2) (.int .i64 dg) u (.string ⟨#[]⟩) (.bool false)
  own : OwnsP wr (w.heap.size + 3) u acc
set_option maxRecDepth 20000 in
set_option maxHeartbeats 32000000 in
theorem ryparse_any (L : List UInt8) (w : World) (hI : ItoaAt w) (hs : L.length ≤ 1048576) :
    Calls Tryd.prog 16 #[.string ⟨L.toArray⟩] w fun e w' => ∃ v, e = .returned (.tuple #[rspV (parY L).1 v, .int .i64 ((parY L).2.1 : Int), .int .i64 (parY L).2.2]) ∧ OwnsP w' w.heap.size v (parY L).1.2.1 ∧ Below w.heap.size w w' := by
  obtain ⟨T, hT⟩ : ∃ T, T = parY L := ⟨_, rfl⟩
  rw [← hT]
  rw [← doc_par] at hT
  have hgd : guessD L = if L.length < 13 ∨ L.take 9 ≠ verT then none else if (cutE L).2.2 = false then none else fieldsD (L.length + 1) (digY ((L.drop 9).take 3)) [] (cutE L).2.1 := rfl
  obtain ⟨s, hse⟩ : ∃ s : ByteArray, s = ⟨L.toArray⟩ := ⟨_, rfl⟩
  have hsz : s.size = L.length := by rw [hse, size_list]
  have hx3 : ∀ a b, s.extract a b = ⟨((L.drop a).take (b - a)).toArray⟩ := by intro a b; rw [hse, extract_list]
  have hEnd0 := fun k W => fun hk => (rend_any L k W (by omega) hk).mono (fun e w' (h : e = .returned (.int .i64 (endV L k)) ∧ w' = W) => (⟨h.1, h.2.symm⟩ : e = .returned (.int .i64 (endV L k)) ∧ W = w'))
  have HDg := hid (fun W => rdigits_any ((L.drop 9).take 3) W (by rw [List.length_take, List.length_drop]; omega))
  have HDV := hid (fun (V : List UInt8) W (h : V.length ≤ 1048576) => rdigits_any V W (by omega))
  rw [← hse] at hEnd0 ⊢
  have hH0 := RspAt.new w (.int .i64 0) (.slice none 0 0) (.string ⟨#[]⟩) (.bool false)
  have hB0 := below_alloc w (.cells #[.int .i64 0, .slice none 0 0, .string ⟨#[]⟩, .bool false] 24)
  obtain ⟨w0, hw0⟩ : ∃ w0, w0 = w.alloc (.cells #[.int .i64 0, .slice none 0 0, .string ⟨#[]⟩, .bool false] 24) := ⟨_, rfl⟩
  have hz0 : w0.heap.size = w.heap.size + 1 := by rw [hw0]; simp
  rw [← hw0] at hH0 hB0
  have hN1 := RspAt.new w0 (.int .i64 0) (.slice none 0 0) (.string ⟨#[]⟩) (.bool false)
  have hB1 := below_alloc w0 (.cells #[.int .i64 0, .slice none 0 0, .string ⟨#[]⟩, .bool false] 24)
  obtain ⟨w1, hw1⟩ : ∃ w1, w1 = w0.alloc (.cells #[.int .i64 0, .slice none 0 0, .string ⟨#[]⟩, .bool false] 24) := ⟨_, rfl⟩
  have hz1 : w1.heap.size = w.heap.size + 2 := by rw [hw1]; simp [hz0]
  rw [← hw1] at hN1 hB1
  rw [hz0] at hN1
  have hH1 := hH0.below hB1 hH0.lt
  have hB01 := hB0.trans (hB1.mono hB0.size)
  have HWW : Hid (((w.alloc (.cells #[.int .i64 0, .slice none 0 0, .string ⟨#[]⟩, .bool false] 24)).alloc (.cells #[.int .i64 0, .slice none 0 0, .string ⟨#[]⟩, .bool false] 24)) = w1) := by unfold Hid; rw [hw1, hw0]
  have HH := hid hH1
  have HN := hid hN1
  have HB := hid hB01
  have HZ := hid hsz
  have HX3 := hid hx3
  have HEnd0 := hid hEnd0
  have HT := hid hT
  have HIt := hid hI
  clear hT hse hx3 hH0 hB0 hw0 hw1 hH1 hB1 hN1 hB01 hEnd0 hI hz0
  by_cases h13 : L.length < 13
  · have h13' : (s.size : Int) < 13 := by omega
    have HE : Hid (T = (rzY, 0, 90)) := by unfold Hid; rw [HT.out, hgd, if_pos (Or.inl h13)]; rfl
    clear hgd hsz HX3 HEnd0 HDg HDV HIt hz1
    rw [← HWW.out] at HB
    clear HWW HH HN
    go_enter Tryd.func16, Tryd.ntmps16
    go_wp2
    refine bodyPost_ret (v := .tuple #[.agg #[.int .i64 0, .slice none 0 0, .string ⟨#[]⟩, .bool false], .int .i64 0, .int .i64 90]) (by simp [results, Tryd.results16, go_sem]) rfl ?_
    rw [HE.out]
    exact ⟨_, rfl, OwnsP.nil _ _, HB.out⟩
  have h13' : ¬ (s.size : Int) < 13 := by omega
  have h9' : (9 : Int) ≤ (s.size : Int) := by omega
  have h12' : (12 : Int) ≤ (s.size : Int) := by omega
  obtain ⟨X9, hX9⟩ : ∃ X, X = L.take 9 := ⟨_, rfl⟩
  have hx9 : s.extract 0 9 = ⟨X9.toArray⟩ := by rw [HX3.out, hX9]; simp
  have q9 : (X9 == [72, 84, 84, 80, 47, 49, 46, 49, 32]) = decide (X9 = verT) := eql_list _ _
  by_cases hv : X9 = verT
  rotate_left
  · have HE : Hid (T = (rzY, 0, 90)) := by unfold Hid; rw [HT.out, hgd, if_pos (Or.inr (by rw [← hX9]; exact hv))]; rfl
    rw [decide_eq_false hv] at q9
    have hv' : ¬ X9 = [72, 84, 84, 80, 47, 49, 46, 49, 32] := hv
    clear hgd hsz HX3 HEnd0 HDg HDV HIt hz1 hX9 hv h12'
    rw [← HWW.out] at HB
    clear HWW HH HN
    go_enter Tryd.func16, Tryd.ntmps16
    go_wp2
    refine bodyPost_ret (v := .tuple #[.agg #[.int .i64 0, .slice none 0 0, .string ⟨#[]⟩, .bool false], .int .i64 0, .int .i64 90]) (by simp [results, Tryd.results16, go_sem]) rfl ?_
    rw [HE.out]
    exact ⟨_, rfl, OwnsP.nil _ _, HB.out⟩
  rw [decide_eq_true hv] at q9
  have hv' : X9 = [72, 84, 84, 80, 47, 49, 46, 49, 32] := hv
  rw [if_neg (fun h => by rcases h with h | h; · exact h13 h
                          · exact h (by rw [← hX9]; exact hv))] at hgd
  obtain ⟨X3, hX3⟩ : ∃ X, X = (L.drop 9).take 3 := ⟨_, rfl⟩
  have hx12 : s.extract 9 12 = ⟨X3.toArray⟩ := by rw [HX3.out, hX3]
  rw [← hX3] at HDg hgd
  obtain ⟨dg, hdg⟩ : ∃ dg, dg = digY X3 := ⟨_, rfl⟩
  simp only [← hdg] at HDg
  rw [← hdg] at hgd
  have hR2 := RspAt.new w1 (.int .i64 dg) (.slice none 0 0) (.string ⟨#[]⟩) (.bool false)
  have hB2 := below_alloc w1 (.cells #[.int .i64 dg, .slice none 0 0, .string ⟨#[]⟩, .bool false] 24)
  have hH2 := HH.out.below hB2 HH.out.lt
  have hN2 := HN.out.below hB2 HN.out.lt
  have hB02 := HB.out.trans (hB2.mono HB.out.size)
  obtain ⟨w2, hw2⟩ : ∃ w2, w2 = w1.alloc (.cells #[.int .i64 dg, .slice none 0 0, .string ⟨#[]⟩, .bool false] 24) := ⟨_, rfl⟩
  rw [← hw2] at hR2 hH2 hN2 hB02
  rw [hz1] at hR2
  have HW2 := hid hw2
  have HH2 := hid hH2
  have HN2 := hid hN2
  have HR2 := hid hR2
  have HB2 := hid hB02
  have hDg := HDg.out w1
  have hEnd := HEnd0.out 0 w2 (Nat.zero_le _)
  have hev : endV L 0 = if (cutE (L.drop 0)).2.2 = true then ((0 + (cutE (L.drop 0)).1.length : Nat) : Int) else -1 := rfl
  rw [List.drop_zero] at hev
  have hnd := next_drop (L := L) (k := 0)
  rw [List.drop_zero] at hnd
  obtain ⟨B, hB⟩ : ∃ B, B = cutE L := ⟨_, rfl⟩
  rw [← hB] at hev hnd hgd
  obtain ⟨B1, B2, B3⟩ := B
  simp only at hev hnd hgd
  clear hX9 hv h13 hX3 hdg hw2 hR2 hH2 hN2 hB02 hB2 HDg hB HH HN HB
  cases B3 with
  | false =>
    have hev' : endV L 0 = -1 := by rw [hev]; rfl
    rw [hev'] at hEnd
    have HE : Hid (T = (rzY, 0, 90)) := by unfold Hid; rw [HT.out, hgd]; rfl
    clear hev hev' hgd hnd hsz HX3 HEnd0 HDV HIt hz1
    go_enter Tryd.func16, Tryd.ntmps16
    go_wp2_with fail
    rw [HWW.out]
    clear HWW
    refine hDg.mono ?_
    clear hDg
    rintro e wa ⟨rfl, hwa⟩
    subst hwa
    go_wp2_with fail
    rw [← HW2.out]
    clear HW2
    refine hEnd.mono ?_
    clear hEnd
    rintro e wa ⟨rfl, hwa⟩
    subst hwa
    obtain ⟨q0, q1, q2, q3, z0, z1, z2, z3⟩ := HH2.out.cells
    obtain ⟨x0, x1, x2, x3, _, _, _, _⟩ := HN2.out.cells
    have HF := hid ((((HH2.out.store0 (x := .int .i64 0)).store1 (x := .slice none 0 0)).store2 (x := .string ⟨#[]⟩)).store3 (x := .bool false))
    have HKF := hid ((((HB2.out.setCell (p := ⟨w.heap.size, 0, none⟩) (by simp) (.int .i64 0)).setCell (p := ⟨w.heap.size, 1, none⟩) (by simp) (.slice none 0 0)).setCell (p := ⟨w.heap.size, 2, none⟩) (by simp) (.string ⟨#[]⟩)).setCell (p := ⟨w.heap.size, 3, none⟩) (by simp) (.bool false))
    go_wp2
    obtain ⟨y0, y1, y2, y3, _, _, _, _⟩ := HF.out.cells
    refine bodyPost_ret (v := .tuple #[.agg #[.int .i64 0, .slice none 0 0, .string ⟨#[]⟩, .bool false], .int .i64 0, .int .i64 90]) (by simp [results, Tryd.results16, go_sem, y0, y1, y2, y3]) rfl ?_
    rw [HE.out]
    exact ⟨_, rfl, OwnsP.nil _ _, HKF.out⟩
  | true =>
    obtain ⟨hd0, hle0⟩ := hnd rfl (Nat.zero_le _)
    rw [Nat.zero_add] at hd0 hle0
    have hev' : endV L 0 = (B1.length : Int) := by rw [hev]; simp
    rw [hev'] at hEnd
    obtain ⟨TD, hTD⟩ : ∃ TD, TD = fieldsD (L.length + 1) dg [] B2 := ⟨_, rfl⟩
    have hgd2 : guessD L = TD := by rw [hgd, if_neg (by simp), hTD]
    rw [hgd2] at HT
    have HAt0 : Hid (DAt w L dg TD (B1.length + 2) [] (.slice none 0 0) w2) := by
      refine hid ⟨hle0, ⟨L.length + 1, by omega, by rw [hd0, hTD]⟩, Nat.zero_le _, (fun p hp => by cases hp), HB2.out, HH2.out, HN2.out, HR2.out, OwnsP.nil _ _⟩
    obtain ⟨b0, hb0⟩ : ∃ b0, b0 = B1.length := ⟨_, rfl⟩
    rw [← hb0] at hEnd HAt0 hle0
    have hb0m : b0 + 2 ≤ 1048576 := by omega
    clear hev hev' hgd hgd2 hd0 hsz hTD hb0 HH2 HN2 HR2 HB2
    go_enter Tryd.func16, Tryd.ntmps16
    go_wp2_with fail
    rw [HWW.out]
    clear HWW
    refine hDg.mono ?_
    clear hDg
    rintro e wa ⟨rfl, hwa⟩
    subst hwa
    go_wp2_with fail
    rw [← HW2.out]
    clear HW2
    refine hEnd.mono ?_
    clear hEnd
    rintro e wa ⟨rfl, hwa⟩
    subst hwa
    go_wp2_with fail
    try rw [hz1]
    clear hz1
    go_loopw [7] (fun at' wr => ∃ (k : Nat) (acc : List PairL) (u : Value), at' = .int .i64 (k : Int) ∧ DAt w L dg TD k acc u wr) (fun at' _ => L.length - (intOf at').toNat)
    case atStart => exact ⟨b0 + 2, [], _, by go_num, HAt0.out⟩
    clear HAt0 hle0 hb0m
    case round =>
      obtain ⟨k, acc, u, rfl, hle, ⟨f0, hfu, hfl⟩, hfew, heach, hbel, hres, hnon, hrsp, hown⟩ := hrel
      obtain ⟨f, rfl⟩ : ∃ f, f0 = f + 1 := ⟨f0 - 1, by omega⟩
      have hsz := HZ.out
      have hkz : (k : Int) ≤ (s.size : Int) := by omega
      have hkm : k ≤ 1048576 := by omega
      have hss : s.size ≤ 1048576 := by omega
      have hEnd := HEnd0.out k wr hle
      have hnn := fun h => fD_none (f := f) (n := dg) (acc := acc) (D := L.drop k) h
      have hsh := fun h h2 => fD_short (f := f) (n := dg) (acc := acc) (D := L.drop k) h h2
      have hnx := fun h h2 h3 => fD_next (f := f) (n := dg) (acc := acc) (D := L.drop k) h h2 h3
      have hcl := fun h h2 h3 => fD_cl (f := f) (n := dg) (acc := acc) (D := L.drop k) h h2 h3
      have hev : endV L k = if (cutE (L.drop k)).2.2 = true then ((k + (cutE (L.drop k)).1.length : Nat) : Int) else -1 := rfl
      have hnd := fun h => next_drop (L := L) (k := k) h hle
      have hct := fun h => cutE_true (l := L.drop k) h
      have hDl : (L.drop k).length = L.length - k := List.length_drop
      rw [hfl] at hnn hsh hnx hcl
      obtain ⟨D, hD⟩ : ∃ D, D = L.drop k := ⟨_, rfl⟩
      rw [← hD] at hnn hsh hnx hcl hev hnd hct hDl
      have HXe : Hid (∀ e, s.extract k e = ⟨(D.take (e - k)).toArray⟩) := by unfold Hid; intro e; rw [hD]; exact HX3.out k e
      obtain ⟨A, hA⟩ : ∃ A, A = cutE D := ⟨_, rfl⟩
      rw [← hA] at hnn hsh hnx hcl hev hnd hct
      obtain ⟨A1, A2, A3⟩ := A
      simp only at hnn hsh hnx hcl hev hnd hct
      obtain ⟨ao, cap, hshp⟩ := hown.shape
      subst hshp
      have HH := hid hres
      have HN := hid hnon
      have HR := hid hrsp
      have HOwn := hid hown
      have HB := hid hbel
      have HEach := hid heach
      have HSh := hid hsh
      have HNx := hid hnx
      have HCl := hid hcl
      clear hfl hD hA hres hnon hrsp hown hbel heach hsh hnx hcl
      cases A3 with
      | false =>
        have hev' : endV L k = -1 := by rw [hev]; rfl
        rw [hev'] at hEnd
        have HE : Hid (T = (rzY, 0, 90)) := by unfold Hid; rw [HT.out, hnn rfl]; rfl
        clear hev hev' hnn HSh HNx HCl hnd hct hDl hsz HEnd0 HDV HX3 HXe HIt
        go_wp2_with fail
        refine hEnd.mono ?_
        clear hEnd
        rintro e wa ⟨rfl, hwa⟩
        subst hwa
        obtain ⟨q0, q1, q2, q3, z0, z1, z2, z3⟩ := HH.out.cells
        obtain ⟨x0, x1, x2, x3, _, _, _, _⟩ := HN.out.cells
        have HF := hid ((((HH.out.store0 (x := .int .i64 0)).store1 (x := .slice none 0 0)).store2 (x := .string ⟨#[]⟩)).store3 (x := .bool false))
        have HKF := hid ((((HB.out.setCell (p := ⟨w.heap.size, 0, none⟩) (by simp) (.int .i64 0)).setCell (p := ⟨w.heap.size, 1, none⟩) (by simp) (.slice none 0 0)).setCell (p := ⟨w.heap.size, 2, none⟩) (by simp) (.string ⟨#[]⟩)).setCell (p := ⟨w.heap.size, 3, none⟩) (by simp) (.bool false))
        go_wp2
        obtain ⟨y0, y1, y2, y3, _, _, _, _⟩ := HF.out.cells
        refine bodyPost_ret (v := .tuple #[.agg #[.int .i64 0, .slice none 0 0, .string ⟨#[]⟩, .bool false], .int .i64 0, .int .i64 90]) (by simp [results, Tryd.results16, go_sem, y0, y1, y2, y3]) rfl ?_
        rw [HE.out]
        exact ⟨_, rfl, OwnsP.nil _ _, HKF.out⟩
      | true =>
        obtain ⟨en, hen⟩ : ∃ en : Nat, en = k + A1.length := ⟨_, rfl⟩
        have hev' : endV L k = (en : Int) := by rw [hev, hen]; rfl
        rw [hev'] at hEnd
        obtain ⟨hdr, hk2⟩ := hnd rfl
        rw [← hen] at hdr hk2
        obtain ⟨C1, hC1⟩ : ∃ C : ByteArray, C = ⟨A1.toArray⟩ := ⟨_, rfl⟩
        have hCs : C1.size = A1.length := by rw [hC1, size_list]
        have hCg : ∀ j (h : j < C1.size) (h' : j < A1.length), C1[j] = A1[j] := by subst hC1; intro j h h'; rfl
        have hXl : s.extract k en = C1 := by
          rw [HXe.out en, hC1, hct rfl, show en - k = A1.length by omega, List.take_left]
        have hke : (k : Int) ≤ (en : Int) := by omega
        have hes : (en : Int) ≤ (s.size : Int) := by omega
        have hen4 : en + 2 ≤ 1048576 := by omega
        have hA1m : A1.length ≤ 1048576 := by omega
        have hAL : A1.length ≤ L.length := by omega
        have HXC : Hid (∀ a b, C1.extract a b = ⟨((A1.drop a).take (b - a)).toArray⟩) := by unfold Hid; intro a b; rw [hC1, extract_list]
        have HEN := hid hen
        have HDR := hid hdr
        have HCS := hid hCs
        have HCG := hid hCg
        clear hev hev' hnn hnd hct hDl HXe hC1 hCg hen hdr hCs hsz
        go_wp2_with fail
        refine hEnd.mono ?_
        clear hEnd
        rintro e wa ⟨rfl, hwa⟩
        subst hwa
        go_upto_block 2 with fail
        go_cut [10] (fun i wx => wr = wx ∧ ∃ (j : Nat), j ≤ A1.length ∧ i = .int .i64 (j : Int) ∧ (∀ q (hq : q < A1.length), q < j → A1[q] ≠ 58) ∧ (j = A1.length ∨ ∃ h : j < A1.length, A1[j] = 58))
        case first =>
          go_wp2_with fail
          go_loop [10] (fun i => ∃ (j : Nat), j ≤ A1.length ∧ i = .int .i64 (j : Int) ∧ ∀ q (hq : q < A1.length), q < j → A1[q] ≠ 58) (fun i => A1.length - (intOf i).toNat)
          case atStart => exact ⟨0, Nat.zero_le _, rfl, fun q hq h => by omega⟩
          case round =>
            obtain ⟨j, hj, rfl, hno⟩ := hrel
            have hCs := HCS.out
            have HNo := hid hno
            clear hno
            by_cases hlt : j < A1.length
            · have hlt' : (j : Int) < (C1.size : Int) := by omega
              have hj1 : j < C1.size := by omega
              have i1 := index_byte C1 .i64 (j : Int) j rfl hj1
              rw [HCG.out j hj1 hlt] at i1
              have HNy : Hid (A1[j] ≠ 58 → ∀ q (hq : q < A1.length), q < j + 1 → A1[q] ≠ 58) := by
                unfold Hid
                intro h q hq hqj
                by_cases e : q = j
                · subst e; exact h
                · exact HNo.out q hq (by omega)
              have HCt : Hid (A1[j] = 58 → j = A1.length ∨ ∃ h : j < A1.length, A1[j] = 58) := hid (fun h => Or.inr ⟨hlt, h⟩)
              obtain ⟨a, hae⟩ : ∃ a, a = A1[j] := ⟨_, rfl⟩
              rw [← hae] at i1 HNy
              have HAE := hid hae
              clear hae hCs
              by_cases h58 : a = 58
              · have f1 : (((a.toNat : Nat) : Int) != 58) = false := by subst h58; rfl
                have HE := hid (HCt.out (HAE.out.symm.trans h58))
                clear h58 HNy HCt HAE
                go_wp2_with fail
                go_meet
                case rel => exact ⟨rfl, j, hj, rfl, HNo.out, HE.out⟩
              · have f1 : (((a.toNat : Nat) : Int) != 58) = true := by
                  rw [bne_iff_ne]
                  intro e
                  exact h58 (byte_eq (b := a) (n := 58) (by omega))
                have HE := hid (HNy.out h58)
                clear HNy HCt h58 HAE
                go_wp2
                go_round
                case rel => exact ⟨j + 1, by omega, by go_num, HE.out⟩
                case measure => simp [intOf]; omega
            · have hlt' : ¬ (j : Int) < (C1.size : Int) := by omega
              clear hCs
              go_wp2_with fail
              go_meet
              case rel => exact ⟨rfl, j, hj, rfl, HNo.out, Or.inl (by omega)⟩
        case rest =>
          obtain ⟨hwx, j, hj, rfl, hno, hend⟩ := hcut
          subst hwx
          have hcut1 := cutC_at (c := 58) hj hno hend
          have hNl : (A1.take j).length = j := by rw [List.length_take]; omega
          simp only [hcut1, hNl] at HSh HNx HCl
          have hCs := HCS.out
          have hsz := HZ.out
          have hjm : j + 2 ≤ 1048578 := by omega
          clear hno hend hcut1
          by_cases hshort : A1.length < j + 2
          · have hsh' : (C1.size : Int) < (j : Int) + 2 := by omega
            have HE : Hid (T = (rzY, 0, 90)) := by unfold Hid; rw [HT.out, HSh.out trivial hshort]; rfl
            clear HSh HNx HCl HEnd0 HDV HX3 HXC HIt hCs hsz hNl
            obtain ⟨q0, q1, q2, q3, z0, z1, z2, z3⟩ := HH.out.cells
            obtain ⟨x0, x1, x2, x3, _, _, _, _⟩ := HN.out.cells
            have HF := hid ((((HH.out.store0 (x := .int .i64 0)).store1 (x := .slice none 0 0)).store2 (x := .string ⟨#[]⟩)).store3 (x := .bool false))
            have HKF := hid ((((HB.out.setCell (p := ⟨w.heap.size, 0, none⟩) (by simp) (.int .i64 0)).setCell (p := ⟨w.heap.size, 1, none⟩) (by simp) (.slice none 0 0)).setCell (p := ⟨w.heap.size, 2, none⟩) (by simp) (.string ⟨#[]⟩)).setCell (p := ⟨w.heap.size, 3, none⟩) (by simp) (.bool false))
            go_wp2
            obtain ⟨y0, y1, y2, y3, _, _, _, _⟩ := HF.out.cells
            refine bodyPost_ret (v := .tuple #[.agg #[.int .i64 0, .slice none 0 0, .string ⟨#[]⟩, .bool false], .int .i64 0, .int .i64 90]) (by simp [results, Tryd.results16, go_sem, y0, y1, y2, y3]) rfl ?_
            rw [HE.out]
            exact ⟨_, rfl, OwnsP.nil _ _, HKF.out⟩
          have hsh' : ¬ (C1.size : Int) < (j : Int) + 2 := by omega
          have hj2 : (j : Int) + 2 ≤ (C1.size : Int) := by omega
          have hj0 : (j : Int) ≤ (C1.size : Int) := by omega
          obtain ⟨N, hN⟩ : ∃ N, N = A1.take j := ⟨_, rfl⟩
          obtain ⟨V, hV⟩ : ∃ V, V = A1.drop (j + 2) := ⟨_, rfl⟩
          have hxN : C1.extract 0 j = ⟨N.toArray⟩ := by rw [HXC.out, hN]; simp
          have hxV : C1.extract (j + 2) C1.size = ⟨V.toArray⟩ := by
            rw [HXC.out, hV, hCs, List.take_of_length_le (by rw [List.length_drop]; omega)]
          have hNm : N.length ≤ L.length := by rw [hN, hNl]; omega
          have hVm : V.length ≤ L.length := by rw [hV, List.length_drop]; omega
          rw [← hN, ← hV] at HNx HCl
          have qN : (N == [99, 111, 110, 116, 101, 110, 116, 45, 108, 101, 110, 103, 116, 104]) = decide (N = clS) := eql_list _ _
          clear hN hV hNl HSh HXC
          by_cases hcls : N = clS
          rotate_left
          · have hncl : ¬ N = [99, 111, 110, 116, 101, 110, 116, 45, 108, 101, 110, 103, 116, 104] := hcls
            rw [decide_eq_false hcls] at qN
            have HFN := hid (HNx.out trivial (by omega) hcls)
            have hww : IntKind.i64.wrap ((j : Int) + 2) = (j : Int) + 2 := by
              have := wrap_i64_nat (j + 2) (by omega)
              rwa [show ((j + 2 : Nat) : Int) = (j : Int) + 2 by omega] at this
            have hjt : ((j : Int) + 2).toNat = j + 2 := by omega
            have h0j : (0 : Int) ≤ (j : Int) + 2 := by omega
            have hacm : (acc.length + 1) * 32 ≤ 140737488355328 := by omega
            have hpl2 := HR.out.lt
            obtain ⟨_, r1, _, _, _, _, _, _⟩ := HR.out.cells
            have hcpj : ¬ (C1.size : Int) = (j : Int) + 2 ∨ True := Or.inr trivial
            have HSZ : Hid (w.heap.size + 3 ≤ ((wr.alloc (.cells #[.string ⟨N.toArray⟩, .string ⟨V.toArray⟩] 45)).drew).heap.size) := by
              unfold Hid
              have : ((wr.alloc (.cells #[.string ⟨N.toArray⟩, .string ⟨V.toArray⟩] 45)).drew).heap.size = wr.heap.size + 1 := by simp [World.drew]
              omega
            have HSW : Hid (w.heap.size ≤ ((wr.alloc (.cells #[.string ⟨N.toArray⟩, .string ⟨V.toArray⟩] 45)).drew).heap.size) := by
              unfold Hid
              have := HSZ.out
              omega
            have hb5 := below_ad wr (.cells #[.string ⟨N.toArray⟩, .string ⟨V.toArray⟩] 45)
            have HNP : Hid (∀ i x, (cellsP [(N, V)])[i]? = some x → ((wr.alloc (.cells #[.string ⟨N.toArray⟩, .string ⟨V.toArray⟩] 45)).drew).cell? ((⟨wr.heap.size, 0, none⟩ : Addr).add i) = some x) := hid (fun i x h => news_pair wr N V 45 i x h)
            have HO5 := hid (HOwn.out.below hb5)
            have HR5 := hid (HR.out.below hb5 HR.out.lt)
            have HH5 := hid (HH.out.below hb5 HH.out.lt)
            have HN5 := hid (HN.out.below hb5 HN.out.lt)
            have HB5 := hid (HB.out.trans (hb5.mono HB.out.size))
            obtain ⟨_, r1a, _, _, _, _, _, _⟩ := (HR.out.below (below_alloc wr (.cells #[.string ⟨N.toArray⟩, .string ⟨V.toArray⟩] 45)) HR.out.lt).cells
            clear HNx HCl HEnd0 HDV HX3 HIt hcls hsz hcpj hCs hb5 HR HOwn HH HN HB
            go_wp2_with fail
            go_region_law
              (first
                | (refine step_appP (by rfl) _ _ (by rfl) (w.heap.size + 3) (.slice ao acc.length cap) acc (by rfl) HO5.out wr.heap.size (N, V) (by rfl) HNP.out hacm HSZ.out ?_
                   intro v6 w6 hO6 hG6
                   have hbk := OwnsP.block HO5.out
                   have hR6 : RspAt w6 (w.heap.size + 2) (.int .i64 dg) (.slice ao acc.length cap) (.string ⟨#[]⟩) (.bool false) := HR5.out.same (hG6.block _ HR5.out.lt (fun h => by have := hbk _ h.symm; omega))
                   have hH6 : RspAt w6 w.heap.size (.int .i64 0) (.slice none 0 0) (.string ⟨#[]⟩) (.bool false) := HH5.out.same (hG6.block _ HH5.out.lt (fun h => by have := hbk _ h.symm; omega))
                   have hN6 : RspAt w6 (w.heap.size + 1) (.int .i64 0) (.slice none 0 0) (.string ⟨#[]⟩) (.bool false) := HN5.out.same (hG6.block _ HN5.out.lt (fun h => by have := hbk _ h.symm; omega))
                   have HB6 := hid (below_grownBy HB5.out hG6 (fun i hi => by have := hbk i hi; omega) HSW.out)
                   obtain ⟨_, s6, _, _, _, f6, _, _⟩ := hR6.cells
                   obtain ⟨ao6, cap6, rfl⟩ : ∃ a c, v6 = .slice a (acc.length + 1) c := by
                     obtain ⟨a, c, h⟩ := OwnsP.shape hO6
                     exact ⟨a, c, by rw [h]; simp⟩
                   have HO6 := hid hO6
                   have HR6 := hid hR6
                   have HH6 := hid hH6
                   have HN6 := hid hN6
                   clear hbk hR6 hH6 hN6 hO6 hG6))
            all_goals
              have HR7 := hid (HR6.out.store1 (x := .slice ao6 (acc.length + 1) cap6))
              have HO7 := hid (HO6.out.store (p := w.heap.size + 2) (i := 1) (by omega) (.slice ao6 (acc.length + 1) cap6))
              have HH7 : Hid (RspAt (w6.setCell ⟨w.heap.size + 2, 1, none⟩ (.slice ao6 (acc.length + 1) cap6)) w.heap.size (.int .i64 0) (.slice none 0 0) (.string ⟨#[]⟩) (.bool false)) := hid (HH6.out.same (Below.heap_setCell w6 ⟨w.heap.size + 2, 1, none⟩ _ w.heap.size (by simp)))
              have HN7 : Hid (RspAt (w6.setCell ⟨w.heap.size + 2, 1, none⟩ (.slice ao6 (acc.length + 1) cap6)) (w.heap.size + 1) (.int .i64 0) (.slice none 0 0) (.string ⟨#[]⟩) (.bool false)) := hid (HN6.out.same (Below.heap_setCell w6 ⟨w.heap.size + 2, 1, none⟩ _ (w.heap.size + 1) (by simp)))
              have HB7 := hid (HB6.out.setCell (p := ⟨w.heap.size + 2, 1, none⟩) (by simp) (.slice ao6 (acc.length + 1) cap6))
              clear HR6 HH6 HN6 HB6 HO6 s6 f6
              have HDn : Hid (DAt w L dg TD (en + 2) (acc ++ [(N, V)]) (.slice ao6 (acc.length + 1) cap6) (w6.setCell ⟨w.heap.size + 2, 1, none⟩ (.slice ao6 (acc.length + 1) cap6))) := by
                refine hid ⟨hk2, ⟨f, ?_, ?_⟩, ?_, ?_, HB7.out, HH7.out, HN7.out, HR7.out, HO7.out⟩
                · have := HEN.out; omega
                · rw [HDR.out]; exact HFN.out.symm
                · have := HEN.out; simp; omega
                · intro p hp
                  rcases List.mem_append.1 hp with h | h
                  · exact HEach.out p h
                  · simp at h; subst h; exact ⟨hNm, hVm⟩
              clear HB7 HH7 HN7 HR7 HO7
              go_wp2
              go_roundw
              case rel => first | exact ⟨en + 2, acc ++ [(N, V)], _, by go_num, HDn.out⟩ | ((repeat apply Exists.intro); exact ⟨⟨en + 2, acc ++ [(N, V)], _, by go_num, HDn.out⟩, rfl⟩)
              case measure => have := HEN.out; simp [intOf]; omega
          · have hcl' : N = [99, 111, 110, 116, 101, 110, 116, 45, 108, 101, 110, 103, 116, 104] := hcls
            rw [decide_eq_true hcls] at qN
            have hFC := HCl.out trivial (by omega) hcls
            have hDv := HDV.out V wr (by omega)
            have hdl := digY_le V
            obtain ⟨dv, hdv⟩ : ∃ dv, dv = digY V := ⟨_, rfl⟩
            rw [← hdv] at hFC hDv hdl
            have hEnd2 := HEnd0.out (en + 2) wr hk2
            rw [show ((en + 2 : Nat) : Int) = (en : Int) + 2 by omega] at hEnd2
            have hev2 : endV L (en + 2) = if (cutE (L.drop (en + 2))).2.2 = true then ((en + 2 + (cutE (L.drop (en + 2))).1.length : Nat) : Int) else -1 := rfl
            have hnd2 := fun h => next_drop (L := L) (k := en + 2) h hk2
            have hct2 := fun h => cutE_true (l := L.drop (en + 2)) h
            have hDl2 : (L.drop (en + 2)).length = L.length - (en + 2) := List.length_drop
            rw [HDR.out] at hev2 hnd2 hct2 hDl2
            have HX4 : Hid (∀ e, s.extract (en + 2) e = ⟨(A2.take (e - (en + 2))).toArray⟩) := by unfold Hid; intro e; rw [HX3.out, HDR.out]
            have HX5 := hid (fun a b => HX3.out a b)
            obtain ⟨E, hE⟩ : ∃ E, E = cutE A2 := ⟨_, rfl⟩
            rw [← hE] at hev2 hnd2 hct2 hFC
            obtain ⟨E1, E2, E3⟩ := E
            simp only at hev2 hnd2 hct2 hFC
            clear HNx HCl HDV HX3 HEnd0 hcls hdv hE hCs hsz
            go_wp2_with fail
            refine hDv.mono ?_
            clear hDv
            rintro e wa ⟨rfl, hwa⟩
            subst hwa
            go_wp2_with fail
            refine hEnd2.mono ?_
            clear hEnd2
            rintro e wa ⟨rfl, hwa⟩
            subst hwa
            have hsz := HZ.out
            by_cases hd0 : dv < 0
            · rw [if_pos (Or.inl hd0)] at hFC
              have HE : Hid (T = (rzY, 0, 90)) := by unfold Hid; rw [HT.out, hFC]; rfl
              obtain ⟨ev, hevx⟩ : ∃ ev, ev = endV L (en + 2) := ⟨_, rfl⟩
              rw [← hevx]
              clear hFC hev2 hnd2 hct2 hDl2 HX4 HX5 hsz HIt hevx
              obtain ⟨q0, q1, q2, q3, z0, z1, z2, z3⟩ := HH.out.cells
              obtain ⟨x0, x1, x2, x3, _, _, _, _⟩ := HN.out.cells
              have HF := hid ((((HH.out.store0 (x := .int .i64 0)).store1 (x := .slice none 0 0)).store2 (x := .string ⟨#[]⟩)).store3 (x := .bool false))
              have HKF := hid ((((HB.out.setCell (p := ⟨w.heap.size, 0, none⟩) (by simp) (.int .i64 0)).setCell (p := ⟨w.heap.size, 1, none⟩) (by simp) (.slice none 0 0)).setCell (p := ⟨w.heap.size, 2, none⟩) (by simp) (.string ⟨#[]⟩)).setCell (p := ⟨w.heap.size, 3, none⟩) (by simp) (.bool false))
              go_wp2
              obtain ⟨y0, y1, y2, y3, _, _, _, _⟩ := HF.out.cells
              refine bodyPost_ret (v := .tuple #[.agg #[.int .i64 0, .slice none 0 0, .string ⟨#[]⟩, .bool false], .int .i64 0, .int .i64 90]) (by simp [results, Tryd.results16, go_sem, y0, y1, y2, y3]) rfl ?_
              rw [HE.out]
              exact ⟨_, rfl, OwnsP.nil _ _, HKF.out⟩
            obtain ⟨m, rfl⟩ : ∃ m : Nat, dv = m := ⟨dv.toNat, by omega⟩
            have hdm : ¬ (m : Int) < 0 := by omega
            cases E3 with
            | false =>
              have hev3 : endV L (en + 2) = -1 := by rw [hev2]; rfl
              rw [hev3]
              rw [if_pos (Or.inr (Or.inl rfl))] at hFC
              have HE : Hid (T = (rzY, 0, 90)) := by unfold Hid; rw [HT.out, hFC]; rfl
              clear hFC hev2 hev3 hnd2 hct2 hDl2 HX4 HX5 hsz HIt
              obtain ⟨q0, q1, q2, q3, z0, z1, z2, z3⟩ := HH.out.cells
              obtain ⟨x0, x1, x2, x3, _, _, _, _⟩ := HN.out.cells
              have HF := hid ((((HH.out.store0 (x := .int .i64 0)).store1 (x := .slice none 0 0)).store2 (x := .string ⟨#[]⟩)).store3 (x := .bool false))
              have HKF := hid ((((HB.out.setCell (p := ⟨w.heap.size, 0, none⟩) (by simp) (.int .i64 0)).setCell (p := ⟨w.heap.size, 1, none⟩) (by simp) (.slice none 0 0)).setCell (p := ⟨w.heap.size, 2, none⟩) (by simp) (.string ⟨#[]⟩)).setCell (p := ⟨w.heap.size, 3, none⟩) (by simp) (.bool false))
              go_wp2
              obtain ⟨y0, y1, y2, y3, _, _, _, _⟩ := HF.out.cells
              refine bodyPost_ret (v := .tuple #[.agg #[.int .i64 0, .slice none 0 0, .string ⟨#[]⟩, .bool false], .int .i64 0, .int .i64 90]) (by simp [results, Tryd.results16, go_sem, y0, y1, y2, y3]) rfl ?_
              rw [HE.out]
              exact ⟨_, rfl, OwnsP.nil _ _, HKF.out⟩
            | true =>
              obtain ⟨t, ht⟩ : ∃ t : Nat, t = en + 2 + E1.length := ⟨_, rfl⟩
              have hev3 : endV L (en + 2) = (t : Int) := by rw [hev2, ht]; rfl
              rw [hev3]
              obtain ⟨hdr2, hk3⟩ := hnd2 rfl
              rw [← ht] at hdr2 hk3
              have hE2l : E2.length = L.length - (t + 2) := by rw [← hdr2, List.length_drop]
              have htm : t + 4 ≤ 1048580 := by omega
              by_cases hbig : (E2.length : Int) - 2 < (m : Int)
              · have hbig' : (s.size : Int) - (t : Int) - 4 < (m : Int) := by omega
                have ht0 : ¬ (t : Int) < 0 := by omega
                rw [if_pos (Or.inr (Or.inr hbig))] at hFC
                have HE : Hid (T = (rzY, 0, 90)) := by unfold Hid; rw [HT.out, hFC]; rfl
                clear hFC hev2 hev3 hct2 hDl2 HX4 HX5 HIt ht hdr2 hE2l hbig hsz
                obtain ⟨q0, q1, q2, q3, z0, z1, z2, z3⟩ := HH.out.cells
                obtain ⟨x0, x1, x2, x3, _, _, _, _⟩ := HN.out.cells
                have HF := hid ((((HH.out.store0 (x := .int .i64 0)).store1 (x := .slice none 0 0)).store2 (x := .string ⟨#[]⟩)).store3 (x := .bool false))
                have HKF := hid ((((HB.out.setCell (p := ⟨w.heap.size, 0, none⟩) (by simp) (.int .i64 0)).setCell (p := ⟨w.heap.size, 1, none⟩) (by simp) (.slice none 0 0)).setCell (p := ⟨w.heap.size, 2, none⟩) (by simp) (.string ⟨#[]⟩)).setCell (p := ⟨w.heap.size, 3, none⟩) (by simp) (.bool false))
                go_wp2
                obtain ⟨y0, y1, y2, y3, _, _, _, _⟩ := HF.out.cells
                refine bodyPost_ret (v := .tuple #[.agg #[.int .i64 0, .slice none 0 0, .string ⟨#[]⟩, .bool false], .int .i64 0, .int .i64 90]) (by simp [results, Tryd.results16, go_sem, y0, y1, y2, y3]) rfl ?_
                rw [HE.out]
                exact ⟨_, rfl, OwnsP.nil _ _, HKF.out⟩
              have hbig' : ¬ (s.size : Int) - (t : Int) - 4 < (m : Int) := by omega
              have ht0 : ¬ (t : Int) < 0 := by omega
              rw [if_neg (by intro h; rcases h with h | h | h; · exact hdm h
                             · cases h
                             · exact hbig h)] at hFC
              have hbig2 : ¬ (s.size : Int) - (t : Int) - 4 < (m : Int) := hbig'
              clear hbig'
              have hat1 : (en : Int) + 2 ≤ (t : Int) := by omega
              have hat2 : (t : Int) ≤ (s.size : Int) := by omega
              have HAT3 : Hid ((t : Int) + 4 ≤ (t : Int) + 4 + (m : Int)) := by unfold Hid; omega
              have HAT4 : Hid ((t : Int) + 4 + (m : Int) ≤ (s.size : Int)) := by unfold Hid; omega
              have hxc : s.extract (en + 2) t = ⟨E1.toArray⟩ := by
                rw [HX4.out t, hct2 rfl, show t - (en + 2) = E1.length by omega, List.take_left]
              obtain ⟨BD, hBD⟩ : ∃ BD, BD = (E2.drop 2).take m := ⟨_, rfl⟩
              have hxb : s.extract (t + 4) (t + 4 + m) = ⟨BD.toArray⟩ := by
                rw [HX5.out, hBD, ← hdr2, List.drop_drop, show t + 4 + m - (t + 4) = m by omega]
              have qE : (E1 == [99, 111, 110, 110, 101, 99, 116, 105, 111, 110, 58, 32, 99, 108, 111, 115, 101]) = decide (E1 = cnY true) := eql_list _ _
              obtain ⟨cc, hcc⟩ : ∃ cc, cc = decide (E1 = cnY true) := ⟨_, rfl⟩
              rw [← hcc] at qE hFC
              rw [show ((m : Int)).toNat = m from rfl, ← hBD] at hFC
              have hBDm : BD.length ≤ L.length := by rw [hBD, List.length_take, List.length_drop]; omega
              have HEa := hid HEach.out
              have hfm : acc.length ≤ 1048576 := by omega
              -- what is stored
              obtain ⟨r0, r1, r2, r3, g0, g1, g2, g3⟩ := HR.out.cells
              have hR3 := HR.out.store3 (x := .bool cc)
              obtain ⟨_, _, r2b, _, _, _, g2b, _⟩ := hR3.cells
              have hR4 := hR3.store2 (x := .string ⟨BD.toArray⟩)
              have hO4 := (HOwn.out.store (p := w.heap.size + 2) (i := 3) (by omega) (.bool cc)).store (p := w.heap.size + 2) (i := 2) (by omega) (.string ⟨BD.toArray⟩)
              have hB4 := (HB.out.setCell (p := ⟨w.heap.size + 2, 3, none⟩) (by simp) (.bool cc)).setCell (p := ⟨w.heap.size + 2, 2, none⟩) (by simp) (.string ⟨BD.toArray⟩)
              have hH4 : RspAt ((wr.setCell ⟨w.heap.size + 2, 3, none⟩ (.bool cc)).setCell ⟨w.heap.size + 2, 2, none⟩ (.string ⟨BD.toArray⟩)) w.heap.size (.int .i64 0) (.slice none 0 0) (.string ⟨#[]⟩) (.bool false) := (HH.out.same (Below.heap_setCell wr ⟨w.heap.size + 2, 3, none⟩ (.bool cc) w.heap.size (by simp))).same (Below.heap_setCell _ ⟨w.heap.size + 2, 2, none⟩ (.string ⟨BD.toArray⟩) w.heap.size (by simp))
              have hN4 : RspAt ((wr.setCell ⟨w.heap.size + 2, 3, none⟩ (.bool cc)).setCell ⟨w.heap.size + 2, 2, none⟩ (.string ⟨BD.toArray⟩)) (w.heap.size + 1) (.int .i64 0) (.slice none 0 0) (.string ⟨#[]⟩) (.bool false) := (HN.out.same (Below.heap_setCell wr ⟨w.heap.size + 2, 3, none⟩ (.bool cc) (w.heap.size + 1) (by simp))).same (Below.heap_setCell _ ⟨w.heap.size + 2, 2, none⟩ (.string ⟨BD.toArray⟩) (w.heap.size + 1) (by simp))
              obtain ⟨p0, p1, p2, p3, _, _, _, _⟩ := hR4.cells
              obtain ⟨w4, hw4⟩ : ∃ w4, w4 = (wr.setCell ⟨w.heap.size + 2, 3, none⟩ (.bool cc)).setCell ⟨w.heap.size + 2, 2, none⟩ (.string ⟨BD.toArray⟩) := ⟨_, rfl⟩
              rw [← hw4] at hR4 hO4 hB4 hH4 hN4
              have HW4 := hid hw4
              have HR4 := hid hR4
              have HO4 := hid hO4
              have HB4 := hid hB4
              have HH4 := hid hH4
              have HN4 := hid hN4
              have hPr := ryprint_any (dg, acc, BD, cc) (.slice ao acc.length cap) w4 (HIt.out.below hB4) hO4.sees (fun p hp => by have := HEa.out p hp; omega) (by show acc.length ≤ 1000000000; omega)
              have hpd : prnY (dg, acc, BD, cc) = if mayY (dg, acc, BD, cc) = true then some (textY (dg, acc, BD, cc)) else none := rfl
              have hT2 : T = if mayY (dg, acc, BD, cc) = true ∧ (textY (dg, acc, BD, cc)).isPrefixOf L = true then ((dg, acc, BD, cc), (textY (dg, acc, BD, cc)).length, 0) else (rzY, 0, 90) := by rw [HT.out, hFC]; rfl
              obtain ⟨TX, hTX⟩ : ∃ TX, TX = textY (dg, acc, BD, cc) := ⟨_, rfl⟩
              rw [← hTX] at hpd hT2
              obtain ⟨ms, hms⟩ : ∃ ms, ms = mayY (dg, acc, BD, cc) := ⟨_, rfl⟩
              have hTl : ms = true → TX.length ≤ 1000000000 := by
                intro h
                rw [hms] at h
                have := text_len (c := 1048576) h (fun p hp => by have := HEa.out p hp; omega)
                rw [hTX]
                omega
              rw [← hms] at hpd hT2
              simp only [rspV] at hPr
              clear hFC hev2 hev3 hnd2 hct2 hDl2 HX4 HIt ht hdr2 hE2l hbig hcc hBD hw4 hsz hR3 hR4 hO4 hB4 hH4 hN4 hTX hms HEa hBDm HR HOwn HB HH HN HT
              have hat3 := HAT3.out
              have hat4 := HAT4.out
              iterate 145 (first | go_values | go_skip | go_guarded | go_step | go_upon | go_back | go_simp)
              rw [← HW4.out]
              cases ms with
              | false =>
                rw [if_neg (by simp)] at hpd hT2
                rw [hpd] at hPr
                simp only [Option.getD_none, Option.isSome_none] at hPr
                have HE := hid hT2
                clear hpd hT2 hTl HX5
                refine hPr.mono ?_
                clear hPr
                rintro e w6 ⟨rfl, hB6⟩
                have HB6 := hid (HB4.out.trans (hB6.mono HB4.out.size))
                have HH6 := hid (HH4.out.below hB6 HH4.out.lt)
                have HN6 := hid (HN4.out.below hB6 HN4.out.lt)
                have HR6 := hid (HR4.out.below hB6 HR4.out.lt)
                have HO6 := hid (HO4.out.below hB6)
                clear hB6 HB4 HH4 HN4 HR4 HO4 p0 p1 p2 p3 r0 r1 r2 r3 g0 g1 g2 g3 r2b g2b hat1 hat2 hat3 hat4 HAT3 HAT4 hbig2 qE hxc hxb
                obtain ⟨q0, q1, q2, q3, z0, z1, z2, z3⟩ := HH6.out.cells
                obtain ⟨x0, x1, x2, x3, _, _, _, _⟩ := HN6.out.cells
                have HF := hid ((((HH6.out.store0 (x := .int .i64 0)).store1 (x := .slice none 0 0)).store2 (x := .string ⟨#[]⟩)).store3 (x := .bool false))
                have HKF := hid ((((HB6.out.setCell (p := ⟨w.heap.size, 0, none⟩) (by simp) (.int .i64 0)).setCell (p := ⟨w.heap.size, 1, none⟩) (by simp) (.slice none 0 0)).setCell (p := ⟨w.heap.size, 2, none⟩) (by simp) (.string ⟨#[]⟩)).setCell (p := ⟨w.heap.size, 3, none⟩) (by simp) (.bool false))
                go_wp2
                obtain ⟨y0, y1, y2, y3, _, _, _, _⟩ := HF.out.cells
                refine bodyPost_ret (v := .tuple #[.agg #[.int .i64 0, .slice none 0 0, .string ⟨#[]⟩, .bool false], .int .i64 0, .int .i64 90]) (by simp [results, Tryd.results16, go_sem, y0, y1, y2, y3]) rfl ?_
                rw [HE.out]
                exact ⟨_, rfl, OwnsP.nil _ _, HKF.out⟩
              | true =>
                rw [if_pos rfl] at hpd
                rw [hpd] at hPr
                simp only [Option.getD_some, Option.isSome_some, if_true] at hPr
                refine hPr.mono ?_
                clear hPr
                rintro e w6 ⟨rfl, hB6⟩
                have HB6 := hid (HB4.out.trans (hB6.mono HB4.out.size))
                have HH6 := hid (HH4.out.below hB6 HH4.out.lt)
                have HN6 := hid (HN4.out.below hB6 HN4.out.lt)
                have HR6 := hid (HR4.out.below hB6 HR4.out.lt)
                have HO6 := hid (HO4.out.below hB6)
                clear hB6 HB4 HH4 HN4 HR4 HO4 p0 p1 p2 p3 r0 r1 r2 r3 g0 g1 g2 g3 r2b g2b hat1 hat2 hat3 hat4 HAT3 HAT4 hbig2 qE hxc hxb
                have hTXm := hTl rfl
                have hpt := prefix_take TX L
                have hTXs : (⟨TX.toArray⟩ : ByteArray).size = TX.length := size_list TX
                have hsz := HZ.out
                by_cases hlong : L.length < TX.length
                · have hlong' : (s.size : Int) < (TX.length : Int) := by omega
                  have HE : Hid (T = (rzY, 0, 90)) := by unfold Hid; rw [hT2, if_neg (fun h => by have := hpt.1 h.2; omega)]
                  clear hpd hT2 hTl HX5 hpt hTXs hsz
                  obtain ⟨q0, q1, q2, q3, z0, z1, z2, z3⟩ := HH6.out.cells
                  obtain ⟨x0, x1, x2, x3, _, _, _, _⟩ := HN6.out.cells
                  have HF := hid ((((HH6.out.store0 (x := .int .i64 0)).store1 (x := .slice none 0 0)).store2 (x := .string ⟨#[]⟩)).store3 (x := .bool false))
                  have HKF := hid ((((HB6.out.setCell (p := ⟨w.heap.size, 0, none⟩) (by simp) (.int .i64 0)).setCell (p := ⟨w.heap.size, 1, none⟩) (by simp) (.slice none 0 0)).setCell (p := ⟨w.heap.size, 2, none⟩) (by simp) (.string ⟨#[]⟩)).setCell (p := ⟨w.heap.size, 3, none⟩) (by simp) (.bool false))
                  go_wp2
                  obtain ⟨y0, y1, y2, y3, _, _, _, _⟩ := HF.out.cells
                  refine bodyPost_ret (v := .tuple #[.agg #[.int .i64 0, .slice none 0 0, .string ⟨#[]⟩, .bool false], .int .i64 0, .int .i64 90]) (by simp [results, Tryd.results16, go_sem, y0, y1, y2, y3]) rfl ?_
                  rw [HE.out]
                  exact ⟨_, rfl, OwnsP.nil _ _, HKF.out⟩
                have hlong' : ¬ (s.size : Int) < (TX.length : Int) := by omega
                have hlong2 : (TX.length : Int) ≤ (s.size : Int) := by omega
                obtain ⟨X0, hX0⟩ : ∃ X0, X0 = L.take TX.length := ⟨_, rfl⟩
                have hx0 : s.extract 0 TX.length = ⟨X0.toArray⟩ := by rw [HX5.out, hX0]; simp
                have qX := eql_list X0 TX
                rw [← hX0] at hpt
                clear hX0 HX5
                by_cases hne : X0 = TX
                rotate_left
                · rw [decide_eq_false hne] at qX
                  have HE : Hid (T = (rzY, 0, 90)) := by unfold Hid; rw [hT2, if_neg (fun h => hne (hpt.1 h.2).2)]
                  clear hpd hT2 hTl hpt hTXs hsz
                  obtain ⟨q0, q1, q2, q3, z0, z1, z2, z3⟩ := HH6.out.cells
                  obtain ⟨x0, x1, x2, x3, _, _, _, _⟩ := HN6.out.cells
                  have HF := hid ((((HH6.out.store0 (x := .int .i64 0)).store1 (x := .slice none 0 0)).store2 (x := .string ⟨#[]⟩)).store3 (x := .bool false))
                  have HKF := hid ((((HB6.out.setCell (p := ⟨w.heap.size, 0, none⟩) (by simp) (.int .i64 0)).setCell (p := ⟨w.heap.size, 1, none⟩) (by simp) (.slice none 0 0)).setCell (p := ⟨w.heap.size, 2, none⟩) (by simp) (.string ⟨#[]⟩)).setCell (p := ⟨w.heap.size, 3, none⟩) (by simp) (.bool false))
                  obtain ⟨y0, y1, y2, y3, _, _, _, _⟩ := HF.out.cells
                  repeat (first
                    | (refine bodyPost_ret (v := .tuple #[.agg #[.int .i64 0, .slice none 0 0, .string ⟨#[]⟩, .bool false], .int .i64 0, .int .i64 90]) (by simp [results, Tryd.results16, go_sem, y0, y1, y2, y3]) rfl ?_
                       rw [HE.out]
                       exact ⟨_, rfl, OwnsP.nil _ _, HKF.out⟩)
                    | go_values | go_skip | go_guarded | go_step | go_upon | go_back | go_simp)
                · rw [decide_eq_true hne] at qX
                  have HE : Hid (T = ((dg, acc, BD, cc), TX.length, 0)) := by unfold Hid; rw [hT2, if_pos ⟨rfl, hpt.2 ⟨by omega, hne⟩⟩]
                  clear hpd hT2 hTl hpt hTXs hsz qX
                  have hne2 := hne.symm
                  subst hne2
                  clear hne
                  obtain ⟨q0, q1, q2, q3, z0, z1, z2, z3⟩ := HH6.out.cells
                  obtain ⟨x0, x1, x2, x3, _, _, _, _⟩ := HR6.out.cells
                  have HF := hid ((((HH6.out.store0 (x := .int .i64 dg)).store1 (x := .slice ao acc.length cap)).store2 (x := .string ⟨BD.toArray⟩)).store3 (x := .bool cc))
                  have HKF := hid ((((HB6.out.setCell (p := ⟨w.heap.size, 0, none⟩) (by simp) (.int .i64 dg)).setCell (p := ⟨w.heap.size, 1, none⟩) (by simp) (.slice ao acc.length cap)).setCell (p := ⟨w.heap.size, 2, none⟩) (by simp) (.string ⟨BD.toArray⟩)).setCell (p := ⟨w.heap.size, 3, none⟩) (by simp) (.bool cc))
                  have HOF := hid ((((HO6.out.store (p := w.heap.size) (i := 0) (by omega) (.int .i64 dg)).store (p := w.heap.size) (i := 1) (by omega) (.slice ao acc.length cap)).store (p := w.heap.size) (i := 2) (by omega) (.string ⟨BD.toArray⟩)).store (p := w.heap.size) (i := 3) (by omega) (.bool cc))
                  obtain ⟨y0, y1, y2, y3, _, _, _, _⟩ := HF.out.cells
                  iterate 75 (first | go_values | go_skip | go_guarded | go_step | go_upon | go_back | go_simp)
                  repeat (first
                    | (refine bodyPost_ret (v := .tuple #[.agg #[.int .i64 dg, .slice ao acc.length cap, .string ⟨BD.toArray⟩, .bool cc], .int .i64 (TX.length : Int), .int .i64 0]) (by simp [results, Tryd.results16, go_sem, y0, y1, y2, y3]) rfl ?_
                       rw [HE.out]
                       exact ⟨_, rfl, HOF.out.le (by omega), HKF.out⟩)
                    | go_values | go_skip | go_guarded | go_step | go_upon | go_back | go_simp)
end Go.Proofs.YtgkipeehmckbdaaDoor
