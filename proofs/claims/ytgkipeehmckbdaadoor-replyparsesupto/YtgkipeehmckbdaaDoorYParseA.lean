/-
  The code's: numbers of texts, statuses, bodies.
-/
import Derived.Test.YtgkipeehmckbdaaDoorYPrint
import Derived.Lib.AtoiErrMem
namespace Go.Proofs.YtgkipeehmckbdaaDoor
open Go.RowKit
set_option linter.unusedVariables false

/-- The library's two errors stand in their variables. -/
def Errs (w : World) : Prop := (∃ v, w.cell? ⟨3, 0, none⟩ = some v ∧ (v = .nilIface ∨ ∃ te pe, v = .iface te pe)) ∧ ∃ v, w.cell? ⟨4, 0, none⟩ = some v ∧ (v = .nilIface ∨ ∃ te pe, v = .iface te pe)
theorem Errs.below {w w' : World} (h : Errs w) (hb : Below w.heap.size w w') : Errs w' := by
  obtain ⟨⟨v, h1, h2⟩, u, h3, h4⟩ := h
  exact ⟨⟨v, (hb.cell (World.block_lt_of_cell? w _ h1)).trans h1, h2⟩, u, (hb.cell (World.block_lt_of_cell? w _ h3)).trans h3, h4⟩
/-- What a parser of responses wants of the world. -/
structure Met (w : World) : Prop where
  ml : ML w
  errs : Errs w
  itoa : ItoaAt w
  tab : Tab w
theorem Met.below {w w' : World} (h : Met w) (hb : Below w.heap.size w w') : Met w' := ⟨h.ml.below hb h.ml.lt, h.errs.below hb, h.itoa.below hb, h.tab.below hb⟩

theorem err_eql (W : World) : (binOp .eql 65 (.iface 95 (.int .i64 2)) (.iface 95 (.int .i64 2))).run Tryd.prog W = .ok (.bool true) W := Lib.run_eql_iface_int W 2 2 Tryd.underlying65 Tryd.laysC172.c167 Tryd.underlying95
set_option maxRecDepth 20000 in
set_option maxHeartbeats 1000000 in
theorem toErr_any (f s : ByteArray) (b c : Int) (ev : Value) (w : World) (hlim : s.size ≤ 281474976710656) (hv : w.cell? ⟨3, 0, none⟩ = some ev) (hev : ev = .nilIface ∨ ∃ te pe, ev = .iface te pe) :
    Calls Tryd.prog 64 #[.string f, .string s, .int .i64 b, .int .i64 c, .iface 95 (.int .i64 2)] w fun e w' => ∃ N, e = .returned (.iface 98 (.pointer (some ⟨N, 0, none⟩))) ∧ Below w.heap.size w w' := by
  have hS := Tryd.strconv_syntaxError f s ev w hlim hv hev
  have heq := err_eql
  clear hv hev
  go_enter Tryd.func64, Tryd.ntmps64
  go_wp2_with fail
  refine hS.mono ?_
  clear hS
  rintro e w2 ⟨N, rfl, h1, h2, h3⟩
  have HB := hid h3
  clear h1 h2 h3
  go_wp2
  go_ret
  exact ⟨N, rfl, HB.out⟩
set_option maxRecDepth 20000 in
set_option maxHeartbeats 1000000 in
theorem atoi_no (l : List UInt8) (ev : Value) (w : World) (hs : l.length ≤ 281474976710656) (hv : w.cell? ⟨3, 0, none⟩ = some ev) (hev : ev = .nilIface ∨ ∃ te pe, ev = .iface te pe)
    (hI : Calls Tryd.prog 63 #[.string ⟨l.toArray⟩] w fun e w' => e = .returned (.tuple #[.int .i64 0, .iface 95 (.int .i64 2)]) ∧ Below w.heap.size w w') :
    Calls Tryd.prog 48 #[.string ⟨l.toArray⟩] w fun e w' => ∃ z N, e = .returned (.tuple #[.int .i64 z, .iface 98 (.pointer (some ⟨N, 0, none⟩))]) ∧ Below w.heap.size w w' := by
  have hsz : (⟨l.toArray⟩ : ByteArray).size = l.length := size_list l
  have HT := hid (fun W (hb : Below w.heap.size w W) => toErr_any ⟨#[65, 116, 111, 105]⟩ ⟨l.toArray⟩ 0 0 ev W (by omega) ((hb.cell (World.block_lt_of_cell? w _ hv)).trans hv) hev)
  clear hv hev hsz
  go_enter Tryd.func48, Tryd.ntmps48
  go_wp2_with fail
  refine hI.mono ?_
  clear hI
  rintro e w1 ⟨rfl, hB1⟩
  have hT := HT.out w1 hB1
  have HB1 := hid hB1
  clear hB1 HT
  go_wp2_with fail
  refine hT.mono ?_
  clear hT
  rintro e w2 ⟨N, rfl, hB2⟩
  have HB2 := hid (HB1.out.trans (hB2.mono HB1.out.size))
  clear hB2
  go_wp2
  go_ret2
  exact ⟨0, N, rfl, HB2.out⟩
theorem atoi_any (l : List UInt8) (w : World) (hE : Errs w) (hs : l.length ≤ 281474976710656) :
    Calls Tryd.prog 48 #[.string ⟨l.toArray⟩] w fun e w' => (∃ v, Lib.atoiAll l = .ok v ∧ e = .returned (.tuple #[.int .i64 v, .nilIface]) ∧ Below w.heap.size w w') ∨ ((∀ v, Lib.atoiAll l ≠ .ok v) ∧ ∃ z N, e = .returned (.tuple #[.int .i64 z, .iface 98 (.pointer (some ⟨N, 0, none⟩))]) ∧ Below w.heap.size w w') := by
  obtain ⟨⟨v1, h1, h2⟩, v2, h3, h4⟩ := hE
  have hsz : (⟨l.toArray⟩ : ByteArray).size = l.length := size_list l
  have hI := Tryd.internal_strconv_Atoi_all ⟨l.toArray⟩ (by omega) w
  rw [show (⟨l.toArray⟩ : ByteArray).data.toList = l from by simp] at hI
  rcases hl : Lib.atoiAll l with v | _ | _
  · refine (Tryd.strconv_Atoi_ok ⟨l.toArray⟩ (by omega) v (by simpa using hl) w).mono ?_
    rintro e w' ⟨rfl, hw⟩
    refine Or.inl ⟨v, rfl, rfl, ?_⟩
    rcases hw with rfl | ⟨t, rfl⟩
    · exact Below.refl _ _
    · exact Lib.bytesWorld_below _ _ _
  · rw [hl] at hI
    refine (atoi_no l v1 w hs h1 h2 (hI.mono ?_)).mono ?_
    · rintro e w' ⟨rfl, hw⟩
      refine ⟨rfl, ?_⟩
      rcases hw with rfl | ⟨t, rfl⟩
      · exact Below.refl _ _
      · exact Lib.bytesWorld_below _ _ _
    · rintro e w' ⟨z, N, rfl, hb⟩
      exact Or.inr ⟨(fun v h => by cases h), z, N, rfl, hb⟩
  · refine (Tryd.strconv_Atoi_range ⟨l.toArray⟩ (by omega) (by simpa using hl) v2 w h3 h4).mono ?_
    rintro e w' ⟨N, rfl, _, _, hb⟩
    exact Or.inr ⟨(fun v h => by cases h), _, N, rfl, hb⟩

theorem index_cutC (c : UInt8) : ∀ l : List UInt8, (Lib.index l [c] = -1 ∧ cutC c l = (l, [], false)) ∨ ∃ k : Nat, Lib.index l [c] = k ∧ cutC c l = (l.take k, l.drop (k + 1), true)
  | [] => Or.inl ⟨rfl, rfl⟩
  | a :: r => by
    unfold Lib.index
    by_cases h : a = c
    · refine Or.inr ⟨0, ?_, ?_⟩
      · rw [if_pos (by simp [List.isPrefixOf, h])]
        rfl
      · rw [cutC, if_pos h]
        rfl
    · rw [if_neg (by simp [List.isPrefixOf]; exact fun e => h e.symm), cutC, if_neg h]
      rcases index_cutC c r with ⟨h1, h2⟩ | ⟨k, h1, h2⟩
      · rw [h1, h2]; exact Or.inl ⟨rfl, rfl⟩
      · rw [h1, h2, if_neg (by simp)]
        exact Or.inr ⟨k + 1, by omega, rfl⟩
theorem cutC_lib (c : UInt8) (l : List UInt8) : Lib.cut l [c] = cutC c l := by
  unfold Lib.cut
  rcases index_cutC c l with ⟨h1, h2⟩ | ⟨k, h1, h2⟩
  · rw [h1, h2]; rfl
  · rw [h1, h2, if_pos (by omega)]
    simp
theorem index_cutE : ∀ l : List UInt8, (Lib.index l [13, 10] = -1 ∧ cutE l = (l, [], false)) ∨ ∃ k : Nat, Lib.index l [13, 10] = k ∧ cutE l = (l.take k, l.drop (k + 2), true)
  | [] => Or.inl ⟨rfl, rfl⟩
  | a :: r => by
    unfold Lib.index cutE
    by_cases h : a = 13 ∧ r.head? = some 10
    · refine Or.inr ⟨0, ?_, ?_⟩
      · rw [if_pos]
        · rfl
        · obtain ⟨rfl, h2⟩ := h
          cases r with
          | nil => simp at h2
          | cons b r => simp at h2; subst h2; simp [List.isPrefixOf]
      · rw [if_pos h]
        obtain ⟨_, h2⟩ := h
        cases r with
        | nil => simp at h2
        | cons b r => rfl
    · have hp : ¬ List.isPrefixOf [13, 10] (a :: r) = true := by
        intro e
        apply h
        cases r with
        | nil => simp [List.isPrefixOf] at e
        | cons b r =>
          simp [List.isPrefixOf] at e
          exact ⟨e.1.symm, by simp [e.2]⟩
      rw [if_neg hp, if_neg h]
      rcases index_cutE r with ⟨h1, h2⟩ | ⟨k, h1, h2⟩
      · rw [h1, h2]; exact Or.inl ⟨rfl, rfl⟩
      · rw [h1, h2, if_neg (by simp)]
        exact Or.inr ⟨k + 1, by omega, rfl⟩
theorem cutE_lib (l : List UInt8) : Lib.cut l [13, 10] = cutE l := by
  unfold Lib.cut
  rcases index_cutE l with ⟨h1, h2⟩ | ⟨k, h1, h2⟩
  · rw [h1, h2]; rfl
  · rw [h1, h2, if_pos (by omega)]
    simp
/-- strings.Cut, whatever it cuts by. -/
theorem cut_at (l p : List UInt8) (R : List UInt8 × List UInt8 × Bool) (hR : Lib.cut l p = R) (w : World) (hm : ML w) (hs : l.length ≤ 1000000000) :
    Calls Tryd.prog 35 #[.string ⟨l.toArray⟩, .string ⟨p.toArray⟩] w fun e w' => e = .returned (.tuple #[.string ⟨R.1.toArray⟩, .string ⟨R.2.1.toArray⟩, .bool R.2.2]) ∧ Below w.heap.size w w' := by
  obtain ⟨m, hm⟩ := hm
  refine (Tryd.strings_Cut ⟨l.toArray⟩ ⟨p.toArray⟩ m w (by rw [size_list]; omega) hm).mono ?_
  rintro e w' ⟨rfl, n, rfl⟩
  rw [show (⟨l.toArray⟩ : ByteArray).data.toList = l from by simp, show (⟨p.toArray⟩ : ByteArray).data.toList = p from by simp, hR]
  exact ⟨rfl, below_drewN' _ _ _⟩
theorem cutC_few (c : UInt8) (l : List UInt8) : (cutC c l).1.length ≤ l.length ∧ (cutC c l).2.1.length ≤ l.length := by
  rcases index_cutC c l with ⟨_, h⟩ | ⟨k, _, h⟩
  · rw [h]; simp
  · rw [h]; simp; omega

set_option maxRecDepth 20000 in
set_option maxHeartbeats 2000000 in
theorem statusOf_any (l : List UInt8) (w : World) (hm : ML w) (hE : Errs w) (hs : l.length ≤ 1000000000) :
    Calls Tryd.prog 36 #[.string ⟨l.toArray⟩] w fun e w' => e = .returned (.int .i64 (statusY l)) ∧ Below w.heap.size w w' := by
  have h1 := cut_at l [32] _ (cutC_lib 32 l) w hm hs
  have f1 := cutC_few 32 l
  have f2 := cutC_few 32 (cutC 32 l).2.1
  have HM := hid (fun W (hb : Below w.heap.size w W) => hm.below hb hm.lt)
  have HE := hid (fun W (hb : Below w.heap.size w W) => hE.below hb)
  have hst : statusY l = numO (cutC 32 (cutC 32 l).2.1).1 := rfl
  obtain ⟨A, hA⟩ : ∃ A, A = cutC 32 l := ⟨_, rfl⟩
  rw [← hA] at h1 f1 f2 hst
  have h2 := fun W hb => cut_at A.2.1 [32] _ (cutC_lib 32 A.2.1) W (HM.out W hb) (by omega)
  obtain ⟨B, hB⟩ : ∃ B, B = cutC 32 A.2.1 := ⟨_, rfl⟩
  rw [← hB] at h2 f2 hst
  have h3 := fun W hb => atoi_any B.1 W (HE.out W hb) (by omega)
  obtain ⟨V, hV⟩ : ∃ V, V = statusY l := ⟨_, rfl⟩
  rw [← hV]
  have HV : Hid (V = numO B.1) := by unfold Hid; rw [hV, hst]
  have H2 := hid h2
  have H3 := hid h3
  clear hm hE hA hB hV hst h2 h3 HM HE
  obtain ⟨A1, A2, A3⟩ := A
  obtain ⟨B1, B2, B3⟩ := B
  simp only at h1 H2 H3 HV
  rw [show ([32] : List UInt8).toArray = #[32] from rfl] at h1 H2
  go_enter Tryd.func36, Tryd.ntmps36
  go_wp2_with fail
  refine h1.mono ?_
  clear h1
  rintro e w1 ⟨rfl, hB1⟩
  have h2 := H2.out w1 hB1
  have HB1 := hid hB1
  clear H2 hB1
  go_wp2_with fail
  refine h2.mono ?_
  clear h2
  rintro e w2 ⟨rfl, hB2⟩
  have hB02 := HB1.out.trans (hB2.mono HB1.out.size)
  have h3 := H3.out w2 hB02
  have HB2 := hid hB02
  clear H3 hB2 hB02 HB1
  go_wp2_with fail
  refine h3.mono ?_
  clear h3
  rintro e w3 hor
  rcases hor with ⟨v, hv, rfl, hB3⟩ | ⟨hno, z, N, rfl, hB3⟩
  · have HF : Hid (V = v) := by unfold Hid; rw [HV.out, numO, hv]
    have HB3 := hid (HB2.out.trans (hB3.mono HB2.out.size))
    clear hB3 hv HV
    go_wp2
    go_ret
    exact ⟨by rw [HF.out]; rfl, HB3.out⟩
  · have HF : Hid (V = 0) := by
      unfold Hid
      rw [HV.out, numO]
      split
      · rename_i v hv; exact absurd hv (hno v)
      · rfl
    have HB3 := hid (HB2.out.trans (hB3.mono HB2.out.size))
    clear hB3 hno HV
    go_wp2
    go_ret
    exact ⟨by rw [HF.out]; rfl, HB3.out⟩

theorem trimPrefix_any (l p : List UInt8) (w : World) : Calls Tryd.prog 39 #[.string ⟨l.toArray⟩, .string ⟨p.toArray⟩] w fun e w' => e = .returned (.string ⟨(Lib.trimPrefix l p).toArray⟩) ∧ w = w' := by
  refine (Tryd.strings_TrimPrefix ⟨l.toArray⟩ ⟨p.toArray⟩ w).mono ?_
  rintro e w' ⟨rfl, rfl⟩
  exact ⟨by simp, rfl⟩
set_option maxRecDepth 20000 in
set_option maxHeartbeats 2000000 in
theorem bodyOf_any (l r : List UInt8) (w : World) (hE : Errs w) (hs : l.length ≤ 1000000000) (hr : r.length ≤ 1000000000) :
    Calls Tryd.prog 38 #[.string ⟨l.toArray⟩, .string ⟨r.toArray⟩] w fun e w' => e = .returned (.string ⟨(bodyY l r).toArray⟩) ∧ Below w.heap.size w w' := by
  have h1 := trimPrefix_any l (clS ++ [58, 32]) w
  have f1 := trimP_few l (clS ++ [58, 32])
  have e16 : (clS ++ ([58, 32] : List UInt8)).toArray = #[99, 111, 110, 116, 101, 110, 116, 45, 108, 101, 110, 103, 116, 104, 58, 32] := rfl
  rw [e16] at h1
  clear e16
  have h3 := atoi_any (Lib.trimPrefix l (clS ++ [58, 32])) w hE (by omega)
  have hb : bodyY l r = match Lib.atoiAll (Lib.trimPrefix l (clS ++ [58, 32])) with
    | .ok n => if n < 0 ∨ (r.length : Int) < n then [] else r.take n.toNat
    | _ => [] := rfl
  obtain ⟨A, hA⟩ : ∃ A, A = Lib.trimPrefix l (clS ++ [58, 32]) := ⟨_, rfl⟩
  simp only [← hA] at h1 h3 hb
  obtain ⟨V, hV⟩ : ∃ V, V = bodyY l r := ⟨_, rfl⟩
  rw [← hV] at hb ⊢
  have HV := hid hb
  have hsz : (⟨r.toArray⟩ : ByteArray).size = r.length := size_list r
  clear hb hA hV hE
  go_enter Tryd.func38, Tryd.ntmps38
  go_wp2_with fail
  refine h1.mono ?_
  clear h1
  rintro e w1 ⟨rfl, hw1⟩
  subst hw1
  go_wp2_with fail
  refine h3.mono ?_
  clear h3
  rintro e w3 hor
  rcases hor with ⟨v, hv, rfl, hB3⟩ | ⟨hno, z, N, rfl, hB3⟩
  · rw [hv] at HV
    simp only at HV
    have HB3 := hid hB3
    clear hB3 hv
    by_cases g1 : v < 0
    · have HF : Hid (V = []) := by unfold Hid; rw [HV.out, if_pos (Or.inl g1)]
      clear HV
      go_wp2
      go_ret
      exact ⟨by rw [HF.out]; rfl, HB3.out⟩
    · by_cases g2 : (r.length : Int) < v
      · have HF : Hid (V = []) := by unfold Hid; rw [HV.out, if_pos (Or.inr g2)]
        clear HV
        go_wp2
        go_ret
        exact ⟨by rw [HF.out]; rfl, HB3.out⟩
      · have HF : Hid (V = r.take v.toNat) := by unfold Hid; rw [HV.out, if_neg (by omega)]
        obtain ⟨m, rfl⟩ : ∃ m : Nat, v = m := ⟨v.toNat, by omega⟩
        have hFr := fresh_any (r.take m) w3
        rw [show (⟨(r.take m).toArray⟩ : ByteArray) = (⟨r.toArray⟩ : ByteArray).extract 0 m by rw [extract_list]; simp] at hFr
        have HX : Hid ((⟨r.toArray⟩ : ByteArray).extract 0 m = ⟨V.toArray⟩) := by
          unfold Hid
          rw [extract_list, HF.out]
          simp
        obtain ⟨s, hse⟩ : ∃ s : ByteArray, s = ⟨r.toArray⟩ := ⟨_, rfl⟩
        rw [← hse] at hFr HX hsz ⊢
        have g1' : (m : Int) ≤ (s.size : Int) := by omega
        have g2' : ¬ (s.size : Int) < (m : Int) := by omega
        have g3' : ¬ (m : Int) < 0 := by omega
        clear HV HF hse g1 g2 hsz
        go_wp2_with fail
        refine hFr.mono ?_
        clear hFr
        rintro e w4 ⟨rfl, hB4⟩
        have HB4 := hid (HB3.out.trans (hB4.mono HB3.out.size))
        clear hB4
        go_wp2
        go_ret
        exact ⟨by rw [← HX.out]; rfl, HB4.out⟩
  · have HF : Hid (V = []) := by
      unfold Hid
      rw [HV.out]
      split
      · rename_i v hv; exact absurd hv (hno v)
      · rfl
    have HB3 := hid hB3
    clear hB3 hno HV
    go_wp2
    go_ret
    exact ⟨by rw [HF.out]; rfl, HB3.out⟩
end Go.Proofs.YtgkipeehmckbdaaDoor
