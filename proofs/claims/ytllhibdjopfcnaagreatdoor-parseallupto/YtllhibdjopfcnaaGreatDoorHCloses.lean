/-
  Whether the connection ends, as the code tells it.
-/
import Derived.Test.YtllhibdjopfcnaaGreatDoorHSplit
namespace Go.Proofs.YtllhibdjopfcnaaGreatDoor
open Go.RowKit
set_option linter.unusedVariables false

theorem count_split (x : List UInt8) : Lib.countB ⟨x.toArray⟩ ⟨#[44]⟩ + 1 = (splitC 44 x).length := by
  have h1 := Lib.splitB_all ⟨#[44]⟩ (by decide) 0 _ ⟨x.toArray⟩ rfl
  have h2 := split_list 44 x
  have h3 : Lib.countB ⟨x.toArray⟩ ⟨#[44]⟩ = Lib.count x [44] := rfl
  rw [← h1, h3, h2, List.length_map]
theorem split_any (x : List UInt8) (w : World) (hM : ML w) (hx : x.length ≤ 1048576) :
    Calls Tryz.prog 59 #[.string ⟨x.toArray⟩, .string ⟨#[44]⟩] w fun e w' => e = .returned (.slice (some ⟨w.heap.size, 0, none⟩) (splitC 44 x).length (splitC 44 x).length) ∧ (∀ j, (h : j < (splitC 44 x).length) → w'.cell? ⟨w.heap.size, j, none⟩ = some (strV (splitC 44 x)[j])) ∧ Below w.heap.size w w' ∧ w.heap.size < w'.heap.size := by
  obtain ⟨m, hm⟩ := hM
  refine (Tryz.strings_Split ⟨x.toArray⟩ ⟨#[44]⟩ m w (by rw [size_list]; omega) hm (by decide)).mono ?_
  rintro e w' ⟨rfl, rfl⟩
  rw [count_split]
  have h2 := split_list 44 x
  have h3 : Lib.countB ⟨x.toArray⟩ ⟨#[44]⟩ = Lib.count x [44] := rfl
  rw [h3, h2]
  refine ⟨rfl, ?_, below_alloc w _, by simp⟩
  intro j hj
  rw [World.cell?, heap_alloc_new]
  simp [hj, strV]
theorem trim_any (x : List UInt8) (w : World) (hx : x.length ≤ 9223372036854775807) :
    Calls Tryz.prog 61 #[.string ⟨x.toArray⟩, .string ⟨#[32, 9]⟩] w fun e w' => e = .returned (.string ⟨(trimB x).toArray⟩) ∧ Below w.heap.size w w' := Tryz.strings_Trim_blanks ⟨x.toArray⟩ w (by rw [size_list]; exact hx)
theorem dropWhile_le (p : UInt8 → Bool) : ∀ l : List UInt8, (l.dropWhile p).length ≤ l.length
  | [] => by simp
  | b :: r => by
    have := dropWhile_le p r
    rw [List.dropWhile_cons]
    split <;> simp <;> omega
theorem trimB_le (x : List UInt8) : (trimB x).length ≤ x.length := by
  have h1 : (trimB x).length ≤ (Lib.trimRightS x [32, 9]).length := dropWhile_le _ _
  have h2 : (Lib.trimRightS x [32, 9]).length ≤ x.length := by
    unfold Lib.trimRightS
    rw [List.length_reverse]
    refine Nat.le_trans (dropWhile_le _ _) ?_
    rw [List.length_reverse]
    exact Nat.le_refl _
  omega
theorem contains_app {l r : List (List UInt8)} {x : List UInt8} : (l ++ r).contains x = (l.contains x || r.contains x) := by
  rw [Bool.eq_iff_iff]
  simp
theorem contains_one {x y : List UInt8} : [y].contains x = (y == x) := by
  rw [Bool.eq_iff_iff, List.contains_cons, List.contains_nil, Bool.or_false, beq_iff_eq, beq_iff_eq]
  exact eq_comm
set_option maxRecDepth 20000 in
set_option maxHeartbeats 4000000 in
theorem closes_any (h : HeadL) (a b v : Value) (w : World) (hM : ML w) (hS : SeesP w v h.2.2.2) (hl : h.2.2.2.length ≤ 1048576) (hb : ∀ p ∈ h.2.2.2, p.2.length ≤ 1048576) :
    Calls Tryz.prog 39 #[.agg #[a, b, .int .i64 h.2.2.1, v]] w fun e w' => e = .returned (.bool (closesL h)) ∧ Below w.heap.size w w' := by
  rw [closesL_F]
  obtain ⟨fs, hfs⟩ : ∃ fs, fs = h.2.2.2 := ⟨_, rfl⟩
  obtain ⟨m, hm⟩ : ∃ m, m = h.2.2.1 := ⟨_, rfl⟩
  rw [← hfs] at hS hl hb
  rw [← hfs, ← hm]
  clear hfs hm
  have hV := values_any a b (.int .i64 m) v fs cnS (w.alloc (.cells #[a, b, .int .i64 m, v] 34)) (hS.below (below_alloc w _)) hl (by decide)
  rw [show small cnS = cnS by decide] at hV
  have hH0 := HeadAt.new w a b (.int .i64 m) v
  have hB0 := below_alloc w (.cells #[a, b, .int .i64 m, v] 34)
  obtain ⟨w0, hw0⟩ : ∃ w0, w0 = w.alloc (.cells #[a, b, .int .i64 m, v] 34) := ⟨_, rfl⟩
  have hsz0 : w0.heap.size = w.heap.size + 1 := by rw [hw0]; simp
  rw [← hw0] at hV hH0 hB0
  have HW0 := hid hw0
  have HM0 := hid (hM.below hB0 hM.lt)
  have HB0 := hid hB0
  have HH0 := hid hH0
  have hb1 := valsF_bound (nm := cnS) hb
  have hl1 : (valsF fs cnS).length ≤ fs.length := by unfold valsF; rw [List.length_map]; exact List.length_filter_le _ _
  obtain ⟨ys, hys⟩ : ∃ ys, ys = valsF fs cnS := ⟨_, rfl⟩
  rw [← hys] at hV hb1 hl1 ⊢
  rw [show (⟨cnS.toArray⟩ : ByteArray) = ⟨#[99, 111, 110, 110, 101, 99, 116, 105, 111, 110]⟩ from rfl] at hV
  obtain ⟨V, hVe⟩ : ∃ V, V = ((wordsL ys).contains closeS || (decide (m = 0) && !(wordsL ys).contains keepS)) := ⟨_, rfl⟩
  rw [← hVe]
  have HE := hid hVe
  have HBd := hid hb1
  have hgl := hM.lt
  obtain ⟨z0, z1, z2, z3, _, _, _, _⟩ := hH0.cells
  obtain ⟨K0, hK0⟩ : ∃ K0, K0 = (m != 0) := ⟨_, rfl⟩
  have hK0' := hK0.symm
  have HK := hid hK0
  clear hw0 hH0 hys hS hB0 hb hb1 hVe hM hK0
  go_enter Tryz.func39, Tryz.ntmps39
  go_wp2_with (first | rw [← HW0.out] | fail)
  refine hV.mono ?_
  clear hV
  rintro e w1 ⟨v1, rfl, hO1, hB1⟩
  obtain ⟨ao1, cap1, rfl⟩ := hO1.shape
  have HM1 := hid (HM0.out.below hB1 HM0.out.lt)
  have HB1 := hid (HB0.out.trans (hB1.mono HB0.out.size))
  have HS1 := hid hO1.sees
  clear hB1 hO1 HM0 HB0 HH0
  go_wp2_with fail
  go_loopw [3, 14] (fun kp i wr => ∃ (k : Nat), k ≤ ys.length ∧ i = .int .i64 (k : Int) ∧ kp = .bool (K0 || (wordsL (ys.take k)).contains keepS) ∧ (wordsL (ys.take k)).contains closeS = false ∧ Below w1.heap.size w1 wr) (fun _ i _ => ys.length - (intOf i).toNat)
  case atStart => exact ⟨0, Nat.zero_le _, rfl, by simp [wordsL], by simp [wordsL], Below.refl _ _⟩
  case round =>
    obtain ⟨k, hk, rfl, rfl, hcl, hBr⟩ := hrel
    have HBr := hid hBr
    have HBw := hid (HB1.out.trans (hBr.mono HB1.out.size))
    by_cases hlt : k < ys.length
    · have hlt' : (k : Int) < (ys.length : Int) := by omega
      obtain ⟨bb, off, ao, cap, hv, hcap, _, hao, hcell⟩ := HS1.out
      obtain ⟨rfl, rfl⟩ : ao1 = ao ∧ cap1 = cap := by simpa using hv
      obtain rfl := hao (by intro h; rw [h] at hlt; simp at hlt)
      have d1 := hcell k hlt
      have d1 := (hBr.cell (World.block_lt_of_cell? w1 _ d1)).trans d1
      unfold strV at d1
      have hxl := HBd.out _ (List.getElem_mem hlt)
      have hwt := wordsL_take hlt
      obtain ⟨rr, hwm⟩ := wordsL_more hlt
      obtain ⟨x, hx⟩ : ∃ x, x = ys[k] := ⟨_, rfl⟩
      rw [← hx] at d1 hxl hwt hwm
      have HMr := hid (HM1.out.below hBr HM1.out.lt)
      have hSp := split_any x wr HMr.out hxl
      have hWl := splitC_len_le 44 x
      have hWf := splitC_few 44 x
      obtain ⟨W, hW⟩ : ∃ W, W = splitC 44 x := ⟨_, rfl⟩
      rw [← hW] at hSp hWl hWf hwt hwm
      obtain ⟨S, hS⟩ : ∃ S, S = wordsL (ys.take k) := ⟨_, rfl⟩
      rw [← hS] at hcl hwt hwm ⊢
      have HWT : Hid (∀ z, (wordsL (ys.take (k + 1))).contains z = (S.contains z || (W.map wdB).contains z)) := by
        intro z
        rw [hwt, contains_app]
      have HWM : Hid (closeS ∈ W.map wdB → V = true) := by
        intro hm
        rw [HE.out, hwm]
        simp [hm]
      obtain ⟨K1, hK1⟩ : ∃ K1, K1 = (K0 || S.contains keepS) := ⟨_, rfl⟩
      rw [← hK1]
      have HK1 := hid hK1
      have HCl := hid hcl
      have HWL := hid hWl
      clear hx hW hS hcl hwt hwm hK1 hv hao hcell hBr hWl
      go_wp2_with fail
      refine hSp.mono ?_
      clear hSp
      rintro e w2 ⟨rfl, hW2, hB2, hsz2⟩
      have HW2 := hid hW2
      have HB2 := hid (HBw.out.trans (hB2.mono HBw.out.size))
      have HBr2 := hid (HBr.out.trans (hB2.mono HBr.out.size))
      clear hW2 hB2
      go_wp2_with fail
      go_loopw [3, 21] (fun kp i wq => ∃ (j : Nat), j ≤ W.length ∧ i = .int .i64 (j : Int) ∧ kp = .bool (K1 || ((W.take j).map wdB).contains keepS) ∧ ((W.take j).map wdB).contains closeS = false ∧ Below w2.heap.size w2 wq) (fun _ i _ => W.length - (intOf i).toNat)
      case atStart => exact ⟨0, Nat.zero_le _, rfl, by simp, by simp, Below.refl _ _⟩
      case round =>
        obtain ⟨j, hj, rfl, rfl, hcl, hBq⟩ := hrel
        have HBq := hid hBq
        by_cases hjl : j < W.length
        · have hjl' : (j : Int) < (W.length : Int) := by omega
          have d2 := HW2.out j hjl
          have d2 := (hBq.cell (World.block_lt_of_cell? w2 _ d2)).trans d2
          unfold strV at d2
          have hyl := HWL.out _ (List.getElem_mem hjl)
          have hnx := map_take_next hjl
          have hht := map_hit hjl
          obtain ⟨y, hy⟩ : ∃ y, y = W[j] := ⟨_, rfl⟩
          rw [← hy] at d2 hyl hnx hht
          have hTr := trim_any y wr (by omega)
          have htl := trimB_le y
          obtain ⟨u, hu⟩ : ∃ u, u = trimB y := ⟨_, rfl⟩
          have hwd : wdB y = small u := by rw [hu]; rfl
          rw [← hu] at hTr htl
          rw [hwd] at hnx hht
          have HSm := hid (fun w3 => small_any u w3 (by omega))
          obtain ⟨q, hq⟩ : ∃ q, q = small u := ⟨_, rfl⟩
          rw [← hq] at hnx hht HSm
          obtain ⟨S2, hS2⟩ : ∃ S2, S2 = (W.take j).map wdB := ⟨_, rfl⟩
          rw [← hS2] at hcl hnx ⊢
          obtain ⟨K2, hK2⟩ : ∃ K2, K2 = (K1 || S2.contains keepS) := ⟨_, rfl⟩
          rw [← hK2]
          have HK2 := hid hK2
          clear hK2
          have HNX : Hid (∀ z, ((W.take (j + 1)).map wdB).contains z = (S2.contains z || (q == z))) := by
            intro z
            rw [hnx, contains_app, contains_one]
          have HHT := hid hht
          have HC2 := hid hcl
          clear hy hu hwd hq hS2 hcl hnx hht hBq
          go_wp2_with fail
          refine hTr.mono ?_
          clear hTr
          rintro e w3 ⟨rfl, hB3⟩
          have hSm := HSm.out w3
          have HB3 := hid (HBq.out.trans (hB3.mono HBq.out.size))
          clear hB3 HSm
          go_wp2_with fail
          refine hSm.mono ?_
          clear hSm
          rintro e w4 ⟨rfl, hB4⟩
          have HB4 := hid (HB3.out.trans (hB4.mono HB3.out.size))
          clear hB4
          obtain ⟨C1, hC1⟩ : ∃ C1, (q == [99, 108, 111, 115, 101]) = C1 := ⟨_, rfl⟩
          obtain ⟨C2, hC2⟩ : ∃ C2, (q == [107, 101, 101, 112, 45, 97, 108, 105, 118, 101]) = C2 := ⟨_, rfl⟩
          cases C1 with
          | true =>
            have HV : Hid (V = true) := hid (HWM.out (by have := beq_iff_eq.1 hC1; rw [show closeS = q from this.symm]; exact HHT.out))
            have HBz := hid (HB2.out.trans (HB4.out.mono HB2.out.size))
            go_wp2
            go_ret
            exact ⟨by rw [HV.out]; rfl, HBz.out⟩
          | false =>
            have HN1 : Hid (((W.take (j + 1)).map wdB).contains closeS = false) := by
              unfold Hid
              rw [HNX.out, HC2.out]
              exact hC1
            cases C2 with
            | true =>
              have HN2 : Hid ((K1 || ((W.take (j + 1)).map wdB).contains keepS) = true) := by
                unfold Hid
                rw [HNX.out]
                rw [show (q == keepS) = true from hC2]
                simp
              go_wp2
              go_roundw
              case rel => exact ⟨j + 1, by omega, by go_num, by rw [HN2.out], HN1.out, HB4.out⟩
              case measure => simp [intOf]; omega
            | false =>
              have HN2 : Hid ((K1 || ((W.take (j + 1)).map wdB).contains keepS) = K2) := by
                unfold Hid
                rw [HNX.out, HK2.out]
                rw [show (q == keepS) = false from hC2]
                simp
              go_wp2
              go_roundw
              case rel => exact ⟨j + 1, by omega, by go_num, by rw [HN2.out], HN1.out, HB4.out⟩
              case measure => simp [intOf]; omega
        · have hjl' : ¬ (j : Int) < (W.length : Int) := by omega
          rw [List.take_of_length_le (by omega)] at hcl ⊢
          have HN1 : Hid ((wordsL (ys.take (k + 1))).contains closeS = false) := by
            unfold Hid
            rw [HWT.out, HCl.out, hcl]
            rfl
          have HN2 : Hid ((K0 || (wordsL (ys.take (k + 1))).contains keepS) = (K1 || (W.map wdB).contains keepS)) := by
            unfold Hid
            rw [HWT.out, HK1.out, Bool.or_assoc]
          obtain ⟨K2, hK2⟩ : ∃ K2, K2 = (K1 || (W.map wdB).contains keepS) := ⟨_, rfl⟩
          rw [← hK2] at HN2 ⊢
          have HBz := hid (HBr2.out.trans (HBq.out.mono HBr2.out.size))
          clear hK2 hcl hBq
          go_wp2
          go_roundw
          case rel => exact ⟨k + 1, by omega, by go_num, by rw [HN2.out], HN1.out, HBz.out⟩
          case measure => simp [intOf]; omega
    · have hlt' : ¬ (k : Int) < (ys.length : Int) := by omega
      rw [List.take_of_length_le (by omega)] at hcl ⊢
      have HV : Hid (V = !(K0 || (wordsL ys).contains keepS)) := by
        unfold Hid
        rw [HE.out, hcl, HK.out]
        by_cases h0 : m = 0
        · subst h0; simp
        · simp [h0]
      obtain ⟨K2, hK2⟩ : ∃ K2, K2 = (K0 || (wordsL ys).contains keepS) := ⟨_, rfl⟩
      rw [← hK2] at HV ⊢
      clear hK2 hcl hBr
      go_wp2
      go_ret
      exact ⟨by rw [HV.out]; cases K2 <;> rfl, HBw.out⟩
end Go.Proofs.YtllhibdjopfcnaaGreatDoor
