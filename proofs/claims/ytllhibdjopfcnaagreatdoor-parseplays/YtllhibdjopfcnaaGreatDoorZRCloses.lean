/-
  Whether the connection ends: the document's.
-/
import Derived.Test.YtllhibdjopfcnaaGreatDoorZRLeaf
import Derived.Test.YtllhibdjopfcnaaGreatDoorZHParse
namespace Go.Proofs.YtllhibdjopfcnaaGreatDoor
open Go.RowKit
set_option linter.unusedVariables false

theorem splitC_whole {c : UInt8} : ∀ {a : List UInt8}, c ∉ a → splitC c a = [a]
  | [], _ => rfl
  | b :: r, h => by
    have hb : b ≠ c := fun e => h (by simp [e])
    have hr : c ∉ r := fun e => h (by simp [e])
    rw [splitC, if_neg hb, splitC_whole hr]
    rfl
theorem splitC_piece {c : UInt8} : ∀ {a r : List UInt8}, c ∉ a → splitC c (a ++ c :: r) = a :: splitC c r
  | [], r, _ => by simp [splitC]
  | b :: a, r, h => by
    have hb : b ≠ c := fun e => h (by simp [e])
    have hr : c ∉ a := fun e => h (by simp [e])
    rw [List.cons_append, splitC, if_neg hb, splitC_piece hr]
    rfl
/-- How far the words of a text are seen: those of D, from 'from' none ends ahead of k. -/
def Seen (x : List UInt8) (D : List (List UInt8)) (fr k : Nat) : Prop :=
  (k ≤ x.length ∧ fr ≤ k ∧ splitC 44 x = D ++ splitC 44 (x.drop fr) ∧ 44 ∉ (x.drop fr).take (k - fr)) ∨ (k = x.length + 1 ∧ fr = x.length + 1 ∧ splitC 44 x = D)
theorem Seen.start (x : List UInt8) : Seen x [] 0 0 := Or.inl ⟨Nat.zero_le _, Nat.le_refl _, by simp, by simp⟩
theorem take_more {x : List UInt8} {fr k : Nat} (hfk : fr ≤ k) (hk : k < x.length) : (x.drop fr).take (k + 1 - fr) = (x.drop fr).take (k - fr) ++ [x[k]] := by
  rw [show k + 1 - fr = (k - fr) + 1 by omega, List.take_succ_eq_append_getElem (by rw [List.length_drop]; omega), List.getElem_drop]
  simp [show fr + (k - fr) = k by omega]
theorem Seen.next {x : List UInt8} {D : List (List UInt8)} {fr k : Nat} (h : Seen x D fr k) (hk : k < x.length) (hc : x[k] ≠ 44) : Seen x D fr (k + 1) := by
  rcases h with ⟨h1, h2, h3, h4⟩ | ⟨h1, _⟩
  · refine Or.inl ⟨by omega, by omega, h3, ?_⟩
    rw [take_more h2 hk, List.mem_append]
    intro e
    rcases e with e | e
    · exact h4 e
    · simp at e; exact hc e.symm
  · omega
theorem Seen.word {x : List UInt8} {D : List (List UInt8)} {fr k : Nat} (h : Seen x D fr k) (hk : k < x.length) (hc : x[k] = 44) : Seen x (D ++ [(x.drop fr).take (k - fr)]) (k + 1) (k + 1) := by
  rcases h with ⟨h1, h2, h3, h4⟩ | ⟨h1, _⟩
  · refine Or.inl ⟨by omega, Nat.le_refl _, ?_, by simp⟩
    have e : x.drop fr = (x.drop fr).take (k - fr) ++ 44 :: x.drop (k + 1) := by
      have e2 : (x.drop fr).drop (k - fr) = 44 :: x.drop (k + 1) := by
        rw [List.drop_drop, show fr + (k - fr) = k by omega, List.drop_eq_getElem_cons hk, hc]
      rw [← e2, List.take_append_drop]
    rw [h3, e, splitC_piece h4]
    rw [List.append_assoc]
    congr 1
    rw [← e]
    rfl
  · omega
theorem Seen.last {x : List UInt8} {D : List (List UInt8)} {fr k : Nat} (h : Seen x D fr k) (hk : k = x.length) : Seen x (D ++ [(x.drop fr).take (k - fr)]) (k + 1) (k + 1) := by
  rcases h with ⟨h1, h2, h3, h4⟩ | ⟨h1, _⟩
  · subst hk
    refine Or.inr ⟨rfl, rfl, ?_⟩
    have e : (x.drop fr).take (x.length - fr) = x.drop fr := List.take_of_length_le (by rw [List.length_drop]; exact Nat.le_refl _)
    rw [e] at h4 ⊢
    rw [h3, splitC_whole h4]
  · omega
theorem Seen.sub {x : List UInt8} {D : List (List UInt8)} {fr k : Nat} (h : Seen x D fr k) : ∃ r, splitC 44 x = D ++ r := by
  rcases h with ⟨_, _, h3, _⟩ | ⟨_, _, h3⟩
  · exact ⟨_, h3⟩
  · exact ⟨[], by rw [h3]; simp⟩
theorem Seen.all {x : List UInt8} {D : List (List UInt8)} {fr k : Nat} (h : Seen x D fr k) (hk : ¬ k ≤ x.length) : splitC 44 x = D := by
  rcases h with ⟨h1, _⟩ | ⟨_, _, h3⟩
  · exact absurd h1 hk
  · exact h3
theorem Seen.le {x : List UInt8} {D : List (List UInt8)} {fr k : Nat} (h : Seen x D fr k) : fr ≤ k ∧ k ≤ x.length + 1 := by
  rcases h with ⟨h1, h2, _⟩ | ⟨h1, h2, _⟩ <;> omega
set_option maxRecDepth 20000 in
set_option maxHeartbeats 4000000 in
theorem rcloses_any (h : HeadL) (a b v : Value) (w : World) (hS : SeesP w v h.2.2.2) (hl : h.2.2.2.length ≤ 1048576) (hb : ∀ p ∈ h.2.2.2, p.2.length ≤ 1048576) :
    Calls Tryz.prog 30 #[.agg #[a, b, .int .i64 h.2.2.1, v]] w fun e w' => e = .returned (.bool (closesL h)) ∧ Below w.heap.size w w' := by
  rw [closesL_F]
  obtain ⟨fs, hfs⟩ : ∃ fs, fs = h.2.2.2 := ⟨_, rfl⟩
  obtain ⟨m, hm⟩ : ∃ m, m = h.2.2.1 := ⟨_, rfl⟩
  rw [← hfs] at hS hl hb
  rw [← hfs, ← hm]
  clear hfs hm
  have hV := rvalues_any a b (.int .i64 m) v fs cnS (w.alloc (.cells #[a, b, .int .i64 m, v] 34)) (hS.below (below_alloc w _)) hl (by decide)
  rw [show small cnS = cnS by decide] at hV
  have hH0 := HeadAt.new w a b (.int .i64 m) v
  have hB0 := below_alloc w (.cells #[a, b, .int .i64 m, v] 34)
  obtain ⟨w0, hw0⟩ : ∃ w0, w0 = w.alloc (.cells #[a, b, .int .i64 m, v] 34) := ⟨_, rfl⟩
  have hsz0 : w0.heap.size = w.heap.size + 1 := by rw [hw0]; simp
  rw [← hw0] at hV hH0 hB0
  have HW0 := hid hw0
  have HB0 := hid hB0
  have HH0 := hid hH0
  have hb1 := valsF_bound (nm := cnS) hb
  have hl1 : (valsF fs cnS).length ≤ fs.length := by unfold valsF; rw [List.length_map]; exact List.length_filter_le _ _
  obtain ⟨ys, hys⟩ : ∃ ys, ys = valsF fs cnS := ⟨_, rfl⟩
  rw [← hys] at hV hb1 hl1 ⊢
  rw [show (⟨cnS.toArray⟩ : ByteArray) = ⟨#[99, 111, 110, 110, 101, 99, 116, 105, 111, 110]⟩ from rfl] at hV
  obtain ⟨V, hVe⟩ : ∃ V, V = ((wordsL ys).contains closeS || (decide (m = 0) && !(wordsL ys).contains keepS)) := ⟨_, rfl⟩
  rw [← hVe]
  have HE := hid hVe
  have HBd := hid hb1
  obtain ⟨z0, z1, z2, z3, _, _, _, _⟩ := hH0.cells
  clear hw0 hH0 hys hS hB0 hb hb1 hVe
  go_enter Tryz.func30, Tryz.ntmps30
  go_wp2_with (first | rw [← HW0.out] | fail)
  refine hV.mono ?_
  clear hV
  rintro e w1 ⟨v1, rfl, hO1, hB1⟩
  obtain ⟨ao1, cap1, rfl⟩ := hO1.shape
  have HB1 := hid (HB0.out.trans (hB1.mono HB0.out.size))
  have HS1 := hid hO1.sees
  have HH1 := hid (HH0.out.below hB1 HH0.out.lt)
  clear hB1 hO1 HB0 HH0
  go_wp2_with fail
  go_loopw [3, 5] (fun kp i wr => ∃ (k : Nat), k ≤ ys.length ∧ i = .int .i64 (k : Int) ∧ kp = .bool ((wordsL (ys.take k)).contains keepS) ∧ (wordsL (ys.take k)).contains closeS = false ∧ Below w1.heap.size w1 wr) (fun _ i _ => ys.length - (intOf i).toNat)
  case atStart => exact ⟨0, Nat.zero_le _, rfl, by simp [wordsL], by simp [wordsL], Below.refl _ _⟩
  case round =>
    obtain ⟨k, hk, rfl, rfl, hcl, hBr⟩ := hrel
    have HBr := hid hBr
    have HBw := hid (HB1.out.trans (hBr.mono HB1.out.size))
    by_cases hlt : k < ys.length
    · have hlt' : (k : Int) < (ys.length : Int) := by omega
      obtain ⟨bb, off, ao, cap, hv, hcap, _, hao, hcell⟩ := HS1.out
      obtain ⟨rfl, rfl⟩ : ao1 = ao ∧ cap1 = cap := by simpa using hv
      obtain rfl := hao (by intro h; rw [h] at hlt; simp at hlt)
      have d1 := hcell k hlt
      have hbl := World.block_lt_of_cell? w1 _ d1
      unfold strV at d1
      have hxl := HBd.out _ (List.getElem_mem hlt)
      have hwt := wordsL_take hlt
      obtain ⟨rr, hwm⟩ := wordsL_more hlt
      obtain ⟨x, hx⟩ : ∃ x, x = ys[k] := ⟨_, rfl⟩
      rw [← hx] at d1 hxl hwt hwm
      obtain ⟨W, hW⟩ : ∃ W, W = splitC 44 x := ⟨_, rfl⟩
      rw [← hW] at hwt hwm
      obtain ⟨S, hS⟩ : ∃ S, S = wordsL (ys.take k) := ⟨_, rfl⟩
      rw [← hS] at hcl hwt hwm ⊢
      have HWT : Hid (∀ z, (wordsL (ys.take (k + 1))).contains z = (S.contains z || (W.map wdB).contains z)) := by
        intro z
        rw [hwt, contains_app]
      have HWM : Hid (closeS ∈ W.map wdB → V = true) := by
        intro hm
        rw [HE.out, hwm]
        simp [hm]
      obtain ⟨K1, hK1⟩ : ∃ K1, K1 = S.contains keepS := ⟨_, rfl⟩
      rw [← hK1]
      have HK1 := hid hK1
      have HCl := hid hcl
      have HW := hid hW
      clear hx hW hS hcl hwt hwm hK1 hv hao hcell hBr
      go_wp2_with fail
      go_loopw [3, 6, 7] (fun kp fr i wq => ∃ (D : List (List UInt8)) (f j : Nat), Seen x D f j ∧ fr = .int .i64 (f : Int) ∧ i = .int .i64 (j : Int) ∧ kp = .bool (K1 || (D.map wdB).contains keepS) ∧ (D.map wdB).contains closeS = false ∧ Below w1.heap.size w1 wq) (fun _ _ i _ => x.length + 1 - (intOf i).toNat)
      case atStart => exact ⟨[], 0, 0, Seen.start x, rfl, rfl, by simp, by simp, HBr.out⟩
      case round =>
        obtain ⟨D, f, j, hSn, rfl, rfl, rfl, hcl, hBq⟩ := hrel
        have HBq := hid hBq
        have d2 := (hBq.cell hbl).trans d1
        have HSn := hid hSn
        have hfj := hSn.le
        obtain ⟨K2, hK2⟩ : ∃ K2, K2 = (K1 || (D.map wdB).contains keepS) := ⟨_, rfl⟩
        rw [← hK2]
        have HK2 := hid hK2
        have HC2 := hid hcl
        clear hSn hK2 hcl hBq
        by_cases hjl : j ≤ x.length
        · have hjl' : (j : Int) ≤ (x.length : Int) := by omega
          have hex : (⟨x.toArray⟩ : ByteArray).extract f j = ⟨((x.drop f).take (j - f)).toArray⟩ := by
            apply ByteArray.ext
            apply Array.ext'
            simp
          have hyl : ((x.drop f).take (j - f)).length ≤ x.length := by rw [List.length_take, List.length_drop]; omega
          have HNXT := hid (fun hlt hc => HSn.out.next (k := j) hlt hc)
          have HWRD : Hid ((∀ h : j < x.length, x[j] = 44) → Seen x (D ++ [(x.drop f).take (j - f)]) (j + 1) (j + 1)) := by
            intro hh
            by_cases hj2 : j < x.length
            · exact HSn.out.word hj2 (hh hj2)
            · exact HSn.out.last (by omega)
          obtain ⟨y, hy⟩ : ∃ y, y = (x.drop f).take (j - f) := ⟨_, rfl⟩
          rw [← hy] at hex hyl HWRD
          have hTr := rtrim_any y wr (by omega)
          have htl := trimB_le y
          obtain ⟨u, hu⟩ : ∃ u, u = trimB y := ⟨_, rfl⟩
          have hwd : wdB y = small u := by rw [hu]; rfl
          rw [show Lib.trimS y [32, 9] = u from hu.symm] at hTr
          rw [← hu] at htl
          have hSm := rsmall_any u wr (by omega)
          obtain ⟨q, hq⟩ : ∃ q, q = small u := ⟨_, rfl⟩
          rw [← hq] at hwd hSm
          have HNX : Hid (∀ z, ((D ++ [y]).map wdB).contains z = ((D.map wdB).contains z || (q == z))) := by
            intro z
            rw [List.map_append, contains_app, show [y].map wdB = [q] by rw [← hwd]; rfl, contains_one]
          have HHT : Hid (Seen x (D ++ [y]) (j + 1) (j + 1) → q ∈ W.map wdB) := by
            intro hs
            obtain ⟨r, hr⟩ := hs.sub
            rw [HW.out, hr, ← hwd]
            simp
          clear hy hu hwd hq
          by_cases hj2 : j < x.length
          · have hj2' : (j : Int) < (x.length : Int) := by omega
            have i1 := index_byte (⟨x.toArray⟩ : ByteArray) .i64 (j : Int) j rfl (by rw [size_list]; exact hj2)
            rw [show (⟨x.toArray⟩ : ByteArray)[j]'(by rw [size_list]; exact hj2) = x[j] from rfl] at i1
            have hn := HNXT.out hj2
            have hwr : x[j] = 44 → Seen x (D ++ [y]) (j + 1) (j + 1) := fun e => HWRD.out (fun _ => e)
            obtain ⟨c, hc⟩ : ∃ c, c = x[j] := ⟨_, rfl⟩
            rw [← hc] at i1 hn hwr
            clear hc HNXT HWRD
            by_cases h44 : c = 44
            · have h44' : ((c.toNat : Int) != 44) = false := by rw [h44]; decide
              have HS2 := hid (hwr h44)
              clear hn hwr h44
              go_wp2_with fail
              refine hTr.mono ?_
              clear hTr
              rintro e w3 ⟨rfl, rfl⟩
              go_wp2_with fail
              refine hSm.mono ?_
              clear hSm
              rintro e w4 ⟨rfl, hB4⟩
              have HB4 := hid (HBq.out.trans (hB4.mono HBq.out.size))
              clear hB4
              obtain ⟨C1, hC1⟩ : ∃ C1, (q == [99, 108, 111, 115, 101]) = C1 := ⟨_, rfl⟩
              obtain ⟨C2, hC2⟩ : ∃ C2, (q == [107, 101, 101, 112, 45, 97, 108, 105, 118, 101]) = C2 := ⟨_, rfl⟩
              cases C1 with
              | true =>
                have HV : Hid (V = true) := hid (HWM.out (by have := beq_iff_eq.1 hC1; rw [show closeS = q from this.symm]; exact HHT.out HS2.out))
                have HBz := hid (HB1.out.trans (HB4.out.mono HB1.out.size))
                go_wp2
                go_ret
                exact ⟨by rw [HV.out]; rfl, HBz.out⟩
              | false =>
                have HN1 : Hid (((D ++ [y]).map wdB).contains closeS = false) := by
                  unfold Hid
                  rw [HNX.out, HC2.out]
                  exact hC1
                have HN2 : Hid ((K1 || ((D ++ [y]).map wdB).contains keepS) = (K2 || C2)) := by
                  unfold Hid
                  rw [HNX.out, HK2.out, ← hC2, Bool.or_assoc]
                  rfl
                clear HK2
                cases K2 with
                | true =>
                  go_wp2
                  go_roundw
                  case rel => exact ⟨D ++ [y], j + 1, j + 1, HS2.out, by go_num, by go_num, by rw [HN2.out]; rfl, HN1.out, HB4.out⟩
                  case measure => simp [intOf]; omega
                | false =>
                  go_wp2
                  go_roundw
                  case rel => exact ⟨D ++ [y], j + 1, j + 1, HS2.out, by go_num, by go_num, by rw [HN2.out]; rfl, HN1.out, HB4.out⟩
                  case measure => simp [intOf]; omega
            · have h44' : ((c.toNat : Int) != 44) = true := by
                rw [bne_iff_ne]
                intro e
                apply h44
                have := byte_is (b := c) (n := 44) (by rw [beq_iff_eq]; exact e)
                simpa using this
              have HS2 := hid (hn h44)
              clear hn hwr h44 hTr hSm
              go_wp2
              go_roundw
              case rel => exact ⟨D, f, j + 1, HS2.out, rfl, by go_num, by rw [HK2.out], HC2.out, HBq.out⟩
              case measure => simp [intOf]; omega
          · have hj2' : ¬ (j : Int) < (x.length : Int) := by omega
            have HS2 := hid (HWRD.out (fun h => absurd h hj2))
            clear HNXT HWRD
            go_wp2_with fail
            refine hTr.mono ?_
            clear hTr
            rintro e w3 ⟨rfl, rfl⟩
            go_wp2_with fail
            refine hSm.mono ?_
            clear hSm
            rintro e w4 ⟨rfl, hB4⟩
            have HB4 := hid (HBq.out.trans (hB4.mono HBq.out.size))
            clear hB4
            obtain ⟨C1, hC1⟩ : ∃ C1, (q == [99, 108, 111, 115, 101]) = C1 := ⟨_, rfl⟩
            obtain ⟨C2, hC2⟩ : ∃ C2, (q == [107, 101, 101, 112, 45, 97, 108, 105, 118, 101]) = C2 := ⟨_, rfl⟩
            cases C1 with
            | true =>
              have HV : Hid (V = true) := hid (HWM.out (by have := beq_iff_eq.1 hC1; rw [show closeS = q from this.symm]; exact HHT.out HS2.out))
              have HBz := hid (HB1.out.trans (HB4.out.mono HB1.out.size))
              go_wp2
              go_ret
              exact ⟨by rw [HV.out]; rfl, HBz.out⟩
            | false =>
              have HN1 : Hid (((D ++ [y]).map wdB).contains closeS = false) := by
                unfold Hid
                rw [HNX.out, HC2.out]
                exact hC1
              have HN2 : Hid ((K1 || ((D ++ [y]).map wdB).contains keepS) = (K2 || C2)) := by
                unfold Hid
                rw [HNX.out, HK2.out, ← hC2, Bool.or_assoc]
                rfl
              clear HK2
              cases K2 with
              | true =>
                go_wp2
                go_roundw
                case rel => exact ⟨D ++ [y], j + 1, j + 1, HS2.out, by go_num, by go_num, by rw [HN2.out]; rfl, HN1.out, HB4.out⟩
                case measure => simp [intOf]; omega
              | false =>
                go_wp2
                go_roundw
                case rel => exact ⟨D ++ [y], j + 1, j + 1, HS2.out, by go_num, by go_num, by rw [HN2.out]; rfl, HN1.out, HB4.out⟩
                case measure => simp [intOf]; omega
        · have hjl' : ¬ (j : Int) ≤ (x.length : Int) := by omega
          have hall := HSn.out.all hjl
          rw [← HW.out] at hall
          subst hall
          have HN1 : Hid ((wordsL (ys.take (k + 1))).contains closeS = false) := by
            unfold Hid
            rw [HWT.out, HCl.out, HC2.out]
            rfl
          have HN2 : Hid ((wordsL (ys.take (k + 1))).contains keepS = K2) := by
            unfold Hid
            rw [HWT.out, HK2.out, HK1.out]
          go_wp2
          go_roundw
          case rel => exact ⟨k + 1, by omega, by go_num, by rw [HN2.out], HN1.out, HBq.out⟩
          case measure => simp [intOf]; omega
    · have hlt' : ¬ (k : Int) < (ys.length : Int) := by omega
      rw [List.take_of_length_le (by omega)] at hcl ⊢
      have HV : Hid (V = (decide (m = 0) && !(wordsL ys).contains keepS)) := by
        unfold Hid
        rw [HE.out, hcl]
        rfl
      obtain ⟨K2, hK2⟩ : ∃ K2, K2 = (wordsL ys).contains keepS := ⟨_, rfl⟩
      rw [← hK2] at HV ⊢
      obtain ⟨r0, r1, r2, r3, _, _, _, _⟩ := (HH1.out.below hBr HH1.out.lt).cells
      clear hK2 hcl hBr
      by_cases h0 : m = 0
      · have h0' : (m == 0) = true := by rw [beq_iff_eq]; exact h0
        rw [decide_eq_true h0] at HV
        clear h0
        go_wp2
        go_ret
        exact ⟨by rw [HV.out]; rfl, HBw.out⟩
      · have h0' : (m == 0) = false := by rw [beq_eq_false_iff_ne]; exact h0
        rw [decide_eq_false h0] at HV
        clear h0
        go_wp2
        go_ret
        exact ⟨by rw [HV.out]; rfl, HBw.out⟩
end Go.Proofs.YtllhibdjopfcnaaGreatDoor
