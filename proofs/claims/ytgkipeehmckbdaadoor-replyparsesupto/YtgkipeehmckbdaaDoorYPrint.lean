/-
  Print of the code.
-/
import Derived.Test.YtgkipeehmckbdaaDoorPut
namespace Go.Proofs.YtgkipeehmckbdaaDoor
open Go.RowKit
set_option linter.unusedVariables false

set_option maxRecDepth 20000 in
set_option maxHeartbeats 16000000 in
theorem print_any (r : RespL) (v : Value) (w : World) (hI : ItoaAt w) (hTb : Tab w) (hS : SeesP w v r.2.1) (hb : ∀ p ∈ r.2.1, p.1.length ≤ 1000000000 ∧ p.2.length ≤ 1000000000) (hl : r.2.1.length ≤ 1000000000) :
    Calls Tryd.prog 7 #[rspV r v] w fun e w' => e = .returned (.tuple #[.string ⟨((prnY r).getD []).toArray⟩, .int .i64 (if (prnY r).isSome = true then 0 else 90)]) ∧ Below w.heap.size w w' := by
  have hB0 := below_alloc w (.cells #[.int .i64 r.1, v, .string ⟨r.2.2.1.toArray⟩, .bool r.2.2.2] 24)
  have hMy := mayBe_any r v (w.alloc (.cells #[.int .i64 r.1, v, .string ⟨r.2.2.1.toArray⟩, .bool r.2.2.2] 24)) (hS.below hB0) hb hl
  have hpr : prnY r = if mayY r = true then some (textY r) else none := rfl
  have hok := fun h => @mayY_ok r h
  have htx : textY r = lineY r.1 ++ 13 :: 10 :: (joinE (r.2.1.map rawOf) ++ tailY r) := rfl
  obtain ⟨n, fs, T, c⟩ := r
  simp only [rspV] at hS hb hl hB0 hMy ⊢
  have hH0 := RspAt.new w (.int .i64 n) v (.string ⟨T.toArray⟩) (.bool c)
  obtain ⟨w0, hw0⟩ : ∃ w0, w0 = w.alloc (.cells #[.int .i64 n, v, .string ⟨T.toArray⟩, .bool c] 24) := ⟨_, rfl⟩
  rw [← hw0] at hB0 hH0 hMy
  obtain ⟨M, hM⟩ : ∃ M, M = mayY (n, fs, T, c) := ⟨_, rfl⟩
  rw [← hM] at hMy hpr hok
  have HW0 := hid hw0
  have HH0 := hid hH0
  have HB0 := hid hB0
  obtain ⟨z0, z1, z2, z3, _, _, _, _⟩ := hH0.cells
  have hTs : (⟨T.toArray⟩ : ByteArray).size = T.length := size_list T
  cases M with
  | false =>
    rw [if_neg (by simp)] at hpr
    rw [hpr]
    clear hw0 hH0 hB0 hS hb hl hpr hok htx hM hTs hI hTb
    go_enter Tryd.func7, Tryd.ntmps7
    go_wp2_with (first | rw [← HW0.out] | fail)
    refine hMy.mono ?_
    clear hMy
    rintro e w1 ⟨rfl, hB1⟩
    have HB1 := hid (HB0.out.trans (hB1.mono HB0.out.size))
    clear hB1
    go_wp2
    go_ret2
    exact ⟨rfl, HB1.out⟩
  | true =>
    obtain ⟨⟨k1, k2, k3, k4⟩, _⟩ := hok rfl
    simp only at k1 k2 k3 k4
    rw [if_pos rfl] at hpr
    rw [hpr]
    simp only [Option.getD_some, Option.isSome_some, if_true]
    have hRl := reason_len n
    obtain ⟨D, hD⟩ : ∃ D, D = Lib.itoa n := ⟨_, rfl⟩
    obtain ⟨E, hE⟩ : ∃ E, E = Lib.itoa (T.length : Int) := ⟨_, rfl⟩
    have hDl : D.length ≤ 7 := by rw [hD]; exact itoa_len9 (by omega) (by omega)
    have hEl : E.length ≤ 7 := by rw [hE]; exact itoa_len9 (by omega) (by omega)
    have HI := hid (fun W (hW : Below w.heap.size w W) => hI n W (by omega) (by omega) hW)
    have HJ := hid (fun W (hW : Below w.heap.size w W) => hI (T.length : Int) W (by omega) (by omega) hW)
    have HRo := hid (fun W (hW : Below w.heap.size w W) => reasonOr_any n W (hTb.below hW))
    rw [← hD] at HI
    rw [← hE] at HJ
    obtain ⟨RR, hRR⟩ : ∃ RR, RR = reasonO n := ⟨_, rfl⟩
    rw [← hRR] at hRl HRo
    obtain ⟨WD, hWD⟩ : ∃ WD, WD = wordY c := ⟨_, rfl⟩
    have hWl : WD.length ≤ 10 := by rw [hWD]; cases c <;> decide
    have HCn := hid (fun W => connection_any c W)
    rw [← hWD] at HCn
    obtain ⟨TX, hTX⟩ : ∃ TX, TX = textY (n, fs, T, c) := ⟨_, rfl⟩
    rw [← hTX]
    obtain ⟨HW, hHW⟩ : ∃ HW : List UInt8, HW = [v11, [32], D, [32], RR, [13, 10]].flatten := ⟨_, rfl⟩
    have hHl : HW.length ≤ 100 := by rw [hHW]; simp [v11]; omega
    have HTX : Hid (TX = HW ++ joinE (fs.map rawOf) ++ [clS, [58, 32], E, [13, 10]].flatten ++ [cnS, [58, 32], WD, [13, 10]].flatten ++ [[13, 10], T].flatten) := by
      unfold Hid
      rw [hTX, htx, hHW, hD, hE, hRR, hWD]
      simp [lineY, tailY, clY, cnY]
    have HHW := hid hHW
    obtain ⟨bb, off, ao, cap, rfl, hcap, _, hao, hcell⟩ := hS
    have HC := hid hcell
    have HBd := hid hb
    clear hw0 hH0 hB0 hb hpr hok htx hM hI hTb hD hE hTX hHW hcell hRR hWD k1 k2 hl
    go_enter Tryd.func7, Tryd.ntmps7
    go_wp2_with (first | rw [← HW0.out] | fail)
    refine hMy.mono ?_
    clear hMy
    rintro e w1 ⟨rfl, hB1⟩
    have hB01 := HB0.out.trans (hB1.mono HB0.out.size)
    have HH1 := hid (HH0.out.below hB1 HH0.out.lt)
    have hqw : w.heap.size < w1.heap.size := HH1.out.lt
    have HB1 := hid hB01
    have hV0 : VarAt 40 (w1.alloc (.cells #[.slice none 0 0] 40)) w1.heap.size (.slice none 0 0) := heap_alloc_new w1 _
    have hBq := below_alloc w1 (.cells #[.slice none 0 0] 40)
    obtain ⟨wq, hwq⟩ : ∃ wq, wq = w1.alloc (.cells #[.slice none 0 0] 40) := ⟨_, rfl⟩
    rw [← hwq] at hV0 hBq
    have HWQ := hid hwq
    have HV0 := hid hV0
    obtain ⟨p0, p1, p2, p3, _, _, _, _⟩ := (HH1.out.below hBq HH1.out.lt).cells
    have HBq := hid hBq
    have hqlt := hV0.lt
    clear hB1 hB01 hwq hV0 hBq z0 z1 z2 z3 HH0 HB0 HW0
    go_wp2_with (first | rw [← HWQ.out] | fail)
    have HK : Hid (∀ W W' : World, Below w1.heap.size W W' → (Below w1.heap.size w1 W ∧ w1.heap.size < W.heap.size ∧ W.cell? ⟨w.heap.size, 0, none⟩ = some (.int .i64 n)) → (Below w1.heap.size w1 W' ∧ w1.heap.size < W'.heap.size ∧ W'.cell? ⟨w.heap.size, 0, none⟩ = some (.int .i64 n))) := by
      intro W W' hb ⟨s1, s2, c0⟩
      exact ⟨s1.trans hb, Nat.lt_of_lt_of_le s2 hb.size, (hb.cell (by simpa using hqw)).trans c0⟩
    have HK1 : Hid (∀ W W' : World, Below W.heap.size W W' → (Below w1.heap.size w1 W ∧ w1.heap.size < W.heap.size ∧ W.cell? ⟨w.heap.size, 0, none⟩ = some (.int .i64 n)) → (Below w1.heap.size w1 W' ∧ w1.heap.size < W'.heap.size ∧ W'.cell? ⟨w.heap.size, 0, none⟩ = some (.int .i64 n))) := fun W W' hb hs => HK.out W W' (hb.mono (Nat.le_of_lt hs.2.1)) hs
    have HKa : Hid (∀ (W : World) (o : Obj), (fun W => Below w1.heap.size w1 W ∧ w1.heap.size < W.heap.size ∧ W.cell? ⟨w.heap.size, 0, none⟩ = some (.int .i64 n)) W → (fun W => Below w1.heap.size w1 W ∧ w1.heap.size < W.heap.size ∧ W.cell? ⟨w.heap.size, 0, none⟩ = some (.int .i64 n)) (W.alloc o)) := fun W o hs => HK1.out W _ (below_alloc W o) hs
    have HZ : Hid (∀ W, (Below w1.heap.size w1 W ∧ w1.heap.size < W.heap.size ∧ W.cell? ⟨w.heap.size, 0, none⟩ = some (.int .i64 n)) → Below w.heap.size w W) := fun W hs => HB1.out.trans (hs.1.mono (Nat.le_of_lt hqw))
    go_region_held3 (fun W => Below w1.heap.size w1 W ∧ w1.heap.size < W.heap.size ∧ W.cell? ⟨w.heap.size, 0, none⟩ = some (.int .i64 n)) (first | (exact ⟨Below.drew HBq.out, hqlt, p0⟩) | (exact HK1.out _ _ (by assumption) (by assumption)) | (exact HKa.out _ _ (by assumption)) | (exact HK.out _ _ (by assumption) (by assumption)))
      (first
        | (go_at_call 20
           refine (HI.out _ (HZ.out _ (by assumption))).mono ?_
           rintro e' wa ⟨rfl, hBa⟩
           have HVa := hid ((HV0.out.below (Below.drew (Below.refl wq.heap.size wq)) HV0.out.lt).below hBa HV0.out.lt))
        | (go_at_call 21
           refine (HRo.out _ (HZ.out _ (by assumption))).mono ?_
           rintro e' wb ⟨rfl, hBb⟩
           have HVb := hid (HVa.out.below hBb HVa.out.lt))
        | (go_at_call 19
           refine (put_any [v11, [32], D, [32], RR, [13, 10]] wb.heap.size w1.heap.size (.slice none 0 0) [] (wb.alloc (.cells #[.string ⟨#[72, 84, 84, 80, 47, 49, 46, 49]⟩, .string ⟨#[32]⟩, .string ⟨D.toArray⟩, .string ⟨#[32]⟩, .string ⟨RR.toArray⟩, .string ⟨#[13, 10]⟩] 9)) (heap_alloc_new wb _) (HVb.out.below (below_alloc wb _) HVb.out.lt) (OwnsB.nil _ _) (Nat.ne_of_lt HVb.out.lt) (by simp) (by rw [← HHW.out]; simp; omega)).mono ?_
           rintro e' w2 ⟨rfl, v2, hV2, hO2, hB2⟩
           rw [← HHW.out, List.nil_append] at hO2
           have HV2 := hid hV2
           have HO2 := hid hO2
           clear hV2 hO2))
    obtain ⟨hS1, _, _⟩ : (fun W => Below w1.heap.size w1 W ∧ w1.heap.size < W.heap.size ∧ W.cell? ⟨w.heap.size, 0, none⟩ = some (.int .i64 n)) w2 := by assumption
    have HB2 := hid hS1
    clear hS1
    all_goals
      obtain ⟨y0, y1, y2, y3, _, _, _, _⟩ := (HH1.out.below HB2.out hqw).cells
      clear HK HK1 HKa hBa hBb hB2 HI HRo HVa HVb HV0 HBq HWQ HZ p0 p1 p2 p3
      go_wp2_with fail
      go_loopw [24] (fun i wr => ∃ (k : Nat) (u : Value), k ≤ fs.length ∧ i = .int .i64 (k : Int) ∧ VarAt 40 wr w1.heap.size u ∧ OwnsB wr (w1.heap.size + 1) u (HW ++ joinE ((fs.take k).map rawOf)) ∧ Below w1.heap.size w1 wr) (fun i _ => fs.length - (intOf i).toNat)
      case atStart => exact ⟨0, _, Nat.zero_le _, rfl, HV2.out, by simpa [joinE] using HO2.out, HB2.out⟩
      case round =>
        obtain ⟨k, u, hk, rfl, hV, hO, hB⟩ := hrel
        have hlen : (HW ++ joinE ((fs.take k).map rawOf)).length ≤ 100000000000 := by
          have := join_take_le (fs := fs) (c := 2000000004) (fun p hp => by have := HBd.out p hp; omega) k
          rw [List.length_append]
          have h2 : k * 2000000004 ≤ 32 * 2000000004 := Nat.mul_le_mul_right _ (by omega)
          omega
        obtain ⟨out, hout⟩ : ∃ out, out = HW ++ joinE ((fs.take k).map rawOf) := ⟨_, rfl⟩
        rw [← hout] at hO hlen
        have HOut := hid hout
        clear hout
        obtain ⟨uo, uc, rfl⟩ : ∃ ao cap, u = .slice ao out.length cap := OwnsB.shape hO
        have hB0 := HB1.out.trans (hB.mono (Nat.le_of_lt hqw))
        by_cases hlt : k < fs.length
        · have hlt' : (k : Int) < (fs.length : Int) := by omega
          obtain rfl := hao (by intro h; rw [h] at hlt; simp at hlt)
          obtain ⟨d1, d2⟩ := HC.out k hlt
          have d1 := (hB0.cell (World.block_lt_of_cell? w _ d1)).trans d1
          have d2 := (hB0.cell (World.block_lt_of_cell? w _ d2)).trans d2
          unfold strV at d1 d2
          obtain ⟨hp1, hp2⟩ := HBd.out _ (List.getElem_mem hlt)
          have hnx := join_next hlt
          obtain ⟨P, hP⟩ : ∃ P, P = fs[k] := ⟨_, rfl⟩
          rw [← hP] at d1 d2 hp1 hp2 hnx
          obtain ⟨P1, P2⟩ := P
          simp only at d1 d2 hp1 hp2
          have HNX := hid hnx
          have HVk := hid (hV.below (below_alloc wr (.cells #[.string ⟨P1.toArray⟩, .string ⟨P2.toArray⟩] 45)) hV.lt)
          have HOk := hid (hO.below (below_alloc wr (.cells #[.string ⟨P1.toArray⟩, .string ⟨P2.toArray⟩] 45)))
          have HBk := hid (hB.trans ((below_alloc wr (.cells #[.string ⟨P1.toArray⟩, .string ⟨P2.toArray⟩] 45)).mono hB.size))
          have pz1 : (wr.alloc (.cells #[.string ⟨P1.toArray⟩, .string ⟨P2.toArray⟩] 45)).cell? ⟨wr.heap.size, 0, none⟩ = some (.string ⟨P1.toArray⟩) := by simp
          have pz2 : (wr.alloc (.cells #[.string ⟨P1.toArray⟩, .string ⟨P2.toArray⟩] 45)).cell? ⟨wr.heap.size, 1, none⟩ = some (.string ⟨P2.toArray⟩) := by simp
          obtain ⟨wz, hwz⟩ : ∃ wz, wz = wr.alloc (.cells #[.string ⟨P1.toArray⟩, .string ⟨P2.toArray⟩] 45) := ⟨_, rfl⟩
          have hszz : wz.heap.size = wr.heap.size + 1 := by rw [hwz]; simp
          rw [← hwz] at HVk HOk HBk pz1 pz2
          have HWZ := hid hwz
          clear hP hV hO hB hB0 hnx hwz
          go_wp2_with fail
          rw [← HWZ.out]
          refine (put_any [P1, [58, 32], P2, [13, 10]] (wr.heap.size + 1) w1.heap.size _ out (wz.alloc (.cells #[.string ⟨P1.toArray⟩, .string ⟨#[58, 32]⟩, .string ⟨P2.toArray⟩, .string ⟨#[13, 10]⟩] 9)) (by rw [← hszz]; exact heap_alloc_new wz _) (HVk.out.below (below_alloc wz _) HVk.out.lt) (HOk.out.below (below_alloc wz _)) (by rw [← hszz]; exact Nat.ne_of_lt HVk.out.lt) (by simp) (by simp; omega)).mono ?_
          rintro e' w5 ⟨rfl, v5, hV5, hO5, hB5⟩
          have HB5 := hid (HBk.out.trans (((below_alloc wz (.cells #[.string ⟨P1.toArray⟩, .string ⟨#[58, 32]⟩, .string ⟨P2.toArray⟩, .string ⟨#[13, 10]⟩] 9)).mono (Nat.le_of_lt HVk.out.lt)).trans hB5))
          have HV5 := hid hV5
          have HO5 := hid hO5
          clear hV5 hO5 hB5
          go_wp2
          go_roundw
          case rel =>
            refine ⟨k + 1, v5, by omega, by go_num, HV5.out, ?_, HB5.out⟩
            have e1 := HO5.out
            have e2 : out ++ [P1, [58, 32], P2, [13, 10]].flatten = HW ++ joinE ((fs.take (k + 1)).map rawOf) := by
              rw [HNX.out, HOut.out]
              simp [rawOf]
            rw [e2] at e1
            exact e1
          case measure => simp [intOf]; omega
        · have hlt' : ¬ (k : Int) < (fs.length : Int) := by omega
          have HOF : Hid (out = HW ++ joinE (fs.map rawOf)) := by
            unfold Hid
            rw [HOut.out, List.take_of_length_le (by omega)]
          obtain ⟨x0, x1, x2, x3, _, _, _, _⟩ := (HH1.out.below hB hqw).cells
          have hJt := HJ.out wr hB0
          have HVz := hid hV
          have HOz := hid hO
          have HBz := hid hB
          obtain ⟨wz, hwz⟩ : ∃ wz, wz = wr := ⟨_, rfl⟩
          rw [← hwz] at HVz HOz HBz hJt x0 x1 x2 x3 ⊢
          clear hV hO hB hB0 hwz HJ HOut
          go_wp2_with fail
          refine hJt.mono ?_
          clear hJt
          rintro e' w3 ⟨rfl, hB3⟩
          have HV3 := hid (HVz.out.below hB3 HVz.out.lt)
          have HO3 := hid (HOz.out.below hB3)
          have HB3 := hid (HBz.out.trans (hB3.mono HBz.out.size))
          clear hB3 HVz HOz HBz
          go_wp2_with fail
          refine (put_any [clS, [58, 32], E, [13, 10]] w3.heap.size w1.heap.size _ out (w3.alloc (.cells #[.string ⟨#[99, 111, 110, 116, 101, 110, 116, 45, 108, 101, 110, 103, 116, 104]⟩, .string ⟨#[58, 32]⟩, .string ⟨E.toArray⟩, .string ⟨#[13, 10]⟩] 9)) (heap_alloc_new w3 _) (HV3.out.below (below_alloc w3 _) HV3.out.lt) (HO3.out.below (below_alloc w3 _)) (Nat.ne_of_lt HV3.out.lt) (by simp) (by simp [clS]; omega)).mono ?_
          rintro e' w4 ⟨rfl, v4, hV4, hO4, hB4⟩
          have hB14 := HB3.out.trans (((below_alloc w3 (.cells #[.string ⟨#[99, 111, 110, 116, 101, 110, 116, 45, 108, 101, 110, 103, 116, 104]⟩, .string ⟨#[58, 32]⟩, .string ⟨E.toArray⟩, .string ⟨#[13, 10]⟩] 9)).mono (Nat.le_of_lt HV3.out.lt)).trans hB4)
          obtain ⟨o1, ho1⟩ : ∃ o1, o1 = out ++ [clS, [58, 32], E, [13, 10]].flatten := ⟨_, rfl⟩
          have ho1l : o1.length ≤ 100000000100 := by rw [ho1]; simp [clS]; omega
          rw [← ho1] at hO4
          have HO1 := hid ho1
          have HV4 := hid hV4
          have HO4 := hid hO4
          have HB4 := hid hB14
          obtain ⟨r0, r1, r2, r3, _, _, _, _⟩ := (HH1.out.below hB14 hqw).cells
          have hCn := HCn.out w4
          clear hV4 hO4 hB4 hB14 HV3 HO3 HB3 ho1 HCn x0 x1 x2 x3
          go_wp2_with fail
          refine hCn.mono ?_
          clear hCn
          rintro e' w4x ⟨rfl, hw4x⟩
          subst hw4x
          go_wp2_with fail
          refine (put_any [cnS, [58, 32], WD, [13, 10]] w4.heap.size w1.heap.size v4 o1 (w4.alloc (.cells #[.string ⟨#[99, 111, 110, 110, 101, 99, 116, 105, 111, 110]⟩, .string ⟨#[58, 32]⟩, .string ⟨WD.toArray⟩, .string ⟨#[13, 10]⟩] 9)) (heap_alloc_new w4 _) (HV4.out.below (below_alloc w4 _) HV4.out.lt) (HO4.out.below (below_alloc w4 _)) (Nat.ne_of_lt HV4.out.lt) (by simp) (by simp [cnS]; omega)).mono ?_
          rintro e' w5 ⟨rfl, v5, hV5, hO5, hB5⟩
          have hB15 := HB4.out.trans (((below_alloc w4 (.cells #[.string ⟨#[99, 111, 110, 110, 101, 99, 116, 105, 111, 110]⟩, .string ⟨#[58, 32]⟩, .string ⟨WD.toArray⟩, .string ⟨#[13, 10]⟩] 9)).mono (Nat.le_of_lt HV4.out.lt)).trans hB5)
          obtain ⟨o2, ho2⟩ : ∃ o2, o2 = o1 ++ [cnS, [58, 32], WD, [13, 10]].flatten := ⟨_, rfl⟩
          have ho2l : o2.length ≤ 100000000200 := by rw [ho2]; simp [cnS]; omega
          rw [← ho2] at hO5
          have HO2x := hid ho2
          have HV5 := hid hV5
          have HO5 := hid hO5
          have HB5 := hid hB15
          obtain ⟨t0, t1, t2, t3, _, _, _, _⟩ := (HH1.out.below hB15 hqw).cells
          clear hV5 hO5 hB5 hB15 HV4 HO4 HB4 ho2 r0 r1 r2 r3
          go_wp2_with fail
          refine (put_any [[13, 10], T] w5.heap.size w1.heap.size v5 o2 (w5.alloc (.cells #[.string ⟨#[13, 10]⟩, .string ⟨T.toArray⟩] 9)) (heap_alloc_new w5 _) (HV5.out.below (below_alloc w5 _) HV5.out.lt) (HO5.out.below (below_alloc w5 _)) (Nat.ne_of_lt HV5.out.lt) (by simp) (by simp; omega)).mono ?_
          rintro e' w6 ⟨rfl, v6, hV6, hO6, hB6⟩
          have hB16 := HB5.out.trans (((below_alloc w5 (.cells #[.string ⟨#[13, 10]⟩, .string ⟨T.toArray⟩] 9)).mono (Nat.le_of_lt HV5.out.lt)).trans hB6)
          have HB6 := hid (HB1.out.trans (hB16.mono (Nat.le_of_lt hqw)))
          have hcv := hO6.conv
          obtain ⟨ao6, n6, cap6, rfl⟩ : ∃ ao n cap, v6 = .slice ao n cap := by obtain ⟨ao, cap, h⟩ := OwnsB.shape hO6; exact ⟨ao, _, cap, h⟩
          obtain ⟨k5, k6⟩ := hV6.cells
          have HFin : Hid (o2 ++ [[13, 10], T].flatten = TX) := by
            unfold Hid
            rw [HTX.out, HO2x.out, HO1.out, HOF.out]
          clear hV6 hO6 hB6 hB16 HV5 HO5 HB5 t0 t1 t2 t3
          rw [HFin.out] at hcv
          go_wp2
          go_ret2
          exact ⟨rfl, HB6.out⟩
end Go.Proofs.YtgkipeehmckbdaaDoor
