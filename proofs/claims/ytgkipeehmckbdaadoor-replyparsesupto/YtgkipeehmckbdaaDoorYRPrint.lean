/-
  Print of the document.
-/
import Derived.Test.YtgkipeehmckbdaaDoorYRefB
namespace Go.Proofs.YtgkipeehmckbdaaDoor
open Go.RowKit
set_option linter.unusedVariables false

/-- Itoa tells numbers, here and behind. -/
def ItoaAt (w : World) : Prop := ∀ (m : Int) (W : World), 0 ≤ m → m ≤ 9223372036854775807 → Below w.heap.size w W → Calls Tryd.prog 20 #[.int .i64 m] W fun e W' => e = .returned (.string ⟨(Lib.itoa m).toArray⟩) ∧ Below W.heap.size W W'
theorem ItoaAt.below {w w' : World} (h : ItoaAt w) (hb : Below w.heap.size w w') : ItoaAt w' := fun m W h0 h1 h'' => h m W h0 h1 (hb.trans (h''.mono hb.size))
theorem str_appY (a b : List UInt8) : (⟨a.toArray⟩ : ByteArray) ++ ⟨b.toArray⟩ = ⟨(a ++ b).toArray⟩ := by
  apply ByteArray.ext
  simp [ByteArray.data_append]
theorem join_take_le {fs : List PairL} {c : Nat} (hb : ∀ p ∈ fs, p.1.length + p.2.length + 4 ≤ c) : ∀ n, (joinE ((fs.take n).map rawOf)).length ≤ n * c
  | 0 => by simp [joinE]
  | n + 1 => by
    have ih := join_take_le hb n
    rw [Nat.add_mul, Nat.one_mul]
    by_cases h : n < fs.length
    · rw [List.take_succ_eq_append_getElem h, List.map_append, joinE_app, List.length_append]
      have h1 := hb _ (List.getElem_mem h)
      have : (joinE ([fs[n]].map rawOf)).length ≤ c := by
        simp only [List.map_cons, List.map_nil, joinE, List.length_append, List.length_cons, List.length_nil, rawOf_len]
        omega
      omega
    · have e : fs.take (n + 1) = fs.take n := by rw [List.take_of_length_le (by omega), List.take_of_length_le (by omega)]
      rw [e]
      omega
theorem join_next {fs : List PairL} {k : Nat} (h : k < fs.length) : joinE ((fs.take (k + 1)).map rawOf) = joinE ((fs.take k).map rawOf) ++ (rawOf fs[k] ++ [13, 10]) := by
  rw [List.take_succ_eq_append_getElem h, List.map_append, joinE_app]
  simp [joinE]
theorem itoa_len9 {m : Int} (h0 : 0 ≤ m) (h1 : m ≤ 2000000) : (Lib.itoa m).length ≤ 7 := by
  obtain ⟨n, rfl⟩ : ∃ n : Nat, m = n := ⟨m.toNat, by omega⟩
  rw [itoa_nat]
  exact decd_len 6 n (by omega)

set_option maxRecDepth 20000 in
set_option maxHeartbeats 16000000 in
theorem ryprint_any (r : RespL) (v : Value) (w : World) (hI : ItoaAt w) (hS : SeesP w v r.2.1) (hb : ∀ p ∈ r.2.1, p.1.length ≤ 1000000000 ∧ p.2.length ≤ 1000000000) (hl : r.2.1.length ≤ 1000000000) :
    Calls Tryd.prog 8 #[rspV r v] w fun e w' => e = .returned (.tuple #[.string ⟨((prnY r).getD []).toArray⟩, .int .i64 (if (prnY r).isSome = true then 0 else 90)]) ∧ Below w.heap.size w w' := by
  have hB0 := below_alloc w (.cells #[.int .i64 r.1, v, .string ⟨r.2.2.1.toArray⟩, .bool r.2.2.2] 24)
  have hMy := rmay_any r v (w.alloc (.cells #[.int .i64 r.1, v, .string ⟨r.2.2.1.toArray⟩, .bool r.2.2.2] 24)) (hS.below hB0) hb hl
  have hpr : prnY r = if mayY r = true then some (textY r) else none := rfl
  have hok := fun h => @mayY_ok r h
  have htx : textY r = lineY r.1 ++ 13 :: 10 :: (joinE (r.2.1.map rawOf) ++ tailY r) := rfl
  obtain ⟨n, fs, T, c⟩ := r
  simp only [rspV] at hS hb hl hB0 hMy ⊢
  have hH0 := RspAt.new w (.int .i64 n) v (.string ⟨T.toArray⟩) (.bool c)
  obtain ⟨w0, hw0⟩ : ∃ w0, w0 = w.alloc (.cells #[.int .i64 n, v, .string ⟨T.toArray⟩, .bool c] 24) := ⟨_, rfl⟩
  rw [← hw0] at hB0 hH0 hMy
  obtain ⟨M, hM⟩ : ∃ M, M = mayY (n, fs, T, c) := ⟨_, rfl⟩
  rw [← hM] at hMy hpr hok
  have HW0 := hid hw0
  have HH0 := hid hH0
  have HB0 := hid hB0
  obtain ⟨z0, z1, z2, z3, _, _, _, _⟩ := hH0.cells
  have hTs : (⟨T.toArray⟩ : ByteArray).size = T.length := size_list T
  cases M with
  | false =>
    rw [if_neg (by simp)] at hpr
    rw [hpr]
    clear hw0 hH0 hB0 hS hb hl hpr hok htx hM hTs hI
    go_enter Tryd.func8, Tryd.ntmps8
    go_wp2_with (first | rw [← HW0.out] | fail)
    refine hMy.mono ?_
    clear hMy
    rintro e w1 ⟨rfl, hB1⟩
    have HB1 := hid (HB0.out.trans (hB1.mono HB0.out.size))
    clear hB1
    go_wp2
    go_ret2
    exact ⟨rfl, HB1.out⟩
  | true =>
    obtain ⟨⟨k1, k2, k3, k4⟩, _⟩ := hok rfl
    simp only at k1 k2 k3 k4
    rw [if_pos rfl] at hpr
    rw [hpr]
    simp only [Option.getD_some, Option.isSome_some, if_true]
    have hRs := fun w1 => rreason_any n w1
    have hRo : reasonO n = (reasonL n).getD statusS := rfl
    have hRl := reason_len n
    obtain ⟨D, hD⟩ : ∃ D, D = Lib.itoa n := ⟨_, rfl⟩
    obtain ⟨E, hE⟩ : ∃ E, E = Lib.itoa (T.length : Int) := ⟨_, rfl⟩
    have hDl : D.length ≤ 7 := by rw [hD]; exact itoa_len9 (by omega) (by omega)
    have hEl : E.length ≤ 7 := by rw [hE]; exact itoa_len9 (by omega) (by omega)
    have HI := hid (fun W (hW : Below w.heap.size w W) => hI n W (by omega) (by omega) hW)
    have HJ := hid (fun W (hW : Below w.heap.size w W) => hI (T.length : Int) W (by omega) (by omega) hW)
    rw [← hD] at HI
    rw [← hE] at HJ
    obtain ⟨RR, hRR⟩ : ∃ RR, RR = reasonO n := ⟨_, rfl⟩
    rw [← hRR] at hRl hRo
    obtain ⟨TX, hTX⟩ : ∃ TX, TX = textY (n, fs, T, c) := ⟨_, rfl⟩
    rw [← hTX]
    obtain ⟨HW, hHW⟩ : ∃ HW : List UInt8, HW = v11 ++ 32 :: (D ++ 32 :: (RR ++ [13, 10])) := ⟨_, rfl⟩
    have hHl : HW.length ≤ 100 := by rw [hHW]; simp [v11]; omega
    have HTX : Hid (TX = HW ++ joinE (fs.map rawOf) ++ (clS ++ 58 :: 32 :: (E ++ [13, 10]) ++ (cnS ++ 58 :: 32 :: (wordY c ++ [13, 10, 13, 10] ++ T)))) := by
      unfold Hid
      rw [hTX, htx, hHW, hD, hE, hRR]
      simp [lineY, tailY, clY, cnY]
    have HHW := hid hHW
    obtain ⟨bb, off, ao, cap, rfl, hcap, _, hao, hcell⟩ := hS
    have HC := hid hcell
    have HBd := hid hb
    have a1 : ¬ 9223372036854775807 < 9 + D.length := by omega
    have a2 : ¬ 9223372036854775807 < 9 + D.length + 1 := by omega
    clear hw0 hH0 hB0 hb hpr hok htx hM hI hD hE hTX hHW hcell hRR k1 k2 hl
    cases hrl : reasonL n with
    | none =>
      rw [hrl] at hRs hRo
      simp only [Option.getD_none, Option.isSome_none] at hRs hRo
      subst hRo
      have a3 : ¬ 9223372036854775807 < 9 + D.length + 1 + 6 := by omega
      have a4 : ¬ 9223372036854775807 < 9 + D.length + 1 + 6 + 2 := by omega
      clear hrl
      go_enter Tryd.func8, Tryd.ntmps8
      go_wp2_with (first | rw [← HW0.out] | fail)
      refine hMy.mono ?_
      clear hMy
      rintro e w1 ⟨rfl, hB1⟩
      have hB01 := HB0.out.trans (hB1.mono HB0.out.size)
      have HH1 := hid (HH0.out.below hB1 HH0.out.lt)
      obtain ⟨p0, p1, p2, p3, _, _, _, _⟩ := HH1.out.cells
      have HB1 := hid hB01
      have hIt := HI.out w1 hB01
      have hRs := hRs w1
      clear hB1 hB01 HI
      go_wp2_with fail
      refine hRs.mono ?_
      clear hRs
      rintro e w1x ⟨rfl, hw1x⟩
      subst hw1x
      go_wp2_with fail
      refine hIt.mono ?_
      clear hIt
      rintro e w2 ⟨rfl, hB2⟩
      have hB02 := HB1.out.trans (hB2.mono HB1.out.size)
      have HH2 := hid (HH1.out.below hB2 HH1.out.lt)
      obtain ⟨r0, r1, r2, r3, _, _, _, _⟩ := HH2.out.cells
      have HB2 := hid hB02
      clear hB2 hB02 HH1 HB1
      go_wp2_with fail
      go_loopw [6, 7] (fun s i wr => ∃ (k m : Nat), wr = w2.drewN m ∧ k ≤ fs.length ∧ i = .int .i64 (k : Int) ∧ s = .string ⟨(HW ++ joinE ((fs.take k).map rawOf)).toArray⟩ ∧ (HW ++ joinE ((fs.take k).map rawOf)).length ≤ 100 + k * 2000000100) (fun _ i _ => fs.length - (intOf i).toNat)
      case atStart =>
        refine ⟨0, 0, rfl, Nat.zero_le _, rfl, ?_, by simp [joinE]; omega⟩
        rw [HHW.out]
        simp only [str_appY]
        simp [v11, joinE, statusS]
      case round =>
        obtain ⟨k, m, rfl, hk, rfl, rfl, hlen⟩ := hrel
        obtain ⟨ST, hST⟩ : ∃ ST : ByteArray, ST = ⟨(HW ++ joinE ((fs.take k).map rawOf)).toArray⟩ := ⟨_, rfl⟩
        have sT : ST.size = (HW ++ joinE ((fs.take k).map rawOf)).length := by rw [hST, size_list]
        rw [← hST]
        have HT := hid hST
        have hTsz : ST.size ≤ 100000000000 := by omega
        by_cases hlt : k < fs.length
        · have hlt' : (k : Int) < (fs.length : Int) := by omega
          obtain rfl := hao (by intro h; rw [h] at hlt; simp at hlt)
          obtain ⟨d1, d2⟩ := HC.out k hlt
          have d1 := (HB2.out.cell (World.block_lt_of_cell? w _ d1)).trans d1
          have d2 := (HB2.out.cell (World.block_lt_of_cell? w _ d2)).trans d2
          unfold strV at d1 d2
          obtain ⟨hp1, hp2⟩ := HBd.out _ (List.getElem_mem hlt)
          have hnx := join_next hlt
          obtain ⟨P, hP⟩ : ∃ P, P = fs[k] := ⟨_, rfl⟩
          rw [← hP] at d1 d2 hp1 hp2 hnx
          obtain ⟨P1, P2⟩ := P
          simp only at d1 d2 hp1 hp2
          have HNX := hid hnx
          have n1 : ¬ 9223372036854775807 < ST.size + P1.length := by omega
          have n2 : ¬ 9223372036854775807 < ST.size + P1.length + 2 := by omega
          have n3 : ¬ 9223372036854775807 < ST.size + P1.length + 2 + P2.length := by omega
          have n4 : ¬ 9223372036854775807 < ST.size + P1.length + 2 + P2.length + 2 := by omega
          have HLN := hid hlen
          clear hST hP hnx sT hlen
          go_wp2_with fail
          go_quiet (fail)
          go_wp2
          go_roundw
          case rel =>
            have e1 := HNX.out
            refine ⟨k + 1, _, rfl, by omega, by go_num, ?_, ?_⟩
            · rw [HT.out, e1]
              simp only [str_appY]
              simp [rawOf]
            · have := HLN.out
              rw [e1, ← List.append_assoc, List.length_append]
              simp only [rawOf, List.length_append, List.length_cons, List.length_nil] at *
              omega
          case measure => simp [intOf]; omega
        · have hlt' : ¬ (k : Int) < (fs.length : Int) := by omega
          have HST : Hid (ST = ⟨(HW ++ joinE (fs.map rawOf)).toArray⟩) := by
            unfold Hid
            rw [HT.out, List.take_of_length_le (by omega)]
          have b1 : ¬ 9223372036854775807 < ST.size + 16 := by omega
          have b2 : ¬ 9223372036854775807 < ST.size + 16 + E.length := by omega
          have b3 : ¬ 9223372036854775807 < ST.size + 16 + E.length + 14 := by omega
          have b4 : ¬ 9223372036854775807 < ST.size + 16 + E.length + 14 + 5 := by omega
          have b5 : ¬ 9223372036854775807 < ST.size + 16 + E.length + 14 + 10 := by omega
          have b6 : ¬ 9223372036854775807 < ST.size + 16 + E.length + 14 + 5 + 4 := by omega
          have b7 : ¬ 9223372036854775807 < ST.size + 16 + E.length + 14 + 10 + 4 := by omega
          have b8 : ¬ 9223372036854775807 < ST.size + 16 + E.length + 14 + 5 + 4 + T.length := by omega
          have b9 : ¬ 9223372036854775807 < ST.size + 16 + E.length + 14 + 10 + 4 + T.length := by omega
          have hB02 : Below w.heap.size w (w2.drewN m) := HB2.out.trans (below_drewN' _ _ _)
          have hJt := HJ.out (w2.drewN m) hB02
          have HB2m := hid hB02
          have HHm := hid (HH2.out.below (below_drewN' w2 w2.heap.size m) HH2.out.lt)
          clear hST sT hlen HT hB02 HJ
          go_wp2_with fail
          refine hJt.mono ?_
          clear hJt
          rintro e w3 ⟨rfl, hB3⟩
          have HB3 := hid (HB2m.out.trans (hB3.mono HB2m.out.size))
          have HH3 := hid (HHm.out.below hB3 HHm.out.lt)
          obtain ⟨s0, s1, s2, s3, _, _, _, _⟩ := HH3.out.cells
          clear hB3 HB2m HHm
          cases c with
          | true =>
            go_wp2
            go_ret2
            refine ⟨?_, HB3.out⟩
            rw [HTX.out, HST.out]
            simp only [str_appY]
            simp [wordY, closeS, clS, cnS]
          | false =>
            go_wp2
            go_ret2
            refine ⟨?_, HB3.out⟩
            rw [HTX.out, HST.out]
            simp only [str_appY]
            simp [wordY, keepS, clS, cnS]
    | some W =>
      rw [hrl] at hRs hRo
      simp only [Option.getD_some, Option.isSome_some] at hRs hRo
      subst hRo
      have a3 : ¬ 9223372036854775807 < 9 + D.length + 1 + RR.length := by omega
      have a4 : ¬ 9223372036854775807 < 9 + D.length + 1 + RR.length + 2 := by omega
      clear hrl
      go_enter Tryd.func8, Tryd.ntmps8
      go_wp2_with (first | rw [← HW0.out] | fail)
      refine hMy.mono ?_
      clear hMy
      rintro e w1 ⟨rfl, hB1⟩
      have hB01 := HB0.out.trans (hB1.mono HB0.out.size)
      have HH1 := hid (HH0.out.below hB1 HH0.out.lt)
      obtain ⟨p0, p1, p2, p3, _, _, _, _⟩ := HH1.out.cells
      have HB1 := hid hB01
      have hIt := HI.out w1 hB01
      have hRs := hRs w1
      clear hB1 hB01 HI
      go_wp2_with fail
      refine hRs.mono ?_
      clear hRs
      rintro e w1x ⟨rfl, hw1x⟩
      subst hw1x
      go_wp2_with fail
      refine hIt.mono ?_
      clear hIt
      rintro e w2 ⟨rfl, hB2⟩
      have hB02 := HB1.out.trans (hB2.mono HB1.out.size)
      have HH2 := hid (HH1.out.below hB2 HH1.out.lt)
      obtain ⟨r0, r1, r2, r3, _, _, _, _⟩ := HH2.out.cells
      have HB2 := hid hB02
      clear hB2 hB02 HH1 HB1
      go_wp2_with fail
      go_loopw [6, 7] (fun s i wr => ∃ (k m : Nat), wr = w2.drewN m ∧ k ≤ fs.length ∧ i = .int .i64 (k : Int) ∧ s = .string ⟨(HW ++ joinE ((fs.take k).map rawOf)).toArray⟩ ∧ (HW ++ joinE ((fs.take k).map rawOf)).length ≤ 100 + k * 2000000100) (fun _ i _ => fs.length - (intOf i).toNat)
      case atStart =>
        refine ⟨0, 0, rfl, Nat.zero_le _, rfl, ?_, by simp [joinE]; omega⟩
        rw [HHW.out]
        simp only [str_appY]
        simp [v11, joinE]
      case round =>
        obtain ⟨k, m, rfl, hk, rfl, rfl, hlen⟩ := hrel
        obtain ⟨ST, hST⟩ : ∃ ST : ByteArray, ST = ⟨(HW ++ joinE ((fs.take k).map rawOf)).toArray⟩ := ⟨_, rfl⟩
        have sT : ST.size = (HW ++ joinE ((fs.take k).map rawOf)).length := by rw [hST, size_list]
        rw [← hST]
        have HT := hid hST
        have hTsz : ST.size ≤ 100000000000 := by omega
        by_cases hlt : k < fs.length
        · have hlt' : (k : Int) < (fs.length : Int) := by omega
          obtain rfl := hao (by intro h; rw [h] at hlt; simp at hlt)
          obtain ⟨d1, d2⟩ := HC.out k hlt
          have d1 := (HB2.out.cell (World.block_lt_of_cell? w _ d1)).trans d1
          have d2 := (HB2.out.cell (World.block_lt_of_cell? w _ d2)).trans d2
          unfold strV at d1 d2
          obtain ⟨hp1, hp2⟩ := HBd.out _ (List.getElem_mem hlt)
          have hnx := join_next hlt
          obtain ⟨P, hP⟩ : ∃ P, P = fs[k] := ⟨_, rfl⟩
          rw [← hP] at d1 d2 hp1 hp2 hnx
          obtain ⟨P1, P2⟩ := P
          simp only at d1 d2 hp1 hp2
          have HNX := hid hnx
          have n1 : ¬ 9223372036854775807 < ST.size + P1.length := by omega
          have n2 : ¬ 9223372036854775807 < ST.size + P1.length + 2 := by omega
          have n3 : ¬ 9223372036854775807 < ST.size + P1.length + 2 + P2.length := by omega
          have n4 : ¬ 9223372036854775807 < ST.size + P1.length + 2 + P2.length + 2 := by omega
          have HLN := hid hlen
          clear hST hP hnx sT hlen
          go_wp2_with fail
          go_quiet (fail)
          go_wp2
          go_roundw
          case rel =>
            have e1 := HNX.out
            refine ⟨k + 1, _, rfl, by omega, by go_num, ?_, ?_⟩
            · rw [HT.out, e1]
              simp only [str_appY]
              simp [rawOf]
            · have := HLN.out
              rw [e1, ← List.append_assoc, List.length_append]
              simp only [rawOf, List.length_append, List.length_cons, List.length_nil] at *
              omega
          case measure => simp [intOf]; omega
        · have hlt' : ¬ (k : Int) < (fs.length : Int) := by omega
          have HST : Hid (ST = ⟨(HW ++ joinE (fs.map rawOf)).toArray⟩) := by
            unfold Hid
            rw [HT.out, List.take_of_length_le (by omega)]
          have b1 : ¬ 9223372036854775807 < ST.size + 16 := by omega
          have b2 : ¬ 9223372036854775807 < ST.size + 16 + E.length := by omega
          have b3 : ¬ 9223372036854775807 < ST.size + 16 + E.length + 14 := by omega
          have b4 : ¬ 9223372036854775807 < ST.size + 16 + E.length + 14 + 5 := by omega
          have b5 : ¬ 9223372036854775807 < ST.size + 16 + E.length + 14 + 10 := by omega
          have b6 : ¬ 9223372036854775807 < ST.size + 16 + E.length + 14 + 5 + 4 := by omega
          have b7 : ¬ 9223372036854775807 < ST.size + 16 + E.length + 14 + 10 + 4 := by omega
          have b8 : ¬ 9223372036854775807 < ST.size + 16 + E.length + 14 + 5 + 4 + T.length := by omega
          have b9 : ¬ 9223372036854775807 < ST.size + 16 + E.length + 14 + 10 + 4 + T.length := by omega
          have hB02 : Below w.heap.size w (w2.drewN m) := HB2.out.trans (below_drewN' _ _ _)
          have hJt := HJ.out (w2.drewN m) hB02
          have HB2m := hid hB02
          have HHm := hid (HH2.out.below (below_drewN' w2 w2.heap.size m) HH2.out.lt)
          clear hST sT hlen HT hB02 HJ
          go_wp2_with fail
          refine hJt.mono ?_
          clear hJt
          rintro e w3 ⟨rfl, hB3⟩
          have HB3 := hid (HB2m.out.trans (hB3.mono HB2m.out.size))
          have HH3 := hid (HHm.out.below hB3 HHm.out.lt)
          obtain ⟨s0, s1, s2, s3, _, _, _, _⟩ := HH3.out.cells
          clear hB3 HB2m HHm
          cases c with
          | true =>
            go_wp2
            go_ret2
            refine ⟨?_, HB3.out⟩
            rw [HTX.out, HST.out]
            simp only [str_appY]
            simp [wordY, closeS, clS, cnS]
          | false =>
            go_wp2
            go_ret2
            refine ⟨?_, HB3.out⟩
            rw [HTX.out, HST.out]
            simp only [str_appY]
            simp [wordY, keepS, clS, cnS]
end Go.Proofs.YtgkipeehmckbdaaDoor
