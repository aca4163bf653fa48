/-
  Print of the document.
-/
import Derived.Test.YtllhibdjopfcnaaGreatDoorZRParse
namespace Go.Proofs.YtllhibdjopfcnaaGreatDoor
open Go.RowKit
set_option linter.unusedVariables false

theorem parseL_few (s : List UInt8) : (parseL s).1.2.2.2.length ≤ 140737488355328 := by
  by_cases h : (parseL s).2.1 = 0
  · have e : parseL s = ((parseL s).1, 0, (parseL s).2.2) := by rw [← h]
    obtain ⟨_, raws, r⟩ := parse_ok e
    have := r.n32
    omega
  · have : (parseL s).1 = hz := by
      revert h
      unfold parseL
      split
      · intro _; rfl
      · split
        · intro _; rfl
        · split
          · intro h; exact absurd rfl h
          · intro _; rfl
    rw [this]
    simp [hz]
theorem str_appZ (a b : List UInt8) : (⟨a.toArray⟩ : ByteArray) ++ ⟨b.toArray⟩ = ⟨(a ++ b).toArray⟩ := by
  apply ByteArray.ext
  simp [ByteArray.data_append]
theorem rawOf_app (p : PairL) : rawOf p ++ [13, 10] = p.1 ++ 58 :: 32 :: (p.2 ++ [13, 10]) := by simp [rawOf]
theorem joinE_take_le {fs : List PairL} {c : Nat} (hb : ∀ p ∈ fs, p.1.length + p.2.length + 4 ≤ c) : ∀ n, (joinE ((fs.take n).map rawOf)).length ≤ n * c
  | 0 => by simp [joinE]
  | n + 1 => by
    have ih := joinE_take_le hb n
    rw [Nat.add_mul, Nat.one_mul]
    by_cases h : n < fs.length
    · rw [List.take_succ_eq_append_getElem h, List.map_append, joinE_app, List.length_append]
      have h1 := hb _ (List.getElem_mem h)
      have : (joinE ([fs[n]].map rawOf)).length ≤ c := by
        simp only [List.map_cons, List.map_nil, joinE, List.length_append, List.length_cons, List.length_nil, rawOf_len]
        omega
      omega
    · have e : fs.take (n + 1) = fs.take n := by rw [List.take_of_length_le (by omega), List.take_of_length_le (by omega)]
      rw [e]
      omega
set_option maxRecDepth 20000 in
set_option maxHeartbeats 8000000 in
theorem rprint_any (h : HeadL) (v : Value) (w : World) (hS : SeesP w v h.2.2.2) (hl : h.2.2.2.length ≤ 1048576) (hb : ∀ p ∈ h.2.2.2, p.1.length ≤ 1048576 ∧ p.2.length ≤ 1048576)
    (h1 : h.1.length ≤ 1048576) (h2 : h.2.1.length ≤ 1048576) :
    Calls Tryz.prog 19 #[.agg #[strV h.1, strV h.2.1, .int .i64 h.2.2.1, v]] w fun e w' => e = .returned (.tuple #[.string ⟨((prnL h).getD []).toArray⟩, .int .i64 (if (prnL h).isSome then 0 else 70)]) ∧ Below w.heap.size w w' := by
  have hpc := print_doc h
  obtain ⟨HW, hHW⟩ : ∃ HW, HW = headW h (minR h.2.2.1) := ⟨_, rfl⟩
  have hHl : HW.length ≤ 3000000 := by
    have : (minR h.2.2.1).length ≤ 1 := by unfold minR; split <;> (try split) <;> simp
    rw [hHW]; simp [headW, verW]; omega
  have hlen : (writR h).length ≤ 80000000 := by
    have := joinE_take_le (fs := h.2.2.2) (c := 2100000) (fun p hp => by have := hb p hp; omega) 33
    rw [writR, ← hHW]
    simp only [List.length_append, List.length_cons, List.length_nil]
    omega
  obtain ⟨S, hSe⟩ : ∃ S, S = writR h := ⟨_, rfl⟩
  rw [← hSe] at hpc hlen
  have HSe : Hid (HW ++ joinE ((h.2.2.2.take 33).map rawOf) ++ [13, 10] = S) := by unfold Hid; rw [hSe, hHW]; rfl
  have HPa := hid (fun w1 => rparse_any S w1 (by omega))
  have hfl := parseL_few S
  obtain ⟨T0, hT0⟩ : ∃ T, T = parseL S := ⟨_, rfl⟩
  rw [← hT0] at HPa hpc hfl
  obtain ⟨T1, st, pl⟩ := T0
  simp only at HPa hpc hfl
  have HSm := hid (fun v1 v2 w1 (hs1 : SeesP w1 v1 T1.2.2.2) (hs2 : SeesP w1 v2 h.2.2.2) => rsame7_any T1 h v1 v2 w1 hs1 hs2 hfl)
  obtain ⟨Bo, hBs⟩ : ∃ B, B = sameL T1 h := ⟨_, rfl⟩
  rw [← hBs] at HSm hpc
  obtain ⟨P, hPe⟩ : ∃ P, P = prnL h := ⟨_, rfl⟩
  rw [← hPe] at hpc ⊢
  have HPC := hid hpc
  obtain ⟨G, hG⟩ : ∃ G, G = P.getD [] := ⟨_, rfl⟩
  obtain ⟨E, hE⟩ : ∃ E : Int, E = if P.isSome then 0 else 70 := ⟨_, rfl⟩
  rw [← hG, ← hE]
  have HG := hid hG
  have HEE := hid hE
  obtain ⟨A, B, m, fs⟩ := h
  obtain ⟨A1, B1, m1, fs1⟩ := T1
  simp only [strV] at hS HPa HSm hb hl h1 h2 HSe hHW ⊢
  have hB0 := below_alloc w (.cells #[.string ⟨A.toArray⟩, .string ⟨B.toArray⟩, .int .i64 m, v] 34)
  have hH0 := HeadAt.new w (.string ⟨A.toArray⟩) (.string ⟨B.toArray⟩) (.int .i64 m) v
  obtain ⟨w0, hw0⟩ : ∃ w0, w0 = w.alloc (.cells #[.string ⟨A.toArray⟩, .string ⟨B.toArray⟩, .int .i64 m, v] 34) := ⟨_, rfl⟩
  rw [← hw0] at hH0 hB0
  have hS0 := hS.below hB0
  obtain ⟨bb, off, ao, cap, rfl, hcap, _, hao, hcell⟩ := hS0
  have HS0 := hid (hS.below hB0)
  have HW0 := hid hw0
  have HB0 := hid hB0
  have HH0 := hid hH0
  have HC := hid hcell
  have HBd := hid hb
  have HHW := hid hHW
  obtain ⟨z0, z1, z2, z3, _, _, _, _⟩ := hH0.cells
  have a1 : ¬ 9223372036854775807 < A.length + 1 := by omega
  have a2 : ¬ 9223372036854775807 < A.length + 1 + B.length := by omega
  have a3 : ¬ 9223372036854775807 < A.length + 1 + B.length + 8 := by omega
  have a4 : ¬ 9223372036854775807 < A.length + 1 + B.length + 8 + 1 := by omega
  have a5 : ¬ 9223372036854775807 < A.length + 1 + B.length + 8 + 1 + 2 := by omega
  clear hw0 hH0 hB0 hS hb hl h1 h2 hpc hSe hT0 hBs hPe hfl hG hE hHW hcell
  by_cases m0 : m = 0
  · have HDG : Hid (minR m = [48]) := by unfold Hid; rw [m0]; decide
    have f0 : (m == 0) = true := by rw [beq_iff_eq]; exact m0
    have f1 : (m == 1) = false := by rw [beq_eq_false_iff_ne, m0]; decide
    clear m0
    go_enter Tryz.func19, Tryz.ntmps19
    go_wp2_with (first | rw [← HW0.out] | fail)
    go_loopw [5, 6] (fun s i wr => ∃ (k n : Nat), wr = w0.drewN n ∧ k ≤ fs.length ∧ k ≤ 33 ∧ i = .int .i64 (k : Int) ∧ s = .string ⟨(HW ++ joinE ((fs.take k).map rawOf)).toArray⟩ ∧ (HW ++ joinE ((fs.take k).map rawOf)).length ≤ 4000000 + k * 2100000) (fun _ i _ => 34 - (intOf i).toNat)
    case atStart =>
      refine ⟨0, 0, rfl, Nat.zero_le _, Nat.zero_le _, rfl, ?_, by simp [joinE]; omega⟩
      rw [HHW.out]
      simp only [str_appZ]
      simp [headW, verW, joinE, HDG.out]
    case round =>
      obtain ⟨k, n, rfl, hk, hk33, rfl, rfl, hlen⟩ := hrel
      obtain ⟨T, hT⟩ : ∃ T : ByteArray, T = ⟨(HW ++ joinE ((fs.take k).map rawOf)).toArray⟩ := ⟨_, rfl⟩
      have sT : T.size = (HW ++ joinE ((fs.take k).map rawOf)).length := by rw [hT, size_list]
      rw [← hT]
      have HT := hid hT
      have hTs : T.size ≤ 80000000 := by omega
      by_cases hlt : k < fs.length ∧ k ≤ 32
      · have hlt' : (k : Int) < (fs.length : Int) := by omega
        have h32' : (k : Int) ≤ 32 := by omega
        have h32d : decide ((k : Int) ≤ 32) = true := by simp; omega
        obtain rfl := hao (by intro h; rw [h] at hlt; simp at hlt)
        obtain ⟨d1, d2⟩ := HC.out k hlt.1
        unfold strV at d1 d2
        obtain ⟨hp1, hp2⟩ := HBd.out _ (List.getElem_mem hlt.1)
        have hnx : joinE ((fs.take (k + 1)).map rawOf) = joinE ((fs.take k).map rawOf) ++ (rawOf fs[k] ++ [13, 10]) := by
          rw [List.take_succ_eq_append_getElem hlt.1, List.map_append, joinE_app]
          simp [joinE]
        obtain ⟨P, hP⟩ : ∃ P, P = fs[k] := ⟨_, rfl⟩
        rw [← hP] at d1 d2 hp1 hp2 hnx
        obtain ⟨P1, P2⟩ := P
        simp only at d1 d2 hp1 hp2
        have HNX := hid hnx
        have n1 : ¬ 9223372036854775807 < T.size + P1.length := by omega
        have n2 : ¬ 9223372036854775807 < T.size + P1.length + 2 := by omega
        have n3 : ¬ 9223372036854775807 < T.size + P1.length + 2 + P2.length := by omega
        have n4 : ¬ 9223372036854775807 < T.size + P1.length + 2 + P2.length + 2 := by omega
        have HLN := hid hlen
        clear hT hP hnx sT hlen
        go_wp2_with fail
        go_quiet (fail)
        go_wp2
        go_roundw
        case rel =>
          have e1 := HNX.out
          refine ⟨k + 1, _, rfl, by omega, by omega, by go_num, ?_, ?_⟩
          · rw [HT.out, e1]
            simp only [str_appZ]
            simp [rawOf]
          · have := HLN.out
            rw [e1, ← List.append_assoc, List.length_append, rawOf_app]
            simp only [rawOf, List.length_append, List.length_cons, List.length_nil] at *
            omega
        case measure => simp [intOf]; omega
      · have hfin : joinE ((fs.take k).map rawOf) = joinE ((fs.take 33).map rawOf) := by
          by_cases h : k < fs.length
          · rw [show k = 33 by omega]
          · rw [List.take_of_length_le (by omega), List.take_of_length_le (by omega)]
        have HFin : Hid (T ++ ⟨#[13, 10]⟩ = ⟨S.toArray⟩) := by
          unfold Hid
          rw [HT.out, show (⟨#[13, 10]⟩ : ByteArray) = ⟨[13, 10].toArray⟩ from rfl, str_appZ, hfin, HSe.out]
        have n5 : ¬ 9223372036854775807 < T.size + 2 := by omega
        have hPa := HPa.out (w0.drewN n)
        rw [← HFin.out] at hPa
        have hcase : ¬ (k : Int) < (fs.length : Int) ∨ ((k : Int) < (fs.length : Int) ∧ ¬ (k : Int) ≤ 32) := by omega
        clear hT sT hlen hfin HT
        rcases hcase with hlt' | ⟨hlt', h32'⟩
        · clear hlt
          go_wp2_with fail
          refine hPa.mono ?_
          clear hPa
          rintro e w2 ⟨v2, rfl, hO2, hB2x⟩
          have hB2 : Below w0.heap.size w0 w2 := (below_drewN' w0 w0.heap.size n).trans hB2x
          obtain ⟨ao2, cap2, rfl⟩ := hO2.shape
          have hH2 := HH0.out.below hB2 HH0.out.lt
          obtain ⟨wx, hwx⟩ : ∃ wx, wx = w2.alloc (.cells #[.string ⟨A1.toArray⟩, .string ⟨B1.toArray⟩, .int .i64 m1, .slice ao2 fs1.length cap2] 34) := ⟨_, rfl⟩
          have hbx : Below w2.heap.size w2 wx := by rw [hwx]; exact below_alloc w2 _
          have hHx := hH2.below hbx hH2.lt
          have hHr : HeadAt wx w2.heap.size (.string ⟨A1.toArray⟩) (.string ⟨B1.toArray⟩) (.int .i64 m1) (.slice ao2 fs1.length cap2) := by rw [hwx]; exact HeadAt.new w2 _ _ _ _
          have hSm := HSm.out _ _ wx (hO2.below hbx).sees ((HS0.out.below hB2).below hbx)
          have HB2 := hid (HB0.out.trans (hB2.mono HB0.out.size))
          have HBx := hid (HB2.out.trans (hbx.mono HB2.out.size))
          have HWX := hid hwx
          obtain ⟨p0, p1, p2, p3, _, _, _, _⟩ := hHx.cells
          obtain ⟨q0, q1, q2, q3, _, _, _, _⟩ := hHr.cells
          clear hwx hbx hHx hHr hH2 hO2 hB2 hB2x
          by_cases h0 : st = 0
          · have h0' : (st != 0) = false := by rw [bne_eq_false_iff_eq]; exact h0
            cases Bo with
            | true =>
              rw [if_pos ⟨h0, rfl⟩] at HPC
              have HE : Hid (G = S ∧ E = 0) := by unfold Hid; rw [HG.out, HEE.out, HPC.out]; exact ⟨rfl, rfl⟩
              clear h0 HPC
              go_wp2_with (first | rw [← HWX.out] | fail)
              refine hSm.mono ?_
              clear hSm
              rintro e w3 ⟨rfl, hB3⟩
              have HB3 := hid (HBx.out.trans (hB3.mono HBx.out.size))
              clear hB3
              go_wp2
              go_ret2
              exact ⟨by rw [HE.out.1, HE.out.2, ← HFin.out]; rfl, HB3.out⟩
            | false =>
              rw [if_neg (fun h => by cases h.2)] at HPC
              have HE : Hid (G = [] ∧ E = 70) := by unfold Hid; rw [HG.out, HEE.out, HPC.out]; exact ⟨rfl, rfl⟩
              clear h0 HPC
              go_wp2_with (first | rw [← HWX.out] | fail)
              refine hSm.mono ?_
              clear hSm
              rintro e w3 ⟨rfl, hB3⟩
              have HB3 := hid (HBx.out.trans (hB3.mono HBx.out.size))
              clear hB3
              go_wp2
              go_ret2
              exact ⟨by rw [HE.out.1, HE.out.2]; rfl, HB3.out⟩
          · have h0' : (st != 0) = true := by rw [bne_iff_ne]; exact h0
            rw [if_neg (fun h => h0 h.1)] at HPC
            have HE : Hid (G = [] ∧ E = 70) := by unfold Hid; rw [HG.out, HEE.out, HPC.out]; exact ⟨rfl, rfl⟩
            clear h0 HPC hSm
            go_wp2_with (first | rw [← HWX.out] | fail)
            go_ret2
            exact ⟨by rw [HE.out.1, HE.out.2]; rfl, HBx.out⟩
        · have h32d : decide ((k : Int) ≤ 32) = false := by simp; omega
          clear hlt
          go_wp2_with fail
          refine hPa.mono ?_
          clear hPa
          rintro e w2 ⟨v2, rfl, hO2, hB2x⟩
          have hB2 : Below w0.heap.size w0 w2 := (below_drewN' w0 w0.heap.size n).trans hB2x
          obtain ⟨ao2, cap2, rfl⟩ := hO2.shape
          have hH2 := HH0.out.below hB2 HH0.out.lt
          obtain ⟨wx, hwx⟩ : ∃ wx, wx = w2.alloc (.cells #[.string ⟨A1.toArray⟩, .string ⟨B1.toArray⟩, .int .i64 m1, .slice ao2 fs1.length cap2] 34) := ⟨_, rfl⟩
          have hbx : Below w2.heap.size w2 wx := by rw [hwx]; exact below_alloc w2 _
          have hHx := hH2.below hbx hH2.lt
          have hHr : HeadAt wx w2.heap.size (.string ⟨A1.toArray⟩) (.string ⟨B1.toArray⟩) (.int .i64 m1) (.slice ao2 fs1.length cap2) := by rw [hwx]; exact HeadAt.new w2 _ _ _ _
          have hSm := HSm.out _ _ wx (hO2.below hbx).sees ((HS0.out.below hB2).below hbx)
          have HB2 := hid (HB0.out.trans (hB2.mono HB0.out.size))
          have HBx := hid (HB2.out.trans (hbx.mono HB2.out.size))
          have HWX := hid hwx
          obtain ⟨p0, p1, p2, p3, _, _, _, _⟩ := hHx.cells
          obtain ⟨q0, q1, q2, q3, _, _, _, _⟩ := hHr.cells
          clear hwx hbx hHx hHr hH2 hO2 hB2 hB2x
          by_cases h0 : st = 0
          · have h0' : (st != 0) = false := by rw [bne_eq_false_iff_eq]; exact h0
            cases Bo with
            | true =>
              rw [if_pos ⟨h0, rfl⟩] at HPC
              have HE : Hid (G = S ∧ E = 0) := by unfold Hid; rw [HG.out, HEE.out, HPC.out]; exact ⟨rfl, rfl⟩
              clear h0 HPC
              go_wp2_with (first | rw [← HWX.out] | fail)
              refine hSm.mono ?_
              clear hSm
              rintro e w3 ⟨rfl, hB3⟩
              have HB3 := hid (HBx.out.trans (hB3.mono HBx.out.size))
              clear hB3
              go_wp2
              go_ret2
              exact ⟨by rw [HE.out.1, HE.out.2, ← HFin.out]; rfl, HB3.out⟩
            | false =>
              rw [if_neg (fun h => by cases h.2)] at HPC
              have HE : Hid (G = [] ∧ E = 70) := by unfold Hid; rw [HG.out, HEE.out, HPC.out]; exact ⟨rfl, rfl⟩
              clear h0 HPC
              go_wp2_with (first | rw [← HWX.out] | fail)
              refine hSm.mono ?_
              clear hSm
              rintro e w3 ⟨rfl, hB3⟩
              have HB3 := hid (HBx.out.trans (hB3.mono HBx.out.size))
              clear hB3
              go_wp2
              go_ret2
              exact ⟨by rw [HE.out.1, HE.out.2]; rfl, HB3.out⟩
          · have h0' : (st != 0) = true := by rw [bne_iff_ne]; exact h0
            rw [if_neg (fun h => h0 h.1)] at HPC
            have HE : Hid (G = [] ∧ E = 70) := by unfold Hid; rw [HG.out, HEE.out, HPC.out]; exact ⟨rfl, rfl⟩
            clear h0 HPC hSm
            go_wp2_with (first | rw [← HWX.out] | fail)
            go_ret2
            exact ⟨by rw [HE.out.1, HE.out.2]; rfl, HBx.out⟩
  by_cases m1' : m = 1
  · have HDG : Hid (minR m = [49]) := by unfold Hid; rw [m1']; decide
    have f0 : (m == 0) = false := by rw [beq_eq_false_iff_ne]; exact m0
    have f1 : (m == 1) = true := by rw [beq_iff_eq]; exact m1'
    clear m0 m1'
    go_enter Tryz.func19, Tryz.ntmps19
    go_wp2_with (first | rw [← HW0.out] | fail)
    go_loopw [5, 6] (fun s i wr => ∃ (k n : Nat), wr = w0.drewN n ∧ k ≤ fs.length ∧ k ≤ 33 ∧ i = .int .i64 (k : Int) ∧ s = .string ⟨(HW ++ joinE ((fs.take k).map rawOf)).toArray⟩ ∧ (HW ++ joinE ((fs.take k).map rawOf)).length ≤ 4000000 + k * 2100000) (fun _ i _ => 34 - (intOf i).toNat)
    case atStart =>
      refine ⟨0, 0, rfl, Nat.zero_le _, Nat.zero_le _, rfl, ?_, by simp [joinE]; omega⟩
      rw [HHW.out]
      simp only [str_appZ]
      simp [headW, verW, joinE, HDG.out]
    case round =>
      obtain ⟨k, n, rfl, hk, hk33, rfl, rfl, hlen⟩ := hrel
      obtain ⟨T, hT⟩ : ∃ T : ByteArray, T = ⟨(HW ++ joinE ((fs.take k).map rawOf)).toArray⟩ := ⟨_, rfl⟩
      have sT : T.size = (HW ++ joinE ((fs.take k).map rawOf)).length := by rw [hT, size_list]
      rw [← hT]
      have HT := hid hT
      have hTs : T.size ≤ 80000000 := by omega
      by_cases hlt : k < fs.length ∧ k ≤ 32
      · have hlt' : (k : Int) < (fs.length : Int) := by omega
        have h32' : (k : Int) ≤ 32 := by omega
        have h32d : decide ((k : Int) ≤ 32) = true := by simp; omega
        obtain rfl := hao (by intro h; rw [h] at hlt; simp at hlt)
        obtain ⟨d1, d2⟩ := HC.out k hlt.1
        unfold strV at d1 d2
        obtain ⟨hp1, hp2⟩ := HBd.out _ (List.getElem_mem hlt.1)
        have hnx : joinE ((fs.take (k + 1)).map rawOf) = joinE ((fs.take k).map rawOf) ++ (rawOf fs[k] ++ [13, 10]) := by
          rw [List.take_succ_eq_append_getElem hlt.1, List.map_append, joinE_app]
          simp [joinE]
        obtain ⟨P, hP⟩ : ∃ P, P = fs[k] := ⟨_, rfl⟩
        rw [← hP] at d1 d2 hp1 hp2 hnx
        obtain ⟨P1, P2⟩ := P
        simp only at d1 d2 hp1 hp2
        have HNX := hid hnx
        have n1 : ¬ 9223372036854775807 < T.size + P1.length := by omega
        have n2 : ¬ 9223372036854775807 < T.size + P1.length + 2 := by omega
        have n3 : ¬ 9223372036854775807 < T.size + P1.length + 2 + P2.length := by omega
        have n4 : ¬ 9223372036854775807 < T.size + P1.length + 2 + P2.length + 2 := by omega
        have HLN := hid hlen
        clear hT hP hnx sT hlen
        go_wp2_with fail
        go_quiet (fail)
        go_wp2
        go_roundw
        case rel =>
          have e1 := HNX.out
          refine ⟨k + 1, _, rfl, by omega, by omega, by go_num, ?_, ?_⟩
          · rw [HT.out, e1]
            simp only [str_appZ]
            simp [rawOf]
          · have := HLN.out
            rw [e1, ← List.append_assoc, List.length_append, rawOf_app]
            simp only [rawOf, List.length_append, List.length_cons, List.length_nil] at *
            omega
        case measure => simp [intOf]; omega
      · have hfin : joinE ((fs.take k).map rawOf) = joinE ((fs.take 33).map rawOf) := by
          by_cases h : k < fs.length
          · rw [show k = 33 by omega]
          · rw [List.take_of_length_le (by omega), List.take_of_length_le (by omega)]
        have HFin : Hid (T ++ ⟨#[13, 10]⟩ = ⟨S.toArray⟩) := by
          unfold Hid
          rw [HT.out, show (⟨#[13, 10]⟩ : ByteArray) = ⟨[13, 10].toArray⟩ from rfl, str_appZ, hfin, HSe.out]
        have n5 : ¬ 9223372036854775807 < T.size + 2 := by omega
        have hPa := HPa.out (w0.drewN n)
        rw [← HFin.out] at hPa
        have hcase : ¬ (k : Int) < (fs.length : Int) ∨ ((k : Int) < (fs.length : Int) ∧ ¬ (k : Int) ≤ 32) := by omega
        clear hT sT hlen hfin HT
        rcases hcase with hlt' | ⟨hlt', h32'⟩
        · clear hlt
          go_wp2_with fail
          refine hPa.mono ?_
          clear hPa
          rintro e w2 ⟨v2, rfl, hO2, hB2x⟩
          have hB2 : Below w0.heap.size w0 w2 := (below_drewN' w0 w0.heap.size n).trans hB2x
          obtain ⟨ao2, cap2, rfl⟩ := hO2.shape
          have hH2 := HH0.out.below hB2 HH0.out.lt
          obtain ⟨wx, hwx⟩ : ∃ wx, wx = w2.alloc (.cells #[.string ⟨A1.toArray⟩, .string ⟨B1.toArray⟩, .int .i64 m1, .slice ao2 fs1.length cap2] 34) := ⟨_, rfl⟩
          have hbx : Below w2.heap.size w2 wx := by rw [hwx]; exact below_alloc w2 _
          have hHx := hH2.below hbx hH2.lt
          have hHr : HeadAt wx w2.heap.size (.string ⟨A1.toArray⟩) (.string ⟨B1.toArray⟩) (.int .i64 m1) (.slice ao2 fs1.length cap2) := by rw [hwx]; exact HeadAt.new w2 _ _ _ _
          have hSm := HSm.out _ _ wx (hO2.below hbx).sees ((HS0.out.below hB2).below hbx)
          have HB2 := hid (HB0.out.trans (hB2.mono HB0.out.size))
          have HBx := hid (HB2.out.trans (hbx.mono HB2.out.size))
          have HWX := hid hwx
          obtain ⟨p0, p1, p2, p3, _, _, _, _⟩ := hHx.cells
          obtain ⟨q0, q1, q2, q3, _, _, _, _⟩ := hHr.cells
          clear hwx hbx hHx hHr hH2 hO2 hB2 hB2x
          by_cases h0 : st = 0
          · have h0' : (st != 0) = false := by rw [bne_eq_false_iff_eq]; exact h0
            cases Bo with
            | true =>
              rw [if_pos ⟨h0, rfl⟩] at HPC
              have HE : Hid (G = S ∧ E = 0) := by unfold Hid; rw [HG.out, HEE.out, HPC.out]; exact ⟨rfl, rfl⟩
              clear h0 HPC
              go_wp2_with (first | rw [← HWX.out] | fail)
              refine hSm.mono ?_
              clear hSm
              rintro e w3 ⟨rfl, hB3⟩
              have HB3 := hid (HBx.out.trans (hB3.mono HBx.out.size))
              clear hB3
              go_wp2
              go_ret2
              exact ⟨by rw [HE.out.1, HE.out.2, ← HFin.out]; rfl, HB3.out⟩
            | false =>
              rw [if_neg (fun h => by cases h.2)] at HPC
              have HE : Hid (G = [] ∧ E = 70) := by unfold Hid; rw [HG.out, HEE.out, HPC.out]; exact ⟨rfl, rfl⟩
              clear h0 HPC
              go_wp2_with (first | rw [← HWX.out] | fail)
              refine hSm.mono ?_
              clear hSm
              rintro e w3 ⟨rfl, hB3⟩
              have HB3 := hid (HBx.out.trans (hB3.mono HBx.out.size))
              clear hB3
              go_wp2
              go_ret2
              exact ⟨by rw [HE.out.1, HE.out.2]; rfl, HB3.out⟩
          · have h0' : (st != 0) = true := by rw [bne_iff_ne]; exact h0
            rw [if_neg (fun h => h0 h.1)] at HPC
            have HE : Hid (G = [] ∧ E = 70) := by unfold Hid; rw [HG.out, HEE.out, HPC.out]; exact ⟨rfl, rfl⟩
            clear h0 HPC hSm
            go_wp2_with (first | rw [← HWX.out] | fail)
            go_ret2
            exact ⟨by rw [HE.out.1, HE.out.2]; rfl, HBx.out⟩
        · have h32d : decide ((k : Int) ≤ 32) = false := by simp; omega
          clear hlt
          go_wp2_with fail
          refine hPa.mono ?_
          clear hPa
          rintro e w2 ⟨v2, rfl, hO2, hB2x⟩
          have hB2 : Below w0.heap.size w0 w2 := (below_drewN' w0 w0.heap.size n).trans hB2x
          obtain ⟨ao2, cap2, rfl⟩ := hO2.shape
          have hH2 := HH0.out.below hB2 HH0.out.lt
          obtain ⟨wx, hwx⟩ : ∃ wx, wx = w2.alloc (.cells #[.string ⟨A1.toArray⟩, .string ⟨B1.toArray⟩, .int .i64 m1, .slice ao2 fs1.length cap2] 34) := ⟨_, rfl⟩
          have hbx : Below w2.heap.size w2 wx := by rw [hwx]; exact below_alloc w2 _
          have hHx := hH2.below hbx hH2.lt
          have hHr : HeadAt wx w2.heap.size (.string ⟨A1.toArray⟩) (.string ⟨B1.toArray⟩) (.int .i64 m1) (.slice ao2 fs1.length cap2) := by rw [hwx]; exact HeadAt.new w2 _ _ _ _
          have hSm := HSm.out _ _ wx (hO2.below hbx).sees ((HS0.out.below hB2).below hbx)
          have HB2 := hid (HB0.out.trans (hB2.mono HB0.out.size))
          have HBx := hid (HB2.out.trans (hbx.mono HB2.out.size))
          have HWX := hid hwx
          obtain ⟨p0, p1, p2, p3, _, _, _, _⟩ := hHx.cells
          obtain ⟨q0, q1, q2, q3, _, _, _, _⟩ := hHr.cells
          clear hwx hbx hHx hHr hH2 hO2 hB2 hB2x
          by_cases h0 : st = 0
          · have h0' : (st != 0) = false := by rw [bne_eq_false_iff_eq]; exact h0
            cases Bo with
            | true =>
              rw [if_pos ⟨h0, rfl⟩] at HPC
              have HE : Hid (G = S ∧ E = 0) := by unfold Hid; rw [HG.out, HEE.out, HPC.out]; exact ⟨rfl, rfl⟩
              clear h0 HPC
              go_wp2_with (first | rw [← HWX.out] | fail)
              refine hSm.mono ?_
              clear hSm
              rintro e w3 ⟨rfl, hB3⟩
              have HB3 := hid (HBx.out.trans (hB3.mono HBx.out.size))
              clear hB3
              go_wp2
              go_ret2
              exact ⟨by rw [HE.out.1, HE.out.2, ← HFin.out]; rfl, HB3.out⟩
            | false =>
              rw [if_neg (fun h => by cases h.2)] at HPC
              have HE : Hid (G = [] ∧ E = 70) := by unfold Hid; rw [HG.out, HEE.out, HPC.out]; exact ⟨rfl, rfl⟩
              clear h0 HPC
              go_wp2_with (first | rw [← HWX.out] | fail)
              refine hSm.mono ?_
              clear hSm
              rintro e w3 ⟨rfl, hB3⟩
              have HB3 := hid (HBx.out.trans (hB3.mono HBx.out.size))
              clear hB3
              go_wp2
              go_ret2
              exact ⟨by rw [HE.out.1, HE.out.2]; rfl, HB3.out⟩
          · have h0' : (st != 0) = true := by rw [bne_iff_ne]; exact h0
            rw [if_neg (fun h => h0 h.1)] at HPC
            have HE : Hid (G = [] ∧ E = 70) := by unfold Hid; rw [HG.out, HEE.out, HPC.out]; exact ⟨rfl, rfl⟩
            clear h0 HPC hSm
            go_wp2_with (first | rw [← HWX.out] | fail)
            go_ret2
            exact ⟨by rw [HE.out.1, HE.out.2]; rfl, HBx.out⟩
  have HDG : Hid (minR m = [50]) := by unfold Hid minR; rw [if_neg m1', if_neg m0]
  have f0 : (m == 0) = false := by rw [beq_eq_false_iff_ne]; exact m0
  have f1 : (m == 1) = false := by rw [beq_eq_false_iff_ne]; exact m1'
  clear m0 m1'
  go_enter Tryz.func19, Tryz.ntmps19
  go_wp2_with (first | rw [← HW0.out] | fail)
  go_loopw [5, 6] (fun s i wr => ∃ (k n : Nat), wr = w0.drewN n ∧ k ≤ fs.length ∧ k ≤ 33 ∧ i = .int .i64 (k : Int) ∧ s = .string ⟨(HW ++ joinE ((fs.take k).map rawOf)).toArray⟩ ∧ (HW ++ joinE ((fs.take k).map rawOf)).length ≤ 4000000 + k * 2100000) (fun _ i _ => 34 - (intOf i).toNat)
  case atStart =>
    refine ⟨0, 0, rfl, Nat.zero_le _, Nat.zero_le _, rfl, ?_, by simp [joinE]; omega⟩
    rw [HHW.out]
    simp only [str_appZ]
    simp [headW, verW, joinE, HDG.out]
  case round =>
    obtain ⟨k, n, rfl, hk, hk33, rfl, rfl, hlen⟩ := hrel
    obtain ⟨T, hT⟩ : ∃ T : ByteArray, T = ⟨(HW ++ joinE ((fs.take k).map rawOf)).toArray⟩ := ⟨_, rfl⟩
    have sT : T.size = (HW ++ joinE ((fs.take k).map rawOf)).length := by rw [hT, size_list]
    rw [← hT]
    have HT := hid hT
    have hTs : T.size ≤ 80000000 := by omega
    by_cases hlt : k < fs.length ∧ k ≤ 32
    · have hlt' : (k : Int) < (fs.length : Int) := by omega
      have h32' : (k : Int) ≤ 32 := by omega
      have h32d : decide ((k : Int) ≤ 32) = true := by simp; omega
      obtain rfl := hao (by intro h; rw [h] at hlt; simp at hlt)
      obtain ⟨d1, d2⟩ := HC.out k hlt.1
      unfold strV at d1 d2
      obtain ⟨hp1, hp2⟩ := HBd.out _ (List.getElem_mem hlt.1)
      have hnx : joinE ((fs.take (k + 1)).map rawOf) = joinE ((fs.take k).map rawOf) ++ (rawOf fs[k] ++ [13, 10]) := by
        rw [List.take_succ_eq_append_getElem hlt.1, List.map_append, joinE_app]
        simp [joinE]
      obtain ⟨P, hP⟩ : ∃ P, P = fs[k] := ⟨_, rfl⟩
      rw [← hP] at d1 d2 hp1 hp2 hnx
      obtain ⟨P1, P2⟩ := P
      simp only at d1 d2 hp1 hp2
      have HNX := hid hnx
      have n1 : ¬ 9223372036854775807 < T.size + P1.length := by omega
      have n2 : ¬ 9223372036854775807 < T.size + P1.length + 2 := by omega
      have n3 : ¬ 9223372036854775807 < T.size + P1.length + 2 + P2.length := by omega
      have n4 : ¬ 9223372036854775807 < T.size + P1.length + 2 + P2.length + 2 := by omega
      have HLN := hid hlen
      clear hT hP hnx sT hlen
      go_wp2_with fail
      go_quiet (fail)
      go_wp2
      go_roundw
      case rel =>
        have e1 := HNX.out
        refine ⟨k + 1, _, rfl, by omega, by omega, by go_num, ?_, ?_⟩
        · rw [HT.out, e1]
          simp only [str_appZ]
          simp [rawOf]
        · have := HLN.out
          rw [e1, ← List.append_assoc, List.length_append, rawOf_app]
          simp only [rawOf, List.length_append, List.length_cons, List.length_nil] at *
          omega
      case measure => simp [intOf]; omega
    · have hfin : joinE ((fs.take k).map rawOf) = joinE ((fs.take 33).map rawOf) := by
        by_cases h : k < fs.length
        · rw [show k = 33 by omega]
        · rw [List.take_of_length_le (by omega), List.take_of_length_le (by omega)]
      have HFin : Hid (T ++ ⟨#[13, 10]⟩ = ⟨S.toArray⟩) := by
        unfold Hid
        rw [HT.out, show (⟨#[13, 10]⟩ : ByteArray) = ⟨[13, 10].toArray⟩ from rfl, str_appZ, hfin, HSe.out]
      have n5 : ¬ 9223372036854775807 < T.size + 2 := by omega
      have hPa := HPa.out (w0.drewN n)
      rw [← HFin.out] at hPa
      have hcase : ¬ (k : Int) < (fs.length : Int) ∨ ((k : Int) < (fs.length : Int) ∧ ¬ (k : Int) ≤ 32) := by omega
      clear hT sT hlen hfin HT
      rcases hcase with hlt' | ⟨hlt', h32'⟩
      · clear hlt
        go_wp2_with fail
        refine hPa.mono ?_
        clear hPa
        rintro e w2 ⟨v2, rfl, hO2, hB2x⟩
        have hB2 : Below w0.heap.size w0 w2 := (below_drewN' w0 w0.heap.size n).trans hB2x
        obtain ⟨ao2, cap2, rfl⟩ := hO2.shape
        have hH2 := HH0.out.below hB2 HH0.out.lt
        obtain ⟨wx, hwx⟩ : ∃ wx, wx = w2.alloc (.cells #[.string ⟨A1.toArray⟩, .string ⟨B1.toArray⟩, .int .i64 m1, .slice ao2 fs1.length cap2] 34) := ⟨_, rfl⟩
        have hbx : Below w2.heap.size w2 wx := by rw [hwx]; exact below_alloc w2 _
        have hHx := hH2.below hbx hH2.lt
        have hHr : HeadAt wx w2.heap.size (.string ⟨A1.toArray⟩) (.string ⟨B1.toArray⟩) (.int .i64 m1) (.slice ao2 fs1.length cap2) := by rw [hwx]; exact HeadAt.new w2 _ _ _ _
        have hSm := HSm.out _ _ wx (hO2.below hbx).sees ((HS0.out.below hB2).below hbx)
        have HB2 := hid (HB0.out.trans (hB2.mono HB0.out.size))
        have HBx := hid (HB2.out.trans (hbx.mono HB2.out.size))
        have HWX := hid hwx
        obtain ⟨p0, p1, p2, p3, _, _, _, _⟩ := hHx.cells
        obtain ⟨q0, q1, q2, q3, _, _, _, _⟩ := hHr.cells
        clear hwx hbx hHx hHr hH2 hO2 hB2 hB2x
        by_cases h0 : st = 0
        · have h0' : (st != 0) = false := by rw [bne_eq_false_iff_eq]; exact h0
          cases Bo with
          | true =>
            rw [if_pos ⟨h0, rfl⟩] at HPC
            have HE : Hid (G = S ∧ E = 0) := by unfold Hid; rw [HG.out, HEE.out, HPC.out]; exact ⟨rfl, rfl⟩
            clear h0 HPC
            go_wp2_with (first | rw [← HWX.out] | fail)
            refine hSm.mono ?_
            clear hSm
            rintro e w3 ⟨rfl, hB3⟩
            have HB3 := hid (HBx.out.trans (hB3.mono HBx.out.size))
            clear hB3
            go_wp2
            go_ret2
            exact ⟨by rw [HE.out.1, HE.out.2, ← HFin.out]; rfl, HB3.out⟩
          | false =>
            rw [if_neg (fun h => by cases h.2)] at HPC
            have HE : Hid (G = [] ∧ E = 70) := by unfold Hid; rw [HG.out, HEE.out, HPC.out]; exact ⟨rfl, rfl⟩
            clear h0 HPC
            go_wp2_with (first | rw [← HWX.out] | fail)
            refine hSm.mono ?_
            clear hSm
            rintro e w3 ⟨rfl, hB3⟩
            have HB3 := hid (HBx.out.trans (hB3.mono HBx.out.size))
            clear hB3
            go_wp2
            go_ret2
            exact ⟨by rw [HE.out.1, HE.out.2]; rfl, HB3.out⟩
        · have h0' : (st != 0) = true := by rw [bne_iff_ne]; exact h0
          rw [if_neg (fun h => h0 h.1)] at HPC
          have HE : Hid (G = [] ∧ E = 70) := by unfold Hid; rw [HG.out, HEE.out, HPC.out]; exact ⟨rfl, rfl⟩
          clear h0 HPC hSm
          go_wp2_with (first | rw [← HWX.out] | fail)
          go_ret2
          exact ⟨by rw [HE.out.1, HE.out.2]; rfl, HBx.out⟩
      · have h32d : decide ((k : Int) ≤ 32) = false := by simp; omega
        clear hlt
        go_wp2_with fail
        refine hPa.mono ?_
        clear hPa
        rintro e w2 ⟨v2, rfl, hO2, hB2x⟩
        have hB2 : Below w0.heap.size w0 w2 := (below_drewN' w0 w0.heap.size n).trans hB2x
        obtain ⟨ao2, cap2, rfl⟩ := hO2.shape
        have hH2 := HH0.out.below hB2 HH0.out.lt
        obtain ⟨wx, hwx⟩ : ∃ wx, wx = w2.alloc (.cells #[.string ⟨A1.toArray⟩, .string ⟨B1.toArray⟩, .int .i64 m1, .slice ao2 fs1.length cap2] 34) := ⟨_, rfl⟩
        have hbx : Below w2.heap.size w2 wx := by rw [hwx]; exact below_alloc w2 _
        have hHx := hH2.below hbx hH2.lt
        have hHr : HeadAt wx w2.heap.size (.string ⟨A1.toArray⟩) (.string ⟨B1.toArray⟩) (.int .i64 m1) (.slice ao2 fs1.length cap2) := by rw [hwx]; exact HeadAt.new w2 _ _ _ _
        have hSm := HSm.out _ _ wx (hO2.below hbx).sees ((HS0.out.below hB2).below hbx)
        have HB2 := hid (HB0.out.trans (hB2.mono HB0.out.size))
        have HBx := hid (HB2.out.trans (hbx.mono HB2.out.size))
        have HWX := hid hwx
        obtain ⟨p0, p1, p2, p3, _, _, _, _⟩ := hHx.cells
        obtain ⟨q0, q1, q2, q3, _, _, _, _⟩ := hHr.cells
        clear hwx hbx hHx hHr hH2 hO2 hB2 hB2x
        by_cases h0 : st = 0
        · have h0' : (st != 0) = false := by rw [bne_eq_false_iff_eq]; exact h0
          cases Bo with
          | true =>
            rw [if_pos ⟨h0, rfl⟩] at HPC
            have HE : Hid (G = S ∧ E = 0) := by unfold Hid; rw [HG.out, HEE.out, HPC.out]; exact ⟨rfl, rfl⟩
            clear h0 HPC
            go_wp2_with (first | rw [← HWX.out] | fail)
            refine hSm.mono ?_
            clear hSm
            rintro e w3 ⟨rfl, hB3⟩
            have HB3 := hid (HBx.out.trans (hB3.mono HBx.out.size))
            clear hB3
            go_wp2
            go_ret2
            exact ⟨by rw [HE.out.1, HE.out.2, ← HFin.out]; rfl, HB3.out⟩
          | false =>
            rw [if_neg (fun h => by cases h.2)] at HPC
            have HE : Hid (G = [] ∧ E = 70) := by unfold Hid; rw [HG.out, HEE.out, HPC.out]; exact ⟨rfl, rfl⟩
            clear h0 HPC
            go_wp2_with (first | rw [← HWX.out] | fail)
            refine hSm.mono ?_
            clear hSm
            rintro e w3 ⟨rfl, hB3⟩
            have HB3 := hid (HBx.out.trans (hB3.mono HBx.out.size))
            clear hB3
            go_wp2
            go_ret2
            exact ⟨by rw [HE.out.1, HE.out.2]; rfl, HB3.out⟩
        · have h0' : (st != 0) = true := by rw [bne_iff_ne]; exact h0
          rw [if_neg (fun h => h0 h.1)] at HPC
          have HE : Hid (G = [] ∧ E = 70) := by unfold Hid; rw [HG.out, HEE.out, HPC.out]; exact ⟨rfl, rfl⟩
          clear h0 HPC hSm
          go_wp2_with (first | rw [← HWX.out] | fail)
          go_ret2
          exact ⟨by rw [HE.out.1, HE.out.2]; rfl, HBx.out⟩
end Go.Proofs.YtllhibdjopfcnaaGreatDoor
