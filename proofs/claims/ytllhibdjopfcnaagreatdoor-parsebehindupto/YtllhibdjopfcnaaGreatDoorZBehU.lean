/-
  ParseBehind, where what it reads is of bulk at most 1048576: for every two such heads the law ParseBehind returns true: a request that is written behind others is read as if it stood alone. The listed tables are tied to the program.
-/
import Derived.Test.YtllhibdjopfcnaaGreatDoorZDAllU
import Derived.Test.YtllhibdjopfcnaaGreatDoorZRPrint
import Derived.Test.YtllhibdjopfcnaaGreatDoorZFrameH
namespace Go.Proofs.YtllhibdjopfcnaaGreatDoor
open Go.RowKit
set_option linter.unusedVariables false

set_option maxRecDepth 40000 in
set_option maxHeartbeats 16000000 in
theorem behind_walk (a b : HeadL) (v1 v2 : Value) (w : World) (hM : ML w) (hS1 : SeesP w v1 a.2.2.2) (hl1 : a.2.2.2.length ≤ 1048576) (hb1 : ∀ p ∈ a.2.2.2, p.1.length ≤ 1048576 ∧ p.2.length ≤ 1048576) (ha1 : a.1.length ≤ 1048576) (ha2 : a.2.1.length ≤ 1048576)
    (hS2 : SeesP w v2 b.2.2.2) (hl2 : b.2.2.2.length ≤ 1048576) (hb2 : ∀ p ∈ b.2.2.2, p.1.length ≤ 1048576 ∧ p.2.length ≤ 1048576) (hc1 : b.1.length ≤ 1048576) (hc2 : b.2.1.length ≤ 1048576) :
    Calls Tryz.prog 5 #[.agg #[strV a.1, strV a.2.1, .int .i64 a.2.2.1, v1], .agg #[strV b.1, strV b.2.1, .int .i64 b.2.2.1, v2]] w fun e w' => e = .returned (.bool true) ∧ Below w.heap.size w w' := by
  have HR1 := hid (fun w1 (h1 : Below w.heap.size w w1) => rprint_any a v1 w1 (hS1.below h1) hl1 hb1 ha1 ha2)
  have HR2 := hid (fun w1 (h1 : Below w.heap.size w w1) => rprint_any b v2 w1 (hS2.below h1) hl2 hb2 hc1 hc2)
  have HY1 := hid (fun w1 (h1 : Below w.heap.size w w1) => rbody_any a (strV a.1) (strV a.2.1) v1 w1 (hS1.below h1) hl1 (fun p hp => (hb1 p hp).2))
  have HY2 := hid (fun w1 (h1 : Below w.heap.size w w1) => rbody_any b (strV b.1) (strV b.2.1) v2 w1 (hS2.below h1) hl2 (fun p hp => (hb2 p hp).2))
  have HSm := hid (fun w1 (h1 : Below w.heap.size w w1) => hS2.below h1)
  obtain ⟨E1, hE1⟩ : ∃ E : Int, E = if (prnL a).isSome then 0 else 70 := ⟨_, rfl⟩
  obtain ⟨E2, hE2⟩ : ∃ E : Int, E = if (prnL b).isSome then 0 else 70 := ⟨_, rfl⟩
  obtain ⟨T1, hT1⟩ : ∃ T, T = (prnL a).getD [] := ⟨_, rfl⟩
  obtain ⟨T2, hT2⟩ : ∃ T, T = (prnL b).getD [] := ⟨_, rfl⟩
  obtain ⟨Y1, hY1⟩ : ∃ Y, Y = bodyL a := ⟨_, rfl⟩
  obtain ⟨Y2, hY2⟩ : ∃ Y, Y = bodyL b := ⟨_, rfl⟩
  rw [← hE1, ← hT1] at HR1
  rw [← hE2, ← hT2] at HR2
  rw [← hY1] at HY1
  rw [← hY2] at HY2
  obtain ⟨K1, N1, X1⟩ := Y1
  obtain ⟨K2, N2, X2⟩ := Y2
  have HFIN : Hid ((E1 = 0 → ∃ s, prnL a = some s ∧ s = T1) ∧ (E2 = 0 → ∃ s, prnL b = some s ∧ s = T2) ∧ ((bodyL a).1 = K1 ∧ (bodyL a).2.2 = X1) ∧ ((bodyL b).1 = K2 ∧ (bodyL b).2.2 = X2)) := hid (by
    refine ⟨fun h => ?_, fun h => ?_, by rw [← hY1]; exact ⟨rfl, rfl⟩, by rw [← hY2]; exact ⟨rfl, rfl⟩⟩
    · cases hp : prnL a with
      | none => rw [hE1, hp] at h; simp at h
      | some s => exact ⟨s, rfl, by rw [hT1, hp]; rfl⟩
    · cases hp : prnL b with
      | none => rw [hE2, hp] at h; simp at h
      | some s => exact ⟨s, rfl, by rw [hT2, hp]; rfl⟩)
  clear hE1 hE2 hT1 hT2 hY1 hY2
  have HW := hid awakeP_any
  have HM := hid hM
  have hgl := hM.lt
  obtain ⟨A1, A2, Am, A4⟩ := a
  obtain ⟨B1, B2, Bm, B4⟩ := b
  simp only [strV, outB] at HR1 HR2 HY1 HY2 HSm ⊢
  clear hM hS1 hl1 hb1 ha1 ha2 hS2 hl2 hb2 hc1 hc2
  obtain ⟨w0, hw0⟩ : ∃ w0, w0 = (w.alloc (.cells #[.string ⟨A1.toArray⟩, .string ⟨A2.toArray⟩, .int .i64 Am, v1] 34)).alloc (.cells #[.string ⟨B1.toArray⟩, .string ⟨B2.toArray⟩, .int .i64 Bm, v2] 34) := ⟨_, rfl⟩
  have hHa : HeadAt w0 w.heap.size (.string ⟨A1.toArray⟩) (.string ⟨A2.toArray⟩) (.int .i64 Am) v1 := by rw [hw0]; exact (HeadAt.new w _ _ _ _).below (below_alloc _ _) (HeadAt.new w _ _ _ _).lt
  have hHb : HeadAt w0 (w.heap.size + 1) (.string ⟨B1.toArray⟩) (.string ⟨B2.toArray⟩) (.int .i64 Bm) v2 := by
    have h := HeadAt.new (w.alloc (.cells #[.string ⟨A1.toArray⟩, .string ⟨A2.toArray⟩, .int .i64 Am, v1] 34)) (.string ⟨B1.toArray⟩) (.string ⟨B2.toArray⟩) (.int .i64 Bm) v2
    rw [← hw0] at h
    simpa using h
  have hB0 : Below w.heap.size w w0 := by rw [hw0]; exact (below_alloc w _).trans ((below_alloc _ _).mono (by simp))
  have HW0 := hid hw0
  have hR1 := HR1.out w0 hB0
  have HB0 := hid hB0
  have HBa := hid hHa
  have HBb := hid hHb
  clear hw0 hHa hHb hB0
  go_enter Tryz.func5, Tryz.ntmps5
  go_wp2_with fail
  rw [← HW0.out]
  refine hR1.mono ?_
  clear hR1
  rintro e w1 ⟨rfl, hB1⟩
  have HBa := hid (HBa.out.below hB1 HBa.out.lt)
  have HBb := hid (HBb.out.below hB1 HBb.out.lt)
  have hB01 := HB0.out.trans (hB1.mono HB0.out.size)
  have hR2 := HR2.out w1 hB01
  have HB1 := hid hB01
  obtain ⟨z0, z1, z2, z3, _, _, _, _⟩ := HBb.out.cells
  clear hB1 hB01
  go_wp2_with fail
  refine hR2.mono ?_
  clear hR2 z0 z1 z2 z3
  rintro e w2 ⟨rfl, hB2⟩
  have HBa := hid (HBa.out.below hB2 HBa.out.lt)
  have HBb := hid (HBb.out.below hB2 HBb.out.lt)
  have hB02 := HB1.out.trans (hB2.mono HB1.out.size)
  have hY1 := HY1.out w2 hB02
  have HB2 := hid hB02
  obtain ⟨z0, z1, z2, z3, _, _, _, _⟩ := HBa.out.cells
  clear hB2 hB02 HY1
  go_wp2_with fail
  refine hY1.mono ?_
  clear hY1 z0 z1 z2 z3
  rintro e w3 ⟨rfl, hB3⟩
  have HBb := hid (HBb.out.below hB3 HBb.out.lt)
  have hB03 := HB2.out.trans (hB3.mono HB2.out.size)
  have hY2 := HY2.out w3 hB03
  have HB3 := hid hB03
  obtain ⟨z0, z1, z2, z3, _, _, _, _⟩ := HBb.out.cells
  clear hB3 hB03 HY2
  go_wp2_with fail
  refine hY2.mono ?_
  clear hY2 z0 z1 z2 z3
  rintro e w4 ⟨rfl, hB4⟩
  have HBb := hid (HBb.out.below hB4 HBb.out.lt)
  have HB4 := hid (HB3.out.trans (hB4.mono HB3.out.size))
  clear hB4 HB0 HB1 HB2 HB3 HBa
  by_cases q1 : E1 = 0
  · have f0 : (E1 != 0) = false := by rw [bne_eq_false_iff_eq]; exact q1
    by_cases q2 : E2 = 0
    · have f1 : (E2 != 0) = false := by rw [bne_eq_false_iff_eq]; exact q2
      by_cases q3 : K1 = 0
      · have f2 : (K1 != 0) = false := by rw [bne_eq_false_iff_eq]; exact q3
        by_cases q4 : K2 = 0
        · have f3 : (K2 != 0) = false := by rw [bne_eq_false_iff_eq]; exact q4
          by_cases q5 : X1 = 0
          · have f4 : (X1 != 0) = false := by rw [bne_eq_false_iff_eq]; exact q5
            by_cases q6 : X2 = 0
            · have f5 : (X2 != 0) = false := by rw [bne_eq_false_iff_eq]; exact q6
              obtain ⟨s, hs, rfl⟩ := HFIN.out.1 q1
              obtain ⟨t, ht, rfl⟩ := HFIN.out.2.1 q2
              have hpa := (print_some hs).2
              have hpb := (print_some ht).2
              have hba := body_none (HFIN.out.2.2.1.1.trans q3) (HFIN.out.2.2.1.2.trans q5)
              have hbb := body_none (HFIN.out.2.2.2.1.trans q4) (HFIN.out.2.2.2.2.trans q6)
              have h1 := all_one hpb hbb
              have h2 := all_two hpa hpb hba hbb
              have hls : s.length ≤ 4096 := by obtain ⟨_, raws, r⟩ := parse_ok hpa; exact r.s4096
              have hlt : t.length ≤ 4096 := by obtain ⟨_, raws, r⟩ := parse_ok hpb; exact r.s4096
              have hn32 : B4.length ≤ 32 := by obtain ⟨_, raws, r⟩ := parse_ok hpb; exact r.n32
              have hA1 := all_any t w4 (HM.out.below HB4.out hgl) (by omega)
              have HA2 := hid (fun w1 (hb1 : Below w.heap.size w w1) => all_any (s ++ t) w1 (HM.out.below hb1 hgl) (by simp; omega))
              rw [h1] at hA1
              rw [h2] at HA2
              simp only at hA1 HA2
              have hj := str_join s t
              have hz1 : (⟨s.toArray⟩ : ByteArray).size ≤ 4096 := by rw [size_list]; exact hls
              have hz2 : (⟨t.toArray⟩ : ByteArray).size ≤ 4096 := by rw [size_list]; exact hlt
              rw [← hj] at HA2
              obtain ⟨sa, hsa⟩ : ∃ x : ByteArray, x = ⟨s.toArray⟩ := ⟨_, rfl⟩
              obtain ⟨ta, hta⟩ : ∃ x : ByteArray, x = ⟨t.toArray⟩ := ⟨_, rfl⟩
              rw [← hsa] at hz1 HA2 ⊢
              rw [← hta] at hz2 hA1 HA2 ⊢
              clear hsa hta hj h1 h2 hpa hpb hba hbb hs ht hls hlt q1 q2 q3 q4 q5 q6 HFIN
              go_wp2_with fail
              refine hA1.mono ?_
              clear hA1
              rintro e w5 ⟨u1, es1, rfl, hO1, hm1, hB5⟩
              obtain ⟨e1, rfl⟩ : ∃ e1, es1 = [e1] := by
                have hl := congrArg List.length hm1
                simp only [List.length_map, List.length_cons, List.length_nil] at hl
                match es1, hl with
                | [e1], _ => exact ⟨e1, rfl⟩
              have he1 : e1.q = reqOf (B1, B2, Bm, B4) [] := by simpa using hm1
              obtain ⟨ao1, cap1, rfl⟩ := hO1.shape
              have hB05 := HB4.out.trans (hB5.mono HB4.out.size)
              have hA2 := HA2.out w5 hB05
              have HO1 := hid hO1
              have HB5 := hid hB05
              have HBb := hid (HBb.out.below hB5 HBb.out.lt)
              clear hO1 hm1 hB5 hB05 HA2
              go_wp2_with fail
              refine hA2.mono ?_
              clear hA2
              rintro e wz ⟨u2, es2, rfl, hO2, hm2, hB6⟩
              obtain ⟨e0, e2, rfl⟩ : ∃ e0 e2, es2 = [e0, e2] := by
                have hl := congrArg List.length hm2
                simp only [List.length_map, List.length_cons, List.length_nil] at hl
                match es2, hl with
                | [e0, e2], _ => exact ⟨e0, e2, rfl⟩
              have he2 : e2.q = reqOf (B1, B2, Bm, B4) [] := by
                simp only [List.map_cons, List.map_nil, List.cons.injEq, and_true] at hm2
                exact hm2.2
              obtain ⟨ao2, cap2, rfl⟩ := hO2.shape
              have hB06 := HB5.out.trans (hB6.mono HB5.out.size)
              have HB6 := hid hB06
              have hseen1 := (HO1.out.below hB6).sees
              have hseen2 := hO2.sees
              have hBb := HBb.out.below hB6 HBb.out.lt
              obtain ⟨g1, ax1, cx1, hv1, hc1, ha1, hcell1, hpp1⟩ := hseen1
              obtain ⟨g2, ax2, cx2, hv2, hc2, ha2, hcell2, hpp2⟩ := hseen2
              injection hv1 with hv1a _ hv1c
              injection hv2 with hv2a _ hv2c
              rw [ha1 (by simp)] at hv1a
              rw [ha2 (by simp)] at hv2a
              subst hv1a
              subst hv2a
              subst hv1c
              subst hv2c
              have hP1 := hpp1 e1 (by simp)
              have hP2 := hpp2 e2 (by simp)
              have c0 := hcell1 0 0 (by simp) (by decide)
              have c1 := hcell1 0 1 (by simp) (by decide)
              have c2 := hcell1 0 2 (by simp) (by decide)
              have c3 := hcell1 0 3 (by simp) (by decide)
              have c4 := hcell1 0 4 (by simp) (by decide)
              have c5 := hcell1 0 5 (by simp) (by decide)
              have c6 := hcell1 0 6 (by simp) (by decide)
              have c7 := hcell1 0 7 (by simp) (by decide)
              have c8 := hcell2 1 0 (by simp) (by decide)
              have c9 := hcell2 1 1 (by simp) (by decide)
              have c10 := hcell2 1 2 (by simp) (by decide)
              have c11 := hcell2 1 3 (by simp) (by decide)
              have c12 := hcell2 1 4 (by simp) (by decide)
              have c13 := hcell2 1 5 (by simp) (by decide)
              have c14 := hcell2 1 6 (by simp) (by decide)
              have c15 := hcell2 1 7 (by simp) (by decide)
              simp only [List.getElem_cons_succ, List.getElem_cons_zero, RqE.row, RqE.vf, RqE.vq, List.getElem?_cons_succ, List.getElem?_cons_zero, Nat.zero_mul, Nat.one_mul, Nat.zero_add, Nat.reduceAdd] at c0 c1 c2 c3 c4 c5 c6 c7 c8 c9 c10 c11 c12 c13 c14 c15
              obtain ⟨c20, c21, c22, c23, _, _, _, _⟩ := hBb.cells
              have hrq : sameRq e1.q e2.q = true := sameRq_iff.2 (by rw [he1, he2])
              have hhd : e1.q.head = (B1, B2, Bm, B4) := by rw [he1]; rfl
              have HSq := hid (fun W (hb : Below wz.heap.size wz W) => rsame_any e1 e2 W ⟨hP1.1.below hb, hP1.2.below hb⟩ ⟨hP2.1.below hb, hP2.2.below hb⟩ (by rw [hhd]; simp only; omega) (by rw [he1]; have := tgt_few B2; simp only [reqOf]; omega))
              rw [hrq] at HSq
              have HSh := hid (fun W (hb : Below wz.heap.size wz W) => rsame7_any e1.q.head (B1, B2, Bm, B4) (.slice e1.af e1.q.head.2.2.2.length e1.cf) v2 W (hP1.1.below hb) (HSm.out W (HB6.out.trans (hb.mono HB6.out.size))) (by rw [hhd]; simp only; omega))
              rw [show sameL e1.q.head (B1, B2, Bm, B4) = true by rw [hhd]; exact sameL_self _] at HSh
              simp only [strV] at HSh
              have HZ : Hid (∀ W, Below wz.heap.size wz W → Below w.heap.size w W) := hid fun W hb => HB6.out.trans (hb.mono HB6.out.size)
              have HK : Hid (∀ W W' : World, Below W.heap.size W W' → (Below wz.heap.size wz W ∧ W.cell? ⟨g1, 0, none⟩ = some (.string ⟨e1.q.head.1.toArray⟩) ∧ W.cell? ⟨g1, 1, none⟩ = some (.string ⟨e1.q.head.2.1.toArray⟩) ∧ W.cell? ⟨g1, 2, none⟩ = some (.int .i64 e1.q.head.2.2.1) ∧ W.cell? ⟨g1, 3, none⟩ = some (.slice e1.af e1.q.head.2.2.2.length e1.cf) ∧ W.cell? ⟨g1, 4, none⟩ = some (.string ⟨e1.q.path.toArray⟩) ∧ W.cell? ⟨g1, 5, none⟩ = some (.slice e1.aq e1.q.query.length e1.cq) ∧ W.cell? ⟨g1, 6, none⟩ = some (.string ⟨e1.q.body.toArray⟩) ∧ W.cell? ⟨g1, 7, none⟩ = some (.bool e1.q.close) ∧ W.cell? ⟨g2, 8, none⟩ = some (.string ⟨e2.q.head.1.toArray⟩) ∧ W.cell? ⟨g2, 9, none⟩ = some (.string ⟨e2.q.head.2.1.toArray⟩) ∧ W.cell? ⟨g2, 10, none⟩ = some (.int .i64 e2.q.head.2.2.1) ∧ W.cell? ⟨g2, 11, none⟩ = some (.slice e2.af e2.q.head.2.2.2.length e2.cf) ∧ W.cell? ⟨g2, 12, none⟩ = some (.string ⟨e2.q.path.toArray⟩) ∧ W.cell? ⟨g2, 13, none⟩ = some (.slice e2.aq e2.q.query.length e2.cq) ∧ W.cell? ⟨g2, 14, none⟩ = some (.string ⟨e2.q.body.toArray⟩) ∧ W.cell? ⟨g2, 15, none⟩ = some (.bool e2.q.close) ∧ W.cell? ⟨w.heap.size + 1, 0, none⟩ = some (.string ⟨B1.toArray⟩) ∧ W.cell? ⟨w.heap.size + 1, 1, none⟩ = some (.string ⟨B2.toArray⟩) ∧ W.cell? ⟨w.heap.size + 1, 2, none⟩ = some (.int .i64 Bm) ∧ W.cell? ⟨w.heap.size + 1, 3, none⟩ = some (v2)) → (Below wz.heap.size wz W' ∧ W'.cell? ⟨g1, 0, none⟩ = some (.string ⟨e1.q.head.1.toArray⟩) ∧ W'.cell? ⟨g1, 1, none⟩ = some (.string ⟨e1.q.head.2.1.toArray⟩) ∧ W'.cell? ⟨g1, 2, none⟩ = some (.int .i64 e1.q.head.2.2.1) ∧ W'.cell? ⟨g1, 3, none⟩ = some (.slice e1.af e1.q.head.2.2.2.length e1.cf) ∧ W'.cell? ⟨g1, 4, none⟩ = some (.string ⟨e1.q.path.toArray⟩) ∧ W'.cell? ⟨g1, 5, none⟩ = some (.slice e1.aq e1.q.query.length e1.cq) ∧ W'.cell? ⟨g1, 6, none⟩ = some (.string ⟨e1.q.body.toArray⟩) ∧ W'.cell? ⟨g1, 7, none⟩ = some (.bool e1.q.close) ∧ W'.cell? ⟨g2, 8, none⟩ = some (.string ⟨e2.q.head.1.toArray⟩) ∧ W'.cell? ⟨g2, 9, none⟩ = some (.string ⟨e2.q.head.2.1.toArray⟩) ∧ W'.cell? ⟨g2, 10, none⟩ = some (.int .i64 e2.q.head.2.2.1) ∧ W'.cell? ⟨g2, 11, none⟩ = some (.slice e2.af e2.q.head.2.2.2.length e2.cf) ∧ W'.cell? ⟨g2, 12, none⟩ = some (.string ⟨e2.q.path.toArray⟩) ∧ W'.cell? ⟨g2, 13, none⟩ = some (.slice e2.aq e2.q.query.length e2.cq) ∧ W'.cell? ⟨g2, 14, none⟩ = some (.string ⟨e2.q.body.toArray⟩) ∧ W'.cell? ⟨g2, 15, none⟩ = some (.bool e2.q.close) ∧ W'.cell? ⟨w.heap.size + 1, 0, none⟩ = some (.string ⟨B1.toArray⟩) ∧ W'.cell? ⟨w.heap.size + 1, 1, none⟩ = some (.string ⟨B2.toArray⟩) ∧ W'.cell? ⟨w.heap.size + 1, 2, none⟩ = some (.int .i64 Bm) ∧ W'.cell? ⟨w.heap.size + 1, 3, none⟩ = some (v2))) := hid fun W W' hb hh => by
                have hB := hh.1.trans (hb.mono hh.1.size)
                have hc : ∀ (a : Addr) (x : Value), wz.cell? a = some x → W'.cell? a = some x := fun a x hx => (hB.cell (World.block_lt_of_cell? wz _ hx)).trans hx
                exact ⟨hB, hc _ _ c0, hc _ _ c1, hc _ _ c2, hc _ _ c3, hc _ _ c4, hc _ _ c5, hc _ _ c6, hc _ _ c7, hc _ _ c8, hc _ _ c9, hc _ _ c10, hc _ _ c11, hc _ _ c12, hc _ _ c13, hc _ _ c14, hc _ _ c15, hc _ _ c20, hc _ _ c21, hc _ _ c22, hc _ _ c23⟩
              have HZ1 : Hid (∀ W : World, (Below wz.heap.size wz W ∧ W.cell? ⟨g1, 0, none⟩ = some (.string ⟨e1.q.head.1.toArray⟩) ∧ W.cell? ⟨g1, 1, none⟩ = some (.string ⟨e1.q.head.2.1.toArray⟩) ∧ W.cell? ⟨g1, 2, none⟩ = some (.int .i64 e1.q.head.2.2.1) ∧ W.cell? ⟨g1, 3, none⟩ = some (.slice e1.af e1.q.head.2.2.2.length e1.cf) ∧ W.cell? ⟨g1, 4, none⟩ = some (.string ⟨e1.q.path.toArray⟩) ∧ W.cell? ⟨g1, 5, none⟩ = some (.slice e1.aq e1.q.query.length e1.cq) ∧ W.cell? ⟨g1, 6, none⟩ = some (.string ⟨e1.q.body.toArray⟩) ∧ W.cell? ⟨g1, 7, none⟩ = some (.bool e1.q.close) ∧ W.cell? ⟨g2, 8, none⟩ = some (.string ⟨e2.q.head.1.toArray⟩) ∧ W.cell? ⟨g2, 9, none⟩ = some (.string ⟨e2.q.head.2.1.toArray⟩) ∧ W.cell? ⟨g2, 10, none⟩ = some (.int .i64 e2.q.head.2.2.1) ∧ W.cell? ⟨g2, 11, none⟩ = some (.slice e2.af e2.q.head.2.2.2.length e2.cf) ∧ W.cell? ⟨g2, 12, none⟩ = some (.string ⟨e2.q.path.toArray⟩) ∧ W.cell? ⟨g2, 13, none⟩ = some (.slice e2.aq e2.q.query.length e2.cq) ∧ W.cell? ⟨g2, 14, none⟩ = some (.string ⟨e2.q.body.toArray⟩) ∧ W.cell? ⟨g2, 15, none⟩ = some (.bool e2.q.close) ∧ W.cell? ⟨w.heap.size + 1, 0, none⟩ = some (.string ⟨B1.toArray⟩) ∧ W.cell? ⟨w.heap.size + 1, 1, none⟩ = some (.string ⟨B2.toArray⟩) ∧ W.cell? ⟨w.heap.size + 1, 2, none⟩ = some (.int .i64 Bm) ∧ W.cell? ⟨w.heap.size + 1, 3, none⟩ = some (v2)) → Below wz.heap.size wz W) := hid fun W hh => hh.1
              have HMz : Hid (∀ W, Below wz.heap.size wz W → ML W) := hid fun W hb => HM.out.below (HZ.out W hb) hgl
              have h11 : (1 : Int) < ((2 : Nat) : Int) := by decide
              clear hm2 hO2 hB6 hB06 hP1 hP2 hhd hrq he1 he2 hcell1 hcell2 ha1 ha2 hpp1 hpp2 hBb hc1 hc2
              go_wp2_with fail
              go_region_held3 (fun W => Below wz.heap.size wz W ∧ W.cell? ⟨g1, 0, none⟩ = some (.string ⟨e1.q.head.1.toArray⟩) ∧ W.cell? ⟨g1, 1, none⟩ = some (.string ⟨e1.q.head.2.1.toArray⟩) ∧ W.cell? ⟨g1, 2, none⟩ = some (.int .i64 e1.q.head.2.2.1) ∧ W.cell? ⟨g1, 3, none⟩ = some (.slice e1.af e1.q.head.2.2.2.length e1.cf) ∧ W.cell? ⟨g1, 4, none⟩ = some (.string ⟨e1.q.path.toArray⟩) ∧ W.cell? ⟨g1, 5, none⟩ = some (.slice e1.aq e1.q.query.length e1.cq) ∧ W.cell? ⟨g1, 6, none⟩ = some (.string ⟨e1.q.body.toArray⟩) ∧ W.cell? ⟨g1, 7, none⟩ = some (.bool e1.q.close) ∧ W.cell? ⟨g2, 8, none⟩ = some (.string ⟨e2.q.head.1.toArray⟩) ∧ W.cell? ⟨g2, 9, none⟩ = some (.string ⟨e2.q.head.2.1.toArray⟩) ∧ W.cell? ⟨g2, 10, none⟩ = some (.int .i64 e2.q.head.2.2.1) ∧ W.cell? ⟨g2, 11, none⟩ = some (.slice e2.af e2.q.head.2.2.2.length e2.cf) ∧ W.cell? ⟨g2, 12, none⟩ = some (.string ⟨e2.q.path.toArray⟩) ∧ W.cell? ⟨g2, 13, none⟩ = some (.slice e2.aq e2.q.query.length e2.cq) ∧ W.cell? ⟨g2, 14, none⟩ = some (.string ⟨e2.q.body.toArray⟩) ∧ W.cell? ⟨g2, 15, none⟩ = some (.bool e2.q.close) ∧ W.cell? ⟨w.heap.size + 1, 0, none⟩ = some (.string ⟨B1.toArray⟩) ∧ W.cell? ⟨w.heap.size + 1, 1, none⟩ = some (.string ⟨B2.toArray⟩) ∧ W.cell? ⟨w.heap.size + 1, 2, none⟩ = some (.int .i64 Bm) ∧ W.cell? ⟨w.heap.size + 1, 3, none⟩ = some (v2)) (first | (exact ⟨Below.drew (Below.refl _ _), c0, c1, c2, c3, c4, c5, c6, c7, c8, c9, c10, c11, c12, c13, c14, c15, c20, c21, c22, c23⟩) | (exact HK.out _ _ (by assumption) (by assumption)))
                (first
                  | (go_at_call 11
                     refine (HSq.out _ (HZ1.out _ (by assumption))).mono ?_
                     rintro e' wa ⟨rfl, hBa⟩)
                  | (go_at_call 21
                     refine (HSh.out _ (HZ1.out _ (by assumption))).mono ?_
                     rintro e' wb ⟨rfl, hBb⟩)
                  | (go_at_call 15
                     refine (HW.out _ (HMz.out _ (HZ1.out _ (by assumption)))).mono ?_
                     rintro e' wc ⟨rfl, hBc⟩))
              all_goals
                have HB7 := hid (HZ.out _ (HZ1.out _ (by assumption)))
                clear HSq HSh HW HMz HK HZ HZ1
                go_wp2
                go_ret
                exact ⟨rfl, HB7.out⟩
            · have f5 : (X2 != 0) = true := by rw [bne_iff_ne]; exact q6
              clear HFIN HR1 HR2 HSm q1 q2 q3 q4 q5 q6 
              obtain ⟨wy, hwy⟩ : ∃ wy, wy = w4 := ⟨_, rfl⟩
              have hA := HW.out w4 (HM.out.below HB4.out hgl)
              go_wp2_with fail
              refine hA.mono ?_
              clear hA
              rintro e w9 ⟨rfl, hB9⟩
              have HB9 := hid (HB4.out.trans (hB9.mono HB4.out.size))
              clear hB9
              go_wp2
              go_ret
              exact ⟨rfl, HB9.out⟩
          · have f4 : (X1 != 0) = true := by rw [bne_iff_ne]; exact q5
            clear HFIN HR1 HR2 HSm q1 q2 q3 q4 q5 
            obtain ⟨wy, hwy⟩ : ∃ wy, wy = w4 := ⟨_, rfl⟩
            have hA := HW.out w4 (HM.out.below HB4.out hgl)
            go_wp2_with fail
            refine hA.mono ?_
            clear hA
            rintro e w9 ⟨rfl, hB9⟩
            have HB9 := hid (HB4.out.trans (hB9.mono HB4.out.size))
            clear hB9
            go_wp2
            go_ret
            exact ⟨rfl, HB9.out⟩
        · have f3 : (K2 != 0) = true := by rw [bne_iff_ne]; exact q4
          clear HFIN HR1 HR2 HSm q1 q2 q3 q4 
          obtain ⟨wy, hwy⟩ : ∃ wy, wy = w4 := ⟨_, rfl⟩
          have hA := HW.out w4 (HM.out.below HB4.out hgl)
          go_wp2_with fail
          refine hA.mono ?_
          clear hA
          rintro e w9 ⟨rfl, hB9⟩
          have HB9 := hid (HB4.out.trans (hB9.mono HB4.out.size))
          clear hB9
          go_wp2
          go_ret
          exact ⟨rfl, HB9.out⟩
      · have f2 : (K1 != 0) = true := by rw [bne_iff_ne]; exact q3
        clear HFIN HR1 HR2 HSm q1 q2 q3 
        obtain ⟨wy, hwy⟩ : ∃ wy, wy = w4 := ⟨_, rfl⟩
        have hA := HW.out w4 (HM.out.below HB4.out hgl)
        go_wp2_with fail
        refine hA.mono ?_
        clear hA
        rintro e w9 ⟨rfl, hB9⟩
        have HB9 := hid (HB4.out.trans (hB9.mono HB4.out.size))
        clear hB9
        go_wp2
        go_ret
        exact ⟨rfl, HB9.out⟩
    · have f1 : (E2 != 0) = true := by rw [bne_iff_ne]; exact q2
      clear HFIN HR1 HR2 HSm q1 q2 
      obtain ⟨wy, hwy⟩ : ∃ wy, wy = w4 := ⟨_, rfl⟩
      have hA := HW.out w4 (HM.out.below HB4.out hgl)
      go_wp2_with fail
      refine hA.mono ?_
      clear hA
      rintro e w9 ⟨rfl, hB9⟩
      have HB9 := hid (HB4.out.trans (hB9.mono HB4.out.size))
      clear hB9
      go_wp2
      go_ret
      exact ⟨rfl, HB9.out⟩
  · have f0 : (E1 != 0) = true := by rw [bne_iff_ne]; exact q1
    clear HFIN HR1 HR2 HSm q1 
    obtain ⟨wy, hwy⟩ : ∃ wy, wy = w4 := ⟨_, rfl⟩
    have hA := HW.out w4 (HM.out.below HB4.out hgl)
    go_wp2_with fail
    refine hA.mono ?_
    clear hA
    rintro e w9 ⟨rfl, hB9⟩
    have HB9 := hid (HB4.out.trans (hB9.mono HB4.out.size))
    clear hB9
    go_wp2
    go_ret
    exact ⟨rfl, HB9.out⟩

end Go.Proofs.YtllhibdjopfcnaaGreatDoor

namespace Go.Proofs.YtllhibdjopfcnaaGreatDoor.parseBehind
open Go.ChangeShapes Go.WideShapes Go.ChangeAt Go.RowKit Go.ChangeMaps
set_option linter.unusedVariables false

set_option maxRecDepth 100000 in
theorem contract (H : Type) (enc : TypeId × Value → H) (W : World) (base : Nat) (args : Array Value) (ds gs : List (DataW H)) (before : List MemPlace)
    (hval : ∀ (j : Nat) t v, Tryz.f5.params[j]? = some t → args[j]? = some v → Value.okWide Tryz.prog W .any base t v)
    (hW : DataW.Whole enc Tryz.prog Tryz.f5.params.toList Rows.parseBehindSpec.vars false W args.toList ds gs before) (hk : Rows.uptoSmall H (ds ++ gs) = true) (hM : ML W) :
    Calls Tryz.prog 5 args W fun e W' => ∃ v, e = .returned v ∧ Rows.parseBehindSpec.post enc Tryz.prog Tryz.f5 false true false false W args v W' := by
  have hW' := hW
  obtain ⟨p, q, hA0, hV, rfl, hfz, hnd⟩ := hW
  have hA : DataW.TrodAll enc Tryz.prog W 0 (fun _ => true) true Tryz.f5.params.toList args.toList ds p := hA0
  rw [Tryz.params5] at hA hval
  obtain ⟨v0, vs0, d0, ds0, p0, q0, hargs, rfl, rfl, h0, r0⟩ := trodAll_cons hA
  obtain ⟨v1, vs1, d1, ds1, p1, q1, rfl, rfl, rfl, h1, r1⟩ := trodAll_cons r0
  obtain ⟨rfl, rfl, rfl⟩ := trodAll_nil r1
  obtain rfl : args = #[v0, v1] := by cases args; simp_all
  obtain ⟨rfl, rfl⟩ := trodVars_none hV
  obtain ⟨hd0, u0, hv0, hx0, bx0⟩ := head_arg (hval 0 34 v0 rfl rfl) h0
  have bk0 : headBulk hd0 ≤ 1048576 := bulk_head hk (j := 0) rfl bx0
  have lt0 : ∀ x ∈ p0, x.block < W.heap.size := by obtain ⟨m, hm⟩ := h0; exact DataW.trod_lt m _ _ _ hm
  subst hv0
  obtain ⟨hd1, u1, hv1, hx1, bx1⟩ := head_arg (hval 1 34 v1 rfl rfl) h1
  have bk1 : headBulk hd1 ≤ 1048576 := bulk_head hk (j := 1) rfl bx1
  have lt1 : ∀ x ∈ p1, x.block < W.heap.size := by obtain ⟨m, hm⟩ := h1; exact DataW.trod_lt m _ _ _ hm
  subst hv1
  clear hA0
  refine (behind_walk hd0 hd1 u0 u1 W hM hx0.1 (headBulk_few bk0).1 (headBulk_few bk0).2.1 (headBulk_few bk0).2.2.1 (headBulk_few bk0).2.2.2 hx1.1 (headBulk_few bk1).1 (headBulk_few bk1).2.1 (headBulk_few bk1).2.2.1 (headBulk_few bk1).2.2.2).mono fun e W' ⟨he, bel⟩ => ?_
  subst he
  exact ⟨_, rfl, _, _, _, [], _, [], hW', trodAll_mk1 (shut_bool Tryz.underlying4 _), (trodAll_cons_mk (Below.trod laidOut (by kernel_rfl) (of_decide_eq_true (by kernel_rfl)) h0 bel lt0) (trodAll_cons_mk (Below.trod laidOut (by kernel_rfl) (of_decide_eq_true (by kernel_rfl)) h1 bel lt1) trodAll_mk0)), rfl, bel.frame _, fun h => by cases h⟩

theorem reads (os : Os) {H : Type} (enc : TypeId × Value → H) : ∃ places, DataW.whole enc Tryz.prog (({ World.holding Tryz.prog os ⟨#[], #[], []⟩ with heap := ((World.holding Tryz.prog os ⟨#[], #[], []⟩).heap.modify 2 layRanges).modify 1 layFirst } : World).forCall (fun _ _ => 0) ⟨#[], #[.agg #[.string { data := #[] }, .string { data := #[] }, .int .i64 0, .slice none 0 0], .agg #[.string { data := #[] }, .string { data := #[] }, .int .i64 0, .slice none 0 0]], []⟩).memory Tryz.f5.params.toList Rows.parseBehindSpec.vars false (#[.agg #[.string { data := #[] }, .string { data := #[] }, .int .i64 0, .slice none 0 0], .agg #[.string { data := #[] }, .string { data := #[] }, .int .i64 0, .slice none 0 0]] : Array Value).toList 8 = some ([.agg [.lit (.string []), .lit (.string []), .lit (.int .i64 0), .nil], .agg [.lit (.string []), .lit (.string []), .lit (.int .i64 0), .nil]], [], places) :=
  ⟨[], by kernel_rfl⟩

set_option maxRecDepth 100000 in
theorem lifted (os : Os) (started : os.Started) (H : Type) (enc : TypeId × Value → H) (F : Stop.Interp) :
    ReturnsInHanded {} Tryz.checked os 5 .any ((Rows.OpenSpec.upto Rows.parseBehindSpec).preRow enc Tryz.prog Tryz.f5 Rows.parseBehindUptoRow.domain false Rows.parseBehindUptoRow.laid) (((Rows.OpenSpec.upto Rows.parseBehindSpec).at F).post enc Tryz.prog Tryz.f5 false true false false) := by
  obtain ⟨places, hx⟩ := reads os enc
  refine returnsInHanded_of_row (C := Tryz.checked) (s := Rows.OpenSpec.upto Rows.parseBehindSpec) own started (by kernel_rfl) Tryz.func5
    (witness_row_at (enc := enc) (C := Tryz.checked) false { World.holding Tryz.prog os ⟨#[], #[], []⟩ with heap := ((World.holding Tryz.prog os ⟨#[], #[], []⟩).heap.modify 2 layRanges).modify 1 layFirst } #[.agg #[.string { data := #[] }, .string { data := #[] }, .int .i64 0, .slice none 0 0], .agg #[.string { data := #[] }, .string { data := #[] }, .int .i64 0, .slice none 0 0]] rfl (by kernel_rfl) (by kernel_rfl) (by kernel_rfl)
      (OpenSpec.preRow_of_cond 8 hx (by kernel_rfl) (fun k hk => by cases hk; kernel_rfl) (by kernel_rfl) (laid_met os _))) ?_
  intro W base args ds gs before hval hW _ hcond hz hL hsh _
  exact contract H enc W base args ds gs before hval hW (hcond _ rfl) (ml_of hsh)

theorem said : Rows.ParseBehindUptoSaid :=
  OpenClaim.holds_of_cond 5 Tryz.f5 rfl rfl rfl rfl rfl rfl rfl ⟨rfl, rfl, rfl, rfl, rfl⟩ rfl rfl rfl rfl rfl (by kernel_rfl) Tryz.func5 (by kernel_rfl)
    (of_decide_eq_true (by kernel_rfl)) (by unfold Func.isWrapper; first | (rw [if_pos (by decide +kernel)]; kernel_rfl) | (rw [if_neg (by decide +kernel)]; exact ⟨rfl, rfl⟩))
    (fun os started H enc _ F => by rw [OpenClaim.pre_eq_preRow]; exact lifted os started H enc F)

theorem plain (f : FuncId) (fn : Func) (hf : Tryz.pinned.checked.prog.funcNamed "cloister/cloisterlaw08.ParseBehind" = some f) (hfn : Tryz.pinned.checked.prog.funcs[f]? = some fn) :
    false = Tryz.pinned.checked.prog.looks [] ∧ ∀ (j : Nat) t, fn.params[j]? = some t → Tryz.pinned.checked.prog.wantsStandIn t = false := by
  obtain rfl : f = 5 := Option.some.inj ((show Tryz.prog.funcNamed "cloister/cloisterlaw08.ParseBehind" = some 5 by kernel_rfl).symm.trans hf) |>.symm
  obtain rfl : fn = Tryz.f5 := (Option.some.inj (Tryz.func5.symm.trans hfn)).symm
  refine ⟨by kernel_rfl, fun j t ht => ?_⟩
  rw [Tryz.params5] at ht
  have hm := Array.mem_of_getElem? ht
  simp only [List.mem_toArray, List.mem_cons, List.not_mem_nil, or_false, or_self] at hm
  subst hm
  exact (show Tryz.prog.wantsStandIn 34 = false by kernel_rfl)

theorem card : Rows.ParseBehindUptoCardSaid :=
  Claim7.holds_tied_plain_at .later [] _ _ _ _ said (fun _ h => by cases h) (by kernel_rfl) (fun _ h => by cases h) parseBehindUpto_row_tie rfl ⟨rfl, rfl⟩ (by kernel_rfl) rfl plain (by kernel_rfl)

end Go.Proofs.YtllhibdjopfcnaaGreatDoor.parseBehind
namespace Go.Proofs.YtllhibdjopfcnaaGreatDoor
theorem parseBehindUpto_holds : Rows.ParseBehindUptoCardSaid := parseBehind.card
end Go.Proofs.YtllhibdjopfcnaaGreatDoor
