/-
  The text of a head, as the code writes it.
-/
import Derived.Test.YtfdjnkjiffdbfaaGreatDoorPut
namespace Go.Proofs.YtfdjnkjiffdbfaaGreatDoor
open Go.RowKit
set_option linter.unusedVariables false

theorem wloop_next {out : List UInt8} {fs : List PairL} {k : Nat} (hk : k < fs.length) (h : ¬ 4096 < out.length) : wloop out (fs.drop k) = wloop (out ++ (rawOf fs[k] ++ [13, 10])) (fs.drop (k + 1)) := by
  rw [List.drop_eq_getElem_cons hk, wloop, if_neg h]
theorem wloop_stop {out : List UInt8} {fs : List PairL} {k : Nat} (h : 4096 < out.length) : wloop out (fs.drop k) = out := by
  cases hd : fs.drop k with
  | nil => rfl
  | cons p r => rw [wloop, if_pos h]
set_option maxRecDepth 20000 in
set_option maxHeartbeats 8000000 in
theorem written_any (h : HeadL) (d : List UInt8) (v : Value) (w : World) (hS : SeesP w v h.2.2.2) (hl : h.2.2.2.length ≤ 1048576) (hb : ∀ p ∈ h.2.2.2, p.1.length ≤ 1048576 ∧ p.2.length ≤ 1048576)
    (h1 : h.1.length ≤ 1048576) (h2 : h.2.1.length ≤ 1048576) (hd : d.length ≤ 100)
    (hI : ∀ W, Below w.heap.size w W → Calls Tryz.prog 31 #[.int .i64 h.2.2.1] W fun e W' => e = .returned (.string ⟨d.toArray⟩) ∧ Below W.heap.size W W') :
    Calls Tryz.prog 17 #[.agg #[strV h.1, strV h.2.1, .int .i64 h.2.2.1, v]] w fun e w' => e = .returned (.string ⟨(writC h d).toArray⟩) ∧ Below w.heap.size w w' := by
  obtain ⟨WL, hWL⟩ : ∃ WL, WL = wloop (headW h d) h.2.2.2 := ⟨_, rfl⟩
  have hwr : writC h d = WL ++ [13, 10] := by rw [hWL]; rfl
  rw [hwr]
  clear hwr
  obtain ⟨A, B, m, fs⟩ := h
  simp only at hS hl hb h1 h2 hI hWL ⊢
  obtain ⟨bb, off, ao, cap, rfl, hcap, _, hao, hcell⟩ := hS
  have hHW : headW (A, B, m, fs) d = [A, [32], B, verW, d, [13, 10]].flatten := by simp [headW]
  have hHl : [A, [32], B, verW, d, [13, 10]].flatten.length ≤ 3000000 := by simp [verW]; omega
  rw [hHW] at hWL
  obtain ⟨HW, hHWe⟩ : ∃ HW, HW = [A, [32], B, verW, d, [13, 10]].flatten := ⟨_, rfl⟩
  rw [← hHWe] at hWL hHl
  have HHW := hid hHWe
  have HC := hid hcell
  have HBd := hid hb
  have HWL := hid hWL
  unfold strV
  have hH0 := (HeadAt.new w (.string ⟨A.toArray⟩) (.string ⟨B.toArray⟩) (.int .i64 m) (.slice ao fs.length cap)).below (below_alloc (w.alloc (.cells #[.string ⟨A.toArray⟩, .string ⟨B.toArray⟩, .int .i64 m, .slice ao fs.length cap] 24)) (.cells #[.slice none 0 0] 39)) (by simp)
  obtain ⟨wh, hwh⟩ : ∃ wh, wh = w.alloc (.cells #[.string ⟨A.toArray⟩, .string ⟨B.toArray⟩, .int .i64 m, .slice ao fs.length cap] 24) := ⟨_, rfl⟩
  have hszh : wh.heap.size = w.heap.size + 1 := by rw [hwh]; simp
  have hBh : Below w.heap.size w wh := by rw [hwh]; exact below_alloc w _
  have hV0 : VarAt 39 (wh.alloc (.cells #[.slice none 0 0] 39)) (w.heap.size + 1) (.slice none 0 0) := by
    rw [← hszh]
    exact heap_alloc_new wh _
  rw [← hwh] at hH0
  obtain ⟨w0, hw0⟩ : ∃ w0, w0 = wh.alloc (.cells #[.slice none 0 0] 39) := ⟨_, rfl⟩
  rw [← hw0] at hH0 hV0
  have hB0 : Below w.heap.size w w0 := hBh.trans (by rw [hw0]; exact (below_alloc wh _).mono (by omega))
  have HW0 : Hid ((w.alloc (.cells #[.string ⟨A.toArray⟩, .string ⟨B.toArray⟩, .int .i64 m, .slice ao fs.length cap] 24)).alloc (.cells #[.slice none 0 0] 39) = w0) := by unfold Hid; rw [hw0, hwh]
  have hIt := hI w0.drew (hB0.trans (Below.drew (Below.refl _ _)))
  obtain ⟨z0, z1, z2, z3, _, _, _, _⟩ := hH0.cells
  have HH0 := hid hH0
  have HV0 := hid hV0
  have HB0 := hid hB0
  clear hw0 hwh hszh hBh hH0 hV0 hB0 hI hHWe hHW hWL hb hcell
  go_enter Tryz.func17, Tryz.ntmps17
  go_wp2_with fail
  rw [HW0.out]
  have HK : Hid (∀ W W' : World, Below (w.heap.size + 1) W W' → (Below w.heap.size w W ∧ w.heap.size + 1 < W.heap.size ∧ W.cell? ⟨w.heap.size, 0, none⟩ = some (.string ⟨A.toArray⟩) ∧ W.cell? ⟨w.heap.size, 1, none⟩ = some (.string ⟨B.toArray⟩) ∧ W.cell? ⟨w.heap.size, 2, none⟩ = some (.int .i64 m) ∧ W.cell? ⟨w.heap.size, 3, none⟩ = some (.slice ao fs.length cap)) → (Below w.heap.size w W' ∧ w.heap.size + 1 < W'.heap.size ∧ W'.cell? ⟨w.heap.size, 0, none⟩ = some (.string ⟨A.toArray⟩) ∧ W'.cell? ⟨w.heap.size, 1, none⟩ = some (.string ⟨B.toArray⟩) ∧ W'.cell? ⟨w.heap.size, 2, none⟩ = some (.int .i64 m) ∧ W'.cell? ⟨w.heap.size, 3, none⟩ = some (.slice ao fs.length cap))) := by
    intro W W' hb ⟨s1, s2, c0, c1, c2, c3⟩
    refine ⟨s1.trans (hb.mono (Nat.le_succ _)), Nat.lt_of_lt_of_le s2 hb.size, ?_, ?_, ?_, ?_⟩
    · exact (hb.cell (by simp)).trans c0
    · exact (hb.cell (by simp)).trans c1
    · exact (hb.cell (by simp)).trans c2
    · exact (hb.cell (by simp)).trans c3
  have HK1 : Hid (∀ W W' : World, Below W.heap.size W W' → (Below w.heap.size w W ∧ w.heap.size + 1 < W.heap.size ∧ W.cell? ⟨w.heap.size, 0, none⟩ = some (.string ⟨A.toArray⟩) ∧ W.cell? ⟨w.heap.size, 1, none⟩ = some (.string ⟨B.toArray⟩) ∧ W.cell? ⟨w.heap.size, 2, none⟩ = some (.int .i64 m) ∧ W.cell? ⟨w.heap.size, 3, none⟩ = some (.slice ao fs.length cap)) → (Below w.heap.size w W' ∧ w.heap.size + 1 < W'.heap.size ∧ W'.cell? ⟨w.heap.size, 0, none⟩ = some (.string ⟨A.toArray⟩) ∧ W'.cell? ⟨w.heap.size, 1, none⟩ = some (.string ⟨B.toArray⟩) ∧ W'.cell? ⟨w.heap.size, 2, none⟩ = some (.int .i64 m) ∧ W'.cell? ⟨w.heap.size, 3, none⟩ = some (.slice ao fs.length cap))) := fun W W' hb hs => HK.out W W' (hb.mono (Nat.le_of_lt hs.2.1)) hs
  have HKa : Hid (∀ (W : World) (o : Obj), (fun W => (Below w.heap.size w W ∧ w.heap.size + 1 < W.heap.size ∧ W.cell? ⟨w.heap.size, 0, none⟩ = some (.string ⟨A.toArray⟩) ∧ W.cell? ⟨w.heap.size, 1, none⟩ = some (.string ⟨B.toArray⟩) ∧ W.cell? ⟨w.heap.size, 2, none⟩ = some (.int .i64 m) ∧ W.cell? ⟨w.heap.size, 3, none⟩ = some (.slice ao fs.length cap))) W → (fun W => (Below w.heap.size w W ∧ w.heap.size + 1 < W.heap.size ∧ W.cell? ⟨w.heap.size, 0, none⟩ = some (.string ⟨A.toArray⟩) ∧ W.cell? ⟨w.heap.size, 1, none⟩ = some (.string ⟨B.toArray⟩) ∧ W.cell? ⟨w.heap.size, 2, none⟩ = some (.int .i64 m) ∧ W.cell? ⟨w.heap.size, 3, none⟩ = some (.slice ao fs.length cap))) (W.alloc o)) := fun W o hs => HK1.out W _ (below_alloc W o) hs
  have HI := hid hIt
  have hqlt := HV0.out.lt
  clear hIt
  go_region_held3 (fun W => (Below w.heap.size w W ∧ w.heap.size + 1 < W.heap.size ∧ W.cell? ⟨w.heap.size, 0, none⟩ = some (.string ⟨A.toArray⟩) ∧ W.cell? ⟨w.heap.size, 1, none⟩ = some (.string ⟨B.toArray⟩) ∧ W.cell? ⟨w.heap.size, 2, none⟩ = some (.int .i64 m) ∧ W.cell? ⟨w.heap.size, 3, none⟩ = some (.slice ao fs.length cap))) (first | (exact ⟨Below.drew HB0.out, hqlt, z0, z1, z2, z3⟩) | (exact HK1.out _ _ (by assumption) (by assumption)) | (exact HKa.out _ _ (by assumption)) | (exact HK.out _ _ (by assumption) (by assumption)))
    (first
      | (go_at_call 31
         refine HI.out.mono ?_
         rintro e' w1 ⟨rfl, hB1⟩
         have HV1 := hid ((HV0.out.below (Below.drew (Below.refl w0.heap.size w0)) HV0.out.lt).below hB1 HV0.out.lt))
      | (go_at_call 30
         refine (put_any [A, [32], B, verW, d, [13, 10]] w1.heap.size (w.heap.size + 1) (.slice none 0 0) [] (w1.alloc (.cells #[.string ⟨A.toArray⟩, .string ⟨#[32]⟩, .string ⟨B.toArray⟩, .string ⟨#[32, 72, 84, 84, 80, 47, 49, 46]⟩, .string ⟨d.toArray⟩, .string ⟨#[13, 10]⟩] 9)) (heap_alloc_new w1 _) (HV1.out.below (below_alloc w1 _) HV1.out.lt) (OwnsB.nil _ _) (Nat.ne_of_lt HV1.out.lt) (by simp) (by rw [← HHW.out]; simp; omega)).mono ?_
         rintro e' w2 ⟨rfl, v2, hV2, hO2, hB2⟩
         rw [← HHW.out, List.nil_append] at hO2
         have HV2 := hid hV2
         have HO2 := hid hO2
         clear hV2 hO2))
  obtain ⟨hS1, _, q0, q1, q2, q3⟩ : (fun W => (Below w.heap.size w W ∧ w.heap.size + 1 < W.heap.size ∧ W.cell? ⟨w.heap.size, 0, none⟩ = some (.string ⟨A.toArray⟩) ∧ W.cell? ⟨w.heap.size, 1, none⟩ = some (.string ⟨B.toArray⟩) ∧ W.cell? ⟨w.heap.size, 2, none⟩ = some (.int .i64 m) ∧ W.cell? ⟨w.heap.size, 3, none⟩ = some (.slice ao fs.length cap))) w2 := by assumption
  have HB2 := hid hS1
  clear hS1
  all_goals
    clear z0 z1 z2 z3 HK HK1 HKa hB1 hB2 HI HV1 HB0 HV0 HH0 HW0
    go_wp2_with fail
    go_loopw [21] (fun i wr => ∃ (k : Nat) (u : Value) (out : List UInt8), k ≤ fs.length ∧ i = .int .i64 (k : Int) ∧ VarAt 39 wr (w.heap.size + 1) u ∧ OwnsB wr (w.heap.size + 2) u out ∧ out.length ≤ 4000000 ∧ wloop out (fs.drop k) = WL ∧ Below w.heap.size w wr) (fun i _ => fs.length - (intOf i).toNat)
    case atStart => exact ⟨0, _, HW, Nat.zero_le _, rfl, HV2.out, HO2.out, by omega, HWL.out.symm, HB2.out⟩
    case round =>
      obtain ⟨k, u, out, hk, rfl, hV, hO, hol, hwl, hB⟩ := hrel
      obtain ⟨uo, uc, rfl⟩ : ∃ ao cap, u = .slice ao out.length cap := OwnsB.shape hO
      by_cases hlt : k < fs.length
      · have hlt' : (k : Int) < (fs.length : Int) := by omega
        obtain rfl := hao (by intro h; rw [h] at hlt; simp at hlt)
        obtain ⟨d1, d2⟩ := HC.out k hlt
        have d1 := (hB.cell (World.block_lt_of_cell? w _ d1)).trans d1
        have d2 := (hB.cell (World.block_lt_of_cell? w _ d2)).trans d2
        unfold strV at d1 d2
        obtain ⟨hp1, hp2⟩ := HBd.out _ (List.getElem_mem hlt)
        have hnx := fun hh => wloop_next (out := out) hlt hh
        have hst := fun hh => wloop_stop (out := out) (fs := fs) (k := k) hh
        obtain ⟨P, hP⟩ : ∃ P, P = fs[k] := ⟨_, rfl⟩
        rw [← hP] at d1 d2 hp1 hp2 hnx
        obtain ⟨P1, P2⟩ := P
        simp only at d1 d2 hp1 hp2
        have hVa := hV.below (below_alloc wr (.cells #[.string ⟨P1.toArray⟩, .string ⟨P2.toArray⟩] 42)) hV.lt
        obtain ⟨k1, k2⟩ := hV.cells
        have hltv := hV.lt
        have HVk := hid hVa
        have HOk := hid (hO.below (below_alloc wr (.cells #[.string ⟨P1.toArray⟩, .string ⟨P2.toArray⟩] 42)))
        have HBk := hid (hB.trans ((below_alloc wr (.cells #[.string ⟨P1.toArray⟩, .string ⟨P2.toArray⟩] 42)).mono hB.size))
        clear hP hV hO hB hVa
        obtain ⟨wz, hwz⟩ : ∃ wz, wz = wr.alloc (.cells #[.string ⟨P1.toArray⟩, .string ⟨P2.toArray⟩] 42) := ⟨_, rfl⟩
        have hszz : wz.heap.size = wr.heap.size + 1 := by rw [hwz]; simp
        rw [← hwz] at HVk HOk HBk
        have HWZ := hid hwz
        have hpd := PairAt.new wr (.string ⟨P1.toArray⟩) (.string ⟨P2.toArray⟩)
        rw [← hwz] at hpd
        obtain ⟨pz1, pz2, _, _⟩ := hpd.cells
        clear hpd
        obtain ⟨k1, k2⟩ := HVk.out.cells
        have HVz := HVk
        have HOz := HOk
        have HBz := HBk
        clear hwz
        by_cases hbig : 4096 < out.length
        · have hbig' : (4096 : Int) < (out.length : Int) := by omega
          have HFin : Hid (WL ++ [13, 10] = out ++ [[13, 10]].flatten) := by unfold Hid; rw [← hwl, hst hbig]; rfl
          clear hnx hst hwl hbig
          go_wp2_with fail
          rw [← HWZ.out]
          refine (put_any [[13, 10]] (wr.heap.size + 1) (w.heap.size + 1) _ out (wz.alloc (.cells #[.string ⟨#[13, 10]⟩] 9)) (by rw [← hszz]; exact heap_alloc_new wz _) (HVz.out.below (below_alloc wz _) HVz.out.lt) (HOz.out.below (below_alloc wz _)) (by rw [← hszz]; exact Nat.ne_of_lt HVz.out.lt) (by decide) (by simp; omega)).mono ?_
          rintro e' w5 ⟨rfl, v5, hV5, hO5, hB5⟩
          have hcv := hO5.conv
          obtain ⟨ao5, n5, cap5, rfl⟩ : ∃ ao n cap, v5 = .slice ao n cap := by obtain ⟨ao, cap, h⟩ := OwnsB.shape hO5; exact ⟨ao, _, cap, h⟩
          obtain ⟨k5, k6⟩ := hV5.cells
          have HB5 := hid (HBz.out.trans (((below_alloc wz (.cells #[.string ⟨#[13, 10]⟩] 9)).mono (by have := HVz.out.lt; omega)).trans (hB5.mono (Nat.le_succ _))))
          clear hO5 hV5 hB5
          go_wp2
          go_ret
          refine ⟨?_, HB5.out⟩
          rw [HFin.out]
          rfl
        · have hbig' : ¬ (4096 : Int) < (out.length : Int) := by omega
          rw [hnx hbig] at hwl
          have HNW := hid hwl
          clear hnx hst hwl hbig HVz HOz HBz
          go_wp2_with fail
          rw [← HWZ.out]
          refine (put_any [P1, [58, 32], P2, [13, 10]] (wr.heap.size + 1) (w.heap.size + 1) _ out (wz.alloc (.cells #[.string ⟨P1.toArray⟩, .string ⟨#[58, 32]⟩, .string ⟨P2.toArray⟩, .string ⟨#[13, 10]⟩] 9)) (by rw [← hszz]; exact heap_alloc_new wz _) (HVk.out.below (below_alloc wz _) HVk.out.lt) (HOk.out.below (below_alloc wz _)) (by rw [← hszz]; exact Nat.ne_of_lt HVk.out.lt) (by simp) (by simp; omega)).mono ?_
          rintro e' w5 ⟨rfl, v5, hV5, hO5, hB5⟩
          have HB5 := hid (HBk.out.trans (((below_alloc wz (.cells #[.string ⟨P1.toArray⟩, .string ⟨#[58, 32]⟩, .string ⟨P2.toArray⟩, .string ⟨#[13, 10]⟩] 9)).mono (by have := HVk.out.lt; omega)).trans (hB5.mono (Nat.le_succ _))))
          have HV5 := hid hV5
          have HO5 := hid hO5
          clear hV5 hO5 hB5
          go_wp2
          go_roundw
          case rel =>
            refine ⟨k + 1, v5, _, by omega, by go_num, HV5.out, HO5.out, by simp; omega, ?_, HB5.out⟩
            rw [← HNW.out]
            simp [rawOf]
          case measure => simp [intOf]; omega
      · have hlt' : ¬ (k : Int) < (fs.length : Int) := by omega
        have HFin : Hid (WL ++ [13, 10] = out ++ [[13, 10]].flatten) := by unfold Hid; rw [← hwl, List.drop_eq_nil_of_le (by omega)]; rfl
        have HVz := hid hV
        have HOz := hid hO
        have HBz := hid hB
        obtain ⟨wz, hwz⟩ : ∃ wz, wz = wr := ⟨_, rfl⟩
        rw [← hwz] at HVz HOz HBz ⊢
        clear hwl hV hO hB hwz
        go_wp2_with fail
        refine (put_any [[13, 10]] wz.heap.size (w.heap.size + 1) _ out (wz.alloc (.cells #[.string ⟨#[13, 10]⟩] 9)) (heap_alloc_new wz _) (HVz.out.below (below_alloc wz _) HVz.out.lt) (HOz.out.below (below_alloc wz _)) (Nat.ne_of_lt HVz.out.lt) (by decide) (by simp; omega)).mono ?_
        rintro e' w5 ⟨rfl, v5, hV5, hO5, hB5⟩
        have hcv := hO5.conv
        obtain ⟨ao5, n5, cap5, rfl⟩ : ∃ ao n cap, v5 = .slice ao n cap := by obtain ⟨ao, cap, h⟩ := OwnsB.shape hO5; exact ⟨ao, _, cap, h⟩
        obtain ⟨k5, k6⟩ := hV5.cells
        have HB5 := hid (HBz.out.trans (((below_alloc wz (.cells #[.string ⟨#[13, 10]⟩] 9)).mono (by have := HVz.out.lt; omega)).trans (hB5.mono (Nat.le_succ _))))
        clear hO5 hV5 hB5
        go_wp2
        go_ret
        refine ⟨?_, HB5.out⟩
        rw [HFin.out]
        rfl
end Go.Proofs.YtfdjnkjiffdbfaaGreatDoor
