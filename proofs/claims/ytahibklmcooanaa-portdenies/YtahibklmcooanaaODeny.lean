/-
  The law PortDenies.
-/
import Derived.Test.YtahibklmcooanaaOAwakeB
import Derived.Test.YtahibklmcooanaaOFrame
import Derived.Deep.RegionHeld3
namespace Go.Proofs.Ytahibklmcooanaa
open Go.RowKit
set_option linter.unusedVariables false
set_option linter.unusedSimpArgs false

theorem seesOne (V : World) (x : Int) : Sees (V.alloc (.cells #[.int .i64 x] 3)) (.slice (some ⟨V.heap.size, 0, none⟩) 1 1) [x] := by
  refine ⟨V.heap.size, 0, _, 1, rfl, Nat.le_refl _, (fun h => by cases h), fun _ => rfl, fun j hj => ?_⟩
  have : j = 0 := by simp at hj; omega
  subst this
  simp

theorem sees_shape {w : World} {v : Value} {xs : List Int} (h : Sees w v xs) : ∃ ao cap, v = .slice ao xs.length cap := by
  obtain ⟨b, off, ao, cap, hv, _⟩ := h
  exact ⟨ao, cap, hv⟩

set_option maxRecDepth 20000 in
set_option maxHeartbeats 4000000 in
theorem denies_bad (o : OpL) (w : World) (ho : o.su w) (he : errS 4 o.who o.to o.s o.i o.own o.text.size ≠ 0) :
    Calls Try.prog 4 #[.agg o.row.toArray] w fun e w' => e = .returned (.bool true) ∧ Below w.heap.size w w' := by
  obtain ⟨kind, to, who, vs, vi, vo, text, op, s, i, own⟩ := o
  obtain ⟨a1, k1, e1⟩ := sees_shape ho.ss
  obtain ⟨a2, k2, e2⟩ := sees_shape ho.si
  obtain ⟨a3, k3, e3⟩ := sees_shape ho.so
  simp only at e1 e2 e3
  subst e1 e2 e3
  show Calls Try.prog 4 #[.agg #[.int .i64 kind, .int .i64 to, .int .i64 who, .slice a1 s.length k1, .slice a2 i.length k2, .slice a3 own.length k3, .string text, .bool op]] w fun e w' => e = .returned (.bool true) ∧ Below w.heap.size w w'
  obtain ⟨W, hW⟩ : ∃ W, W = w.alloc (.cells #[.int .i64 kind, .int .i64 to, .int .i64 who, .slice a1 s.length k1, .slice a2 i.length k2, .slice a3 own.length k3, .string text, .bool op] 41) := ⟨_, rfl⟩
  have hbW : Below w.heap.size w W := by rw [hW]; exact below_alloc w _
  have c1 : W.cell? ⟨w.heap.size, 1, none⟩ = some (.int .i64 to) := by rw [hW]; simp
  have c2 : W.cell? ⟨w.heap.size, 2, none⟩ = some (.int .i64 who) := by rw [hW]; simp
  have c3 : W.cell? ⟨w.heap.size, 3, none⟩ = some (.slice a1 s.length k1) := by rw [hW]; simp
  have c4 : W.cell? ⟨w.heap.size, 4, none⟩ = some (.slice a2 i.length k2) := by rw [hW]; simp
  have c5 : W.cell? ⟨w.heap.size, 5, none⟩ = some (.slice a3 own.length k3) := by rw [hW]; simp
  have c6 : W.cell? ⟨w.heap.size, 6, none⟩ = some (.string text) := by rw [hW]; simp
  have c7 : W.cell? ⟨w.heap.size, 7, none⟩ = some (.bool op) := by rw [hW]; simp
  obtain ⟨Z, hZ⟩ : ∃ Z, Z = (W.alloc (.cells #[.int .i64 who, .slice a1 s.length k1, .slice a2 i.length k2, .slice a3 own.length k3] 39)).drew := ⟨_, rfl⟩
  have hbZ : Below w.heap.size w Z := by rw [hZ]; exact Below.drew (hbW.alloc hbW.size _)
  have hSZ : SuBox Z W.heap.size who (.slice a1 s.length k1) (.slice a2 i.length k2) (.slice a3 own.length k3) := by rw [hZ]; exact (SuBox.new W _ _ _ _).below (Below.drew (Below.refl _ _))
  have hlW : w.heap.size < W.heap.size := by rw [hW]; simp
  have HW := hid hW
  have HZ := hid hZ
  have HB := hid hbZ
  have HS := hid hSZ
  have HO := hid (SuAt.below (show SuAt w (.slice a1 s.length k1) (.slice a2 i.length k2) (.slice a3 own.length k3) s i own from ho) hbZ)
  have HE := hid he
  have hN := hid (new_any 4 3 Z (by decide) (by decide) (by decide) (by decide))
  have hPN := eqlP_some_nil
  clear hW hbW ho he hZ hbZ hSZ
  simp only at HE
  go_enter Try.func4, Try.ntmps4
  go_wp2_with fail
  rw [← HW.out]
  clear HW
  go_region_held3 (fun w' => w'.cell? ⟨w.heap.size, 1, none⟩ = some (.int .i64 to) ∧ w'.cell? ⟨w.heap.size, 2, none⟩ = some (.int .i64 who) ∧ w'.cell? ⟨w.heap.size, 3, none⟩ = some (.slice a1 s.length k1) ∧ w'.cell? ⟨w.heap.size, 4, none⟩ = some (.slice a2 i.length k2) ∧ w'.cell? ⟨w.heap.size, 5, none⟩ = some (.slice a3 own.length k3) ∧ w'.cell? ⟨w.heap.size, 6, none⟩ = some (.string text) ∧ w'.cell? ⟨w.heap.size, 7, none⟩ = some (.bool op))
    (first | (refine ⟨?_, ?_, ?_, ?_, ?_, ?_, ?_⟩ <;> first | assumption | go_keep))
    (fail)
  rw [← HZ.out]
  clear HZ c1 c2 c3 c4 c5 c6 c7
  go_wp2_with fail
  refine hN.out.mono ?_
  clear hN
  rintro e w1 ⟨p, m, rfl, ⟨bx, ql, v, hn, hP1, hB1, hF1⟩, hm⟩
  obtain ⟨x0, x1, x2, x3⟩ := HS.out.below hB1
  have HO1 := hid (HO.out.below hB1)
  have HP1 := hid hP1
  have HB1 := hid hB1
  have HF1 := hid hF1
  have HN := hid hn
  have HM := hid hm
  have hSe := send_bad p bx 3 ql v m who to _ _ _ s i own text op w1 hP1 (HO.out.below hB1) (by rw [hn]; exact HE.out)
  rw [hn] at hSe
  have HSe := hid hSe
  have hEne : (errS 4 who to s i own text.size != 0) = true := by simpa using HE.out
  unfold suV at HSe
  clear hSe hP1 hB1 hF1 hn hm HO HS
  generalize errS 4 who to s i own text.size = E at *
  go_wp2_with fail
  refine HSe.out.mono ?_
  clear HSe x0 x1 x2 x3
  rintro e w2 ⟨rfl, hB2⟩
  have hn := HN.out
  have HL0 := hid (len_yes p bx 3 ql v m 0 (by omega) w2 (HP1.out.below hB2))
  have HL1 := hid (len_yes p bx 3 ql v m 1 (by omega) w2 (HP1.out.below hB2))
  have HL2 := hid (len_yes p bx 3 ql v m 2 (by omega) w2 (HP1.out.below hB2))
  have HL3 := hid (len_yes p bx 3 ql v m 3 (by omega) w2 (HP1.out.below hB2))
  rw [HM.out 0 (by decide)] at HL0
  rw [HM.out 1 (by decide)] at HL1
  rw [HM.out 2 (by decide)] at HL2
  rw [HM.out 3 (by decide)] at HL3
  have HB2 := hid ((HB.out.trans (HB1.out.mono HB.out.size)).trans (hB2.mono (Nat.le_trans HB.out.size HB1.out.size)))
  clear hn hB2
  go_wp2_with fail
  refine HL0.out.mono ?_
  rintro e w3 ⟨rfl, hw3⟩
  subst hw3
  go_wp2_with fail
  refine HL1.out.mono ?_
  rintro e w3 ⟨rfl, hw3⟩
  subst hw3
  go_wp2_with fail
  refine HL2.out.mono ?_
  rintro e w3 ⟨rfl, hw3⟩
  subst hw3
  go_wp2_with fail
  refine HL3.out.mono ?_
  rintro e w3 ⟨rfl, hw3⟩
  subst hw3
  go_wp2_with fail
  refine (awake_any _).mono ?_
  rintro e w4 ⟨rfl, hB4⟩
  have HB4 := hid (HB2.out.trans (hB4.mono HB2.out.size))
  clear hB4
  go_wp2
  go_ret
  exact ⟨rfl, HB4.out⟩

set_option maxRecDepth 20000 in
set_option maxHeartbeats 4000000 in
theorem denies_nil (o : OpL) (w : World) (ho : o.su w) (he : errS 4 o.who o.to o.s o.i o.own o.text.size = 0) (hcm : comes o.s o.own o.to.toNat o.op = true) (hnl : lackS o.s o.to.toNat = []) :
    Calls Try.prog 4 #[.agg o.row.toArray] w fun e w' => e = .returned (.bool true) ∧ Below w.heap.size w w' := by
  obtain ⟨kind, to, who, vs, vi, vo, text, op, s, i, own⟩ := o
  obtain ⟨a1, k1, e1⟩ := sees_shape ho.ss
  obtain ⟨a2, k2, e2⟩ := sees_shape ho.si
  obtain ⟨a3, k3, e3⟩ := sees_shape ho.so
  simp only at e1 e2 e3
  subst e1 e2 e3
  show Calls Try.prog 4 #[.agg #[.int .i64 kind, .int .i64 to, .int .i64 who, .slice a1 s.length k1, .slice a2 i.length k2, .slice a3 own.length k3, .string text, .bool op]] w fun e w' => e = .returned (.bool true) ∧ Below w.heap.size w w'
  obtain ⟨W, hW⟩ : ∃ W, W = w.alloc (.cells #[.int .i64 kind, .int .i64 to, .int .i64 who, .slice a1 s.length k1, .slice a2 i.length k2, .slice a3 own.length k3, .string text, .bool op] 41) := ⟨_, rfl⟩
  have hbW : Below w.heap.size w W := by rw [hW]; exact below_alloc w _
  have c1 : W.cell? ⟨w.heap.size, 1, none⟩ = some (.int .i64 to) := by rw [hW]; simp
  have c2 : W.cell? ⟨w.heap.size, 2, none⟩ = some (.int .i64 who) := by rw [hW]; simp
  have c3 : W.cell? ⟨w.heap.size, 3, none⟩ = some (.slice a1 s.length k1) := by rw [hW]; simp
  have c4 : W.cell? ⟨w.heap.size, 4, none⟩ = some (.slice a2 i.length k2) := by rw [hW]; simp
  have c5 : W.cell? ⟨w.heap.size, 5, none⟩ = some (.slice a3 own.length k3) := by rw [hW]; simp
  have c6 : W.cell? ⟨w.heap.size, 6, none⟩ = some (.string text) := by rw [hW]; simp
  have c7 : W.cell? ⟨w.heap.size, 7, none⟩ = some (.bool op) := by rw [hW]; simp
  obtain ⟨Z, hZ⟩ : ∃ Z, Z = (W.alloc (.cells #[.int .i64 who, .slice a1 s.length k1, .slice a2 i.length k2, .slice a3 own.length k3] 39)).drew := ⟨_, rfl⟩
  have hbZ : Below w.heap.size w Z := by rw [hZ]; exact Below.drew (hbW.alloc hbW.size _)
  have hSZ : SuBox Z W.heap.size who (.slice a1 s.length k1) (.slice a2 i.length k2) (.slice a3 own.length k3) := by rw [hZ]; exact (SuBox.new W _ _ _ _).below (Below.drew (Below.refl _ _))
  have hlW : w.heap.size < W.heap.size := by rw [hW]; simp
  have HW := hid hW
  have HZ := hid hZ
  have HB := hid hbZ
  have HS := hid hSZ
  have HO := hid (SuAt.below (show SuAt w (.slice a1 s.length k1) (.slice a2 i.length k2) (.slice a3 own.length k3) s i own from ho) hbZ)
  have HE := hid he
  have hN := hid (new_any 4 3 Z (by decide) (by decide) (by decide) (by decide))
  have hPN := eqlP_some_nil
  clear hW hbW ho he hZ hbZ hSZ
  simp only at HE hcm hnl
  go_enter Try.func4, Try.ntmps4
  go_wp2_with fail
  rw [← HW.out]
  clear HW
  go_region_held3 (fun w' => w'.cell? ⟨w.heap.size, 1, none⟩ = some (.int .i64 to) ∧ w'.cell? ⟨w.heap.size, 2, none⟩ = some (.int .i64 who) ∧ w'.cell? ⟨w.heap.size, 3, none⟩ = some (.slice a1 s.length k1) ∧ w'.cell? ⟨w.heap.size, 4, none⟩ = some (.slice a2 i.length k2) ∧ w'.cell? ⟨w.heap.size, 5, none⟩ = some (.slice a3 own.length k3) ∧ w'.cell? ⟨w.heap.size, 6, none⟩ = some (.string text) ∧ w'.cell? ⟨w.heap.size, 7, none⟩ = some (.bool op))
    (first | (refine ⟨?_, ?_, ?_, ?_, ?_, ?_, ?_⟩ <;> first | assumption | go_keep))
    (fail)
  rw [← HZ.out]
  clear HZ c1 c2 c3 c4 c5 c6 c7
  go_wp2_with fail
  refine hN.out.mono ?_
  clear hN
  rintro e w1 ⟨p, m, rfl, ⟨bx, ql, v, hn, hP1, hB1, hF1⟩, hm⟩
  obtain ⟨x0, x1, x2, x3⟩ := HS.out.below hB1
  have HO1 := hid (HO.out.below hB1)
  have HP1 := hid hP1
  have HB1 := hid hB1
  have HF1 := hid hF1
  have HN := hid hn
  have HM := hid hm
  obtain ⟨u1, u2, u3, u4, u5⟩ := errS_zero HE.out
  obtain ⟨tn, htn, hto⟩ := usr_iff.1 u2
  subst hto
  simp only [Int.toNat_natCast] at hcm hnl
  have hls := (mayB_iff.1 u4).1.1
  have hlo := catsB_len u3
  have hSe := send_ok p bx 3 ql v m who tn _ _ _ s i own text op w1 hP1 (HO.out.below hB1) (by rw [hn]; exact HE.out)
  rw [hcm] at hSe
  simp only [Bool.false_eq_true, if_false, if_true] at hSe
  unfold suV at hSe
  have HSe := hid hSe
  have HNL := hid hnl
  have HCM := hid hcm
  have e1 : IntKind.i64.wrap (2 * (tn : Int)) = 2 * tn := by rw [IntKind.wrap_i64]; omega
  have e2 : IntKind.i64.wrap (2 * (tn : Int) + 1) = 2 * tn + 1 := by rw [IntKind.wrap_i64]; omega
  clear hSe hP1 hB1 hF1 hn hm HE u1 u2 u3 u4 u5 hnl hcm
  go_wp2_with fail
  refine HSe.out.mono ?_
  clear HSe x0 x1 x2 x3
  rintro e w2 ⟨u, rfl, hO2, v2, hP2, hG2, hM2⟩
  have hBZ2 := bel_turn HB1.out HF1.out hG2
  obtain ⟨x0, x1, x2, x3⟩ := HS.out.below hBZ2
  have HO2 := hid (HO.out.below hBZ2)
  have HB2 := hid (HB.out.trans (hBZ2.mono HB.out.size))
  have HP2 := hid hP2
  have HU2 := hid hO2
  obtain ⟨ua, uk, hu⟩ := sees_shape hO2.sees
  subst hu
  have hLs := hid (refLess_any (.slice a1 s.length k1) (.slice (some ⟨w2.heap.size, 0, none⟩) 1 1) s [2 * (tn : Int) + 1] (w2.alloc (.cells #[.int .i64 (2 * (tn : Int) + 1)] 3)) (HO2.out.ss.box _) (seesOne w2 _) (by simp; omega))
  have HX2 := hid (HS.out.below hBZ2)
  clear hO2 hP2 hG2 hM2 hBZ2 HP1 HO1 HB1 HF1 HO HB HS
  go_wp2_with fail
  refine hLs.out.mono ?_
  clear hLs
  rintro e w3 ⟨lv, rfl, hO3, hB3⟩
  have hb23 : Below w2.heap.size w2 w3 := (below_alloc w2 _).trans (hB3.mono (by simp))
  have HL3 := hid (show Owns w3 (w2.alloc (.cells #[.int .i64 (2 * (tn : Int) + 1)] 3)).heap.size lv (lackS s tn) from hO3)
  obtain ⟨la, lk, hl⟩ := sees_shape HL3.out.sees
  subst hl
  have HP3 := hid (HP2.out.below hb23)
  have HU3 := hid (HU2.out.below hb23)
  have HO3 := hid (HO2.out.below hb23)
  obtain ⟨x0, x1, x2, x3⟩ := HX2.out.below hb23
  have HB3 := hid (HB2.out.trans (hb23.mono HB2.out.size))
  have hn := HN.out
  have hmt := HM.out tn htn
  have hLen := len_yes p bx 3 ql v2 _ tn (by omega) w3 HP3.out
  rw [if_pos rfl, hmt, pushed_nil 3 _ (by decide)] at hLen
  simp only [List.length_singleton] at hLen
  have HLen := hid hLen
  clear hLen hn hmt hO3 hB3 hb23 HX2 HP2 HU2 HO2 HB2 HP3
  have hz : (lackS s tn).length = 0 := by rw [HNL.out]; rfl
  have HB5 := HB3
  rw [hz]
  clear hz
  go_wp2_with fail
  refine HLen.out.mono ?_
  clear HLen
  rintro e w4 ⟨rfl, hw4⟩
  subst hw4
  go_wp2_with fail
  refine (awake_any _).mono ?_
  rintro e w9 ⟨rfl, hB9⟩
  have HB9 := hid (HB5.out.trans (hB9.mono HB5.out.size))
  clear hB9
  go_wp2
  go_ret
  exact ⟨rfl, HB9.out⟩

set_option maxRecDepth 20000 in
set_option maxHeartbeats 4000000 in
theorem denies_shut (o : OpL) (w : World) (ho : o.su w) (he : errS 4 o.who o.to o.s o.i o.own o.text.size = 0) (hcm : comes o.s o.own o.to.toNat o.op = false) (hnl : lackS o.s o.to.toNat ≠ []) (hop : o.op = false) :
    Calls Try.prog 4 #[.agg o.row.toArray] w fun e w' => e = .returned (.bool true) ∧ Below w.heap.size w w' := by
  obtain ⟨kind, to, who, vs, vi, vo, text, op, s, i, own⟩ := o
  obtain ⟨a1, k1, e1⟩ := sees_shape ho.ss
  obtain ⟨a2, k2, e2⟩ := sees_shape ho.si
  obtain ⟨a3, k3, e3⟩ := sees_shape ho.so
  simp only at e1 e2 e3
  subst e1 e2 e3
  simp only at hop
  subst hop
  show Calls Try.prog 4 #[.agg #[.int .i64 kind, .int .i64 to, .int .i64 who, .slice a1 s.length k1, .slice a2 i.length k2, .slice a3 own.length k3, .string text, .bool false]] w fun e w' => e = .returned (.bool true) ∧ Below w.heap.size w w'
  obtain ⟨W, hW⟩ : ∃ W, W = w.alloc (.cells #[.int .i64 kind, .int .i64 to, .int .i64 who, .slice a1 s.length k1, .slice a2 i.length k2, .slice a3 own.length k3, .string text, .bool false] 41) := ⟨_, rfl⟩
  have hbW : Below w.heap.size w W := by rw [hW]; exact below_alloc w _
  have c1 : W.cell? ⟨w.heap.size, 1, none⟩ = some (.int .i64 to) := by rw [hW]; simp
  have c2 : W.cell? ⟨w.heap.size, 2, none⟩ = some (.int .i64 who) := by rw [hW]; simp
  have c3 : W.cell? ⟨w.heap.size, 3, none⟩ = some (.slice a1 s.length k1) := by rw [hW]; simp
  have c4 : W.cell? ⟨w.heap.size, 4, none⟩ = some (.slice a2 i.length k2) := by rw [hW]; simp
  have c5 : W.cell? ⟨w.heap.size, 5, none⟩ = some (.slice a3 own.length k3) := by rw [hW]; simp
  have c6 : W.cell? ⟨w.heap.size, 6, none⟩ = some (.string text) := by rw [hW]; simp
  have c7 : W.cell? ⟨w.heap.size, 7, none⟩ = some (.bool false) := by rw [hW]; simp
  obtain ⟨Z, hZ⟩ : ∃ Z, Z = (W.alloc (.cells #[.int .i64 who, .slice a1 s.length k1, .slice a2 i.length k2, .slice a3 own.length k3] 39)).drew := ⟨_, rfl⟩
  have hbZ : Below w.heap.size w Z := by rw [hZ]; exact Below.drew (hbW.alloc hbW.size _)
  have hSZ : SuBox Z W.heap.size who (.slice a1 s.length k1) (.slice a2 i.length k2) (.slice a3 own.length k3) := by rw [hZ]; exact (SuBox.new W _ _ _ _).below (Below.drew (Below.refl _ _))
  have hlW : w.heap.size < W.heap.size := by rw [hW]; simp
  have HW := hid hW
  have HZ := hid hZ
  have HB := hid hbZ
  have HS := hid hSZ
  have HO := hid (SuAt.below (show SuAt w (.slice a1 s.length k1) (.slice a2 i.length k2) (.slice a3 own.length k3) s i own from ho) hbZ)
  have HE := hid he
  have hN := hid (new_any 4 3 Z (by decide) (by decide) (by decide) (by decide))
  have hPN := eqlP_some_nil
  clear hW hbW ho he hZ hbZ hSZ
  simp only at HE hcm hnl
  go_enter Try.func4, Try.ntmps4
  go_wp2_with fail
  rw [← HW.out]
  clear HW
  go_region_held3 (fun w' => w'.cell? ⟨w.heap.size, 1, none⟩ = some (.int .i64 to) ∧ w'.cell? ⟨w.heap.size, 2, none⟩ = some (.int .i64 who) ∧ w'.cell? ⟨w.heap.size, 3, none⟩ = some (.slice a1 s.length k1) ∧ w'.cell? ⟨w.heap.size, 4, none⟩ = some (.slice a2 i.length k2) ∧ w'.cell? ⟨w.heap.size, 5, none⟩ = some (.slice a3 own.length k3) ∧ w'.cell? ⟨w.heap.size, 6, none⟩ = some (.string text) ∧ w'.cell? ⟨w.heap.size, 7, none⟩ = some (.bool false))
    (first | (refine ⟨?_, ?_, ?_, ?_, ?_, ?_, ?_⟩ <;> first | assumption | go_keep))
    (fail)
  rw [← HZ.out]
  clear HZ c1 c2 c3 c4 c5 c6 c7
  go_wp2_with fail
  refine hN.out.mono ?_
  clear hN
  rintro e w1 ⟨p, m, rfl, ⟨bx, ql, v, hn, hP1, hB1, hF1⟩, hm⟩
  obtain ⟨x0, x1, x2, x3⟩ := HS.out.below hB1
  have HO1 := hid (HO.out.below hB1)
  have HP1 := hid hP1
  have HB1 := hid hB1
  have HF1 := hid hF1
  have HN := hid hn
  have HM := hid hm
  obtain ⟨u1, u2, u3, u4, u5⟩ := errS_zero HE.out
  obtain ⟨tn, htn, hto⟩ := usr_iff.1 u2
  subst hto
  simp only [Int.toNat_natCast] at hcm hnl
  have hls := (mayB_iff.1 u4).1.1
  have hlo := catsB_len u3
  have hSe := send_ok p bx 3 ql v m who tn _ _ _ s i own text false w1 hP1 (HO.out.below hB1) (by rw [hn]; exact HE.out)
  rw [hcm] at hSe
  simp only [Bool.false_eq_true, if_false, if_true] at hSe
  unfold suV at hSe
  have HSe := hid hSe
  have HNL := hid hnl
  have HCM := hid hcm
  have e1 : IntKind.i64.wrap (2 * (tn : Int)) = 2 * tn := by rw [IntKind.wrap_i64]; omega
  have e2 : IntKind.i64.wrap (2 * (tn : Int) + 1) = 2 * tn + 1 := by rw [IntKind.wrap_i64]; omega
  clear hSe hP1 hB1 hF1 hn hm HE u1 u2 u3 u4 u5 hnl hcm
  go_wp2_with fail
  refine HSe.out.mono ?_
  clear HSe x0 x1 x2 x3
  rintro e w2 ⟨u, rfl, hO2, v2, hP2, hG2, hM2⟩
  have hBZ2 := bel_turn HB1.out HF1.out hG2
  obtain ⟨x0, x1, x2, x3⟩ := HS.out.below hBZ2
  have HO2 := hid (HO.out.below hBZ2)
  have HB2 := hid (HB.out.trans (hBZ2.mono HB.out.size))
  have HP2 := hid hP2
  have HU2 := hid hO2
  obtain ⟨ua, uk, hu⟩ := sees_shape hO2.sees
  subst hu
  have hLs := hid (refLess_any (.slice a1 s.length k1) (.slice (some ⟨w2.heap.size, 0, none⟩) 1 1) s [2 * (tn : Int) + 1] (w2.alloc (.cells #[.int .i64 (2 * (tn : Int) + 1)] 3)) (HO2.out.ss.box _) (seesOne w2 _) (by simp; omega))
  have HX2 := hid (HS.out.below hBZ2)
  clear hO2 hP2 hG2 hM2 hBZ2 HP1 HO1 HB1 HF1 HO HB HS
  go_wp2_with fail
  refine hLs.out.mono ?_
  clear hLs
  rintro e w3 ⟨lv, rfl, hO3, hB3⟩
  have hb23 : Below w2.heap.size w2 w3 := (below_alloc w2 _).trans (hB3.mono (by simp))
  have HL3 := hid (show Owns w3 (w2.alloc (.cells #[.int .i64 (2 * (tn : Int) + 1)] 3)).heap.size lv (lackS s tn) from hO3)
  obtain ⟨la, lk, hl⟩ := sees_shape HL3.out.sees
  subst hl
  have HP3 := hid (HP2.out.below hb23)
  have HU3 := hid (HU2.out.below hb23)
  have HO3 := hid (HO2.out.below hb23)
  obtain ⟨x0, x1, x2, x3⟩ := HX2.out.below hb23
  have HB3 := hid (HB2.out.trans (hb23.mono HB2.out.size))
  have hn := HN.out
  have hmt := HM.out tn htn
  have hLen := len_yes p bx 3 ql v2 _ tn (by omega) w3 HP3.out
  rw [hmt] at hLen
  simp only [List.length_nil] at hLen
  have HLen := hid hLen
  clear hLen hn hmt hO3 hB3 hb23 HX2 HP2 HU2 HO2 HB2 HP3
  have hz : (((lackS s tn).length : Int) == 0) = false := by
    have := HNL.out
    simp
    exact this
  have HB5 := HB3
  go_wp2_with fail
  refine HLen.out.mono ?_
  clear HLen
  rintro e w4 ⟨rfl, hw4⟩
  subst hw4
  go_wp2_with fail
  refine (awake_any _).mono ?_
  rintro e w9 ⟨rfl, hB9⟩
  have HB9 := hid (HB5.out.trans (hB9.mono HB5.out.size))
  clear hB9
  go_wp2
  go_ret
  exact ⟨rfl, HB9.out⟩

set_option maxRecDepth 20000 in
set_option maxHeartbeats 4000000 in
theorem denies_open (o : OpL) (w : World) (ho : o.su w) (he : errS 4 o.who o.to o.s o.i o.own o.text.size = 0) (hcm : comes o.s o.own o.to.toNat o.op = true) (hnl : lackS o.s o.to.toNat ≠ []) (hop : o.op = true) :
    Calls Try.prog 4 #[.agg o.row.toArray] w fun e w' => e = .returned (.bool true) ∧ Below w.heap.size w w' := by
  obtain ⟨kind, to, who, vs, vi, vo, text, op, s, i, own⟩ := o
  obtain ⟨a1, k1, e1⟩ := sees_shape ho.ss
  obtain ⟨a2, k2, e2⟩ := sees_shape ho.si
  obtain ⟨a3, k3, e3⟩ := sees_shape ho.so
  simp only at e1 e2 e3
  subst e1 e2 e3
  simp only at hop
  subst hop
  show Calls Try.prog 4 #[.agg #[.int .i64 kind, .int .i64 to, .int .i64 who, .slice a1 s.length k1, .slice a2 i.length k2, .slice a3 own.length k3, .string text, .bool true]] w fun e w' => e = .returned (.bool true) ∧ Below w.heap.size w w'
  obtain ⟨W, hW⟩ : ∃ W, W = w.alloc (.cells #[.int .i64 kind, .int .i64 to, .int .i64 who, .slice a1 s.length k1, .slice a2 i.length k2, .slice a3 own.length k3, .string text, .bool true] 41) := ⟨_, rfl⟩
  have hbW : Below w.heap.size w W := by rw [hW]; exact below_alloc w _
  have c1 : W.cell? ⟨w.heap.size, 1, none⟩ = some (.int .i64 to) := by rw [hW]; simp
  have c2 : W.cell? ⟨w.heap.size, 2, none⟩ = some (.int .i64 who) := by rw [hW]; simp
  have c3 : W.cell? ⟨w.heap.size, 3, none⟩ = some (.slice a1 s.length k1) := by rw [hW]; simp
  have c4 : W.cell? ⟨w.heap.size, 4, none⟩ = some (.slice a2 i.length k2) := by rw [hW]; simp
  have c5 : W.cell? ⟨w.heap.size, 5, none⟩ = some (.slice a3 own.length k3) := by rw [hW]; simp
  have c6 : W.cell? ⟨w.heap.size, 6, none⟩ = some (.string text) := by rw [hW]; simp
  have c7 : W.cell? ⟨w.heap.size, 7, none⟩ = some (.bool true) := by rw [hW]; simp
  obtain ⟨Z, hZ⟩ : ∃ Z, Z = (W.alloc (.cells #[.int .i64 who, .slice a1 s.length k1, .slice a2 i.length k2, .slice a3 own.length k3] 39)).drew := ⟨_, rfl⟩
  have hbZ : Below w.heap.size w Z := by rw [hZ]; exact Below.drew (hbW.alloc hbW.size _)
  have hSZ : SuBox Z W.heap.size who (.slice a1 s.length k1) (.slice a2 i.length k2) (.slice a3 own.length k3) := by rw [hZ]; exact (SuBox.new W _ _ _ _).below (Below.drew (Below.refl _ _))
  have hlW : w.heap.size < W.heap.size := by rw [hW]; simp
  have HW := hid hW
  have HZ := hid hZ
  have HB := hid hbZ
  have HS := hid hSZ
  have HO := hid (SuAt.below (show SuAt w (.slice a1 s.length k1) (.slice a2 i.length k2) (.slice a3 own.length k3) s i own from ho) hbZ)
  have HE := hid he
  have hN := hid (new_any 4 3 Z (by decide) (by decide) (by decide) (by decide))
  have hPN := eqlP_some_nil
  clear hW hbW ho he hZ hbZ hSZ
  simp only at HE hcm hnl
  go_enter Try.func4, Try.ntmps4
  go_wp2_with fail
  rw [← HW.out]
  clear HW
  go_region_held3 (fun w' => w'.cell? ⟨w.heap.size, 1, none⟩ = some (.int .i64 to) ∧ w'.cell? ⟨w.heap.size, 2, none⟩ = some (.int .i64 who) ∧ w'.cell? ⟨w.heap.size, 3, none⟩ = some (.slice a1 s.length k1) ∧ w'.cell? ⟨w.heap.size, 4, none⟩ = some (.slice a2 i.length k2) ∧ w'.cell? ⟨w.heap.size, 5, none⟩ = some (.slice a3 own.length k3) ∧ w'.cell? ⟨w.heap.size, 6, none⟩ = some (.string text) ∧ w'.cell? ⟨w.heap.size, 7, none⟩ = some (.bool true))
    (first | (refine ⟨?_, ?_, ?_, ?_, ?_, ?_, ?_⟩ <;> first | assumption | go_keep))
    (fail)
  rw [← HZ.out]
  clear HZ c1 c2 c3 c4 c5 c6 c7
  go_wp2_with fail
  refine hN.out.mono ?_
  clear hN
  rintro e w1 ⟨p, m, rfl, ⟨bx, ql, v, hn, hP1, hB1, hF1⟩, hm⟩
  obtain ⟨x0, x1, x2, x3⟩ := HS.out.below hB1
  have HO1 := hid (HO.out.below hB1)
  have HP1 := hid hP1
  have HB1 := hid hB1
  have HF1 := hid hF1
  have HN := hid hn
  have HM := hid hm
  obtain ⟨u1, u2, u3, u4, u5⟩ := errS_zero HE.out
  obtain ⟨tn, htn, hto⟩ := usr_iff.1 u2
  subst hto
  simp only [Int.toNat_natCast] at hcm hnl
  have hls := (mayB_iff.1 u4).1.1
  have hlo := catsB_len u3
  have hSe := send_ok p bx 3 ql v m who tn _ _ _ s i own text true w1 hP1 (HO.out.below hB1) (by rw [hn]; exact HE.out)
  rw [hcm] at hSe
  simp only [Bool.false_eq_true, if_false, if_true] at hSe
  unfold suV at hSe
  have HSe := hid hSe
  have HNL := hid hnl
  have HCM := hid hcm
  have e1 : IntKind.i64.wrap (2 * (tn : Int)) = 2 * tn := by rw [IntKind.wrap_i64]; omega
  have e2 : IntKind.i64.wrap (2 * (tn : Int) + 1) = 2 * tn + 1 := by rw [IntKind.wrap_i64]; omega
  clear hSe hP1 hB1 hF1 hn hm HE u1 u2 u3 u4 u5 hnl hcm
  go_wp2_with fail
  refine HSe.out.mono ?_
  clear HSe x0 x1 x2 x3
  rintro e w2 ⟨u, rfl, hO2, v2, hP2, hG2, hM2⟩
  have hBZ2 := bel_turn HB1.out HF1.out hG2
  obtain ⟨x0, x1, x2, x3⟩ := HS.out.below hBZ2
  have HO2 := hid (HO.out.below hBZ2)
  have HB2 := hid (HB.out.trans (hBZ2.mono HB.out.size))
  have HP2 := hid hP2
  have HU2 := hid hO2
  obtain ⟨ua, uk, hu⟩ := sees_shape hO2.sees
  subst hu
  have hLs := hid (refLess_any (.slice a1 s.length k1) (.slice (some ⟨w2.heap.size, 0, none⟩) 1 1) s [2 * (tn : Int) + 1] (w2.alloc (.cells #[.int .i64 (2 * (tn : Int) + 1)] 3)) (HO2.out.ss.box _) (seesOne w2 _) (by simp; omega))
  have HX2 := hid (HS.out.below hBZ2)
  clear hO2 hP2 hG2 hM2 hBZ2 HP1 HO1 HB1 HF1 HO HB HS
  go_wp2_with fail
  refine hLs.out.mono ?_
  clear hLs
  rintro e w3 ⟨lv, rfl, hO3, hB3⟩
  have hb23 : Below w2.heap.size w2 w3 := (below_alloc w2 _).trans (hB3.mono (by simp))
  have HL3 := hid (show Owns w3 (w2.alloc (.cells #[.int .i64 (2 * (tn : Int) + 1)] 3)).heap.size lv (lackS s tn) from hO3)
  obtain ⟨la, lk, hl⟩ := sees_shape HL3.out.sees
  subst hl
  have HP3 := hid (HP2.out.below hb23)
  have HU3 := hid (HU2.out.below hb23)
  have HO3 := hid (HO2.out.below hb23)
  obtain ⟨x0, x1, x2, x3⟩ := HX2.out.below hb23
  have HB3 := hid (HB2.out.trans (hb23.mono HB2.out.size))
  have hn := HN.out
  have hmt := HM.out tn htn
  have hLen := len_yes p bx 3 ql v2 _ tn (by omega) w3 HP3.out
  rw [if_pos rfl, hmt, pushed_nil 3 _ (by decide)] at hLen
  simp only [List.length_singleton] at hLen
  have HLen := hid hLen
  clear hLen hn hmt hO3 hB3 hb23 HX2 HP2 HU2 HO2 HB2 HP3
  have hz : (((lackS s tn).length : Int) == 0) = false := by
    have := HNL.out
    simp
    exact this
  have hwi := HCM.out
  unfold comes at hwi
  simp only [if_true] at hwi
  have hll := length_lessL s [2 * (tn : Int) + 1]
  have hWi := refWithin_any _ _ (lackS s tn) own w3 HL3.out.sees HO3.out.so (by unfold lackS; omega)
  rw [hwi] at hWi
  have HWi := hid hWi
  have HLL := hid hll
  clear hwi hWi hll
  go_wp2_with fail
  refine HLen.out.mono ?_
  clear HLen
  rintro e w4 ⟨rfl, hw4⟩
  subst hw4
  go_wp2_with fail
  refine HWi.out.mono ?_
  clear HWi
  rintro e w5 ⟨rfl, hB5⟩
  have HB4 := hid (HB3.out.trans (hB5.mono HB3.out.size))
  have hll := HLL.out
  have HSa := hid (same_any _ _ (lackS s tn) (lackS s tn) w5 (HU3.out.below hB5).sees (HL3.out.below hB5).sees (by unfold lackS; omega) (by unfold lackS; omega))
  clear hB5 hll x0 x1 x2 x3
  go_wp2_with fail
  refine HSa.out.mono ?_
  clear HSa
  rintro e w6 ⟨rfl, hB6⟩
  have HB5 := hid (HB4.out.trans (hB6.mono HB4.out.size))
  clear hB6
  go_wp2_with fail
  refine (awake_any _).mono ?_
  rintro e w9 ⟨rfl, hB9⟩
  have HB9 := hid (HB5.out.trans (hB9.mono HB5.out.size))
  clear hB9
  go_wp2
  go_ret
  exact ⟨rfl, HB9.out⟩

set_option maxRecDepth 20000 in
set_option maxHeartbeats 4000000 in
theorem denies_lacks (o : OpL) (w : World) (ho : o.su w) (he : errS 4 o.who o.to o.s o.i o.own o.text.size = 0) (hcm : comes o.s o.own o.to.toNat o.op = false) (hnl : lackS o.s o.to.toNat ≠ []) (hop : o.op = true) :
    Calls Try.prog 4 #[.agg o.row.toArray] w fun e w' => e = .returned (.bool true) ∧ Below w.heap.size w w' := by
  obtain ⟨kind, to, who, vs, vi, vo, text, op, s, i, own⟩ := o
  obtain ⟨a1, k1, e1⟩ := sees_shape ho.ss
  obtain ⟨a2, k2, e2⟩ := sees_shape ho.si
  obtain ⟨a3, k3, e3⟩ := sees_shape ho.so
  simp only at e1 e2 e3
  subst e1 e2 e3
  simp only at hop
  subst hop
  show Calls Try.prog 4 #[.agg #[.int .i64 kind, .int .i64 to, .int .i64 who, .slice a1 s.length k1, .slice a2 i.length k2, .slice a3 own.length k3, .string text, .bool true]] w fun e w' => e = .returned (.bool true) ∧ Below w.heap.size w w'
  obtain ⟨W, hW⟩ : ∃ W, W = w.alloc (.cells #[.int .i64 kind, .int .i64 to, .int .i64 who, .slice a1 s.length k1, .slice a2 i.length k2, .slice a3 own.length k3, .string text, .bool true] 41) := ⟨_, rfl⟩
  have hbW : Below w.heap.size w W := by rw [hW]; exact below_alloc w _
  have c1 : W.cell? ⟨w.heap.size, 1, none⟩ = some (.int .i64 to) := by rw [hW]; simp
  have c2 : W.cell? ⟨w.heap.size, 2, none⟩ = some (.int .i64 who) := by rw [hW]; simp
  have c3 : W.cell? ⟨w.heap.size, 3, none⟩ = some (.slice a1 s.length k1) := by rw [hW]; simp
  have c4 : W.cell? ⟨w.heap.size, 4, none⟩ = some (.slice a2 i.length k2) := by rw [hW]; simp
  have c5 : W.cell? ⟨w.heap.size, 5, none⟩ = some (.slice a3 own.length k3) := by rw [hW]; simp
  have c6 : W.cell? ⟨w.heap.size, 6, none⟩ = some (.string text) := by rw [hW]; simp
  have c7 : W.cell? ⟨w.heap.size, 7, none⟩ = some (.bool true) := by rw [hW]; simp
  obtain ⟨Z, hZ⟩ : ∃ Z, Z = (W.alloc (.cells #[.int .i64 who, .slice a1 s.length k1, .slice a2 i.length k2, .slice a3 own.length k3] 39)).drew := ⟨_, rfl⟩
  have hbZ : Below w.heap.size w Z := by rw [hZ]; exact Below.drew (hbW.alloc hbW.size _)
  have hSZ : SuBox Z W.heap.size who (.slice a1 s.length k1) (.slice a2 i.length k2) (.slice a3 own.length k3) := by rw [hZ]; exact (SuBox.new W _ _ _ _).below (Below.drew (Below.refl _ _))
  have hlW : w.heap.size < W.heap.size := by rw [hW]; simp
  have HW := hid hW
  have HZ := hid hZ
  have HB := hid hbZ
  have HS := hid hSZ
  have HO := hid (SuAt.below (show SuAt w (.slice a1 s.length k1) (.slice a2 i.length k2) (.slice a3 own.length k3) s i own from ho) hbZ)
  have HE := hid he
  have hN := hid (new_any 4 3 Z (by decide) (by decide) (by decide) (by decide))
  have hPN := eqlP_some_nil
  clear hW hbW ho he hZ hbZ hSZ
  simp only at HE hcm hnl
  go_enter Try.func4, Try.ntmps4
  go_wp2_with fail
  rw [← HW.out]
  clear HW
  go_region_held3 (fun w' => w'.cell? ⟨w.heap.size, 1, none⟩ = some (.int .i64 to) ∧ w'.cell? ⟨w.heap.size, 2, none⟩ = some (.int .i64 who) ∧ w'.cell? ⟨w.heap.size, 3, none⟩ = some (.slice a1 s.length k1) ∧ w'.cell? ⟨w.heap.size, 4, none⟩ = some (.slice a2 i.length k2) ∧ w'.cell? ⟨w.heap.size, 5, none⟩ = some (.slice a3 own.length k3) ∧ w'.cell? ⟨w.heap.size, 6, none⟩ = some (.string text) ∧ w'.cell? ⟨w.heap.size, 7, none⟩ = some (.bool true))
    (first | (refine ⟨?_, ?_, ?_, ?_, ?_, ?_, ?_⟩ <;> first | assumption | go_keep))
    (fail)
  rw [← HZ.out]
  clear HZ c1 c2 c3 c4 c5 c6 c7
  go_wp2_with fail
  refine hN.out.mono ?_
  clear hN
  rintro e w1 ⟨p, m, rfl, ⟨bx, ql, v, hn, hP1, hB1, hF1⟩, hm⟩
  obtain ⟨x0, x1, x2, x3⟩ := HS.out.below hB1
  have HO1 := hid (HO.out.below hB1)
  have HP1 := hid hP1
  have HB1 := hid hB1
  have HF1 := hid hF1
  have HN := hid hn
  have HM := hid hm
  obtain ⟨u1, u2, u3, u4, u5⟩ := errS_zero HE.out
  obtain ⟨tn, htn, hto⟩ := usr_iff.1 u2
  subst hto
  simp only [Int.toNat_natCast] at hcm hnl
  have hls := (mayB_iff.1 u4).1.1
  have hlo := catsB_len u3
  have hSe := send_ok p bx 3 ql v m who tn _ _ _ s i own text true w1 hP1 (HO.out.below hB1) (by rw [hn]; exact HE.out)
  rw [hcm] at hSe
  simp only [Bool.false_eq_true, if_false, if_true] at hSe
  unfold suV at hSe
  have HSe := hid hSe
  have HNL := hid hnl
  have HCM := hid hcm
  have e1 : IntKind.i64.wrap (2 * (tn : Int)) = 2 * tn := by rw [IntKind.wrap_i64]; omega
  have e2 : IntKind.i64.wrap (2 * (tn : Int) + 1) = 2 * tn + 1 := by rw [IntKind.wrap_i64]; omega
  clear hSe hP1 hB1 hF1 hn hm HE u1 u2 u3 u4 u5 hnl hcm
  go_wp2_with fail
  refine HSe.out.mono ?_
  clear HSe x0 x1 x2 x3
  rintro e w2 ⟨u, rfl, hO2, v2, hP2, hG2, hM2⟩
  have hBZ2 := bel_turn HB1.out HF1.out hG2
  obtain ⟨x0, x1, x2, x3⟩ := HS.out.below hBZ2
  have HO2 := hid (HO.out.below hBZ2)
  have HB2 := hid (HB.out.trans (hBZ2.mono HB.out.size))
  have HP2 := hid hP2
  have HU2 := hid hO2
  obtain ⟨ua, uk, hu⟩ := sees_shape hO2.sees
  subst hu
  have hLs := hid (refLess_any (.slice a1 s.length k1) (.slice (some ⟨w2.heap.size, 0, none⟩) 1 1) s [2 * (tn : Int) + 1] (w2.alloc (.cells #[.int .i64 (2 * (tn : Int) + 1)] 3)) (HO2.out.ss.box _) (seesOne w2 _) (by simp; omega))
  have HX2 := hid (HS.out.below hBZ2)
  clear hO2 hP2 hG2 hM2 hBZ2 HP1 HO1 HB1 HF1 HO HB HS
  go_wp2_with fail
  refine hLs.out.mono ?_
  clear hLs
  rintro e w3 ⟨lv, rfl, hO3, hB3⟩
  have hb23 : Below w2.heap.size w2 w3 := (below_alloc w2 _).trans (hB3.mono (by simp))
  have HL3 := hid (show Owns w3 (w2.alloc (.cells #[.int .i64 (2 * (tn : Int) + 1)] 3)).heap.size lv (lackS s tn) from hO3)
  obtain ⟨la, lk, hl⟩ := sees_shape HL3.out.sees
  subst hl
  have HP3 := hid (HP2.out.below hb23)
  have HU3 := hid (HU2.out.below hb23)
  have HO3 := hid (HO2.out.below hb23)
  obtain ⟨x0, x1, x2, x3⟩ := HX2.out.below hb23
  have HB3 := hid (HB2.out.trans (hb23.mono HB2.out.size))
  have hn := HN.out
  have hmt := HM.out tn htn
  have hLen := len_yes p bx 3 ql v2 _ tn (by omega) w3 HP3.out
  rw [hmt] at hLen
  simp only [List.length_nil] at hLen
  have HLen := hid hLen
  clear hLen hn hmt hO3 hB3 hb23 HX2 HP2 HU2 HO2 HB2 HP3
  have hz : (((lackS s tn).length : Int) == 0) = false := by
    have := HNL.out
    simp
    exact this
  have hwi := HCM.out
  unfold comes at hwi
  simp only [if_true] at hwi
  have hll := length_lessL s [2 * (tn : Int) + 1]
  have hWi := refWithin_any _ _ (lackS s tn) own w3 HL3.out.sees HO3.out.so (by unfold lackS; omega)
  rw [hwi] at hWi
  have HWi := hid hWi
  clear hwi hWi hll
  go_wp2_with fail
  refine HLen.out.mono ?_
  clear HLen
  rintro e w4 ⟨rfl, hw4⟩
  subst hw4
  go_wp2_with fail
  refine HWi.out.mono ?_
  clear HWi
  rintro e w5 ⟨rfl, hB5⟩
  have HB5 := hid (HB3.out.trans (hB5.mono HB3.out.size))
  clear hB5 x0 x1 x2 x3
  go_wp2_with fail
  refine (awake_any _).mono ?_
  rintro e w9 ⟨rfl, hB9⟩
  have HB9 := hid (HB5.out.trans (hB9.mono HB5.out.size))
  clear hB9
  go_wp2
  go_ret
  exact ⟨rfl, HB9.out⟩

theorem denies_walk (o : OpL) (w : World) (ho : o.su w) :
    Calls Try.prog 4 #[.agg o.row.toArray] w fun e w' => e = .returned (.bool true) ∧ Below w.heap.size w w' := by
  by_cases he : errS 4 o.who o.to o.s o.i o.own o.text.size = 0
  · by_cases hl : lackS o.s o.to.toNat = []
    · refine denies_nil o w ho he ?_ hl
      unfold comes
      rw [hl, withinB_iff]
      intro x hx
      simp at hx
    · cases hop : o.op
      · refine denies_shut o w ho he ?_ hl hop
        cases hc : comes o.s o.own o.to.toNat o.op
        · rfl
        · unfold comes at hc
          rw [hop, withinB_iff] at hc
          simp only [Bool.false_eq_true, if_false] at hc
          exact absurd (List.eq_nil_iff_forall_not_mem.2 fun x hx => by simpa using hc x hx) hl
      · cases hc : comes o.s o.own o.to.toNat o.op
        · exact denies_lacks o w ho he hc hl hop
        · exact denies_open o w ho he hc hl hop
  · exact denies_bad o w ho he
end Go.Proofs.Ytahibklmcooanaa
