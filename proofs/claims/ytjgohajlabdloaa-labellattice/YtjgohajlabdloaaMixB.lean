/-
  The contracts of the document's own Join and Meet of labels.
-/
import Derived.Test.YtjgohajlabdloaaMixA
import Derived.Deep.RegionHeld3
namespace Go.Proofs.Ytjgohajlabdloaa
open Go.RowKit
set_option linter.unusedVariables false
set_option linter.unusedSimpArgs false

set_option maxRecDepth 20000 in
set_option maxHeartbeats 4000000 in
theorem rJoin_may (a b : Value) (s i t j : List Int) (w : World) (hA : SeesL w a s i) (hB : SeesL w b t j) (hm : (mayB s i && mayB t j) = true) :
    Calls Try.prog 19 #[a, b] w fun e w' => ∃ v1 v2, e = .returned (.tuple #[.agg #[v1, v2], .int .i64 (mixE true (sd (s ++ t)) (meetL i j))]) ∧
      Owns w' w.heap.size v1 (mixL true (sd (s ++ t)) (meetL i j) (sd (s ++ t))) ∧ Owns w' w.heap.size v2 (mixL true (sd (s ++ t)) (meetL i j) (meetL i j)) ∧ Below w.heap.size w w' := by
  have hlen := may2 hm
  rw [Bool.and_eq_true] at hm
  obtain ⟨u1, x1, rfl, a1, a2, a3, a4⟩ := hA
  obtain ⟨u2, x2, rfl, b1, b2, b3, b4⟩ := hB
  obtain ⟨W, hW⟩ : ∃ W, W = ((w.alloc (.cells #[u1, x1] 24)).alloc (.cells #[u2, x2] 24)).alloc (.cells #[.slice none 0 0, .slice none 0 0] 24) := ⟨_, rfl⟩
  have hZ : Below w.heap.size w W := by rw [hW]; exact ((below_alloc w _).alloc (by simp) _).alloc (by simp; omega) _
  have HA1 := hid (show Boxed W w.heap.size u1 x1 by rw [hW]; exact ((Boxed.new _ _ _).box _).box _)
  have HA2 := hid (show Boxed W (w.heap.size + 1) u2 x2 by rw [hW]; exact (Boxed.new2 _ _ _ _).box _)
  have HR := hid (show LabAt W (w.heap.size + 1 + 1) (.slice none 0 0) (.slice none 0 0) by rw [hW]; exact LabAt.new3 _ _ _ _ _)
  have sA : SeesL W (.agg #[u1, x1]) s i := SeesL.below ⟨u1, x1, rfl, a1, a2, a3, a4⟩ hZ
  have sB : SeesL W (.agg #[u2, x2]) t j := SeesL.below ⟨u2, x2, rfl, b1, b2, b3, b4⟩ hZ
  have M1 := hid (fun w1 (h : Below W.heap.size W w1) => may_any _ s i w1 (sA.below h))
  have M2 := hid (fun w1 (h : Below W.heap.size W w1) => may_any _ t j w1 (sB.below h))
  have T1 := hid (a1.below hZ)
  have T2 := hid (a2.below hZ)
  have T3 := hid (b1.below hZ)
  have T4 := hid (b2.below hZ)
  have hszW : W.heap.size = w.heap.size + 3 := by rw [hW]; simp
  have HZ := hid hZ
  have HW := hid hW
  have HB := hid (Below.refl W.heap.size W)
  clear a1 a2 b1 b2 sA sB hZ hW
  obtain ⟨c1, c2⟩ := HA1.out
  obtain ⟨c3, c4⟩ := HA2.out
  rw [hm.1] at M1
  rw [hm.2] at M2
  clear hm
  have K1 := hid (fun w1 (h : Below W.heap.size W w1) => refJoin_any u1 u2 s t w1 (T1.out.below h) (T3.out.below h) (by omega))
  have K2 := hid (fun w1 (h : Below W.heap.size W w1) => refMeet_any x1 x2 i j w1 (T2.out.below h) (T4.out.below h) (by omega))
  obtain ⟨PP, hPP⟩ : ∃ X, X = (sd (s ++ t)) := ⟨_, rfl⟩
  obtain ⟨QQ, hQQ⟩ : ∃ X, X = (meetL i j) := ⟨_, rfl⟩
  rw [← hPP] at K1 ⊢
  rw [← hQQ] at K2 ⊢
  clear hPP hQQ T1 T2 T3 T4 hlen
  by_cases hfit : PP.length ≤ 64 ∧ QQ.length ≤ 64
  · rw [show mixE true PP QQ = 0 by simp [mixE, hfit], show mixL true PP QQ PP = PP by simp [mixL, hfit], show mixL true PP QQ QQ = QQ by simp [mixL, hfit]]
    have HF := hid hfit
    clear hfit
    go_enter Try.func19, Try.ntmps19
    go_wp2_with fail
    rw [← HW.out]
    clear HW
    refine (M1.out _ HB.out).mono ?_
    rintro e w1 ⟨rfl, h'⟩
    clear M1
    have HBn := hid (HB.out.trans (h'.mono HB.out.size))
    clear HB h' c1 c2 c3 c4
    have HB := HBn
    clear HBn
    obtain ⟨c1, c2⟩ := HA1.out.below HB.out
    obtain ⟨c3, c4⟩ := HA2.out.below HB.out
    go_wp2_with fail
    refine (M2.out _ HB.out).mono ?_
    rintro e w2 ⟨rfl, h'⟩
    clear M2
    have HBn := hid (HB.out.trans (h'.mono HB.out.size))
    clear HB h' c1 c2 c3 c4
    have HB := HBn
    clear HBn
    obtain ⟨c1, c2⟩ := HA1.out.below HB.out
    obtain ⟨c3, c4⟩ := HA2.out.below HB.out
    go_wp2_with fail
    have HBn := hid (Below.drew HB.out)
    clear HB
    have HB := HBn
    clear HBn
    go_region_held3 (fun w' => w'.cell? ⟨w.heap.size, 0, none⟩ = some u1 ∧ w'.cell? ⟨w.heap.size, 1, none⟩ = some x1 ∧ w'.cell? ⟨w.heap.size + 1, 0, none⟩ = some u2 ∧ w'.cell? ⟨w.heap.size + 1, 1, none⟩ = some x2)
      (first | (refine ⟨?_, ?_, ?_, ?_⟩ <;> first | assumption | exact far2 c1 (by omega) | exact far2 c2 (by omega) | exact far2 c3 (by omega) | exact far2 c4 (by omega) | go_keep))
      (first
        | (go_at_call 24; refine (K1.out _ HB.out).mono ?_; rintro e w3 ⟨v2, rfl, hO2, h'⟩; clear K1
           have HO2 := hid (owns_le hO2 HB.out.size)
           clear hO2
           have HBn := hid (HB.out.trans (h'.mono HB.out.size))
           clear HB h' c1 c2 c3 c4
           have HB := HBn
           clear HBn
           obtain ⟨c1, c2⟩ := HA1.out.below HB.out
           obtain ⟨c3, c4⟩ := HA2.out.below HB.out
          )
        | (go_at_call 40; refine (K2.out _ HB.out).mono ?_; rintro e w4 ⟨v3, rfl, hO3, h'⟩; clear K2
           have HO3 := hid (owns_le hO3 HB.out.size)
           have HO2n := hid (HO2.out.below h')
           clear hO3 HO2
           have HO2 := HO2n
           clear HO2n
           have HBn := hid (HB.out.trans (h'.mono HB.out.size))
           clear HB h' c1 c2 c3 c4
           have HB := HBn
           clear HBn
           obtain ⟨c1, c2⟩ := HA1.out.below HB.out
           obtain ⟨c3, c4⟩ := HA2.out.below HB.out
          )
        | (go_at_call 39; refine (both_ok v2 v3 PP QQ _ HO2.out.sees HO3.out.sees HF.out.1 HF.out.2).mono ?_; rintro e w5 ⟨rfl, h'⟩
           have HO2n := hid (HO2.out.below h')
           have HO3n := hid (HO3.out.below h')
           clear HO2 HO3
           have HO2 := HO2n
           have HO3 := HO3n
           clear HO2n HO3n
           have HBn := hid (HB.out.trans (h'.mono HB.out.size))
           clear HB h' c1 c2 c3 c4
           have HB := HBn
           clear HBn
           obtain ⟨c1, c2⟩ := HA1.out.below HB.out
           obtain ⟨c3, c4⟩ := HA2.out.below HB.out
           have hRR := HR.out.below HB.out HR.out.lt
           obtain ⟨r1, r2, r3, r4⟩ := hRR.cells
           obtain ⟨ao2, n2, cp2, hv2⟩ := owns_sl HO2.out
           obtain ⟨ao3, n3, cp3, hv3⟩ := owns_sl HO3.out
           subst hv2
           subst hv3
          ))
    obtain ⟨wz, hwz⟩ : ∃ x, x = ((w5.setCell ⟨w.heap.size + 1 + 1, 0, none⟩ (.slice ao2 n2 cp2)).setCell ⟨w.heap.size + 1 + 1, 1, none⟩ (.slice ao3 n3 cp3)) := ⟨_, rfl⟩
    have hl : LabAt wz (w.heap.size + 1 + 1) (.slice ao2 n2 cp2) (.slice ao3 n3 cp3) := by rw [hwz]; exact hRR.store0.store1
    have hb : Below w.heap.size w wz := by rw [hwz]; exact ((HZ.out.trans (HB.out.mono HZ.out.size)).setCell (by simp; omega) _).setCell (by simp; omega) _
    have o2 : Owns wz w.heap.size (.slice ao2 n2 cp2) PP := by rw [hwz]; exact owns_le (owns_far (owns_far HO2.out (owns_lab_ne HO2.out hRR)) (owns_lab_ne HO2.out hRR)) (by omega)
    have o3 : Owns wz w.heap.size (.slice ao3 n3 cp3) QQ := by rw [hwz]; exact owns_le (owns_far (owns_far HO3.out (owns_lab_ne HO3.out hRR)) (owns_lab_ne HO3.out hRR)) (by omega)
    rw [← hwz]
    obtain ⟨y1, y2, _, _⟩ := hl.cells
    have HX := hid (And.intro o2 (And.intro o3 hb))
    clear hwz hl hb o2 o3 HO2 HO3 hRR r1 r2 r3 r4 c1 c2 c3 c4 HB
    go_wp2
    refine bodyPost_ret (v := .tuple #[.agg #[.slice ao2 n2 cp2, .slice ao3 n3 cp3], .int .i64 0]) (by simp [results, Try.results19, go_sem, y1, y2]) rfl ?_
    exact ⟨_, _, rfl, HX.out.1, HX.out.2.1, HX.out.2.2⟩
  · rw [show mixE true PP QQ = 2 by simp [mixE, hfit], show mixL true PP QQ PP = [] by simp [mixL, hfit], show mixL true PP QQ QQ = [] by simp [mixL, hfit]]
    have HF := hid (show 64 < PP.length ∨ 64 < QQ.length by omega)
    clear hfit
    go_enter Try.func19, Try.ntmps19
    go_wp2_with fail
    rw [← HW.out]
    clear HW
    refine (M1.out _ HB.out).mono ?_
    rintro e w1 ⟨rfl, h'⟩
    clear M1
    have HBn := hid (HB.out.trans (h'.mono HB.out.size))
    clear HB h' c1 c2 c3 c4
    have HB := HBn
    clear HBn
    obtain ⟨c1, c2⟩ := HA1.out.below HB.out
    obtain ⟨c3, c4⟩ := HA2.out.below HB.out
    go_wp2_with fail
    refine (M2.out _ HB.out).mono ?_
    rintro e w2 ⟨rfl, h'⟩
    clear M2
    have HBn := hid (HB.out.trans (h'.mono HB.out.size))
    clear HB h' c1 c2 c3 c4
    have HB := HBn
    clear HBn
    obtain ⟨c1, c2⟩ := HA1.out.below HB.out
    obtain ⟨c3, c4⟩ := HA2.out.below HB.out
    go_wp2_with fail
    have HBn := hid (Below.drew HB.out)
    clear HB
    have HB := HBn
    clear HBn
    go_region_held3 (fun w' => w'.cell? ⟨w.heap.size, 0, none⟩ = some u1 ∧ w'.cell? ⟨w.heap.size, 1, none⟩ = some x1 ∧ w'.cell? ⟨w.heap.size + 1, 0, none⟩ = some u2 ∧ w'.cell? ⟨w.heap.size + 1, 1, none⟩ = some x2)
      (first | (refine ⟨?_, ?_, ?_, ?_⟩ <;> first | assumption | exact far2 c1 (by omega) | exact far2 c2 (by omega) | exact far2 c3 (by omega) | exact far2 c4 (by omega) | go_keep))
      (first
        | (go_at_call 24; refine (K1.out _ HB.out).mono ?_; rintro e w3 ⟨v2, rfl, hO2, h'⟩; clear K1
           have HO2 := hid (owns_le hO2 HB.out.size)
           clear hO2
           have HBn := hid (HB.out.trans (h'.mono HB.out.size))
           clear HB h' c1 c2 c3 c4
           have HB := HBn
           clear HBn
           obtain ⟨c1, c2⟩ := HA1.out.below HB.out
           obtain ⟨c3, c4⟩ := HA2.out.below HB.out
          )
        | (go_at_call 40; refine (K2.out _ HB.out).mono ?_; rintro e w4 ⟨v3, rfl, hO3, h'⟩; clear K2
           have HO3 := hid (owns_le hO3 HB.out.size)
           have HO2n := hid (HO2.out.below h')
           clear hO3 HO2
           have HO2 := HO2n
           clear HO2n
           have HBn := hid (HB.out.trans (h'.mono HB.out.size))
           clear HB h' c1 c2 c3 c4
           have HB := HBn
           clear HBn
           obtain ⟨c1, c2⟩ := HA1.out.below HB.out
           obtain ⟨c3, c4⟩ := HA2.out.below HB.out
          )
        | (go_at_call 39; refine (both_full v2 v3 PP QQ _ HO2.out.sees HO3.out.sees HF.out).mono ?_; rintro e w5 ⟨rfl, h'⟩
           have HO2n := hid (HO2.out.below h')
           have HO3n := hid (HO3.out.below h')
           clear HO2 HO3
           have HO2 := HO2n
           have HO3 := HO3n
           clear HO2n HO3n
           have HBn := hid (HB.out.trans (h'.mono HB.out.size))
           clear HB h' c1 c2 c3 c4
           have HB := HBn
           clear HBn
           obtain ⟨c1, c2⟩ := HA1.out.below HB.out
           obtain ⟨c3, c4⟩ := HA2.out.below HB.out
           have hRR := HR.out.below HB.out HR.out.lt
           obtain ⟨r1, r2, r3, r4⟩ := hRR.cells
           obtain ⟨ao2, n2, cp2, hv2⟩ := owns_sl HO2.out
           obtain ⟨ao3, n3, cp3, hv3⟩ := owns_sl HO3.out
           subst hv2
           subst hv3
          ))
    obtain ⟨wz, hwz⟩ : ∃ x, x = ((w5.setCell ⟨w.heap.size + 1 + 1, 0, none⟩ (.slice none 0 0)).setCell ⟨w.heap.size + 1 + 1, 1, none⟩ (.slice none 0 0)) := ⟨_, rfl⟩
    have hl : LabAt wz (w.heap.size + 1 + 1) (.slice none 0 0) (.slice none 0 0) := by rw [hwz]; exact hRR.store0.store1
    have hb : Below w.heap.size w wz := by rw [hwz]; exact ((HZ.out.trans (HB.out.mono HZ.out.size)).setCell (by simp; omega) _).setCell (by simp; omega) _
    have o2 : Owns wz w.heap.size (.slice none 0 0) [] := owns_nil _ _
    have o3 : Owns wz w.heap.size (.slice none 0 0) [] := owns_nil _ _
    rw [← hwz]
    obtain ⟨y1, y2, _, _⟩ := hl.cells
    have HX := hid (And.intro o2 (And.intro o3 hb))
    clear hwz hl hb o2 o3 HO2 HO3 hRR r1 r2 r3 r4 c1 c2 c3 c4 HB
    go_wp2
    refine bodyPost_ret (v := .tuple #[.agg #[.slice none 0 0, .slice none 0 0], .int .i64 2]) (by simp [results, Try.results19, go_sem, y1, y2]) rfl ?_
    exact ⟨_, _, rfl, HX.out.1, HX.out.2.1, HX.out.2.2⟩

set_option maxRecDepth 20000 in
set_option maxHeartbeats 4000000 in
theorem rJoin_not (a b : Value) (s i t j : List Int) (w : World) (hA : SeesL w a s i) (hB : SeesL w b t j) (hm : (mayB s i && mayB t j) = false) :
    Calls Try.prog 19 #[a, b] w fun e w' => e = .returned (.tuple #[.agg #[.slice none 0 0, .slice none 0 0], .int .i64 20]) ∧ Below w.heap.size w w' := by
  obtain ⟨u1, x1, rfl, a1, a2, a3, a4⟩ := hA
  obtain ⟨u2, x2, rfl, b1, b2, b3, b4⟩ := hB
  obtain ⟨W, hW⟩ : ∃ W, W = ((w.alloc (.cells #[u1, x1] 24)).alloc (.cells #[u2, x2] 24)).alloc (.cells #[.slice none 0 0, .slice none 0 0] 24) := ⟨_, rfl⟩
  have hZ : Below w.heap.size w W := by rw [hW]; exact ((below_alloc w _).alloc (by simp) _).alloc (by simp; omega) _
  have HA1 := hid (show Boxed W w.heap.size u1 x1 by rw [hW]; exact ((Boxed.new _ _ _).box _).box _)
  have HA2 := hid (show Boxed W (w.heap.size + 1) u2 x2 by rw [hW]; exact (Boxed.new2 _ _ _ _).box _)
  have HR := hid (show LabAt W (w.heap.size + 1 + 1) (.slice none 0 0) (.slice none 0 0) by rw [hW]; exact LabAt.new3 _ _ _ _ _)
  have sA : SeesL W (.agg #[u1, x1]) s i := SeesL.below ⟨u1, x1, rfl, a1, a2, a3, a4⟩ hZ
  have sB : SeesL W (.agg #[u2, x2]) t j := SeesL.below ⟨u2, x2, rfl, b1, b2, b3, b4⟩ hZ
  have M1 := hid (fun w1 (h : Below W.heap.size W w1) => may_any _ s i w1 (sA.below h))
  have M2 := hid (fun w1 (h : Below W.heap.size W w1) => may_any _ t j w1 (sB.below h))
  have T1 := hid (a1.below hZ)
  have T2 := hid (a2.below hZ)
  have T3 := hid (b1.below hZ)
  have T4 := hid (b2.below hZ)
  have hszW : W.heap.size = w.heap.size + 3 := by rw [hW]; simp
  have HZ := hid hZ
  have HW := hid hW
  have HB := hid (Below.refl W.heap.size W)
  clear a1 a2 b1 b2 sA sB hZ hW
  obtain ⟨c1, c2⟩ := HA1.out
  obtain ⟨c3, c4⟩ := HA2.out
  by_cases hm1 : mayB s i = true
  · rw [hm1, Bool.true_and] at hm
    rw [hm1] at M1
    rw [hm] at M2
    clear hm hm1
    go_enter Try.func19, Try.ntmps19
    go_wp2_with fail
    rw [← HW.out]
    clear HW
    refine (M1.out _ HB.out).mono ?_
    rintro e w1 ⟨rfl, h'⟩
    clear M1
    have HBn := hid (HB.out.trans (h'.mono HB.out.size))
    clear HB h' c1 c2 c3 c4
    have HB := HBn
    clear HBn
    obtain ⟨c1, c2⟩ := HA1.out.below HB.out
    obtain ⟨c3, c4⟩ := HA2.out.below HB.out
    go_wp2_with fail
    refine (M2.out _ HB.out).mono ?_
    rintro e w2 ⟨rfl, h'⟩
    clear M2
    have HBn := hid (HB.out.trans (h'.mono HB.out.size))
    clear HB h' c1 c2 c3 c4
    have HB := HBn
    clear HBn
    obtain ⟨c1, c2⟩ := HA1.out.below HB.out
    obtain ⟨c3, c4⟩ := HA2.out.below HB.out
    have hRR := HR.out.below HB.out HR.out.lt
    obtain ⟨y1, y2, y3, y4⟩ := hRR.cells
    obtain ⟨z1, z2, _, _⟩ := (LabAt.store1 (v' := .slice none 0 0) (LabAt.store0 (u' := .slice none 0 0) hRR)).cells
    have HX := hid (((HZ.out.trans (HB.out.mono HZ.out.size)).setCell (p := ⟨w.heap.size + 1 + 1, 0, none⟩) (by simp; omega) (.slice none 0 0)).setCell (p := ⟨w.heap.size + 1 + 1, 1, none⟩) (by simp; omega) (.slice none 0 0))
    clear hRR c1 c2 c3 c4 HB
    go_wp2
    refine bodyPost_ret (v := .tuple #[.agg #[.slice none 0 0, .slice none 0 0], .int .i64 20]) (by simp [results, Try.results19, go_sem, z1, z2]) rfl ?_
    exact ⟨rfl, HX.out⟩
  · rw [Bool.not_eq_true] at hm1
    rw [hm1] at M1
    clear hm hm1 M2
    go_enter Try.func19, Try.ntmps19
    go_wp2_with fail
    rw [← HW.out]
    clear HW
    refine (M1.out _ HB.out).mono ?_
    rintro e w1 ⟨rfl, h'⟩
    clear M1
    have HBn := hid (HB.out.trans (h'.mono HB.out.size))
    clear HB h' c1 c2 c3 c4
    have HB := HBn
    clear HBn
    obtain ⟨c1, c2⟩ := HA1.out.below HB.out
    obtain ⟨c3, c4⟩ := HA2.out.below HB.out
    have hRR := HR.out.below HB.out HR.out.lt
    obtain ⟨y1, y2, y3, y4⟩ := hRR.cells
    obtain ⟨z1, z2, _, _⟩ := (LabAt.store1 (v' := .slice none 0 0) (LabAt.store0 (u' := .slice none 0 0) hRR)).cells
    have HX := hid (((HZ.out.trans (HB.out.mono HZ.out.size)).setCell (p := ⟨w.heap.size + 1 + 1, 0, none⟩) (by simp; omega) (.slice none 0 0)).setCell (p := ⟨w.heap.size + 1 + 1, 1, none⟩) (by simp; omega) (.slice none 0 0))
    clear hRR c1 c2 c3 c4 HB
    go_wp2
    refine bodyPost_ret (v := .tuple #[.agg #[.slice none 0 0, .slice none 0 0], .int .i64 20]) (by simp [results, Try.results19, go_sem, z1, z2]) rfl ?_
    exact ⟨rfl, HX.out⟩

theorem rJoin_any (a b : Value) (s i t j : List Int) (w : World) (hA : SeesL w a s i) (hB : SeesL w b t j) :
    Calls Try.prog 19 #[a, b] w fun e w' => ∃ v1 v2, e = .returned (.tuple #[.agg #[v1, v2], .int .i64 (mixE (mayB s i && mayB t j) (sd (s ++ t)) (meetL i j))]) ∧
      Owns w' w.heap.size v1 (mixL (mayB s i && mayB t j) (sd (s ++ t)) (meetL i j) (sd (s ++ t))) ∧ Owns w' w.heap.size v2 (mixL (mayB s i && mayB t j) (sd (s ++ t)) (meetL i j) (meetL i j)) ∧ Below w.heap.size w w' := by
  cases hm : (mayB s i && mayB t j) with
  | true => exact rJoin_may a b s i t j w hA hB hm
  | false =>
    refine (rJoin_not a b s i t j w hA hB hm).mono ?_
    rintro e w' ⟨rfl, hb⟩
    exact ⟨.slice none 0 0, .slice none 0 0, by simp [mixE], by simpa [mixL] using owns_nil w' w.heap.size, by simpa [mixL] using owns_nil w' w.heap.size, hb⟩

set_option maxRecDepth 20000 in
set_option maxHeartbeats 4000000 in
theorem rMeet_may (a b : Value) (s i t j : List Int) (w : World) (hA : SeesL w a s i) (hB : SeesL w b t j) (hm : (mayB s i && mayB t j) = true) :
    Calls Try.prog 21 #[a, b] w fun e w' => ∃ v1 v2, e = .returned (.tuple #[.agg #[v1, v2], .int .i64 (mixE true (meetL s t) (sd (i ++ j)))]) ∧
      Owns w' w.heap.size v1 (mixL true (meetL s t) (sd (i ++ j)) (meetL s t)) ∧ Owns w' w.heap.size v2 (mixL true (meetL s t) (sd (i ++ j)) (sd (i ++ j))) ∧ Below w.heap.size w w' := by
  have hlen := may2 hm
  rw [Bool.and_eq_true] at hm
  obtain ⟨u1, x1, rfl, a1, a2, a3, a4⟩ := hA
  obtain ⟨u2, x2, rfl, b1, b2, b3, b4⟩ := hB
  obtain ⟨W, hW⟩ : ∃ W, W = ((w.alloc (.cells #[u1, x1] 24)).alloc (.cells #[u2, x2] 24)).alloc (.cells #[.slice none 0 0, .slice none 0 0] 24) := ⟨_, rfl⟩
  have hZ : Below w.heap.size w W := by rw [hW]; exact ((below_alloc w _).alloc (by simp) _).alloc (by simp; omega) _
  have HA1 := hid (show Boxed W w.heap.size u1 x1 by rw [hW]; exact ((Boxed.new _ _ _).box _).box _)
  have HA2 := hid (show Boxed W (w.heap.size + 1) u2 x2 by rw [hW]; exact (Boxed.new2 _ _ _ _).box _)
  have HR := hid (show LabAt W (w.heap.size + 1 + 1) (.slice none 0 0) (.slice none 0 0) by rw [hW]; exact LabAt.new3 _ _ _ _ _)
  have sA : SeesL W (.agg #[u1, x1]) s i := SeesL.below ⟨u1, x1, rfl, a1, a2, a3, a4⟩ hZ
  have sB : SeesL W (.agg #[u2, x2]) t j := SeesL.below ⟨u2, x2, rfl, b1, b2, b3, b4⟩ hZ
  have M1 := hid (fun w1 (h : Below W.heap.size W w1) => may_any _ s i w1 (sA.below h))
  have M2 := hid (fun w1 (h : Below W.heap.size W w1) => may_any _ t j w1 (sB.below h))
  have T1 := hid (a1.below hZ)
  have T2 := hid (a2.below hZ)
  have T3 := hid (b1.below hZ)
  have T4 := hid (b2.below hZ)
  have hszW : W.heap.size = w.heap.size + 3 := by rw [hW]; simp
  have HZ := hid hZ
  have HW := hid hW
  have HB := hid (Below.refl W.heap.size W)
  clear a1 a2 b1 b2 sA sB hZ hW
  obtain ⟨c1, c2⟩ := HA1.out
  obtain ⟨c3, c4⟩ := HA2.out
  rw [hm.1] at M1
  rw [hm.2] at M2
  clear hm
  have K1 := hid (fun w1 (h : Below W.heap.size W w1) => refMeet_any u1 u2 s t w1 (T1.out.below h) (T3.out.below h) (by omega))
  have K2 := hid (fun w1 (h : Below W.heap.size W w1) => refJoin_any x1 x2 i j w1 (T2.out.below h) (T4.out.below h) (by omega))
  obtain ⟨PP, hPP⟩ : ∃ X, X = (meetL s t) := ⟨_, rfl⟩
  obtain ⟨QQ, hQQ⟩ : ∃ X, X = (sd (i ++ j)) := ⟨_, rfl⟩
  rw [← hPP] at K1 ⊢
  rw [← hQQ] at K2 ⊢
  clear hPP hQQ T1 T2 T3 T4 hlen
  by_cases hfit : PP.length ≤ 64 ∧ QQ.length ≤ 64
  · rw [show mixE true PP QQ = 0 by simp [mixE, hfit], show mixL true PP QQ PP = PP by simp [mixL, hfit], show mixL true PP QQ QQ = QQ by simp [mixL, hfit]]
    have HF := hid hfit
    clear hfit
    go_enter Try.func21, Try.ntmps21
    go_wp2_with fail
    rw [← HW.out]
    clear HW
    refine (M1.out _ HB.out).mono ?_
    rintro e w1 ⟨rfl, h'⟩
    clear M1
    have HBn := hid (HB.out.trans (h'.mono HB.out.size))
    clear HB h' c1 c2 c3 c4
    have HB := HBn
    clear HBn
    obtain ⟨c1, c2⟩ := HA1.out.below HB.out
    obtain ⟨c3, c4⟩ := HA2.out.below HB.out
    go_wp2_with fail
    refine (M2.out _ HB.out).mono ?_
    rintro e w2 ⟨rfl, h'⟩
    clear M2
    have HBn := hid (HB.out.trans (h'.mono HB.out.size))
    clear HB h' c1 c2 c3 c4
    have HB := HBn
    clear HBn
    obtain ⟨c1, c2⟩ := HA1.out.below HB.out
    obtain ⟨c3, c4⟩ := HA2.out.below HB.out
    go_wp2_with fail
    have HBn := hid (Below.drew HB.out)
    clear HB
    have HB := HBn
    clear HBn
    go_region_held3 (fun w' => w'.cell? ⟨w.heap.size, 0, none⟩ = some u1 ∧ w'.cell? ⟨w.heap.size, 1, none⟩ = some x1 ∧ w'.cell? ⟨w.heap.size + 1, 0, none⟩ = some u2 ∧ w'.cell? ⟨w.heap.size + 1, 1, none⟩ = some x2)
      (first | (refine ⟨?_, ?_, ?_, ?_⟩ <;> first | assumption | exact far2 c1 (by omega) | exact far2 c2 (by omega) | exact far2 c3 (by omega) | exact far2 c4 (by omega) | go_keep))
      (first
        | (go_at_call 40; refine (K1.out _ HB.out).mono ?_; rintro e w3 ⟨v2, rfl, hO2, h'⟩; clear K1
           have HO2 := hid (owns_le hO2 HB.out.size)
           clear hO2
           have HBn := hid (HB.out.trans (h'.mono HB.out.size))
           clear HB h' c1 c2 c3 c4
           have HB := HBn
           clear HBn
           obtain ⟨c1, c2⟩ := HA1.out.below HB.out
           obtain ⟨c3, c4⟩ := HA2.out.below HB.out
          )
        | (go_at_call 24; refine (K2.out _ HB.out).mono ?_; rintro e w4 ⟨v3, rfl, hO3, h'⟩; clear K2
           have HO3 := hid (owns_le hO3 HB.out.size)
           have HO2n := hid (HO2.out.below h')
           clear hO3 HO2
           have HO2 := HO2n
           clear HO2n
           have HBn := hid (HB.out.trans (h'.mono HB.out.size))
           clear HB h' c1 c2 c3 c4
           have HB := HBn
           clear HBn
           obtain ⟨c1, c2⟩ := HA1.out.below HB.out
           obtain ⟨c3, c4⟩ := HA2.out.below HB.out
          )
        | (go_at_call 39; refine (both_ok v2 v3 PP QQ _ HO2.out.sees HO3.out.sees HF.out.1 HF.out.2).mono ?_; rintro e w5 ⟨rfl, h'⟩
           have HO2n := hid (HO2.out.below h')
           have HO3n := hid (HO3.out.below h')
           clear HO2 HO3
           have HO2 := HO2n
           have HO3 := HO3n
           clear HO2n HO3n
           have HBn := hid (HB.out.trans (h'.mono HB.out.size))
           clear HB h' c1 c2 c3 c4
           have HB := HBn
           clear HBn
           obtain ⟨c1, c2⟩ := HA1.out.below HB.out
           obtain ⟨c3, c4⟩ := HA2.out.below HB.out
           have hRR := HR.out.below HB.out HR.out.lt
           obtain ⟨r1, r2, r3, r4⟩ := hRR.cells
           obtain ⟨ao2, n2, cp2, hv2⟩ := owns_sl HO2.out
           obtain ⟨ao3, n3, cp3, hv3⟩ := owns_sl HO3.out
           subst hv2
           subst hv3
          ))
    obtain ⟨wz, hwz⟩ : ∃ x, x = ((w5.setCell ⟨w.heap.size + 1 + 1, 0, none⟩ (.slice ao2 n2 cp2)).setCell ⟨w.heap.size + 1 + 1, 1, none⟩ (.slice ao3 n3 cp3)) := ⟨_, rfl⟩
    have hl : LabAt wz (w.heap.size + 1 + 1) (.slice ao2 n2 cp2) (.slice ao3 n3 cp3) := by rw [hwz]; exact hRR.store0.store1
    have hb : Below w.heap.size w wz := by rw [hwz]; exact ((HZ.out.trans (HB.out.mono HZ.out.size)).setCell (by simp; omega) _).setCell (by simp; omega) _
    have o2 : Owns wz w.heap.size (.slice ao2 n2 cp2) PP := by rw [hwz]; exact owns_le (owns_far (owns_far HO2.out (owns_lab_ne HO2.out hRR)) (owns_lab_ne HO2.out hRR)) (by omega)
    have o3 : Owns wz w.heap.size (.slice ao3 n3 cp3) QQ := by rw [hwz]; exact owns_le (owns_far (owns_far HO3.out (owns_lab_ne HO3.out hRR)) (owns_lab_ne HO3.out hRR)) (by omega)
    rw [← hwz]
    obtain ⟨y1, y2, _, _⟩ := hl.cells
    have HX := hid (And.intro o2 (And.intro o3 hb))
    clear hwz hl hb o2 o3 HO2 HO3 hRR r1 r2 r3 r4 c1 c2 c3 c4 HB
    go_wp2
    refine bodyPost_ret (v := .tuple #[.agg #[.slice ao2 n2 cp2, .slice ao3 n3 cp3], .int .i64 0]) (by simp [results, Try.results21, go_sem, y1, y2]) rfl ?_
    exact ⟨_, _, rfl, HX.out.1, HX.out.2.1, HX.out.2.2⟩
  · rw [show mixE true PP QQ = 2 by simp [mixE, hfit], show mixL true PP QQ PP = [] by simp [mixL, hfit], show mixL true PP QQ QQ = [] by simp [mixL, hfit]]
    have HF := hid (show 64 < PP.length ∨ 64 < QQ.length by omega)
    clear hfit
    go_enter Try.func21, Try.ntmps21
    go_wp2_with fail
    rw [← HW.out]
    clear HW
    refine (M1.out _ HB.out).mono ?_
    rintro e w1 ⟨rfl, h'⟩
    clear M1
    have HBn := hid (HB.out.trans (h'.mono HB.out.size))
    clear HB h' c1 c2 c3 c4
    have HB := HBn
    clear HBn
    obtain ⟨c1, c2⟩ := HA1.out.below HB.out
    obtain ⟨c3, c4⟩ := HA2.out.below HB.out
    go_wp2_with fail
    refine (M2.out _ HB.out).mono ?_
    rintro e w2 ⟨rfl, h'⟩
    clear M2
    have HBn := hid (HB.out.trans (h'.mono HB.out.size))
    clear HB h' c1 c2 c3 c4
    have HB := HBn
    clear HBn
    obtain ⟨c1, c2⟩ := HA1.out.below HB.out
    obtain ⟨c3, c4⟩ := HA2.out.below HB.out
    go_wp2_with fail
    have HBn := hid (Below.drew HB.out)
    clear HB
    have HB := HBn
    clear HBn
    go_region_held3 (fun w' => w'.cell? ⟨w.heap.size, 0, none⟩ = some u1 ∧ w'.cell? ⟨w.heap.size, 1, none⟩ = some x1 ∧ w'.cell? ⟨w.heap.size + 1, 0, none⟩ = some u2 ∧ w'.cell? ⟨w.heap.size + 1, 1, none⟩ = some x2)
      (first | (refine ⟨?_, ?_, ?_, ?_⟩ <;> first | assumption | exact far2 c1 (by omega) | exact far2 c2 (by omega) | exact far2 c3 (by omega) | exact far2 c4 (by omega) | go_keep))
      (first
        | (go_at_call 40; refine (K1.out _ HB.out).mono ?_; rintro e w3 ⟨v2, rfl, hO2, h'⟩; clear K1
           have HO2 := hid (owns_le hO2 HB.out.size)
           clear hO2
           have HBn := hid (HB.out.trans (h'.mono HB.out.size))
           clear HB h' c1 c2 c3 c4
           have HB := HBn
           clear HBn
           obtain ⟨c1, c2⟩ := HA1.out.below HB.out
           obtain ⟨c3, c4⟩ := HA2.out.below HB.out
          )
        | (go_at_call 24; refine (K2.out _ HB.out).mono ?_; rintro e w4 ⟨v3, rfl, hO3, h'⟩; clear K2
           have HO3 := hid (owns_le hO3 HB.out.size)
           have HO2n := hid (HO2.out.below h')
           clear hO3 HO2
           have HO2 := HO2n
           clear HO2n
           have HBn := hid (HB.out.trans (h'.mono HB.out.size))
           clear HB h' c1 c2 c3 c4
           have HB := HBn
           clear HBn
           obtain ⟨c1, c2⟩ := HA1.out.below HB.out
           obtain ⟨c3, c4⟩ := HA2.out.below HB.out
          )
        | (go_at_call 39; refine (both_full v2 v3 PP QQ _ HO2.out.sees HO3.out.sees HF.out).mono ?_; rintro e w5 ⟨rfl, h'⟩
           have HO2n := hid (HO2.out.below h')
           have HO3n := hid (HO3.out.below h')
           clear HO2 HO3
           have HO2 := HO2n
           have HO3 := HO3n
           clear HO2n HO3n
           have HBn := hid (HB.out.trans (h'.mono HB.out.size))
           clear HB h' c1 c2 c3 c4
           have HB := HBn
           clear HBn
           obtain ⟨c1, c2⟩ := HA1.out.below HB.out
           obtain ⟨c3, c4⟩ := HA2.out.below HB.out
           have hRR := HR.out.below HB.out HR.out.lt
           obtain ⟨r1, r2, r3, r4⟩ := hRR.cells
           obtain ⟨ao2, n2, cp2, hv2⟩ := owns_sl HO2.out
           obtain ⟨ao3, n3, cp3, hv3⟩ := owns_sl HO3.out
           subst hv2
           subst hv3
          ))
    obtain ⟨wz, hwz⟩ : ∃ x, x = ((w5.setCell ⟨w.heap.size + 1 + 1, 0, none⟩ (.slice none 0 0)).setCell ⟨w.heap.size + 1 + 1, 1, none⟩ (.slice none 0 0)) := ⟨_, rfl⟩
    have hl : LabAt wz (w.heap.size + 1 + 1) (.slice none 0 0) (.slice none 0 0) := by rw [hwz]; exact hRR.store0.store1
    have hb : Below w.heap.size w wz := by rw [hwz]; exact ((HZ.out.trans (HB.out.mono HZ.out.size)).setCell (by simp; omega) _).setCell (by simp; omega) _
    have o2 : Owns wz w.heap.size (.slice none 0 0) [] := owns_nil _ _
    have o3 : Owns wz w.heap.size (.slice none 0 0) [] := owns_nil _ _
    rw [← hwz]
    obtain ⟨y1, y2, _, _⟩ := hl.cells
    have HX := hid (And.intro o2 (And.intro o3 hb))
    clear hwz hl hb o2 o3 HO2 HO3 hRR r1 r2 r3 r4 c1 c2 c3 c4 HB
    go_wp2
    refine bodyPost_ret (v := .tuple #[.agg #[.slice none 0 0, .slice none 0 0], .int .i64 2]) (by simp [results, Try.results21, go_sem, y1, y2]) rfl ?_
    exact ⟨_, _, rfl, HX.out.1, HX.out.2.1, HX.out.2.2⟩

set_option maxRecDepth 20000 in
set_option maxHeartbeats 4000000 in
theorem rMeet_not (a b : Value) (s i t j : List Int) (w : World) (hA : SeesL w a s i) (hB : SeesL w b t j) (hm : (mayB s i && mayB t j) = false) :
    Calls Try.prog 21 #[a, b] w fun e w' => e = .returned (.tuple #[.agg #[.slice none 0 0, .slice none 0 0], .int .i64 20]) ∧ Below w.heap.size w w' := by
  obtain ⟨u1, x1, rfl, a1, a2, a3, a4⟩ := hA
  obtain ⟨u2, x2, rfl, b1, b2, b3, b4⟩ := hB
  obtain ⟨W, hW⟩ : ∃ W, W = ((w.alloc (.cells #[u1, x1] 24)).alloc (.cells #[u2, x2] 24)).alloc (.cells #[.slice none 0 0, .slice none 0 0] 24) := ⟨_, rfl⟩
  have hZ : Below w.heap.size w W := by rw [hW]; exact ((below_alloc w _).alloc (by simp) _).alloc (by simp; omega) _
  have HA1 := hid (show Boxed W w.heap.size u1 x1 by rw [hW]; exact ((Boxed.new _ _ _).box _).box _)
  have HA2 := hid (show Boxed W (w.heap.size + 1) u2 x2 by rw [hW]; exact (Boxed.new2 _ _ _ _).box _)
  have HR := hid (show LabAt W (w.heap.size + 1 + 1) (.slice none 0 0) (.slice none 0 0) by rw [hW]; exact LabAt.new3 _ _ _ _ _)
  have sA : SeesL W (.agg #[u1, x1]) s i := SeesL.below ⟨u1, x1, rfl, a1, a2, a3, a4⟩ hZ
  have sB : SeesL W (.agg #[u2, x2]) t j := SeesL.below ⟨u2, x2, rfl, b1, b2, b3, b4⟩ hZ
  have M1 := hid (fun w1 (h : Below W.heap.size W w1) => may_any _ s i w1 (sA.below h))
  have M2 := hid (fun w1 (h : Below W.heap.size W w1) => may_any _ t j w1 (sB.below h))
  have T1 := hid (a1.below hZ)
  have T2 := hid (a2.below hZ)
  have T3 := hid (b1.below hZ)
  have T4 := hid (b2.below hZ)
  have hszW : W.heap.size = w.heap.size + 3 := by rw [hW]; simp
  have HZ := hid hZ
  have HW := hid hW
  have HB := hid (Below.refl W.heap.size W)
  clear a1 a2 b1 b2 sA sB hZ hW
  obtain ⟨c1, c2⟩ := HA1.out
  obtain ⟨c3, c4⟩ := HA2.out
  by_cases hm1 : mayB s i = true
  · rw [hm1, Bool.true_and] at hm
    rw [hm1] at M1
    rw [hm] at M2
    clear hm hm1
    go_enter Try.func21, Try.ntmps21
    go_wp2_with fail
    rw [← HW.out]
    clear HW
    refine (M1.out _ HB.out).mono ?_
    rintro e w1 ⟨rfl, h'⟩
    clear M1
    have HBn := hid (HB.out.trans (h'.mono HB.out.size))
    clear HB h' c1 c2 c3 c4
    have HB := HBn
    clear HBn
    obtain ⟨c1, c2⟩ := HA1.out.below HB.out
    obtain ⟨c3, c4⟩ := HA2.out.below HB.out
    go_wp2_with fail
    refine (M2.out _ HB.out).mono ?_
    rintro e w2 ⟨rfl, h'⟩
    clear M2
    have HBn := hid (HB.out.trans (h'.mono HB.out.size))
    clear HB h' c1 c2 c3 c4
    have HB := HBn
    clear HBn
    obtain ⟨c1, c2⟩ := HA1.out.below HB.out
    obtain ⟨c3, c4⟩ := HA2.out.below HB.out
    have hRR := HR.out.below HB.out HR.out.lt
    obtain ⟨y1, y2, y3, y4⟩ := hRR.cells
    obtain ⟨z1, z2, _, _⟩ := (LabAt.store1 (v' := .slice none 0 0) (LabAt.store0 (u' := .slice none 0 0) hRR)).cells
    have HX := hid (((HZ.out.trans (HB.out.mono HZ.out.size)).setCell (p := ⟨w.heap.size + 1 + 1, 0, none⟩) (by simp; omega) (.slice none 0 0)).setCell (p := ⟨w.heap.size + 1 + 1, 1, none⟩) (by simp; omega) (.slice none 0 0))
    clear hRR c1 c2 c3 c4 HB
    go_wp2
    refine bodyPost_ret (v := .tuple #[.agg #[.slice none 0 0, .slice none 0 0], .int .i64 20]) (by simp [results, Try.results21, go_sem, z1, z2]) rfl ?_
    exact ⟨rfl, HX.out⟩
  · rw [Bool.not_eq_true] at hm1
    rw [hm1] at M1
    clear hm hm1 M2
    go_enter Try.func21, Try.ntmps21
    go_wp2_with fail
    rw [← HW.out]
    clear HW
    refine (M1.out _ HB.out).mono ?_
    rintro e w1 ⟨rfl, h'⟩
    clear M1
    have HBn := hid (HB.out.trans (h'.mono HB.out.size))
    clear HB h' c1 c2 c3 c4
    have HB := HBn
    clear HBn
    obtain ⟨c1, c2⟩ := HA1.out.below HB.out
    obtain ⟨c3, c4⟩ := HA2.out.below HB.out
    have hRR := HR.out.below HB.out HR.out.lt
    obtain ⟨y1, y2, y3, y4⟩ := hRR.cells
    obtain ⟨z1, z2, _, _⟩ := (LabAt.store1 (v' := .slice none 0 0) (LabAt.store0 (u' := .slice none 0 0) hRR)).cells
    have HX := hid (((HZ.out.trans (HB.out.mono HZ.out.size)).setCell (p := ⟨w.heap.size + 1 + 1, 0, none⟩) (by simp; omega) (.slice none 0 0)).setCell (p := ⟨w.heap.size + 1 + 1, 1, none⟩) (by simp; omega) (.slice none 0 0))
    clear hRR c1 c2 c3 c4 HB
    go_wp2
    refine bodyPost_ret (v := .tuple #[.agg #[.slice none 0 0, .slice none 0 0], .int .i64 20]) (by simp [results, Try.results21, go_sem, z1, z2]) rfl ?_
    exact ⟨rfl, HX.out⟩

theorem rMeet_any (a b : Value) (s i t j : List Int) (w : World) (hA : SeesL w a s i) (hB : SeesL w b t j) :
    Calls Try.prog 21 #[a, b] w fun e w' => ∃ v1 v2, e = .returned (.tuple #[.agg #[v1, v2], .int .i64 (mixE (mayB s i && mayB t j) (meetL s t) (sd (i ++ j)))]) ∧
      Owns w' w.heap.size v1 (mixL (mayB s i && mayB t j) (meetL s t) (sd (i ++ j)) (meetL s t)) ∧ Owns w' w.heap.size v2 (mixL (mayB s i && mayB t j) (meetL s t) (sd (i ++ j)) (sd (i ++ j))) ∧ Below w.heap.size w w' := by
  cases hm : (mayB s i && mayB t j) with
  | true => exact rMeet_may a b s i t j w hA hB hm
  | false =>
    refine (rMeet_not a b s i t j w hA hB hm).mono ?_
    rintro e w' ⟨rfl, hb⟩
    exact ⟨.slice none 0 0, .slice none 0 0, by simp [mixE], by simpa [mixL] using owns_nil w' w.heap.size, by simpa [mixL] using owns_nil w' w.heap.size, hb⟩

end Go.Proofs.Ytjgohajlabdloaa
