/-
  Parse: the code's.
-/
import Derived.Test.YtllhibdjopfcnaaGreatDoorHVals
namespace Go.Proofs.YtllhibdjopfcnaaGreatDoor
open Go.RowKit
set_option linter.unusedVariables false

theorem lines_few {n : Nat} : ∀ (f k : Nat) (oh : Option HeadL) (l : List UInt8), (∀ h, oh = some h → h.2.2.2.length ≤ 32) → (lines n f oh k l).1.2.2.2.length ≤ 32
  | 0, k, oh, l, h => by simp [lines, hz]
  | f + 1, k, oh, l, h => by
    by_cases ho : outL (cutE l).1 (cutE l).2.2 = 0
    · rw [lines_at ho]
      cases oh with
      | none =>
        simp only
        split
        · simp [hz]
        · exact lines_few f _ _ _ (fun h' e => by cases e; rw [reqL_fields]; simp)
      | some hd =>
        have h32 := h hd rfl
        simp only
        split
        · split
          · exact h32
          · simp [hz]
        · split
          · simp [hz]
          · rename_i h1
            split
            · simp [hz]
            · exact lines_few f _ _ _ (fun h' e => by cases e; simp; omega)
    · rw [lines_bad ho]; simp [hz]

set_option maxRecDepth 20000 in
set_option maxHeartbeats 4000000 in
theorem parse_any (L : List UInt8) (w : World) (hM : ML w) (hs : L.length ≤ 9223372036854775807) :
    Calls Tryz.prog 36 #[.string ⟨L.toArray⟩] w fun e w' => ∃ v, e = .returned (.tuple #[.agg #[strV (parseL L).1.1, strV (parseL L).1.2.1, .int .i64 (parseL L).1.2.2.1, v], .int .i64 (parseL L).2.1, .int .i64 ((parseL L).2.2 : Int)]) ∧ OwnsP w' w.heap.size v (parseL L).1.2.2.2 ∧ Below w.heap.size w w' := by
  obtain ⟨T, hT⟩ : ∃ T, T = parseL L := ⟨_, rfl⟩
  rw [← hT]
  unfold parseL at hT
  obtain ⟨s, hse⟩ : ∃ s : ByteArray, s = ⟨L.toArray⟩ := ⟨_, rfl⟩
  have hsz : s.size = L.length := by rw [hse, size_list]
  have hH0 : HeadAt (w.alloc (.cells #[.string ⟨#[]⟩, .string ⟨#[]⟩, .int .i64 0, .slice none 0 0] 34)) w.heap.size (.string ⟨#[]⟩) (.string ⟨#[]⟩) (.int .i64 0) (.slice none 0 0) := HeadAt.new w _ _ _ _
  have hB0 := below_alloc w (.cells #[.string ⟨#[]⟩, .string ⟨#[]⟩, .int .i64 0, .slice none 0 0] 34)
  have hM0 := hM.below hB0 hM.lt
  have hgl := hM.lt
  by_cases hlong : 4096 < L.length
  · have hl' : (4096 : Int) < (s.size : Int) := by omega
    rw [if_pos hlong] at hT
    have HE := hid hT
    rw [← hse]
    have HB := hid hB0
    obtain ⟨y0, y1, y2, y3, _, _, _, _⟩ := hH0.cells
    clear hT hse hsz hM hM0 hH0 hB0
    go_enter Tryz.func36, Tryz.ntmps36
    go_wp2
    refine bodyPost_ret (v := .tuple #[.agg #[.string ⟨#[]⟩, .string ⟨#[]⟩, .int .i64 0, .slice none 0 0], .int .i64 431, .int .i64 0]) (by simp [results, Tryz.results36, go_sem, y0, y1, y2, y3]) rfl ?_
    rw [HE.out]
    exact ⟨_, rfl, OwnsP.nil _ _, HB.out⟩
  have hl' : ¬ (4096 : Int) < (s.size : Int) := by omega
  rw [if_neg hlong] at hT
  have hTL := takeLines_any L w.heap.size _ hH0 hM0 hgl (by omega)
  have hfew := lines_few (n := L.length) (L.length + 1) 0 none L (fun h e => by cases e)
  obtain ⟨R, hR⟩ : ∃ R, R = lines L.length (L.length + 1) none 0 L := ⟨_, rfl⟩
  rw [← hR] at hT hfew
  have HR := hid hR
  have HB0 := hid hB0
  obtain ⟨w0, hw0⟩ : ∃ w0, w0 = w.alloc (.cells #[.string ⟨#[]⟩, .string ⟨#[]⟩, .int .i64 0, .slice none 0 0] 34) := ⟨_, rfl⟩
  have hsz0 : w0.heap.size = w.heap.size + 1 := by rw [hw0]; simp
  rw [← hw0, ← hse] at hTL
  rw [← hw0] at HB0
  rw [← hse]
  have HW0 := hid hw0
  clear hM0 hH0 hB0 hse hsz hR hw0 hlong hM
  by_cases hr0 : R.2.1 = 0
  · rw [if_neg (by simp [hr0])] at hT
    have hr0' : (R.2.1 == 0) = true := by rw [beq_iff_eq]; exact hr0
    cases hho : hostOk R.1 with
    | false =>
      rw [hho, if_neg (by simp)] at hT
      have HE := hid hT
      have HHo := hid hho
      have HR0 := hid hr0
      clear hT hho hr0
      go_enter Tryz.func36, Tryz.ntmps36
      go_wp2_with fail
      rw [← HW0.out]
      refine hTL.mono ?_
      clear hTL
      rintro e w1 ⟨R1, hR1, rfl, hK, a, b, c, v, hh, hok⟩
      rw [← HR.out] at hR1
      subst hR1
      have HB := hid (HB0.out.trans (hK.below (by omega)))
      have HH := hid hh
      have hsz1 := hK.size
      clear hK hh HW0 HB0
      obtain ⟨rfl, rfl, rfl, hown⟩ := hok HR0.out
      have hHF := hostFits_any (strV R1.1.1) (strV R1.1.2.1) v R1.1.2.2.1 R1.1.2.2.2 w1 hown.sees (by omega)
      rw [hostsF_eq, HHo.out] at hHF
      have HOw := hid hown
      obtain ⟨x0, x1, x2, x3, _, _, _, _⟩ := HH.out.cells
      clear hok hown
      go_wp2_with fail
      refine hHF.mono ?_
      clear hHF
      rintro e w2 ⟨rfl, hB2⟩
      have HB := hid (HB.out.trans (hB2.mono HB.out.size))
      have HH := hid (HH.out.below hB2 HH.out.lt)
      have HOw := hid (HOw.out.below hB2)
      clear hB2
      obtain ⟨q0, q1, q2, q3, z0, z1, z2, z3⟩ := HH.out.cells
      have HF0 := hid (HH.out.store0 (x := .string ⟨#[]⟩))
      have HF1 := hid (HF0.out.store1 (x := .string ⟨#[]⟩))
      have HF2 := hid (HF1.out.store2 (x := .int .i64 0))
      have HF := hid (HF2.out.store3 (x := .slice none 0 0))
      have HKF : Hid (Below w.heap.size w ((((w2.setCell ⟨w.heap.size, 0, none⟩ (.string ⟨#[]⟩)).setCell ⟨w.heap.size, 1, none⟩ (.string ⟨#[]⟩)).setCell ⟨w.heap.size, 2, none⟩ (.int .i64 0)).setCell ⟨w.heap.size, 3, none⟩ (.slice none 0 0))) := by
        unfold Hid
        exact (((HB.out.setCell (p := ⟨w.heap.size, 0, none⟩) (by simp) _).setCell (p := ⟨w.heap.size, 1, none⟩) (by simp) _).setCell (p := ⟨w.heap.size, 2, none⟩) (by simp) _).setCell (p := ⟨w.heap.size, 3, none⟩) (by simp) _
      go_wp2
      obtain ⟨y0, y1, y2, y3, _, _, _, _⟩ := HF.out.cells
      refine bodyPost_ret (v := .tuple #[.agg #[.string ⟨#[]⟩, .string ⟨#[]⟩, .int .i64 0, .slice none 0 0], .int .i64 400, .int .i64 0]) (by simp [results, Tryz.results36, go_sem, y0, y1, y2, y3]) rfl ?_
      rw [HE.out]
      exact ⟨_, rfl, OwnsP.nil _ _, HKF.out⟩
    | true =>
      rw [hho, if_pos rfl] at hT
      have HE := hid hT
      have HHo := hid hho
      have HR0 := hid hr0
      clear hT hho hr0
      go_enter Tryz.func36, Tryz.ntmps36
      go_wp2_with fail
      rw [← HW0.out]
      refine hTL.mono ?_
      clear hTL
      rintro e w1 ⟨R1, hR1, rfl, hK, a, b, c, v, hh, hok⟩
      rw [← HR.out] at hR1
      subst hR1
      have HB := hid (HB0.out.trans (hK.below (by omega)))
      have HH := hid hh
      have hsz1 := hK.size
      clear hK hh HW0 HB0
      obtain ⟨rfl, rfl, rfl, hown⟩ := hok HR0.out
      have hHF := hostFits_any (strV R1.1.1) (strV R1.1.2.1) v R1.1.2.2.1 R1.1.2.2.2 w1 hown.sees (by omega)
      rw [hostsF_eq, HHo.out] at hHF
      have HOw := hid hown
      obtain ⟨x0, x1, x2, x3, _, _, _, _⟩ := HH.out.cells
      clear hok hown
      go_wp2_with fail
      refine hHF.mono ?_
      clear hHF
      rintro e w2 ⟨rfl, hB2⟩
      have HB := hid (HB.out.trans (hB2.mono HB.out.size))
      have HH := hid (HH.out.below hB2 HH.out.lt)
      have HOw := hid (HOw.out.below hB2)
      clear hB2
      have HWF : Hid (OwnsP ((((w2.setCell ⟨w.heap.size, 0, none⟩ (strV R1.1.1)).setCell ⟨w.heap.size, 1, none⟩ (strV R1.1.2.1)).setCell ⟨w.heap.size, 2, none⟩ (.int .i64 R1.1.2.2.1)).setCell ⟨w.heap.size, 3, none⟩ v) w.heap.size v R1.1.2.2.2) := by
        unfold Hid
        have hb : w.heap.size < w0.heap.size := by omega
        refine OwnsP.le (base := w0.heap.size) ?_ (by omega)
        exact ownsRow_setCell_below (ownsRow_setCell_below (ownsRow_setCell_below (ownsRow_setCell_below (a := ⟨w.heap.size, 0, none⟩) HOw.out hb _) (a := ⟨w.heap.size, 1, none⟩) hb _) (a := ⟨w.heap.size, 2, none⟩) hb _) (a := ⟨w.heap.size, 3, none⟩) hb _
      obtain ⟨q0, q1, q2, q3, z0, z1, z2, z3⟩ := HH.out.cells
      have HF0 := hid (HH.out.store0 (x := strV R1.1.1))
      have HF1 := hid (HF0.out.store1 (x := strV R1.1.2.1))
      have HF2 := hid (HF1.out.store2 (x := .int .i64 R1.1.2.2.1))
      have HF := hid (HF2.out.store3 (x := v))
      have HKF : Hid (Below w.heap.size w ((((w2.setCell ⟨w.heap.size, 0, none⟩ (strV R1.1.1)).setCell ⟨w.heap.size, 1, none⟩ (strV R1.1.2.1)).setCell ⟨w.heap.size, 2, none⟩ (.int .i64 R1.1.2.2.1)).setCell ⟨w.heap.size, 3, none⟩ (v))) := by
        unfold Hid
        exact (((HB.out.setCell (p := ⟨w.heap.size, 0, none⟩) (by simp) _).setCell (p := ⟨w.heap.size, 1, none⟩) (by simp) _).setCell (p := ⟨w.heap.size, 2, none⟩) (by simp) _).setCell (p := ⟨w.heap.size, 3, none⟩) (by simp) _
      unfold strV at q0 q1
      obtain ⟨ao, cap, hsh⟩ := HOw.out.shape
      subst hsh
      go_wp2
      obtain ⟨y0, y1, y2, y3, _, _, _, _⟩ := HF.out.cells
      unfold strV at y0 y1 y2 y3
      refine bodyPost_ret (v := .tuple #[.agg #[strV R1.1.1, strV R1.1.2.1, .int .i64 R1.1.2.2.1, .slice ao R1.1.2.2.2.length cap], .int .i64 0, .int .i64 0]) (by simp [results, Tryz.results36, go_sem, y0, y1, y2, y3, strV]) rfl ?_
      rw [HE.out]
      exact ⟨_, rfl, HWF.out, HKF.out⟩
  · rw [if_pos hr0] at hT
    have hr0' : (R.2.1 == 0) = false := by rw [beq_eq_false_iff_ne]; exact hr0
    have HE := hid hT
    clear hT hr0
    go_enter Tryz.func36, Tryz.ntmps36
    go_wp2_with fail
    rw [← HW0.out]
    refine hTL.mono ?_
    clear hTL
    rintro e w1 ⟨R1, hR1, rfl, hK, a, b, c, v, hh, hok⟩
    rw [← HR.out] at hR1
    subst hR1
    have HB := hid (HB0.out.trans (hK.below (by omega)))
    have HH := hid hh
    have hsz1 := hK.size
    clear hK hh HW0 HB0
    clear hok
    obtain ⟨q0, q1, q2, q3, z0, z1, z2, z3⟩ := HH.out.cells
    have HF0 := hid (HH.out.store0 (x := .string ⟨#[]⟩))
    have HF1 := hid (HF0.out.store1 (x := .string ⟨#[]⟩))
    have HF2 := hid (HF1.out.store2 (x := .int .i64 0))
    have HF := hid (HF2.out.store3 (x := .slice none 0 0))
    have HKF : Hid (Below w.heap.size w ((((w1.setCell ⟨w.heap.size, 0, none⟩ (.string ⟨#[]⟩)).setCell ⟨w.heap.size, 1, none⟩ (.string ⟨#[]⟩)).setCell ⟨w.heap.size, 2, none⟩ (.int .i64 0)).setCell ⟨w.heap.size, 3, none⟩ (.slice none 0 0))) := by
      unfold Hid
      exact (((HB.out.setCell (p := ⟨w.heap.size, 0, none⟩) (by simp) _).setCell (p := ⟨w.heap.size, 1, none⟩) (by simp) _).setCell (p := ⟨w.heap.size, 2, none⟩) (by simp) _).setCell (p := ⟨w.heap.size, 3, none⟩) (by simp) _
    go_wp2
    obtain ⟨y0, y1, y2, y3, _, _, _, _⟩ := HF.out.cells
    refine bodyPost_ret (v := .tuple #[.agg #[.string ⟨#[]⟩, .string ⟨#[]⟩, .int .i64 0, .slice none 0 0], .int .i64 R1.2.1, .int .i64 (R1.2.2 : Int)]) (by simp [results, Tryz.results36, go_sem, y0, y1, y2, y3]) rfl ?_
    rw [HE.out]
    exact ⟨_, rfl, OwnsP.nil _ _, HKF.out⟩
end Go.Proofs.YtllhibdjopfcnaaGreatDoor
