/-
  Whether heads are the same: the document's; two requests of nothing; a parser that nobody made.
-/
import Derived.Test.YtllhibdjopfcnaaGreatDoorPParser
import Derived.Test.YtllhibdjopfcnaaGreatDoorSame
namespace Go.Proofs.YtllhibdjopfcnaaGreatDoor
open Go.RowKit
set_option linter.unusedVariables false

theorem beq_dec (a b : List UInt8) : (a == b) = decide (a = b) := by
  by_cases h : a = b
  · rw [decide_eq_true h, beq_iff_eq]; exact h
  · rw [decide_eq_false h, beq_eq_false_iff_ne]; exact h
theorem beq_decI (a b : Int) : (a == b) = decide (a = b) := by
  by_cases h : a = b
  · rw [decide_eq_true h, beq_iff_eq]; exact h
  · rw [decide_eq_false h, beq_eq_false_iff_ne]; exact h
set_option maxRecDepth 20000 in
set_option maxHeartbeats 4000000 in
theorem rsame7_any (h1 h2 : HeadL) (v1 v2 : Value) (w : World) (hS1 : SeesP w v1 h1.2.2.2) (hS2 : SeesP w v2 h2.2.2.2) (hbig : h1.2.2.2.length ≤ 140737488355328) :
    Calls Tryz.prog 21 #[.agg #[strV h1.1, strV h1.2.1, .int .i64 h1.2.2.1, v1], .agg #[strV h2.1, strV h2.2.1, .int .i64 h2.2.2.1, v2]] w fun e w' => e = .returned (.bool (sameL h1 h2)) ∧ Below w.heap.size w w' := by
  obtain ⟨a1, a2, m1, f1⟩ := h1
  obtain ⟨b1, b2, m2, f2⟩ := h2
  simp only at hS1 hS2 hbig ⊢
  have hH1 := HeadAt.new w (strV a1) (strV a2) (.int .i64 m1) v1
  obtain ⟨w0, hw0⟩ : ∃ w0, w0 = w.alloc (.cells #[strV a1, strV a2, .int .i64 m1, v1] 34) := ⟨_, rfl⟩
  have hB0 : Below w.heap.size w w0 := by rw [hw0]; exact below_alloc w _
  have hz0 : w0.heap.size = w.heap.size + 1 := by rw [hw0]; simp
  rw [← hw0] at hH1
  have hH2 := HeadAt.new w0 (strV b1) (strV b2) (.int .i64 m2) v2
  obtain ⟨w1, hw1⟩ : ∃ w1, w1 = w0.alloc (.cells #[strV b1, strV b2, .int .i64 m2, v2] 34) := ⟨_, rfl⟩
  have hB1 : Below w0.heap.size w0 w1 := by rw [hw1]; exact below_alloc w0 _
  rw [← hw1] at hH2
  have hH1' := hH1.below hB1 hH1.lt
  have hB01 := hB0.trans (hB1.mono (by omega))
  rw [hz0] at hH2
  obtain ⟨p0, p1, p2, p3, _, _, _, _⟩ := hH1'.cells
  obtain ⟨r0, r1, r2, r3, _, _, _, _⟩ := hH2.cells
  have hSm := same_any v1 v2 f1 f2 w1 (hS1.below hB01) (hS2.below hB01) hbig
  have HWW : Hid ((w.alloc (.cells #[.string ⟨a1.toArray⟩, .string ⟨a2.toArray⟩, .int .i64 m1, v1] 34)).alloc (.cells #[.string ⟨b1.toArray⟩, .string ⟨b2.toArray⟩, .int .i64 m2, v2] 34) = w1) := by
    unfold Hid
    rw [hw1, hw0]
    rfl
  have HB := hid hB01
  have hsame : sameL (a1, a2, m1, f1) (b1, b2, m2, f2) = (decide (a1 = b1) && decide (a2 = b2) && decide (m1 = m2) && decide (f1 = f2)) := rfl
  rw [hsame]
  unfold strV at p0 p1 r0 r1 ⊢
  clear hS1 hS2 hw0 hw1 hH1 hH2 hH1' hB0 hB1 hB01 hsame hz0
  have g1 := beq_dec a1 b1
  have g2 := beq_dec a2 b2
  have g3 := beq_decI m1 m2
  by_cases e1 : a1 = b1
  · rw [decide_eq_true e1] at g1 ⊢
    by_cases e2 : a2 = b2
    · rw [decide_eq_true e2] at g2 ⊢
      by_cases e3 : m1 = m2
      · rw [decide_eq_true e3] at g3 ⊢
        obtain ⟨F, hF⟩ : ∃ F, F = decide (f1 = f2) := ⟨_, rfl⟩
        rw [← hF] at hSm ⊢
        clear hF e1 e2 e3
        go_enter Tryz.func21, Tryz.ntmps21
        go_wp2_with fail
        rw [HWW.out]
        go_wp2_with fail
        refine hSm.mono ?_
        clear hSm
        rintro e w2 ⟨rfl, n, hw2⟩
        have HB2 : Hid (Below w.heap.size w w2) := by unfold Hid; rw [hw2]; exact below_drewN HB.out n
        clear hw2
        go_wp2
        go_ret
        exact ⟨rfl, HB2.out⟩
      · rw [decide_eq_false e3] at g3 ⊢
        clear e1 e2 e3 hSm
        go_enter Tryz.func21, Tryz.ntmps21
        go_wp2_with fail
        rw [HWW.out]
        go_wp2
        go_ret
        exact ⟨rfl, HB.out⟩
    · rw [decide_eq_false e2] at g2 ⊢
      clear e1 e2 hSm g3
      go_enter Tryz.func21, Tryz.ntmps21
      go_wp2_with fail
      rw [HWW.out]
      go_wp2
      go_ret
      exact ⟨rfl, HB.out⟩
  · rw [decide_eq_false e1] at g1 ⊢
    clear e1 hSm g2 g3
    go_enter Tryz.func21, Tryz.ntmps21
    go_wp2_with fail
    rw [HWW.out]
    go_wp2
    go_ret
    exact ⟨rfl, HB.out⟩

theorem seesP_nil (w : World) : SeesP w (.slice none 0 0) [] := OwnsP.sees (OwnsP.nil w 0)
end Go.Proofs.YtllhibdjopfcnaaGreatDoor
