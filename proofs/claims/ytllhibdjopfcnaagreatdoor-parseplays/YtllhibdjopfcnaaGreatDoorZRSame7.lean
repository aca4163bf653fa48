/-
  Hosts, whether heads are the same: the document's.
-/
import Derived.Test.YtllhibdjopfcnaaGreatDoorZRLeaf
namespace Go.Proofs.YtllhibdjopfcnaaGreatDoor
open Go.RowKit
set_option linter.unusedVariables false

set_option maxRecDepth 20000 in
set_option maxHeartbeats 1000000 in
theorem rhosts_any (a b v : Value) (m : Int) (fs : List PairL) (w : World) (hS : SeesP w v fs) (hl : fs.length ≤ 1048576) :
    Calls Tryz.prog 44 #[.agg #[a, b, .int .i64 m, v]] w fun e w' => e = .returned (.bool (hostsF fs m)) ∧ Below w.heap.size w w' := by
  have hV := rvalues_any a b (.int .i64 m) v fs hostS (w.alloc (.cells #[a, b, .int .i64 m, v] 34)) (hS.below (below_alloc w _)) hl (by decide)
  rw [show small hostS = hostS by decide] at hV
  have hH0 := HeadAt.new w a b (.int .i64 m) v
  have HB0 := hid (below_alloc w (.cells #[a, b, .int .i64 m, v] 34))
  obtain ⟨w0, hw0⟩ : ∃ w0, w0 = w.alloc (.cells #[a, b, .int .i64 m, v] 34) := ⟨_, rfl⟩
  have hsz0 : w0.heap.size = w.heap.size + 1 := by rw [hw0]; simp
  rw [← hw0] at hV hH0 HB0
  have HW0 := hid hw0
  have HH0 := hid hH0
  obtain ⟨ys, hys⟩ : ∃ ys, ys = valsF fs hostS := ⟨_, rfl⟩
  unfold hostsF
  rw [← hys] at hV ⊢
  rw [show (⟨hostS.toArray⟩ : ByteArray) = ⟨#[104, 111, 115, 116]⟩ from rfl] at hV
  clear hw0 hH0 hys
  go_enter Tryz.func44, Tryz.ntmps44
  go_wp2_with fail
  rw [← HW0.out]
  refine hV.mono ?_
  clear hV
  rintro e w1 ⟨v1, rfl, hO1, hB1⟩
  have HB1 := hid (HB0.out.trans (hB1.mono (by omega)))
  obtain ⟨ao1, cap1, rfl⟩ := hO1.shape
  obtain ⟨_, _, q2, _, _, _, _, _⟩ := (HH0.out.below hB1 HH0.out.lt).cells
  clear hB1 HB0 HH0 HW0 hO1
  by_cases h1 : ys.length = 1
  · have f1 : ((ys.length : Int) == 1) = true := by rw [beq_iff_eq]; omega
    have HE : Hid (decide (ys.length = 1 ∨ ys.length = 0 ∧ m = 0) = true) := by unfold Hid; rw [decide_eq_true_eq]; exact Or.inl h1
    clear h1
    go_wp2
    go_ret
    exact ⟨by rw [HE.out]; rfl, HB1.out⟩
  · have f1 : ((ys.length : Int) == 1) = false := by rw [beq_eq_false_iff_ne]; omega
    by_cases h0 : ys.length = 0
    · have f0 : ((ys.length : Int) == 0) = true := by rw [beq_iff_eq]; omega
      have HE : Hid (decide (ys.length = 1 ∨ ys.length = 0 ∧ m = 0) = (m == 0)) := by
        unfold Hid
        by_cases hm : m = 0
        · rw [decide_eq_true (Or.inr ⟨h0, hm⟩), hm]; rfl
        · rw [decide_eq_false (by simp [h1, hm]), beq_eq_false_iff_ne.2 hm]
      clear h1 h0
      go_wp2
      go_ret
      exact ⟨by rw [HE.out]; rfl, HB1.out⟩
    · have f0 : ((ys.length : Int) == 0) = false := by rw [beq_eq_false_iff_ne]; omega
      have HE : Hid (decide (ys.length = 1 ∨ ys.length = 0 ∧ m = 0) = false) := by
        unfold Hid
        rw [decide_eq_false]
        simp [h1, h0]
      clear h1 h0
      go_wp2
      go_ret
      exact ⟨by rw [HE.out]; rfl, HB1.out⟩

theorem beq_dec (a b : List UInt8) : (a == b) = decide (a = b) := by
  by_cases h : a = b
  · rw [decide_eq_true h, beq_iff_eq]; exact h
  · rw [decide_eq_false h, beq_eq_false_iff_ne]; exact h
theorem beq_decI (a b : Int) : (a == b) = decide (a = b) := by
  by_cases h : a = b
  · rw [decide_eq_true h, beq_iff_eq]; exact h
  · rw [decide_eq_false h, beq_eq_false_iff_ne]; exact h
set_option maxRecDepth 20000 in
set_option maxHeartbeats 4000000 in
theorem rsame7_any (h1 h2 : HeadL) (v1 v2 : Value) (w : World) (hS1 : SeesP w v1 h1.2.2.2) (hS2 : SeesP w v2 h2.2.2.2) (hbig : h1.2.2.2.length ≤ 140737488355328) :
    Calls Tryz.prog 21 #[.agg #[strV h1.1, strV h1.2.1, .int .i64 h1.2.2.1, v1], .agg #[strV h2.1, strV h2.2.1, .int .i64 h2.2.2.1, v2]] w fun e w' => e = .returned (.bool (sameL h1 h2)) ∧ Below w.heap.size w w' := by
  obtain ⟨a1, a2, m1, f1⟩ := h1
  obtain ⟨b1, b2, m2, f2⟩ := h2
  simp only at hS1 hS2 hbig ⊢
  have hH1 := HeadAt.new w (strV a1) (strV a2) (.int .i64 m1) v1
  obtain ⟨w0, hw0⟩ : ∃ w0, w0 = w.alloc (.cells #[strV a1, strV a2, .int .i64 m1, v1] 34) := ⟨_, rfl⟩
  have hB0 : Below w.heap.size w w0 := by rw [hw0]; exact below_alloc w _
  have hz0 : w0.heap.size = w.heap.size + 1 := by rw [hw0]; simp
  rw [← hw0] at hH1
  have hH2 := HeadAt.new w0 (strV b1) (strV b2) (.int .i64 m2) v2
  obtain ⟨w1, hw1⟩ : ∃ w1, w1 = w0.alloc (.cells #[strV b1, strV b2, .int .i64 m2, v2] 34) := ⟨_, rfl⟩
  have hB1 : Below w0.heap.size w0 w1 := by rw [hw1]; exact below_alloc w0 _
  rw [← hw1] at hH2
  have hH1' := hH1.below hB1 hH1.lt
  have hB01 := hB0.trans (hB1.mono (by omega))
  rw [hz0] at hH2
  obtain ⟨p0, p1, p2, p3, _, _, _, _⟩ := hH1'.cells
  obtain ⟨r0, r1, r2, r3, _, _, _, _⟩ := hH2.cells
  have hSm := same_any v1 v2 f1 f2 w1 (hS1.below hB01) (hS2.below hB01) hbig
  have HWW : Hid ((w.alloc (.cells #[.string ⟨a1.toArray⟩, .string ⟨a2.toArray⟩, .int .i64 m1, v1] 34)).alloc (.cells #[.string ⟨b1.toArray⟩, .string ⟨b2.toArray⟩, .int .i64 m2, v2] 34) = w1) := by
    unfold Hid
    rw [hw1, hw0]
    rfl
  have HB := hid hB01
  have hsame : sameL (a1, a2, m1, f1) (b1, b2, m2, f2) = (decide (a1 = b1) && decide (a2 = b2) && decide (m1 = m2) && decide (f1 = f2)) := rfl
  rw [hsame]
  unfold strV at p0 p1 r0 r1 ⊢
  clear hS1 hS2 hw0 hw1 hH1 hH2 hH1' hB0 hB1 hB01 hsame hz0
  have g1 := beq_dec a1 b1
  have g2 := beq_dec a2 b2
  have g3 := beq_decI m1 m2
  by_cases e1 : a1 = b1
  · rw [decide_eq_true e1] at g1 ⊢
    by_cases e2 : a2 = b2
    · rw [decide_eq_true e2] at g2 ⊢
      by_cases e3 : m1 = m2
      · rw [decide_eq_true e3] at g3 ⊢
        obtain ⟨F, hF⟩ : ∃ F, F = decide (f1 = f2) := ⟨_, rfl⟩
        rw [← hF] at hSm ⊢
        clear hF e1 e2 e3
        go_enter Tryz.func21, Tryz.ntmps21
        go_wp2_with fail
        rw [HWW.out]
        go_wp2_with fail
        refine hSm.mono ?_
        clear hSm
        rintro e w2 ⟨rfl, n, hw2⟩
        have HB2 : Hid (Below w.heap.size w w2) := by unfold Hid; rw [hw2]; exact below_drewN HB.out n
        clear hw2
        go_wp2
        go_ret
        exact ⟨rfl, HB2.out⟩
      · rw [decide_eq_false e3] at g3 ⊢
        clear e1 e2 e3 hSm
        go_enter Tryz.func21, Tryz.ntmps21
        go_wp2_with fail
        rw [HWW.out]
        go_wp2
        go_ret
        exact ⟨rfl, HB.out⟩
    · rw [decide_eq_false e2] at g2 ⊢
      clear e1 e2 hSm g3
      go_enter Tryz.func21, Tryz.ntmps21
      go_wp2_with fail
      rw [HWW.out]
      go_wp2
      go_ret
      exact ⟨rfl, HB.out⟩
  · rw [decide_eq_false e1] at g1 ⊢
    clear e1 hSm g2 g3
    go_enter Tryz.func21, Tryz.ntmps21
    go_wp2_with fail
    rw [HWW.out]
    go_wp2
    go_ret
    exact ⟨rfl, HB.out⟩
end Go.Proofs.YtllhibdjopfcnaaGreatDoor
