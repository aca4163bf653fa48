/-
  Whether two lists of requests are the same: the document's.
-/
import Derived.Test.YtllhibdjopfcnaaGreatDoorZPParser
import Derived.Test.YtllhibdjopfcnaaGreatDoorZCut
namespace Go.Proofs.YtllhibdjopfcnaaGreatDoor
open Go.RowKit
set_option linter.unusedVariables false

theorem beq_dec (a b : List UInt8) : (a == b) = decide (a = b) := by
  by_cases h : a = b
  · rw [decide_eq_true h, beq_iff_eq]; exact h
  · rw [decide_eq_false h, beq_eq_false_iff_ne]; exact h
theorem beq_decI (a b : Int) : (a == b) = decide (a = b) := by
  by_cases h : a = b
  · rw [decide_eq_true h, beq_iff_eq]; exact h
  · rw [decide_eq_false h, beq_eq_false_iff_ne]; exact h
set_option maxRecDepth 20000 in
set_option maxHeartbeats 4000000 in
theorem rsame7_any (h1 h2 : HeadL) (v1 v2 : Value) (w : World) (hS1 : SeesP w v1 h1.2.2.2) (hS2 : SeesP w v2 h2.2.2.2) (hbig : h1.2.2.2.length ≤ 140737488355328) :
    Calls Tryz.prog 21 #[.agg #[strV h1.1, strV h1.2.1, .int .i64 h1.2.2.1, v1], .agg #[strV h2.1, strV h2.2.1, .int .i64 h2.2.2.1, v2]] w fun e w' => e = .returned (.bool (sameL h1 h2)) ∧ Below w.heap.size w w' := by
  obtain ⟨a1, a2, m1, f1⟩ := h1
  obtain ⟨b1, b2, m2, f2⟩ := h2
  simp only at hS1 hS2 hbig ⊢
  have hH1 := HeadAt.new w (strV a1) (strV a2) (.int .i64 m1) v1
  obtain ⟨w0, hw0⟩ : ∃ w0, w0 = w.alloc (.cells #[strV a1, strV a2, .int .i64 m1, v1] 34) := ⟨_, rfl⟩
  have hB0 : Below w.heap.size w w0 := by rw [hw0]; exact below_alloc w _
  have hz0 : w0.heap.size = w.heap.size + 1 := by rw [hw0]; simp
  rw [← hw0] at hH1
  have hH2 := HeadAt.new w0 (strV b1) (strV b2) (.int .i64 m2) v2
  obtain ⟨w1, hw1⟩ : ∃ w1, w1 = w0.alloc (.cells #[strV b1, strV b2, .int .i64 m2, v2] 34) := ⟨_, rfl⟩
  have hB1 : Below w0.heap.size w0 w1 := by rw [hw1]; exact below_alloc w0 _
  rw [← hw1] at hH2
  have hH1' := hH1.below hB1 hH1.lt
  have hB01 := hB0.trans (hB1.mono (by omega))
  rw [hz0] at hH2
  obtain ⟨p0, p1, p2, p3, _, _, _, _⟩ := hH1'.cells
  obtain ⟨r0, r1, r2, r3, _, _, _, _⟩ := hH2.cells
  have hSm := same_any v1 v2 f1 f2 w1 (hS1.below hB01) (hS2.below hB01) hbig
  have HWW : Hid ((w.alloc (.cells #[.string ⟨a1.toArray⟩, .string ⟨a2.toArray⟩, .int .i64 m1, v1] 34)).alloc (.cells #[.string ⟨b1.toArray⟩, .string ⟨b2.toArray⟩, .int .i64 m2, v2] 34) = w1) := by
    unfold Hid
    rw [hw1, hw0]
    rfl
  have HB := hid hB01
  have hsame : sameL (a1, a2, m1, f1) (b1, b2, m2, f2) = (decide (a1 = b1) && decide (a2 = b2) && decide (m1 = m2) && decide (f1 = f2)) := rfl
  rw [hsame]
  unfold strV at p0 p1 r0 r1 ⊢
  clear hS1 hS2 hw0 hw1 hH1 hH2 hH1' hB0 hB1 hB01 hsame hz0
  have g1 := beq_dec a1 b1
  have g2 := beq_dec a2 b2
  have g3 := beq_decI m1 m2
  by_cases e1 : a1 = b1
  · rw [decide_eq_true e1] at g1 ⊢
    by_cases e2 : a2 = b2
    · rw [decide_eq_true e2] at g2 ⊢
      by_cases e3 : m1 = m2
      · rw [decide_eq_true e3] at g3 ⊢
        obtain ⟨F, hF⟩ : ∃ F, F = decide (f1 = f2) := ⟨_, rfl⟩
        rw [← hF] at hSm ⊢
        clear hF e1 e2 e3
        go_enter Tryz.func21, Tryz.ntmps21
        go_wp2_with fail
        rw [HWW.out]
        go_wp2_with fail
        refine hSm.mono ?_
        clear hSm
        rintro e w2 ⟨rfl, n, hw2⟩
        have HB2 : Hid (Below w.heap.size w w2) := by unfold Hid; rw [hw2]; exact below_drewN HB.out n
        clear hw2
        go_wp2
        go_ret
        exact ⟨rfl, HB2.out⟩
      · rw [decide_eq_false e3] at g3 ⊢
        clear e1 e2 e3 hSm
        go_enter Tryz.func21, Tryz.ntmps21
        go_wp2_with fail
        rw [HWW.out]
        go_wp2
        go_ret
        exact ⟨rfl, HB.out⟩
    · rw [decide_eq_false e2] at g2 ⊢
      clear e1 e2 hSm g3
      go_enter Tryz.func21, Tryz.ntmps21
      go_wp2_with fail
      rw [HWW.out]
      go_wp2
      go_ret
      exact ⟨rfl, HB.out⟩
  · rw [decide_eq_false e1] at g1 ⊢
    clear e1 hSm g2 g3
    go_enter Tryz.func21, Tryz.ntmps21
    go_wp2_with fail
    rw [HWW.out]
    go_wp2
    go_ret
    exact ⟨rfl, HB.out⟩

theorem seesP_nil (w : World) : SeesP w (.slice none 0 0) [] := OwnsP.sees (OwnsP.nil w 0)
end Go.Proofs.YtllhibdjopfcnaaGreatDoor

namespace Go.Proofs.YtllhibdjopfcnaaGreatDoor
open Go.RowKit
set_option linter.unusedVariables false

def sameRq (a b : ReqL) : Bool := sameL a.head b.head && decide (a.path = b.path) && decide (a.query = b.query) && decide (a.body = b.body) && decide (a.close = b.close)
theorem sameRq_iff {a b : ReqL} : sameRq a b = true ↔ a = b := by
  obtain ⟨h1, p1, q1, b1, c1⟩ := a
  obtain ⟨h2, p2, q2, b2, c2⟩ := b
  simp only [sameRq, Bool.and_eq_true, decide_eq_true_eq, sameL_iff, ReqL.mk.injEq]
  constructor
  · rintro ⟨⟨⟨⟨x1, x2⟩, x3⟩, x4⟩, x5⟩
    exact ⟨x1, x2, x3, x4, x5⟩
  · rintro ⟨x1, x2, x3, x4, x5⟩
    exact ⟨⟨⟨⟨x1, x2⟩, x3⟩, x4⟩, x5⟩
theorem beq_decB (a b : Bool) : (a == b) = decide (a = b) := by cases a <;> cases b <;> rfl
set_option maxRecDepth 20000 in
set_option maxHeartbeats 8000000 in
theorem rsame_any (e1 e2 : RqE) (w : World) (h1 : SeesP w e1.vf e1.q.head.2.2.2 ∧ SeesP w e1.vq e1.q.query) (h2 : SeesP w e2.vf e2.q.head.2.2.2 ∧ SeesP w e2.vq e2.q.query) (hf : e1.q.head.2.2.2.length ≤ 140737488355328) (hq : e1.q.query.length ≤ 140737488355328) :
    Calls Tryz.prog 11 #[.agg #[.string ⟨e1.q.head.1.toArray⟩, .string ⟨e1.q.head.2.1.toArray⟩, .int .i64 e1.q.head.2.2.1, .slice e1.af e1.q.head.2.2.2.length e1.cf, .string ⟨e1.q.path.toArray⟩, .slice e1.aq e1.q.query.length e1.cq, .string ⟨e1.q.body.toArray⟩, .bool e1.q.close], .agg #[.string ⟨e2.q.head.1.toArray⟩, .string ⟨e2.q.head.2.1.toArray⟩, .int .i64 e2.q.head.2.2.1, .slice e2.af e2.q.head.2.2.2.length e2.cf, .string ⟨e2.q.path.toArray⟩, .slice e2.aq e2.q.query.length e2.cq, .string ⟨e2.q.body.toArray⟩, .bool e2.q.close]] w fun e w' => e = .returned (.bool (sameRq e1.q e2.q)) ∧ Below w.heap.size w w' := by
  have hR1 := ReqAt.new w (.string ⟨e1.q.head.1.toArray⟩) (.string ⟨e1.q.head.2.1.toArray⟩) (.int .i64 e1.q.head.2.2.1) (.slice e1.af e1.q.head.2.2.2.length e1.cf) (.string ⟨e1.q.path.toArray⟩) (.slice e1.aq e1.q.query.length e1.cq) (.string ⟨e1.q.body.toArray⟩) (.bool e1.q.close)
  have hB1 := below_alloc w (.cells #[.string ⟨e1.q.head.1.toArray⟩, .string ⟨e1.q.head.2.1.toArray⟩, .int .i64 e1.q.head.2.2.1, .slice e1.af e1.q.head.2.2.2.length e1.cf, .string ⟨e1.q.path.toArray⟩, .slice e1.aq e1.q.query.length e1.cq, .string ⟨e1.q.body.toArray⟩, .bool e1.q.close] 36)
  obtain ⟨w1, hw1⟩ : ∃ w1, w1 = w.alloc (.cells #[.string ⟨e1.q.head.1.toArray⟩, .string ⟨e1.q.head.2.1.toArray⟩, .int .i64 e1.q.head.2.2.1, .slice e1.af e1.q.head.2.2.2.length e1.cf, .string ⟨e1.q.path.toArray⟩, .slice e1.aq e1.q.query.length e1.cq, .string ⟨e1.q.body.toArray⟩, .bool e1.q.close] 36) := ⟨_, rfl⟩
  rw [← hw1] at hR1 hB1
  have hz1 : w1.heap.size = w.heap.size + 1 := by rw [hw1]; simp
  have hR2 := ReqAt.new w1 (.string ⟨e2.q.head.1.toArray⟩) (.string ⟨e2.q.head.2.1.toArray⟩) (.int .i64 e2.q.head.2.2.1) (.slice e2.af e2.q.head.2.2.2.length e2.cf) (.string ⟨e2.q.path.toArray⟩) (.slice e2.aq e2.q.query.length e2.cq) (.string ⟨e2.q.body.toArray⟩) (.bool e2.q.close)
  have hB2 := below_alloc w1 (.cells #[.string ⟨e2.q.head.1.toArray⟩, .string ⟨e2.q.head.2.1.toArray⟩, .int .i64 e2.q.head.2.2.1, .slice e2.af e2.q.head.2.2.2.length e2.cf, .string ⟨e2.q.path.toArray⟩, .slice e2.aq e2.q.query.length e2.cq, .string ⟨e2.q.body.toArray⟩, .bool e2.q.close] 36)
  obtain ⟨w2, hw2⟩ : ∃ w2, w2 = w1.alloc (.cells #[.string ⟨e2.q.head.1.toArray⟩, .string ⟨e2.q.head.2.1.toArray⟩, .int .i64 e2.q.head.2.2.1, .slice e2.af e2.q.head.2.2.2.length e2.cf, .string ⟨e2.q.path.toArray⟩, .slice e2.aq e2.q.query.length e2.cq, .string ⟨e2.q.body.toArray⟩, .bool e2.q.close] 36) := ⟨_, rfl⟩
  rw [← hw2] at hR2 hB2
  have hR1' := hR1.below hB2 hR1.lt
  rw [hz1] at hR2
  have hBB := hB1.trans (hB2.mono (by omega))
  have hS := rsame7_any e1.q.head e2.q.head e1.vf e2.vf w2 (h1.1.below hBB) (h2.1.below hBB) hf
  simp only [strV, RqE.vf] at hS
  have HSQ := hid (fun (w' : World) (hb : Below w2.heap.size w2 w') => same_any e1.vq e2.vq e1.q.query e2.q.query w' ((h1.2.below hBB).below hb) ((h2.2.below hBB).below hb) hq)
  simp only [RqE.vq] at HSQ
  have HW : Hid (w2 = (w.alloc (.cells #[.string ⟨e1.q.head.1.toArray⟩, .string ⟨e1.q.head.2.1.toArray⟩, .int .i64 e1.q.head.2.2.1, .slice e1.af e1.q.head.2.2.2.length e1.cf, .string ⟨e1.q.path.toArray⟩, .slice e1.aq e1.q.query.length e1.cq, .string ⟨e1.q.body.toArray⟩, .bool e1.q.close] 36)).alloc (.cells #[.string ⟨e2.q.head.1.toArray⟩, .string ⟨e2.q.head.2.1.toArray⟩, .int .i64 e2.q.head.2.2.1, .slice e2.af e2.q.head.2.2.2.length e2.cf, .string ⟨e2.q.path.toArray⟩, .slice e2.aq e2.q.query.length e2.cq, .string ⟨e2.q.body.toArray⟩, .bool e2.q.close] 36)) := by unfold Hid; rw [hw2, hw1]
  have HR1 := hid hR1'
  have HR2 := hid hR2
  have HB := hid hBB
  obtain ⟨a0, a1, a2, a3, a4, a5, a6, a7⟩ := hR1'.cells
  obtain ⟨b0, b1, b2, b3, b4, b5, b6, b7⟩ := hR2.cells
  have hlt1 := hR1'.lt
  have hlt2 := hR2.lt
  clear hw1 hw2 hR1 hR2 hR1' hB1 hB2 hBB hz1 h1 h2
  rw [HW.out] at a0 a1 a2 a3 b0 b1 b2 b3
  clear a4 a5 a6 a7 b4 b5 b6 b7
  have g1 := beq_dec e1.q.path e2.q.path
  have g2 := beq_dec e1.q.body e2.q.body
  have g3 := beq_decB e1.q.close e2.q.close
  unfold sameRq
  cases hH : sameL e1.q.head e2.q.head with
  | false =>
    rw [hH] at hS
    clear g1 g2 g3 HSQ hH
    go_enter Tryz.func11, Tryz.ntmps11
    go_wp2_with fail
    rw [← HW.out]
    refine hS.mono ?_
    clear hS
    rintro e w3 ⟨rfl, hB3⟩
    obtain ⟨p0, p1, p2, p3, p4, p5, p6, p7⟩ := (HR1.out.below hB3 hlt1).cells
    obtain ⟨q0, q1, q2, q3, q4, q5, q6, q7⟩ := (HR2.out.below hB3 hlt2).cells
    have HB3 := hid (HB.out.trans (hB3.mono HB.out.size))
    clear hB3 HR1 HR2 HB a0 a1 a2 a3 b0 b1 b2 b3 hlt1 hlt2
    go_wp2
    go_ret
    exact ⟨rfl, HB3.out⟩
  | true =>
    rw [hH] at hS
    by_cases hp : e1.q.path = e2.q.path
    · rw [decide_eq_true hp] at g1 ⊢
      clear hp hH
      obtain ⟨QQ, hQQ⟩ : ∃ Q, Q = decide (e1.q.query = e2.q.query) := ⟨_, rfl⟩
      rw [← hQQ] at HSQ ⊢
      clear hQQ
      cases QQ with
      | false =>
        clear g2 g3
        go_enter Tryz.func11, Tryz.ntmps11
        go_wp2_with fail
        rw [← HW.out]
        refine hS.mono ?_
        clear hS
        rintro e w3 ⟨rfl, hB3⟩
        obtain ⟨p0, p1, p2, p3, p4, p5, p6, p7⟩ := (HR1.out.below hB3 hlt1).cells
        obtain ⟨q0, q1, q2, q3, q4, q5, q6, q7⟩ := (HR2.out.below hB3 hlt2).cells
        have HB3 := hid (HB.out.trans (hB3.mono HB.out.size))
        have hQ := HSQ.out w3 hB3
        clear HSQ
        have HR1' := hid (HR1.out.below hB3 hlt1)
        have HR2' := hid (HR2.out.below hB3 hlt2)
        clear hB3 HR1 HR2 HB a0 a1 a2 a3 b0 b1 b2 b3 hlt1 hlt2
        go_wp2_with fail
        refine hQ.mono ?_
        clear hQ
        rintro e w4 ⟨rfl, n4, hw4⟩
        have hB4 : Below w3.heap.size w3 w4 := by rw [hw4]; exact below_drewN (Below.refl _ _) _
        clear p0 p1 p2 p3 p4 p5 p6 p7 q0 q1 q2 q3 q4 q5 q6 q7
        obtain ⟨p0, p1, p2, p3, p4, p5, p6, p7⟩ := (HR1'.out.below hB4 HR1'.out.lt).cells
        obtain ⟨q0, q1, q2, q3, q4, q5, q6, q7⟩ := (HR2'.out.below hB4 HR2'.out.lt).cells
        have HB4 := hid (HB3.out.trans (hB4.mono HB3.out.size))
        clear hw4 hB4 HB3 HR1' HR2'
        go_wp2
        go_ret
        exact ⟨rfl, HB4.out⟩
      | true =>
        by_cases hb : e1.q.body = e2.q.body
        · rw [decide_eq_true hb] at g2 ⊢
          clear hb
          obtain ⟨CC, hCC⟩ : ∃ C, C = decide (e1.q.close = e2.q.close) := ⟨_, rfl⟩
          rw [← hCC] at g3 ⊢
          clear hCC
          go_enter Tryz.func11, Tryz.ntmps11
          go_wp2_with fail
          rw [← HW.out]
          refine hS.mono ?_
          clear hS
          rintro e w3 ⟨rfl, hB3⟩
          obtain ⟨p0, p1, p2, p3, p4, p5, p6, p7⟩ := (HR1.out.below hB3 hlt1).cells
          obtain ⟨q0, q1, q2, q3, q4, q5, q6, q7⟩ := (HR2.out.below hB3 hlt2).cells
          have HB3 := hid (HB.out.trans (hB3.mono HB.out.size))
          have hQ := HSQ.out w3 hB3
          clear HSQ
          have HR1' := hid (HR1.out.below hB3 hlt1)
          have HR2' := hid (HR2.out.below hB3 hlt2)
          clear hB3 HR1 HR2 HB a0 a1 a2 a3 b0 b1 b2 b3 hlt1 hlt2
          go_wp2_with fail
          refine hQ.mono ?_
          clear hQ
          rintro e w4 ⟨rfl, n4, hw4⟩
          have hB4 : Below w3.heap.size w3 w4 := by rw [hw4]; exact below_drewN (Below.refl _ _) _
          clear p0 p1 p2 p3 p4 p5 p6 p7 q0 q1 q2 q3 q4 q5 q6 q7
          obtain ⟨p0, p1, p2, p3, p4, p5, p6, p7⟩ := (HR1'.out.below hB4 HR1'.out.lt).cells
          obtain ⟨q0, q1, q2, q3, q4, q5, q6, q7⟩ := (HR2'.out.below hB4 HR2'.out.lt).cells
          have HB4 := hid (HB3.out.trans (hB4.mono HB3.out.size))
          clear hw4 hB4 HB3 HR1' HR2'
          go_wp2
          go_ret
          exact ⟨rfl, HB4.out⟩
        · rw [decide_eq_false hb] at g2 ⊢
          clear hb g3
          go_enter Tryz.func11, Tryz.ntmps11
          go_wp2_with fail
          rw [← HW.out]
          refine hS.mono ?_
          clear hS
          rintro e w3 ⟨rfl, hB3⟩
          obtain ⟨p0, p1, p2, p3, p4, p5, p6, p7⟩ := (HR1.out.below hB3 hlt1).cells
          obtain ⟨q0, q1, q2, q3, q4, q5, q6, q7⟩ := (HR2.out.below hB3 hlt2).cells
          have HB3 := hid (HB.out.trans (hB3.mono HB.out.size))
          have hQ := HSQ.out w3 hB3
          clear HSQ
          have HR1' := hid (HR1.out.below hB3 hlt1)
          have HR2' := hid (HR2.out.below hB3 hlt2)
          clear hB3 HR1 HR2 HB a0 a1 a2 a3 b0 b1 b2 b3 hlt1 hlt2
          go_wp2_with fail
          refine hQ.mono ?_
          clear hQ
          rintro e w4 ⟨rfl, n4, hw4⟩
          have hB4 : Below w3.heap.size w3 w4 := by rw [hw4]; exact below_drewN (Below.refl _ _) _
          clear p0 p1 p2 p3 p4 p5 p6 p7 q0 q1 q2 q3 q4 q5 q6 q7
          obtain ⟨p0, p1, p2, p3, p4, p5, p6, p7⟩ := (HR1'.out.below hB4 HR1'.out.lt).cells
          obtain ⟨q0, q1, q2, q3, q4, q5, q6, q7⟩ := (HR2'.out.below hB4 HR2'.out.lt).cells
          have HB4 := hid (HB3.out.trans (hB4.mono HB3.out.size))
          clear hw4 hB4 HB3 HR1' HR2'
          go_wp2
          go_ret
          exact ⟨rfl, HB4.out⟩
    · rw [decide_eq_false hp] at g1 ⊢
      clear hp hH g2 g3 HSQ
      go_enter Tryz.func11, Tryz.ntmps11
      go_wp2_with fail
      rw [← HW.out]
      refine hS.mono ?_
      clear hS
      rintro e w3 ⟨rfl, hB3⟩
      obtain ⟨p0, p1, p2, p3, p4, p5, p6, p7⟩ := (HR1.out.below hB3 hlt1).cells
      obtain ⟨q0, q1, q2, q3, q4, q5, q6, q7⟩ := (HR2.out.below hB3 hlt2).cells
      have HB3 := hid (HB.out.trans (hB3.mono HB.out.size))
      clear hB3 HR1 HR2 HB a0 a1 a2 a3 b0 b1 b2 b3 hlt1 hlt2
      go_wp2
      go_ret
      exact ⟨rfl, HB3.out⟩
end Go.Proofs.YtllhibdjopfcnaaGreatDoor

namespace Go.Proofs.YtllhibdjopfcnaaGreatDoor
open Go.RowKit
set_option linter.unusedVariables false

/-- A request lies in a row. -/
def RowAt (W : World) (b o : Nat) (e : RqE) : Prop := ∀ i, i < 8 → W.cell? ⟨b, o + i, none⟩ = e.row[i]?
theorem RowAt.cells {W : World} {b o : Nat} {e : RqE} (h : RowAt W b o e) : W.cell? ⟨b, o, none⟩ = some (.string ⟨e.q.head.1.toArray⟩) ∧ W.cell? ⟨b, o + 1, none⟩ = some (.string ⟨e.q.head.2.1.toArray⟩) ∧ W.cell? ⟨b, o + 2, none⟩ = some (.int .i64 e.q.head.2.2.1) ∧ W.cell? ⟨b, o + 3, none⟩ = some (.slice e.af e.q.head.2.2.2.length e.cf) ∧ W.cell? ⟨b, o + 4, none⟩ = some (.string ⟨e.q.path.toArray⟩) ∧ W.cell? ⟨b, o + 5, none⟩ = some (.slice e.aq e.q.query.length e.cq) ∧ W.cell? ⟨b, o + 6, none⟩ = some (.string ⟨e.q.body.toArray⟩) ∧ W.cell? ⟨b, o + 7, none⟩ = some (.bool e.q.close) := by
  refine ⟨h 0 (by decide), h 1 (by decide), h 2 (by decide), h 3 (by decide), h 4 (by decide), h 5 (by decide), h 6 (by decide), h 7 (by decide)⟩
theorem RowAt.below {W W' : World} {b o : Nat} {e : RqE} (h : RowAt W b o e) (hb : Below W.heap.size W W') : RowAt W' b o e := by
  intro i hi
  have h1 := h i hi
  have hi' : i < e.row.length := by rw [row_len]; exact hi
  rw [List.getElem?_eq_getElem hi'] at h1 ⊢
  exact (hb.cell (World.block_lt_of_cell? W _ h1)).trans h1
set_option maxRecDepth 20000 in
set_option maxHeartbeats 8000000 in
theorem rsameAll_any (v1 v2 : Value) (l1 l2 : List RqE) (w : World) (h1 : SeesQ w v1 l1) (h2 : SeesQ w v2 l2) (hb : l1.length ≤ 1000000000) (hf : ∀ e ∈ l1, e.q.head.2.2.2.length ≤ 140737488355328 ∧ e.q.query.length ≤ 140737488355328) :
    Calls Tryz.prog 18 #[v1, v2] w fun e w' => ∃ r, e = .returned (.bool r) ∧ (r = true ↔ l1.map RqE.q = l2.map RqE.q) ∧ Below w.heap.size w w' := by
  obtain ⟨b1, ao1, c1, rfl, hc1, ha1, hcell1, hp1⟩ := h1
  obtain ⟨b2, ao2, c2, rfl, hc2, ha2, hcell2, hp2⟩ := h2
  by_cases hlen : l1.length = l2.length
  · have fl : ((l1.length : Int) != (l2.length : Int)) = false := by rw [bne_eq_false_iff_eq]; omega
    have HA1 := hid ha1
    have HA2 := hid ha2
    have HC1 := hid hcell1
    have HC2 := hid hcell2
    have HP1 := hid hp1
    have HP2 := hid hp2
    have HLEN := hid hlen
    obtain ⟨n1, hn1⟩ : ∃ n, n = l1.length := ⟨_, rfl⟩
    obtain ⟨n2, hn2⟩ : ∃ n, n = l2.length := ⟨_, rfl⟩
    rw [← hn1] at hc1 fl hb ⊢
    rw [← hn2] at hc2 fl ⊢
    have HN1 := hid hn1
    have HN2 := hid hn2
    clear ha1 ha2 hcell1 hcell2 hp1 hp2 hlen hn1 hn2
    go_enter Tryz.func18, Tryz.ntmps18
    go_wp2_with fail
    go_loopw [5] (fun i wr => ∃ (k : Nat), k ≤ n1 ∧ i = .int .i64 (k : Int) ∧ (l1.take k).map RqE.q = (l2.take k).map RqE.q ∧ Below w.heap.size w wr) (fun i _ => n1 - (intOf i).toNat)
    case atStart => exact ⟨0, Nat.zero_le _, rfl, rfl, Below.refl _ _⟩
    case round =>
      obtain ⟨k, hk, rfl, hT, hB⟩ := hrel
      by_cases hlt : k < n1
      · have hl1 : k < l1.length := by rw [← HN1.out]; exact hlt
        have hl2 : k < l2.length := by rw [← HLEN.out]; exact hl1
        have hlt2 : k < n2 := by rw [HN2.out]; exact hl2
        have g1 : (k : Int) < (n1 : Int) := by omega
        have g2 : (k : Int) < (n2 : Int) := by omega
        have e1a := HA1.out (by intro h; rw [h] at hl1; simp at hl1)
        have e2a := HA2.out (by intro h; rw [h] at hl2; simp at hl2)
        subst e1a
        subst e2a
        obtain ⟨e1, he1⟩ : ∃ e, e = l1[k] := ⟨_, rfl⟩
        obtain ⟨e2, he2⟩ : ∃ e, e = l2[k] := ⟨_, rfl⟩
        have hm1 : e1 ∈ l1 := by rw [he1]; exact List.getElem_mem _
        have hm2 : e2 ∈ l2 := by rw [he2]; exact List.getElem_mem _
        have hr1 : RowAt wr b1 (k * 8) e1 := by
          have h : RowAt w b1 (k * 8) e1 := fun i hi => by rw [he1]; exact HC1.out k i hl1 hi
          exact h.below hB
        have hr2 : RowAt wr b2 (k * 8) e2 := by
          have h : RowAt w b2 (k * 8) e2 := fun i hi => by rw [he2]; exact HC2.out k i hl2 hi
          exact h.below hB
        have hSm := rsame_any e1 e2 wr.drew ⟨((HP1.out e1 hm1).1.below hB).below (Below.drew (Below.refl _ _)), ((HP1.out e1 hm1).2.below hB).below (Below.drew (Below.refl _ _))⟩ ⟨((HP2.out e2 hm2).1.below hB).below (Below.drew (Below.refl _ _)), ((HP2.out e2 hm2).2.below hB).below (Below.drew (Below.refl _ _))⟩ (hf e1 hm1).1 (hf e1 hm1).2
        obtain ⟨SQ, hSQ⟩ : ∃ S, S = sameRq e1.q e2.q := ⟨_, rfl⟩
        rw [← hSQ] at hSm
        have HSQ := hid hSQ
        have HB := hid hB
        have HT := hid hT
        have HE1 := hid he1
        have HE2 := hid he2
        have HL1 := hid hl1
        have HL2 := hid hl2
        have hsb := hB.size
        clear hB hT hm1 hm2 hSQ he1 he2
        go_wp2_with fail
        refine wp_region_noPanic ?_
        refine wp_region_held_drew (S := (fun W => Below wr.heap.size wr W ∧ RowAt W b1 (k * 8) e1 ∧ RowAt W b2 (k * 8) e2)) (by kernel_rfl) ?_ (fun hHeld => ?_)
        · exact ⟨Below.drew (Below.refl _ _), hr1, hr2⟩
        refine wpAnyH_take (i := 0) (oi := { dst := some 17, op := Op.move (Operand.tmp 0), type := 45, pos := "ref.go:213", after := #[], guard := none }) (v := (.slice (some ⟨b1, 0, none⟩) n1 c1)) rfl (by kernel_rfl) (by kernel_rfl) (by kernel_rfl) (fun _ _ _ h => h) (Or.inl ⟨by rfl, ?_⟩) (by assumption) ?_
        · intro w hSw
          try dsimp only at hSw
          go_simp
        try simp only [Act.put, List.setIfInBounds_toArray, List.set_cons_zero, List.set_cons_succ]
        refine wpAnyH_take (i := 1) (oi := { dst := some 18, op := Op.move (Operand.tmp 5), type := 3, pos := "ref.go:213", after := #[], guard := none }) (v := (.int .i64 (k : Int))) rfl (by kernel_rfl) (by kernel_rfl) (by kernel_rfl) (fun _ _ _ h => h) (Or.inl ⟨by rfl, ?_⟩) (by assumption) ?_
        · intro w hSw
          try dsimp only at hSw
          go_simp
        try simp only [Act.put, List.setIfInBounds_toArray, List.set_cons_zero, List.set_cons_succ]
        refine wpAnyH_take (i := 2) (oi := { dst := some 19, op := Op.indexAddr 45 (Operand.tmp 17) (Operand.tmp 18), type := 0, pos := "ref.go:213", after := #[{ on := 0, ground := Ground.data }, { on := 1, ground := Ground.data }], guard := none }) (v := (.pointer (some ⟨b1, k * 8, none⟩))) rfl (by kernel_rfl) (by kernel_rfl) (by kernel_rfl) (fun _ _ _ h => h) (Or.inl ⟨by rfl, ?_⟩) (by assumption) ?_
        · intro w hSw
          try dsimp only at hSw
          go_simp
        try simp only [Act.put, List.setIfInBounds_toArray, List.set_cons_zero, List.set_cons_succ]
        refine wpAnyH_take (i := 3) (oi := { dst := some 20, op := Op.load 36 (Operand.tmp 19), type := 36, pos := "ref.go:213", after := #[{ on := 2, ground := Ground.data }], guard := none }) (v := (.agg #[.string ⟨e1.q.head.1.toArray⟩, .string ⟨e1.q.head.2.1.toArray⟩, .int .i64 e1.q.head.2.2.1, .slice e1.af e1.q.head.2.2.2.length e1.cf, .string ⟨e1.q.path.toArray⟩, .slice e1.aq e1.q.query.length e1.cq, .string ⟨e1.q.body.toArray⟩, .bool e1.q.close])) rfl (by kernel_rfl) (by kernel_rfl) (by kernel_rfl) (fun _ _ _ h => h) (Or.inl ⟨by rfl, ?_⟩) (by assumption) ?_
        · intro w hSw
          try dsimp only at hSw
          obtain ⟨_, hA, hB⟩ := hSw
          obtain ⟨z0, z1, z2, z3, z4, z5, z6, z7⟩ := RowAt.cells hA
          go_simp
        try simp only [Act.put, List.setIfInBounds_toArray, List.set_cons_zero, List.set_cons_succ]
        refine wpAnyH_take (i := 4) (oi := { dst := some 21, op := Op.move (Operand.tmp 1), type := 45, pos := "ref.go:213", after := #[], guard := none }) (v := (.slice (some ⟨b2, 0, none⟩) n2 c2)) rfl (by kernel_rfl) (by kernel_rfl) (by kernel_rfl) (fun _ _ _ h => h) (Or.inl ⟨by rfl, ?_⟩) (by assumption) ?_
        · intro w hSw
          try dsimp only at hSw
          go_simp
        try simp only [Act.put, List.setIfInBounds_toArray, List.set_cons_zero, List.set_cons_succ]
        refine wpAnyH_take (i := 5) (oi := { dst := some 22, op := Op.move (Operand.tmp 5), type := 3, pos := "ref.go:213", after := #[], guard := none }) (v := (.int .i64 (k : Int))) rfl (by kernel_rfl) (by kernel_rfl) (by kernel_rfl) (fun _ _ _ h => h) (Or.inl ⟨by rfl, ?_⟩) (by assumption) ?_
        · intro w hSw
          try dsimp only at hSw
          go_simp
        try simp only [Act.put, List.setIfInBounds_toArray, List.set_cons_zero, List.set_cons_succ]
        refine wpAnyH_take (i := 6) (oi := { dst := some 23, op := Op.indexAddr 45 (Operand.tmp 21) (Operand.tmp 22), type := 0, pos := "ref.go:213", after := #[{ on := 4, ground := Ground.data }, { on := 5, ground := Ground.data }], guard := none }) (v := (.pointer (some ⟨b2, k * 8, none⟩))) rfl (by kernel_rfl) (by kernel_rfl) (by kernel_rfl) (fun _ _ _ h => h) (Or.inl ⟨by rfl, ?_⟩) (by assumption) ?_
        · intro w hSw
          try dsimp only at hSw
          go_simp
        try simp only [Act.put, List.setIfInBounds_toArray, List.set_cons_zero, List.set_cons_succ]
        refine wpAnyH_take (i := 7) (oi := { dst := some 24, op := Op.load 36 (Operand.tmp 23), type := 36, pos := "ref.go:213", after := #[{ on := 6, ground := Ground.data }], guard := none }) (v := (.agg #[.string ⟨e2.q.head.1.toArray⟩, .string ⟨e2.q.head.2.1.toArray⟩, .int .i64 e2.q.head.2.2.1, .slice e2.af e2.q.head.2.2.2.length e2.cf, .string ⟨e2.q.path.toArray⟩, .slice e2.aq e2.q.query.length e2.cq, .string ⟨e2.q.body.toArray⟩, .bool e2.q.close])) rfl (by kernel_rfl) (by kernel_rfl) (by kernel_rfl) (fun _ _ _ h => h) (Or.inl ⟨by rfl, ?_⟩) (by assumption) ?_
        · intro w hSw
          try dsimp only at hSw
          obtain ⟨_, hA, hB⟩ := hSw
          obtain ⟨z0, z1, z2, z3, z4, z5, z6, z7⟩ := RowAt.cells hB
          go_simp
        try simp only [Act.put, List.setIfInBounds_toArray, List.set_cons_zero, List.set_cons_succ]
        refine wpAnyH_ready (rs := [8]) (by kernel_rfl) (by simp) ?_
        refine AllReadyH.cons (o := { dst := some 25, op := Op.call { callee := Callee.value (Operand.func 11), args := #[Operand.tmp 20, Operand.tmp 24], argTypes := #[36, 36] }, type := 4, pos := "ref.go:213", after := #[{ on := 3, ground := Ground.data }, { on := 7, ground := Ground.data }], guard := none }) rfl (fun K hK => ?_) AllReadyH.nil
        go_simp
        refine hSm.mono ?_
        rintro e w2 ⟨rfl, hBx⟩
        have hB2 : Below wr.heap.size wr w2 := (Below.drew (Below.refl wr.heap.size wr)).trans hBx
        have hr1b := hr1.below hB2
        have hr2b := hr2.below hB2
        clear hBx hSm
        go_simp
        refine hK.out _ _ ?_ (fun hHeld => ?_)
        · exact ⟨hB2, hr1b, hr2b⟩
        clear hK K
        try simp only [Act.put, List.setIfInBounds_toArray, List.set_cons_zero, List.set_cons_succ]
        refine wpAnyH_take (i := 9) (oi := { dst := some 26, op := Op.unOp UnOp.not 4 (Operand.tmp 25), type := 4, pos := "ref.go:213", after := #[{ on := 8, ground := Ground.data }], guard := none }) (v := (.bool (!SQ))) rfl (by kernel_rfl) (by kernel_rfl) (by kernel_rfl) (fun _ _ _ h => h) (Or.inl ⟨by rfl, ?_⟩) (by assumption) ?_
        · intro w hSw
          try dsimp only at hSw
          go_simp
        try simp only [Act.put, List.setIfInBounds_toArray, List.set_cons_zero, List.set_cons_succ]
        refine wpAnyH_done (by kernel_rfl) ?_ _
        refine NoPanic.normal ?_
        have HB3 := hid (HB.out.trans (hB2.mono hsb))
        clear hB2 hr1 hr2 hr1b hr2b hHeld
        cases SQ with
        | true =>
          have HN : Hid ((l1.take (k + 1)).map RqE.q = (l2.take (k + 1)).map RqE.q) := by
            unfold Hid
            have h := sameRq_iff.1 HSQ.out.symm
            have x1 := HL1.out
            have x2 := HL2.out
            rw [List.take_succ_eq_append_getElem x1, List.take_succ_eq_append_getElem x2, List.map_append, List.map_append, HT.out, List.map_singleton, List.map_singleton, ← HE1.out, ← HE2.out, h]
          go_wp2
          go_roundw
          case rel => exact ⟨k + 1, by omega, by go_num, HN.out, HB3.out⟩
          case measure => simp [intOf]; omega
        | false =>
          have HN : Hid (¬ l1.map RqE.q = l2.map RqE.q) := by
            unfold Hid
            intro h
            have x1 := HL1.out
            have x2 := HL2.out
            have y := congrArg (fun l => l[k]?) h
            simp only [List.getElem?_map, List.getElem?_eq_getElem x1, List.getElem?_eq_getElem x2, Option.map_some] at y
            injection y with y
            rw [← HE1.out, ← HE2.out] at y
            have := sameRq_iff.2 y
            rw [← HSQ.out] at this
            cases this
          go_wp2
          go_ret
          exact ⟨_, rfl, ⟨fun h => (by cases h), fun h => absurd h HN.out⟩, HB3.out⟩
      · have g1 : ¬ (k : Int) < (n1 : Int) := by omega
        have HN : Hid (l1.map RqE.q = l2.map RqE.q) := by
          unfold Hid
          have x1 := HN1.out
          have x2 := HLEN.out
          rw [List.take_of_length_le (by omega), List.take_of_length_le (by omega)] at hT
          exact hT
        have HB := hid hB
        clear hB hT
        go_wp2
        go_ret
        exact Or.inr ⟨rfl, HN.out, HB.out⟩
  · have fl : ((l1.length : Int) != (l2.length : Int)) = true := by rw [bne_iff_ne]; omega
    have HN : Hid (¬ l1.map RqE.q = l2.map RqE.q) := by
      unfold Hid
      intro h
      have := congrArg List.length h
      rw [List.length_map, List.length_map] at this
      exact hlen this
    clear hlen
    go_enter Tryz.func18, Tryz.ntmps18
    go_wp2
    go_ret
    exact ⟨_, rfl, ⟨fun h => (by cases h), fun h => absurd h HN.out⟩, Below.refl _ _⟩
end Go.Proofs.YtllhibdjopfcnaaGreatDoor
