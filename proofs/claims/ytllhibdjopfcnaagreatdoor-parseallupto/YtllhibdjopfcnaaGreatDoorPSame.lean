/-
  Whether two requests are the same, and two lists of them: the document's.
-/
import Derived.Test.YtllhibdjopfcnaaGreatDoorPSame7
namespace Go.Proofs.YtllhibdjopfcnaaGreatDoor
open Go.RowKit
set_option linter.unusedVariables false

def sameRq (a b : ReqL) : Bool := sameL a.head b.head && decide (a.path = b.path) && decide (a.query = b.query) && decide (a.body = b.body) && decide (a.close = b.close)
theorem sameRq_iff {a b : ReqL} : sameRq a b = true ↔ a = b := by
  obtain ⟨h1, p1, q1, b1, c1⟩ := a
  obtain ⟨h2, p2, q2, b2, c2⟩ := b
  simp only [sameRq, Bool.and_eq_true, decide_eq_true_eq, sameL_iff, ReqL.mk.injEq]
  constructor
  · rintro ⟨⟨⟨⟨x1, x2⟩, x3⟩, x4⟩, x5⟩
    exact ⟨x1, x2, x3, x4, x5⟩
  · rintro ⟨x1, x2, x3, x4, x5⟩
    exact ⟨⟨⟨⟨x1, x2⟩, x3⟩, x4⟩, x5⟩
theorem beq_decB (a b : Bool) : (a == b) = decide (a = b) := by cases a <;> cases b <;> rfl
set_option maxRecDepth 20000 in
set_option maxHeartbeats 8000000 in
theorem rsame_any (e1 e2 : RqE) (w : World) (h1 : SeesP w e1.vf e1.q.head.2.2.2 ∧ SeesP w e1.vq e1.q.query) (h2 : SeesP w e2.vf e2.q.head.2.2.2 ∧ SeesP w e2.vq e2.q.query) (hf : e1.q.head.2.2.2.length ≤ 140737488355328) (hq : e1.q.query.length ≤ 140737488355328) :
    Calls Tryz.prog 11 #[.agg #[.string ⟨e1.q.head.1.toArray⟩, .string ⟨e1.q.head.2.1.toArray⟩, .int .i64 e1.q.head.2.2.1, .slice e1.af e1.q.head.2.2.2.length e1.cf, .string ⟨e1.q.path.toArray⟩, .slice e1.aq e1.q.query.length e1.cq, .string ⟨e1.q.body.toArray⟩, .bool e1.q.close], .agg #[.string ⟨e2.q.head.1.toArray⟩, .string ⟨e2.q.head.2.1.toArray⟩, .int .i64 e2.q.head.2.2.1, .slice e2.af e2.q.head.2.2.2.length e2.cf, .string ⟨e2.q.path.toArray⟩, .slice e2.aq e2.q.query.length e2.cq, .string ⟨e2.q.body.toArray⟩, .bool e2.q.close]] w fun e w' => e = .returned (.bool (sameRq e1.q e2.q)) ∧ Below w.heap.size w w' := by
  have hR1 := ReqAt.new w (.string ⟨e1.q.head.1.toArray⟩) (.string ⟨e1.q.head.2.1.toArray⟩) (.int .i64 e1.q.head.2.2.1) (.slice e1.af e1.q.head.2.2.2.length e1.cf) (.string ⟨e1.q.path.toArray⟩) (.slice e1.aq e1.q.query.length e1.cq) (.string ⟨e1.q.body.toArray⟩) (.bool e1.q.close)
  have hB1 := below_alloc w (.cells #[.string ⟨e1.q.head.1.toArray⟩, .string ⟨e1.q.head.2.1.toArray⟩, .int .i64 e1.q.head.2.2.1, .slice e1.af e1.q.head.2.2.2.length e1.cf, .string ⟨e1.q.path.toArray⟩, .slice e1.aq e1.q.query.length e1.cq, .string ⟨e1.q.body.toArray⟩, .bool e1.q.close] 36)
  obtain ⟨w1, hw1⟩ : ∃ w1, w1 = w.alloc (.cells #[.string ⟨e1.q.head.1.toArray⟩, .string ⟨e1.q.head.2.1.toArray⟩, .int .i64 e1.q.head.2.2.1, .slice e1.af e1.q.head.2.2.2.length e1.cf, .string ⟨e1.q.path.toArray⟩, .slice e1.aq e1.q.query.length e1.cq, .string ⟨e1.q.body.toArray⟩, .bool e1.q.close] 36) := ⟨_, rfl⟩
  rw [← hw1] at hR1 hB1
  have hz1 : w1.heap.size = w.heap.size + 1 := by rw [hw1]; simp
  have hR2 := ReqAt.new w1 (.string ⟨e2.q.head.1.toArray⟩) (.string ⟨e2.q.head.2.1.toArray⟩) (.int .i64 e2.q.head.2.2.1) (.slice e2.af e2.q.head.2.2.2.length e2.cf) (.string ⟨e2.q.path.toArray⟩) (.slice e2.aq e2.q.query.length e2.cq) (.string ⟨e2.q.body.toArray⟩) (.bool e2.q.close)
  have hB2 := below_alloc w1 (.cells #[.string ⟨e2.q.head.1.toArray⟩, .string ⟨e2.q.head.2.1.toArray⟩, .int .i64 e2.q.head.2.2.1, .slice e2.af e2.q.head.2.2.2.length e2.cf, .string ⟨e2.q.path.toArray⟩, .slice e2.aq e2.q.query.length e2.cq, .string ⟨e2.q.body.toArray⟩, .bool e2.q.close] 36)
  obtain ⟨w2, hw2⟩ : ∃ w2, w2 = w1.alloc (.cells #[.string ⟨e2.q.head.1.toArray⟩, .string ⟨e2.q.head.2.1.toArray⟩, .int .i64 e2.q.head.2.2.1, .slice e2.af e2.q.head.2.2.2.length e2.cf, .string ⟨e2.q.path.toArray⟩, .slice e2.aq e2.q.query.length e2.cq, .string ⟨e2.q.body.toArray⟩, .bool e2.q.close] 36) := ⟨_, rfl⟩
  rw [← hw2] at hR2 hB2
  have hR1' := hR1.below hB2 hR1.lt
  rw [hz1] at hR2
  have hBB := hB1.trans (hB2.mono (by omega))
  have hS := rsame7_any e1.q.head e2.q.head e1.vf e2.vf w2 (h1.1.below hBB) (h2.1.below hBB) hf
  simp only [strV, RqE.vf] at hS
  have HSQ := hid (fun (w' : World) (hb : Below w2.heap.size w2 w') => same_any e1.vq e2.vq e1.q.query e2.q.query w' ((h1.2.below hBB).below hb) ((h2.2.below hBB).below hb) hq)
  simp only [RqE.vq] at HSQ
  have HW : Hid (w2 = (w.alloc (.cells #[.string ⟨e1.q.head.1.toArray⟩, .string ⟨e1.q.head.2.1.toArray⟩, .int .i64 e1.q.head.2.2.1, .slice e1.af e1.q.head.2.2.2.length e1.cf, .string ⟨e1.q.path.toArray⟩, .slice e1.aq e1.q.query.length e1.cq, .string ⟨e1.q.body.toArray⟩, .bool e1.q.close] 36)).alloc (.cells #[.string ⟨e2.q.head.1.toArray⟩, .string ⟨e2.q.head.2.1.toArray⟩, .int .i64 e2.q.head.2.2.1, .slice e2.af e2.q.head.2.2.2.length e2.cf, .string ⟨e2.q.path.toArray⟩, .slice e2.aq e2.q.query.length e2.cq, .string ⟨e2.q.body.toArray⟩, .bool e2.q.close] 36)) := by unfold Hid; rw [hw2, hw1]
  have HR1 := hid hR1'
  have HR2 := hid hR2
  have HB := hid hBB
  obtain ⟨a0, a1, a2, a3, a4, a5, a6, a7⟩ := hR1'.cells
  obtain ⟨b0, b1, b2, b3, b4, b5, b6, b7⟩ := hR2.cells
  have hlt1 := hR1'.lt
  have hlt2 := hR2.lt
  clear hw1 hw2 hR1 hR2 hR1' hB1 hB2 hBB hz1 h1 h2
  rw [HW.out] at a0 a1 a2 a3 b0 b1 b2 b3
  clear a4 a5 a6 a7 b4 b5 b6 b7
  have g1 := beq_dec e1.q.path e2.q.path
  have g2 := beq_dec e1.q.body e2.q.body
  have g3 := beq_decB e1.q.close e2.q.close
  unfold sameRq
  cases hH : sameL e1.q.head e2.q.head with
  | false =>
    rw [hH] at hS
    clear g1 g2 g3 HSQ hH
    go_enter Tryz.func11, Tryz.ntmps11
    go_wp2_with fail
    rw [← HW.out]
    refine hS.mono ?_
    clear hS
    rintro e w3 ⟨rfl, hB3⟩
    obtain ⟨p0, p1, p2, p3, p4, p5, p6, p7⟩ := (HR1.out.below hB3 hlt1).cells
    obtain ⟨q0, q1, q2, q3, q4, q5, q6, q7⟩ := (HR2.out.below hB3 hlt2).cells
    have HB3 := hid (HB.out.trans (hB3.mono HB.out.size))
    clear hB3 HR1 HR2 HB a0 a1 a2 a3 b0 b1 b2 b3 hlt1 hlt2
    go_wp2
    go_ret
    exact ⟨rfl, HB3.out⟩
  | true =>
    rw [hH] at hS
    by_cases hp : e1.q.path = e2.q.path
    · rw [decide_eq_true hp] at g1 ⊢
      clear hp hH
      obtain ⟨QQ, hQQ⟩ : ∃ Q, Q = decide (e1.q.query = e2.q.query) := ⟨_, rfl⟩
      rw [← hQQ] at HSQ ⊢
      clear hQQ
      cases QQ with
      | false =>
        clear g2 g3
        go_enter Tryz.func11, Tryz.ntmps11
        go_wp2_with fail
        rw [← HW.out]
        refine hS.mono ?_
        clear hS
        rintro e w3 ⟨rfl, hB3⟩
        obtain ⟨p0, p1, p2, p3, p4, p5, p6, p7⟩ := (HR1.out.below hB3 hlt1).cells
        obtain ⟨q0, q1, q2, q3, q4, q5, q6, q7⟩ := (HR2.out.below hB3 hlt2).cells
        have HB3 := hid (HB.out.trans (hB3.mono HB.out.size))
        have hQ := HSQ.out w3 hB3
        clear HSQ
        have HR1' := hid (HR1.out.below hB3 hlt1)
        have HR2' := hid (HR2.out.below hB3 hlt2)
        clear hB3 HR1 HR2 HB a0 a1 a2 a3 b0 b1 b2 b3 hlt1 hlt2
        go_wp2_with fail
        refine hQ.mono ?_
        clear hQ
        rintro e w4 ⟨rfl, n4, hw4⟩
        have hB4 : Below w3.heap.size w3 w4 := by rw [hw4]; exact below_drewN (Below.refl _ _) _
        clear p0 p1 p2 p3 p4 p5 p6 p7 q0 q1 q2 q3 q4 q5 q6 q7
        obtain ⟨p0, p1, p2, p3, p4, p5, p6, p7⟩ := (HR1'.out.below hB4 HR1'.out.lt).cells
        obtain ⟨q0, q1, q2, q3, q4, q5, q6, q7⟩ := (HR2'.out.below hB4 HR2'.out.lt).cells
        have HB4 := hid (HB3.out.trans (hB4.mono HB3.out.size))
        clear hw4 hB4 HB3 HR1' HR2'
        go_wp2
        go_ret
        exact ⟨rfl, HB4.out⟩
      | true =>
        by_cases hb : e1.q.body = e2.q.body
        · rw [decide_eq_true hb] at g2 ⊢
          clear hb
          obtain ⟨CC, hCC⟩ : ∃ C, C = decide (e1.q.close = e2.q.close) := ⟨_, rfl⟩
          rw [← hCC] at g3 ⊢
          clear hCC
          go_enter Tryz.func11, Tryz.ntmps11
          go_wp2_with fail
          rw [← HW.out]
          refine hS.mono ?_
          clear hS
          rintro e w3 ⟨rfl, hB3⟩
          obtain ⟨p0, p1, p2, p3, p4, p5, p6, p7⟩ := (HR1.out.below hB3 hlt1).cells
          obtain ⟨q0, q1, q2, q3, q4, q5, q6, q7⟩ := (HR2.out.below hB3 hlt2).cells
          have HB3 := hid (HB.out.trans (hB3.mono HB.out.size))
          have hQ := HSQ.out w3 hB3
          clear HSQ
          have HR1' := hid (HR1.out.below hB3 hlt1)
          have HR2' := hid (HR2.out.below hB3 hlt2)
          clear hB3 HR1 HR2 HB a0 a1 a2 a3 b0 b1 b2 b3 hlt1 hlt2
          go_wp2_with fail
          refine hQ.mono ?_
          clear hQ
          rintro e w4 ⟨rfl, n4, hw4⟩
          have hB4 : Below w3.heap.size w3 w4 := by rw [hw4]; exact below_drewN (Below.refl _ _) _
          clear p0 p1 p2 p3 p4 p5 p6 p7 q0 q1 q2 q3 q4 q5 q6 q7
          obtain ⟨p0, p1, p2, p3, p4, p5, p6, p7⟩ := (HR1'.out.below hB4 HR1'.out.lt).cells
          obtain ⟨q0, q1, q2, q3, q4, q5, q6, q7⟩ := (HR2'.out.below hB4 HR2'.out.lt).cells
          have HB4 := hid (HB3.out.trans (hB4.mono HB3.out.size))
          clear hw4 hB4 HB3 HR1' HR2'
          go_wp2
          go_ret
          exact ⟨rfl, HB4.out⟩
        · rw [decide_eq_false hb] at g2 ⊢
          clear hb g3
          go_enter Tryz.func11, Tryz.ntmps11
          go_wp2_with fail
          rw [← HW.out]
          refine hS.mono ?_
          clear hS
          rintro e w3 ⟨rfl, hB3⟩
          obtain ⟨p0, p1, p2, p3, p4, p5, p6, p7⟩ := (HR1.out.below hB3 hlt1).cells
          obtain ⟨q0, q1, q2, q3, q4, q5, q6, q7⟩ := (HR2.out.below hB3 hlt2).cells
          have HB3 := hid (HB.out.trans (hB3.mono HB.out.size))
          have hQ := HSQ.out w3 hB3
          clear HSQ
          have HR1' := hid (HR1.out.below hB3 hlt1)
          have HR2' := hid (HR2.out.below hB3 hlt2)
          clear hB3 HR1 HR2 HB a0 a1 a2 a3 b0 b1 b2 b3 hlt1 hlt2
          go_wp2_with fail
          refine hQ.mono ?_
          clear hQ
          rintro e w4 ⟨rfl, n4, hw4⟩
          have hB4 : Below w3.heap.size w3 w4 := by rw [hw4]; exact below_drewN (Below.refl _ _) _
          clear p0 p1 p2 p3 p4 p5 p6 p7 q0 q1 q2 q3 q4 q5 q6 q7
          obtain ⟨p0, p1, p2, p3, p4, p5, p6, p7⟩ := (HR1'.out.below hB4 HR1'.out.lt).cells
          obtain ⟨q0, q1, q2, q3, q4, q5, q6, q7⟩ := (HR2'.out.below hB4 HR2'.out.lt).cells
          have HB4 := hid (HB3.out.trans (hB4.mono HB3.out.size))
          clear hw4 hB4 HB3 HR1' HR2'
          go_wp2
          go_ret
          exact ⟨rfl, HB4.out⟩
    · rw [decide_eq_false hp] at g1 ⊢
      clear hp hH g2 g3 HSQ
      go_enter Tryz.func11, Tryz.ntmps11
      go_wp2_with fail
      rw [← HW.out]
      refine hS.mono ?_
      clear hS
      rintro e w3 ⟨rfl, hB3⟩
      obtain ⟨p0, p1, p2, p3, p4, p5, p6, p7⟩ := (HR1.out.below hB3 hlt1).cells
      obtain ⟨q0, q1, q2, q3, q4, q5, q6, q7⟩ := (HR2.out.below hB3 hlt2).cells
      have HB3 := hid (HB.out.trans (hB3.mono HB.out.size))
      clear hB3 HR1 HR2 HB a0 a1 a2 a3 b0 b1 b2 b3 hlt1 hlt2
      go_wp2
      go_ret
      exact ⟨rfl, HB3.out⟩
end Go.Proofs.YtllhibdjopfcnaaGreatDoor
