/-
  Whether heads are the same: the document's; two requests of nothing; a parser that nobody made.
-/
import Derived.Test.YtllhibdjopfcnaaDoorPParser
import Derived.Test.YtllhibdjopfcnaaDoorSame
namespace Go.Proofs.YtllhibdjopfcnaaDoor
open Go.RowKit
set_option linter.unusedVariables false

theorem beq_dec (a b : List UInt8) : (a == b) = decide (a = b) := by
  by_cases h : a = b
  · rw [decide_eq_true h, beq_iff_eq]; exact h
  · rw [decide_eq_false h, beq_eq_false_iff_ne]; exact h
theorem beq_decI (a b : Int) : (a == b) = decide (a = b) := by
  by_cases h : a = b
  · rw [decide_eq_true h, beq_iff_eq]; exact h
  · rw [decide_eq_false h, beq_eq_false_iff_ne]; exact h
set_option maxRecDepth 20000 in
set_option maxHeartbeats 4000000 in
theorem rsame7_any (h1 h2 : HeadL) (v1 v2 : Value) (w : World) (hS1 : SeesP w v1 h1.2.2.2) (hS2 : SeesP w v2 h2.2.2.2) (hbig : h1.2.2.2.length ≤ 140737488355328) :
    Calls Tryd.prog 29 #[.agg #[strV h1.1, strV h1.2.1, .int .i64 h1.2.2.1, v1], .agg #[strV h2.1, strV h2.2.1, .int .i64 h2.2.2.1, v2]] w fun e w' => e = .returned (.bool (sameL h1 h2)) ∧ Below w.heap.size w w' := by
  obtain ⟨a1, a2, m1, f1⟩ := h1
  obtain ⟨b1, b2, m2, f2⟩ := h2
  simp only at hS1 hS2 hbig ⊢
  have hH1 := HeadAt.new w (strV a1) (strV a2) (.int .i64 m1) v1
  obtain ⟨w0, hw0⟩ : ∃ w0, w0 = w.alloc (.cells #[strV a1, strV a2, .int .i64 m1, v1] 36) := ⟨_, rfl⟩
  have hB0 : Below w.heap.size w w0 := by rw [hw0]; exact below_alloc w _
  have hz0 : w0.heap.size = w.heap.size + 1 := by rw [hw0]; simp
  rw [← hw0] at hH1
  have hH2 := HeadAt.new w0 (strV b1) (strV b2) (.int .i64 m2) v2
  obtain ⟨w1, hw1⟩ : ∃ w1, w1 = w0.alloc (.cells #[strV b1, strV b2, .int .i64 m2, v2] 36) := ⟨_, rfl⟩
  have hB1 : Below w0.heap.size w0 w1 := by rw [hw1]; exact below_alloc w0 _
  rw [← hw1] at hH2
  have hH1' := hH1.below hB1 hH1.lt
  have hB01 := hB0.trans (hB1.mono (by omega))
  rw [hz0] at hH2
  obtain ⟨p0, p1, p2, p3, _, _, _, _⟩ := hH1'.cells
  obtain ⟨r0, r1, r2, r3, _, _, _, _⟩ := hH2.cells
  have hSm := same_any v1 v2 f1 f2 w1 (hS1.below hB01) (hS2.below hB01) hbig
  have HWW : Hid ((w.alloc (.cells #[.string ⟨a1.toArray⟩, .string ⟨a2.toArray⟩, .int .i64 m1, v1] 36)).alloc (.cells #[.string ⟨b1.toArray⟩, .string ⟨b2.toArray⟩, .int .i64 m2, v2] 36) = w1) := by
    unfold Hid
    rw [hw1, hw0]
    rfl
  have HB := hid hB01
  have hsame : sameL (a1, a2, m1, f1) (b1, b2, m2, f2) = (decide (a1 = b1) && decide (a2 = b2) && decide (m1 = m2) && decide (f1 = f2)) := rfl
  rw [hsame]
  unfold strV at p0 p1 r0 r1 ⊢
  clear hS1 hS2 hw0 hw1 hH1 hH2 hH1' hB0 hB1 hB01 hsame hz0
  have g1 := beq_dec a1 b1
  have g2 := beq_dec a2 b2
  have g3 := beq_decI m1 m2
  by_cases e1 : a1 = b1
  · rw [decide_eq_true e1] at g1 ⊢
    by_cases e2 : a2 = b2
    · rw [decide_eq_true e2] at g2 ⊢
      by_cases e3 : m1 = m2
      · rw [decide_eq_true e3] at g3 ⊢
        obtain ⟨F, hF⟩ : ∃ F, F = decide (f1 = f2) := ⟨_, rfl⟩
        rw [← hF] at hSm ⊢
        clear hF e1 e2 e3
        go_enter Tryd.func29, Tryd.ntmps29
        go_wp2_with fail
        rw [HWW.out]
        go_wp2_with fail
        refine hSm.mono ?_
        clear hSm
        rintro e w2 ⟨rfl, n, hw2⟩
        have HB2 : Hid (Below w.heap.size w w2) := by unfold Hid; rw [hw2]; exact below_drewN HB.out n
        clear hw2
        go_wp2
        go_ret
        exact ⟨rfl, HB2.out⟩
      · rw [decide_eq_false e3] at g3 ⊢
        clear e1 e2 e3 hSm
        go_enter Tryd.func29, Tryd.ntmps29
        go_wp2_with fail
        rw [HWW.out]
        go_wp2
        go_ret
        exact ⟨rfl, HB.out⟩
    · rw [decide_eq_false e2] at g2 ⊢
      clear e1 e2 hSm g3
      go_enter Tryd.func29, Tryd.ntmps29
      go_wp2_with fail
      rw [HWW.out]
      go_wp2
      go_ret
      exact ⟨rfl, HB.out⟩
  · rw [decide_eq_false e1] at g1 ⊢
    clear e1 hSm g2 g3
    go_enter Tryd.func29, Tryd.ntmps29
    go_wp2_with fail
    rw [HWW.out]
    go_wp2
    go_ret
    exact ⟨rfl, HB.out⟩

theorem seesP_nil (w : World) : SeesP w (.slice none 0 0) [] := OwnsP.sees (OwnsP.nil w 0)
set_option maxRecDepth 20000 in
set_option maxHeartbeats 4000000 in
theorem rsame_zero (w : World) :
    Calls Tryd.prog 19 #[.agg #[.string ⟨#[]⟩, .string ⟨#[]⟩, .int .i64 0, .slice none 0 0, .string ⟨#[]⟩, .slice none 0 0, .string ⟨#[]⟩, .bool false], .agg #[.string ⟨#[]⟩, .string ⟨#[]⟩, .int .i64 0, .slice none 0 0, .string ⟨#[]⟩, .slice none 0 0, .string ⟨#[]⟩, .bool false]] w fun e w' => e = .returned (.bool true) ∧ Below w.heap.size w w' := by
  have hR1 := ReqAt.new w (.string ⟨#[]⟩) (.string ⟨#[]⟩) (.int .i64 0) (.slice none 0 0) (.string ⟨#[]⟩) (.slice none 0 0) (.string ⟨#[]⟩) (.bool false)
  have hB1 := below_alloc w (.cells #[.string ⟨#[]⟩, .string ⟨#[]⟩, .int .i64 0, .slice none 0 0, .string ⟨#[]⟩, .slice none 0 0, .string ⟨#[]⟩, .bool false] 38)
  obtain ⟨w1, hw1⟩ : ∃ w1, w1 = w.alloc (.cells #[.string ⟨#[]⟩, .string ⟨#[]⟩, .int .i64 0, .slice none 0 0, .string ⟨#[]⟩, .slice none 0 0, .string ⟨#[]⟩, .bool false] 38) := ⟨_, rfl⟩
  rw [← hw1] at hR1 hB1
  have hz1 : w1.heap.size = w.heap.size + 1 := by rw [hw1]; simp
  have hR2 := ReqAt.new w1 (.string ⟨#[]⟩) (.string ⟨#[]⟩) (.int .i64 0) (.slice none 0 0) (.string ⟨#[]⟩) (.slice none 0 0) (.string ⟨#[]⟩) (.bool false)
  have hB2 := below_alloc w1 (.cells #[.string ⟨#[]⟩, .string ⟨#[]⟩, .int .i64 0, .slice none 0 0, .string ⟨#[]⟩, .slice none 0 0, .string ⟨#[]⟩, .bool false] 38)
  obtain ⟨w2, hw2⟩ : ∃ w2, w2 = w1.alloc (.cells #[.string ⟨#[]⟩, .string ⟨#[]⟩, .int .i64 0, .slice none 0 0, .string ⟨#[]⟩, .slice none 0 0, .string ⟨#[]⟩, .bool false] 38) := ⟨_, rfl⟩
  rw [← hw2] at hR2 hB2
  have hR1' := hR1.below hB2 hR1.lt
  rw [hz1] at hR2
  have hBB := hB1.trans (hB2.mono (by omega))
  have hS := rsame7_any hz hz (.slice none 0 0) (.slice none 0 0) w2 (seesP_nil _) (seesP_nil _) (by decide)
  rw [sameL_self] at hS
  simp only [hz, strV] at hS
  have HW : Hid (w2 = (w.alloc (.cells #[.string ⟨#[]⟩, .string ⟨#[]⟩, .int .i64 0, .slice none 0 0, .string ⟨#[]⟩, .slice none 0 0, .string ⟨#[]⟩, .bool false] 38)).alloc (.cells #[.string ⟨#[]⟩, .string ⟨#[]⟩, .int .i64 0, .slice none 0 0, .string ⟨#[]⟩, .slice none 0 0, .string ⟨#[]⟩, .bool false] 38)) := by unfold Hid; rw [hw2, hw1]
  have HR1 := hid hR1'
  have HR2 := hid hR2
  have HB := hid hBB
  obtain ⟨a0, a1, a2, a3, a4, a5, a6, a7⟩ := hR1'.cells
  obtain ⟨b0, b1, b2, b3, b4, b5, b6, b7⟩ := hR2.cells
  have hlt1 := hR1'.lt
  have hlt2 := hR2.lt
  clear hw1 hw2 hR1 hR2 hR1' hB1 hB2 hBB hz1
  rw [HW.out] at a0 a1 a2 a3 b0 b1 b2 b3 hS
  go_enter Tryd.func19, Tryd.ntmps19
  go_wp2_with fail
  refine hS.mono ?_
  clear hS
  rintro e w3 ⟨rfl, hB3⟩
  rw [← HW.out] at hB3
  obtain ⟨p0, p1, p2, p3, p4, p5, p6, p7⟩ := (HR1.out.below hB3 hlt1).cells
  obtain ⟨q0, q1, q2, q3, q4, q5, q6, q7⟩ := (HR2.out.below hB3 hlt2).cells
  have HB3 := hid (HB.out.trans (hB3.mono HB.out.size))
  have hQ := same_any (.slice none 0 0) (.slice none 0 0) [] [] w3 (seesP_nil _) (seesP_nil _) (by decide)
  rw [decide_eq_true rfl] at hQ
  have HR1' := hid (HR1.out.below hB3 hlt1)
  have HR2' := hid (HR2.out.below hB3 hlt2)
  clear hB3 HR1 HR2 HB a0 a1 a2 a3 a4 a5 a6 a7 b0 b1 b2 b3 b4 b5 b6 b7 hlt1 hlt2
  go_wp2_with fail
  refine hQ.mono ?_
  clear hQ
  rintro e w4 ⟨rfl, n4, hw4⟩
  have hB4 : Below w3.heap.size w3 w4 := by rw [hw4]; exact below_drewN (Below.refl _ _) _
  clear p0 p1 p2 p3 p4 p5 p6 p7 q0 q1 q2 q3 q4 q5 q6 q7
  obtain ⟨p0, p1, p2, p3, p4, p5, p6, p7⟩ := (HR1'.out.below hB4 HR1'.out.lt).cells
  obtain ⟨q0, q1, q2, q3, q4, q5, q6, q7⟩ := (HR2'.out.below hB4 HR2'.out.lt).cells
  have HB4 := hid (HB3.out.trans (hB4.mono HB3.out.size))
  clear hw4 hB4 HB3 HR1' HR2'
  go_wp2
  go_ret
  exact ⟨rfl, HB4.out⟩

/-- v is no parser: nil, or one that nobody made. -/
def NoAt (w : World) (v : Value) : Prop := v = .pointer none ∨ ∃ p, v = .pointer (some ⟨p, 0, none⟩) ∧ p < w.heap.size ∧ w.cell? ⟨p, 0, none⟩ = some (.pointer none)
theorem NoAt.below {w w' : World} {v : Value} (h : NoAt w v) (hb : Below w.heap.size w w') : NoAt w' v := by
  rcases h with h | ⟨p, h1, h2, h3⟩
  · exact Or.inl h
  · exact Or.inr ⟨p, h1, Nat.lt_of_lt_of_le h2 hb.size, (hb.cell h2).trans h3⟩
theorem given_no (v : Value) (w : World) (h : NoAt w v) :
    Calls Tryd.prog 27 #[v] w fun e w' => e = .returned (.bool false) ∧ w = w' := by
  rcases h with rfl | ⟨p, rfl, h2, h3⟩
  · go_enter Tryd.func27, Tryd.ntmps27
    go_wp2
    go_ret
    exact ⟨rfl, rfl⟩
  · have he := eql_nil_some ⟨p, 0, none⟩ w
    clear h2
    go_enter Tryd.func27, Tryd.ntmps27
    go_wp2
    go_ret
    exact ⟨rfl, rfl⟩
theorem left_no (v : Value) (w : World) (h : NoAt w v) : Calls Tryd.prog 17 #[v] w fun e w' => e = .returned (.int .i64 0) ∧ w = w' := by
  have hG := given_no v w h
  clear h
  go_enter Tryd.func17, Tryd.ntmps17
  go_wp2_with fail
  refine hG.mono ?_
  clear hG
  rintro e w1 ⟨rfl, hw1⟩
  subst hw1
  go_wp2
  go_ret
  exact ⟨rfl, rfl⟩
theorem broken_no (v : Value) (w : World) (h : NoAt w v) : Calls Tryd.prog 18 #[v] w fun e w' => e = .returned (.int .i64 0) ∧ w = w' := by
  have hG := given_no v w h
  clear h
  go_enter Tryd.func18, Tryd.ntmps18
  go_wp2_with fail
  refine hG.mono ?_
  clear hG
  rintro e w1 ⟨rfl, hw1⟩
  subst hw1
  go_wp2
  go_ret
  exact ⟨rfl, rfl⟩
theorem copy_no (v : Value) (w : World) (h : NoAt w v) : Calls Tryd.prog 20 #[v] w fun e w' => e = .returned (.pointer none) ∧ w = w' := by
  have hG := given_no v w h
  clear h
  go_enter Tryd.func20, Tryd.ntmps20
  go_wp2_with fail
  refine hG.mono ?_
  clear hG
  rintro e w1 ⟨rfl, hw1⟩
  subst hw1
  go_wp2
  go_ret
  exact ⟨rfl, rfl⟩
theorem feed_no (v : Value) (s : ByteArray) (w : World) (h : NoAt w v) : Calls Tryd.prog 14 #[v, .string s] w fun e w' => e = .returned (.int .i64 1) ∧ w = w' := by
  have hG := given_no v w h
  clear h
  go_enter Tryd.func14, Tryd.ntmps14
  go_wp2_with fail
  refine hG.mono ?_
  clear hG
  rintro e w1 ⟨rfl, hw1⟩
  subst hw1
  go_wp2
  go_ret
  exact ⟨rfl, rfl⟩
set_option maxRecDepth 20000 in
set_option maxHeartbeats 4000000 in
theorem next_no (v : Value) (w : World) (h : NoAt w v) :
    Calls Tryd.prog 15 #[v] w fun e w' => e = .returned (.tuple #[.agg #[.string ⟨#[]⟩, .string ⟨#[]⟩, .int .i64 0, .slice none 0 0, .string ⟨#[]⟩, .slice none 0 0, .string ⟨#[]⟩, .bool false], .bool false, .int .i64 0]) ∧ Below w.heap.size w w' := by
  have hR1 := ReqAt.new w (.string ⟨#[]⟩) (.string ⟨#[]⟩) (.int .i64 0) (.slice none 0 0) (.string ⟨#[]⟩) (.slice none 0 0) (.string ⟨#[]⟩) (.bool false)
  have hB1 := below_alloc w (.cells #[.string ⟨#[]⟩, .string ⟨#[]⟩, .int .i64 0, .slice none 0 0, .string ⟨#[]⟩, .slice none 0 0, .string ⟨#[]⟩, .bool false] 38)
  obtain ⟨w1, hw1⟩ : ∃ w1, w1 = w.alloc (.cells #[.string ⟨#[]⟩, .string ⟨#[]⟩, .int .i64 0, .slice none 0 0, .string ⟨#[]⟩, .slice none 0 0, .string ⟨#[]⟩, .bool false] 38) := ⟨_, rfl⟩
  rw [← hw1] at hR1 hB1
  have hG := given_no v w1 (h.below hB1)
  have HW := hid hw1
  have hR5 := hR1.set8 (.string ⟨#[]⟩) (.string ⟨#[]⟩) (.int .i64 0) (.slice none 0 0) (.string ⟨#[]⟩) (.slice none 0 0) (.string ⟨#[]⟩) (.bool false)
  have HB5 := hid (hB1.trans ((Kept.set8 w.heap.size w1.heap.size w1 (.string ⟨#[]⟩) (.string ⟨#[]⟩) (.int .i64 0) (.slice none 0 0) (.string ⟨#[]⟩) (.slice none 0 0) (.string ⟨#[]⟩) (.bool false)).below (Nat.le_of_lt hR1.lt)))
  unfold set8 at hR5 HB5
  obtain ⟨y0, y1, y2, y3, y4, y5, y6, y7⟩ := hR1.cells
  have x0 := hR1.warm 0
  have x1 := hR1.warm 1
  have x2 := hR1.warm 2
  have x3 := hR1.warm 3
  have x4 := hR1.warm 4
  have x5 := hR1.warm 5
  have x6 := hR1.warm 6
  have x7 := hR1.warm 7
  clear hw1 h hB1 hR1
  go_enter Tryd.func15, Tryd.ntmps15
  go_wp2_with fail
  rw [← HW.out]
  refine hG.mono ?_
  clear hG
  rintro e w1 ⟨rfl, hwx⟩
  subst hwx
  go_wp2
  (try simp only [Exit.inBlock, Exit.then])
  clear y0 y1 y2 y3 y4 y5 y6 y7
  obtain ⟨y0, y1, y2, y3, y4, y5, y6, y7⟩ := hR5.cells
  refine bodyPost_ret (v := .tuple #[.agg #[.string ⟨#[]⟩, .string ⟨#[]⟩, .int .i64 0, .slice none 0 0, .string ⟨#[]⟩, .slice none 0 0, .string ⟨#[]⟩, .bool false], .bool false, .int .i64 0]) (by simp [results, Tryd.results15, go_sem, y0, y1, y2, y3, y4, y5, y6, y7]) rfl ?_
  exact ⟨rfl, HB5.out⟩
end Go.Proofs.YtllhibdjopfcnaaDoor
