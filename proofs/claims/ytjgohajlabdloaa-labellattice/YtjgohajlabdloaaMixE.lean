/-
  The contract of label's bound, Join and Meet, whatever the labels.
-/
import Derived.Test.YtjgohajlabdloaaMixD
namespace Go.Proofs.Ytjgohajlabdloaa
open Go.RowKit
set_option linter.unusedVariables false
set_option linter.unusedSimpArgs false

set_option maxRecDepth 20000 in
set_option maxHeartbeats 4000000 in
theorem bound_not (a b f g : Value) (s i t j : List Int) (w : World) (hA : SeesL w a s i) (hB : SeesL w b t j) (hm : (mayB s i && mayB t j) = false) :
    Calls Try.prog 37 #[a, b, f, g] w fun e w' => e = .returned (.tuple #[.agg #[.slice none 0 0, .slice none 0 0], .int .i64 20]) ∧ Below w.heap.size w w' := by
  obtain ⟨u1, x1, rfl, a1, a2, a3, a4⟩ := hA
  obtain ⟨u2, x2, rfl, b1, b2, b3, b4⟩ := hB
  obtain ⟨W, hW⟩ : ∃ W, W = ((w.alloc (.cells #[u1, x1] 24)).alloc (.cells #[u2, x2] 24)).alloc (.cells #[.slice none 0 0, .slice none 0 0] 24) := ⟨_, rfl⟩
  have hZ : Below w.heap.size w W := by rw [hW]; exact ((below_alloc w _).alloc (by simp) _).alloc (by simp; omega) _
  have HA1 := hid (show Boxed W w.heap.size u1 x1 by rw [hW]; exact ((Boxed.new _ _ _).box _).box _)
  have HA2 := hid (show Boxed W (w.heap.size + 1) u2 x2 by rw [hW]; exact (Boxed.new2 _ _ _ _).box _)
  have HR := hid (show LabAt W (w.heap.size + 1 + 1) (.slice none 0 0) (.slice none 0 0) by rw [hW]; exact LabAt.new3 _ _ _ _ _)
  have sA : SeesL W (.agg #[u1, x1]) s i := SeesL.below ⟨u1, x1, rfl, a1, a2, a3, a4⟩ hZ
  have sB : SeesL W (.agg #[u2, x2]) t j := SeesL.below ⟨u2, x2, rfl, b1, b2, b3, b4⟩ hZ
  have M1 := hid (fun w1 (h : Below W.heap.size W w1) => checkBoth_any _ _ s i t j w1 (sA.below h) (sB.below h))
  have T1 := hid (a1.below hZ)
  have T2 := hid (a2.below hZ)
  have T3 := hid (b1.below hZ)
  have T4 := hid (b2.below hZ)
  have hszW : W.heap.size = w.heap.size + 3 := by rw [hW]; simp
  have HZ := hid hZ
  have HW := hid hW
  have HB := hid (Below.refl W.heap.size W)
  clear a1 a2 b1 b2 sA sB hZ hW
  obtain ⟨c1, c2⟩ := HA1.out
  obtain ⟨c3, c4⟩ := HA2.out
  rw [hm, show errOf false = 20 from rfl] at M1
  clear hm
  go_enter Try.func37, Try.ntmps37
  go_wp2_with fail
  rw [← HW.out]
  clear HW
  refine (M1.out _ HB.out).mono ?_
  rintro e wq ⟨rfl, h'⟩
  clear M1 c1 c2 c3 c4
  have hRR := HR.out.below h' HR.out.lt
  obtain ⟨y1, y2, y3, y4⟩ := hRR.cells
  obtain ⟨z1, z2, _, _⟩ := (LabAt.store1 (v' := .slice none 0 0) (LabAt.store0 (u' := .slice none 0 0) hRR)).cells
  have HX := hid (((HZ.out.trans (h'.mono HZ.out.size)).setCell (p := ⟨w.heap.size + 1 + 1, 0, none⟩) (by simp; omega) (.slice none 0 0)).setCell (p := ⟨w.heap.size + 1 + 1, 1, none⟩) (by simp; omega) (.slice none 0 0))
  clear hRR h' HB
  go_wp2
  refine bodyPost_ret (v := .tuple #[.agg #[.slice none 0 0, .slice none 0 0], .int .i64 20]) (by simp [results, Try.results37, go_sem, z1, z2]) rfl ?_
  exact ⟨rfl, HX.out⟩

theorem boundJ_all (a b : Value) (s i t j : List Int) (w : World) (hA : SeesL w a s i) (hB : SeesL w b t j) :
    Calls Try.prog 37 #[a, b, .func (.func 29) #[] #[], .func (.func 38) #[] #[]] w fun e w' => ∃ v1 v2, e = .returned (.tuple #[.agg #[v1, v2], .int .i64 (mixE (mayB s i && mayB t j) (sd (s ++ t)) (meetL i j))]) ∧
      Owns w' w.heap.size v1 (mixL (mayB s i && mayB t j) (sd (s ++ t)) (meetL i j) (sd (s ++ t))) ∧ Owns w' w.heap.size v2 (mixL (mayB s i && mayB t j) (sd (s ++ t)) (meetL i j) (meetL i j)) ∧ Below w.heap.size w w' := by
  cases hm : (mayB s i && mayB t j) with
  | true => exact boundJ_may a b s i t j w hA hB hm
  | false =>
    refine (bound_not a b _ _ s i t j w hA hB hm).mono ?_
    rintro e w' ⟨rfl, hb⟩
    exact ⟨.slice none 0 0, .slice none 0 0, by simp [mixE], by simpa [mixL] using owns_nil w' w.heap.size, by simpa [mixL] using owns_nil w' w.heap.size, hb⟩

theorem boundM_all (a b : Value) (s i t j : List Int) (w : World) (hA : SeesL w a s i) (hB : SeesL w b t j) :
    Calls Try.prog 37 #[a, b, .func (.func 38) #[] #[], .func (.func 29) #[] #[]] w fun e w' => ∃ v1 v2, e = .returned (.tuple #[.agg #[v1, v2], .int .i64 (mixE (mayB s i && mayB t j) (meetL s t) (sd (i ++ j)))]) ∧
      Owns w' w.heap.size v1 (mixL (mayB s i && mayB t j) (meetL s t) (sd (i ++ j)) (meetL s t)) ∧ Owns w' w.heap.size v2 (mixL (mayB s i && mayB t j) (meetL s t) (sd (i ++ j)) (sd (i ++ j))) ∧ Below w.heap.size w w' := by
  cases hm : (mayB s i && mayB t j) with
  | true => exact boundM_may a b s i t j w hA hB hm
  | false =>
    refine (bound_not a b _ _ s i t j w hA hB hm).mono ?_
    rintro e w' ⟨rfl, hb⟩
    exact ⟨.slice none 0 0, .slice none 0 0, by simp [mixE], by simpa [mixL] using owns_nil w' w.heap.size, by simpa [mixL] using owns_nil w' w.heap.size, hb⟩

set_option maxRecDepth 20000 in
set_option maxHeartbeats 4000000 in
theorem lJoin_any (a b : Value) (s i t j : List Int) (w : World) (hA : SeesL w a s i) (hB : SeesL w b t j) :
    Calls Try.prog 18 #[a, b] w fun e w' => ∃ v1 v2, e = .returned (.tuple #[.agg #[v1, v2], .int .i64 (mixE (mayB s i && mayB t j) (sd (s ++ t)) (meetL i j))]) ∧
      Owns w' w.heap.size v1 (mixL (mayB s i && mayB t j) (sd (s ++ t)) (meetL i j) (sd (s ++ t))) ∧ Owns w' w.heap.size v2 (mixL (mayB s i && mayB t j) (sd (s ++ t)) (meetL i j) (meetL i j)) ∧ Below w.heap.size w w' := by
  obtain ⟨u1, x1, rfl, a1, a2, a3, a4⟩ := hA
  obtain ⟨u2, x2, rfl, b1, b2, b3, b4⟩ := hB
  obtain ⟨W, hW⟩ : ∃ W, W = ((w.alloc (.cells #[u1, x1] 24)).alloc (.cells #[u2, x2] 24)).alloc (.cells #[.slice none 0 0, .slice none 0 0] 24) := ⟨_, rfl⟩
  have hZ : Below w.heap.size w W := by rw [hW]; exact ((below_alloc w _).alloc (by simp) _).alloc (by simp; omega) _
  have HA1 := hid (show Boxed W w.heap.size u1 x1 by rw [hW]; exact ((Boxed.new _ _ _).box _).box _)
  have HA2 := hid (show Boxed W (w.heap.size + 1) u2 x2 by rw [hW]; exact (Boxed.new2 _ _ _ _).box _)
  have HR := hid (show LabAt W (w.heap.size + 1 + 1) (.slice none 0 0) (.slice none 0 0) by rw [hW]; exact LabAt.new3 _ _ _ _ _)
  have sA : SeesL W (.agg #[u1, x1]) s i := SeesL.below ⟨u1, x1, rfl, a1, a2, a3, a4⟩ hZ
  have sB : SeesL W (.agg #[u2, x2]) t j := SeesL.below ⟨u2, x2, rfl, b1, b2, b3, b4⟩ hZ
  have M1 := hid (fun w1 (h : Below W.heap.size W w1) => boundJ_all _ _ s i t j w1 (sA.below h) (sB.below h))
  have T1 := hid (a1.below hZ)
  have T2 := hid (a2.below hZ)
  have T3 := hid (b1.below hZ)
  have T4 := hid (b2.below hZ)
  have hszW : W.heap.size = w.heap.size + 3 := by rw [hW]; simp
  have HZ := hid hZ
  have HW := hid hW
  have HB := hid (Below.refl W.heap.size W)
  clear a1 a2 b1 b2 sA sB hZ hW
  obtain ⟨c1, c2⟩ := HA1.out
  obtain ⟨c3, c4⟩ := HA2.out
  obtain ⟨EE, hEE⟩ : ∃ X, X = mixE (mayB s i && mayB t j) (sd (s ++ t)) (meetL i j) := ⟨_, rfl⟩
  obtain ⟨PP, hPP⟩ : ∃ X, X = mixL (mayB s i && mayB t j) (sd (s ++ t)) (meetL i j) (sd (s ++ t)) := ⟨_, rfl⟩
  obtain ⟨QQ, hQQ⟩ : ∃ X, X = mixL (mayB s i && mayB t j) (sd (s ++ t)) (meetL i j) (meetL i j) := ⟨_, rfl⟩
  rw [← hEE, ← hPP, ← hQQ] at M1 ⊢
  clear hEE hPP hQQ T1 T2 T3 T4
  go_enter Try.func18, Try.ntmps18
  go_wp2_with fail
  rw [← HW.out]
  clear HW
  refine (M1.out _ HB.out).mono ?_
  rintro e wq ⟨v1, v2, rfl, q1, q2, h'⟩
  clear M1 c1 c2 c3 c4
  have hRR := HR.out.below h' HR.out.lt
  obtain ⟨y1, y2, y3, y4⟩ := hRR.cells
  obtain ⟨b1, o1, ao1, cp1, hv1, _⟩ := q1.sees
  obtain ⟨b2, o2, ao2, cp2, hv2, _⟩ := q2.sees
  subst hv1
  subst hv2
  obtain ⟨z1, z2, _, _⟩ := (LabAt.store1 (v' := .slice ao2 QQ.length cp2) (LabAt.store0 (u' := .slice ao1 PP.length cp1) hRR)).cells
  have HX := hid (And.intro (owns_le (base' := w.heap.size) (owns_far (j := 1) (u := .slice ao2 QQ.length cp2) (owns_far (j := 0) (u := .slice ao1 PP.length cp1) q1 (owns_lab_ne q1 hRR)) (owns_lab_ne q1 hRR)) (by omega)) (And.intro (owns_le (base' := w.heap.size) (owns_far (j := 1) (u := .slice ao2 QQ.length cp2) (owns_far (j := 0) (u := .slice ao1 PP.length cp1) q2 (owns_lab_ne q2 hRR)) (owns_lab_ne q2 hRR)) (by omega)) (((HZ.out.trans (h'.mono HZ.out.size)).setCell (p := ⟨w.heap.size + 1 + 1, 0, none⟩) (by simp; omega) (.slice ao1 PP.length cp1)).setCell (p := ⟨w.heap.size + 1 + 1, 1, none⟩) (by simp; omega) (.slice ao2 QQ.length cp2))))
  clear hRR h' HB q1 q2
  go_wp2
  refine bodyPost_ret (v := .tuple #[.agg #[.slice ao1 PP.length cp1, .slice ao2 QQ.length cp2], .int .i64 EE]) (by simp [results, Try.results18, go_sem, z1, z2]) rfl ?_
  exact ⟨_, _, rfl, HX.out.1, HX.out.2.1, HX.out.2.2⟩

set_option maxRecDepth 20000 in
set_option maxHeartbeats 4000000 in
theorem lMeet_any (a b : Value) (s i t j : List Int) (w : World) (hA : SeesL w a s i) (hB : SeesL w b t j) :
    Calls Try.prog 20 #[a, b] w fun e w' => ∃ v1 v2, e = .returned (.tuple #[.agg #[v1, v2], .int .i64 (mixE (mayB s i && mayB t j) (meetL s t) (sd (i ++ j)))]) ∧
      Owns w' w.heap.size v1 (mixL (mayB s i && mayB t j) (meetL s t) (sd (i ++ j)) (meetL s t)) ∧ Owns w' w.heap.size v2 (mixL (mayB s i && mayB t j) (meetL s t) (sd (i ++ j)) (sd (i ++ j))) ∧ Below w.heap.size w w' := by
  obtain ⟨u1, x1, rfl, a1, a2, a3, a4⟩ := hA
  obtain ⟨u2, x2, rfl, b1, b2, b3, b4⟩ := hB
  obtain ⟨W, hW⟩ : ∃ W, W = ((w.alloc (.cells #[u1, x1] 24)).alloc (.cells #[u2, x2] 24)).alloc (.cells #[.slice none 0 0, .slice none 0 0] 24) := ⟨_, rfl⟩
  have hZ : Below w.heap.size w W := by rw [hW]; exact ((below_alloc w _).alloc (by simp) _).alloc (by simp; omega) _
  have HA1 := hid (show Boxed W w.heap.size u1 x1 by rw [hW]; exact ((Boxed.new _ _ _).box _).box _)
  have HA2 := hid (show Boxed W (w.heap.size + 1) u2 x2 by rw [hW]; exact (Boxed.new2 _ _ _ _).box _)
  have HR := hid (show LabAt W (w.heap.size + 1 + 1) (.slice none 0 0) (.slice none 0 0) by rw [hW]; exact LabAt.new3 _ _ _ _ _)
  have sA : SeesL W (.agg #[u1, x1]) s i := SeesL.below ⟨u1, x1, rfl, a1, a2, a3, a4⟩ hZ
  have sB : SeesL W (.agg #[u2, x2]) t j := SeesL.below ⟨u2, x2, rfl, b1, b2, b3, b4⟩ hZ
  have M1 := hid (fun w1 (h : Below W.heap.size W w1) => boundM_all _ _ s i t j w1 (sA.below h) (sB.below h))
  have T1 := hid (a1.below hZ)
  have T2 := hid (a2.below hZ)
  have T3 := hid (b1.below hZ)
  have T4 := hid (b2.below hZ)
  have hszW : W.heap.size = w.heap.size + 3 := by rw [hW]; simp
  have HZ := hid hZ
  have HW := hid hW
  have HB := hid (Below.refl W.heap.size W)
  clear a1 a2 b1 b2 sA sB hZ hW
  obtain ⟨c1, c2⟩ := HA1.out
  obtain ⟨c3, c4⟩ := HA2.out
  obtain ⟨EE, hEE⟩ : ∃ X, X = mixE (mayB s i && mayB t j) (meetL s t) (sd (i ++ j)) := ⟨_, rfl⟩
  obtain ⟨PP, hPP⟩ : ∃ X, X = mixL (mayB s i && mayB t j) (meetL s t) (sd (i ++ j)) (meetL s t) := ⟨_, rfl⟩
  obtain ⟨QQ, hQQ⟩ : ∃ X, X = mixL (mayB s i && mayB t j) (meetL s t) (sd (i ++ j)) (sd (i ++ j)) := ⟨_, rfl⟩
  rw [← hEE, ← hPP, ← hQQ] at M1 ⊢
  clear hEE hPP hQQ T1 T2 T3 T4
  go_enter Try.func20, Try.ntmps20
  go_wp2_with fail
  rw [← HW.out]
  clear HW
  refine (M1.out _ HB.out).mono ?_
  rintro e wq ⟨v1, v2, rfl, q1, q2, h'⟩
  clear M1 c1 c2 c3 c4
  have hRR := HR.out.below h' HR.out.lt
  obtain ⟨y1, y2, y3, y4⟩ := hRR.cells
  obtain ⟨b1, o1, ao1, cp1, hv1, _⟩ := q1.sees
  obtain ⟨b2, o2, ao2, cp2, hv2, _⟩ := q2.sees
  subst hv1
  subst hv2
  obtain ⟨z1, z2, _, _⟩ := (LabAt.store1 (v' := .slice ao2 QQ.length cp2) (LabAt.store0 (u' := .slice ao1 PP.length cp1) hRR)).cells
  have HX := hid (And.intro (owns_le (base' := w.heap.size) (owns_far (j := 1) (u := .slice ao2 QQ.length cp2) (owns_far (j := 0) (u := .slice ao1 PP.length cp1) q1 (owns_lab_ne q1 hRR)) (owns_lab_ne q1 hRR)) (by omega)) (And.intro (owns_le (base' := w.heap.size) (owns_far (j := 1) (u := .slice ao2 QQ.length cp2) (owns_far (j := 0) (u := .slice ao1 PP.length cp1) q2 (owns_lab_ne q2 hRR)) (owns_lab_ne q2 hRR)) (by omega)) (((HZ.out.trans (h'.mono HZ.out.size)).setCell (p := ⟨w.heap.size + 1 + 1, 0, none⟩) (by simp; omega) (.slice ao1 PP.length cp1)).setCell (p := ⟨w.heap.size + 1 + 1, 1, none⟩) (by simp; omega) (.slice ao2 QQ.length cp2))))
  clear hRR h' HB q1 q2
  go_wp2
  refine bodyPost_ret (v := .tuple #[.agg #[.slice ao1 PP.length cp1, .slice ao2 QQ.length cp2], .int .i64 EE]) (by simp [results, Try.results20, go_sem, z1, z2]) rfl ?_
  exact ⟨_, _, rfl, HX.out.1, HX.out.2.1, HX.out.2.2⟩

end Go.Proofs.Ytjgohajlabdloaa
