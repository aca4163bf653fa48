/-
  The walk of the law RowApart.
-/
import Derived.Test.YtkbceaofijngoaaWSame
import Derived.Test.YtkbceaofijngoaaWAwake
namespace Go.Proofs.Ytkbceaofijngoaa
open Go.RowKit
set_option linter.unusedVariables false

theorem str_bytes (a b : RowV) (ha : mayR a = true) (hb : mayR b = true) : ((strOf (rowBytesL a)).toList == (strOf (rowBytesL b)).toList) = sameRow a b := by
  rw [beq_str]
  have e1 : rowBytesL a = rowB a := by rw [rowBytesL, ha, if_pos rfl]
  have e2 : rowBytesL b = rowB b := by rw [rowBytesL, hb, if_pos rfl]
  rw [e1, e2]
  cases h : sameRow a b
  · rw [decide_eq_false]
    intro hs
    have h1 : rowB a = rowB b := by rw [← bytesOf_strOf (rowB_bytes a), ← bytesOf_strOf (rowB_bytes b), hs]
    have h2 := sameRow_iff.2 (rowB_inj ha hb h1)
    rw [h] at h2
    cases h2
  · rw [decide_eq_true]
    rw [sameRow_iff.1 h]

set_option maxRecDepth 20000 in
set_option maxHeartbeats 2000000 in
theorem apart_walk (v1 v2 : Value) (r1 r2 : RowV) (vc vs vi uc us ui : Value) (w : World) (h1 : SeesR w v1 r1 vc vs vi) (h2 : SeesR w v2 r2 uc us ui) :
    Calls Try.prog 7 #[v1, v2] w fun e w' => e = .returned (.bool true) ∧ Below w.heap.size w w' := by
  obtain ⟨W, hW⟩ : ∃ W, W = (w.alloc (.cells #[.string r1.key, vc, vs, vi, .int .i64 r1.who] 27)).alloc (.cells #[.string r2.key, uc, us, ui, .int .i64 r2.who] 27) := ⟨_, rfl⟩
  have hB : Below w.heap.size w W := by rw [hW]; exact (below_alloc w _).alloc (by simp) _
  have hA1 : RowAt W w.heap.size (.string r1.key) vc vs vi (.int .i64 r1.who) := by rw [hW]; exact (RowAt.new _ _ _ _ _ _).box _
  have hA2 : RowAt W (w.heap.size + 1) (.string r2.key) uc us ui (.int .i64 r2.who) := by rw [hW]; exact RowAt.new2 _ _ _ _ _ _ _
  have hsz := hA2.lt
  have s1 := h1.below hB
  have s2 := h2.below hB
  have hR1 := bytes_row v1 r1 vc vs vi W s1
  have HR2 := hid (fun w1 (hb : Below W.heap.size W w1) => bytes_row v2 r2 uc us ui w1 (s2.below hb))
  have HM1 := hid (fun w1 (hb : Below W.heap.size W w1) => mayRow_any v1 r1 vc vs vi w1 (s1.below hb))
  have HM2 := hid (fun w1 (hb : Below W.heap.size W w1) => mayRow_any v2 r2 uc us ui w1 (s2.below hb))
  have HS := hid (fun w1 (hb : Below W.heap.size W w1) => same_row v1 v2 r1 r2 vc vs vi uc us ui w1 (s1.below hb) (s2.below hb))
  have HST := hid (str_bytes r1 r2)
  have HA1 := hid hA1
  have HA2 := hid hA2
  have HB := hid hB
  obtain ⟨c0, c1, c2, c3, c4, _⟩ := hA1.cells
  obtain ⟨d0, d1, d2, d3, d4, _⟩ := hA2.cells
  obtain rfl := h1.val
  obtain rfl := h2.val
  unfold rowVal at *
  clear hA1 hA2 hB s1 s2 h1 h2
  generalize strOf (rowBytesL r1) = t1 at *
  generalize strOf (rowBytesL r2) = t2 at *
  generalize sameRow r1 r2 = bs at *
  generalize r1.key = k1 at *
  generalize r2.key = k2 at *
  generalize r1.who = x1 at *
  generalize r2.who = x2 at *
  go_enter Try.func7, Try.ntmps7
  go_wp2_with fail
  rw [← hW]
  refine hR1.mono ?_
  clear hR1 hW
  rintro e w1 ⟨rfl, q1⟩
  have HQ1 := hid q1
  have hs1 := q1.size
  obtain ⟨e0, e1, e2, e3, e4, _⟩ := (HA1.out.below q1 (by omega)).cells
  obtain ⟨f0, f1, f2, f3, f4, _⟩ := (HA2.out.below q1 (by omega)).cells
  have hR2 := HR2.out w1 q1
  clear c0 c1 c2 c3 c4 d0 d1 d2 d3 d4 HR2 q1
  go_wp2_with fail
  refine hR2.mono ?_
  clear hR2
  rintro e w2 ⟨rfl, q2⟩
  have HQ2 := hid (HQ1.out.trans (q2.mono hs1))
  have hs2 := HQ2.out.size
  obtain ⟨g0, g1, g2, g3, g4, _⟩ := (HA1.out.below HQ2.out (by omega)).cells
  obtain ⟨i0, i1, i2, i3, i4, _⟩ := (HA2.out.below HQ2.out (by omega)).cells
  have hM1 := HM1.out w2 HQ2.out
  have hS := HS.out w2 HQ2.out
  clear e0 e1 e2 e3 e4 f0 f1 f2 f3 f4 HQ1 HM1 HS q2
  by_cases hall : mayR r1 = true ∧ mayR r2 = true
  · obtain ⟨m1, m2⟩ := hall
    have hst := HST.out m1 m2
    rw [m1, m2]
    clear HST HM2 hM1
    unfold errR
    go_wp2_with fail
    refine hS.mono ?_
    clear hS
    rintro e w3 ⟨rfl, q3⟩
    have HF := hid (HB.out.trans ((HQ2.out.trans (q3.mono hs2)).mono (by omega)))
    have hAW := awake_any w3
    have hs3 := q3.size
    clear q3
    cases bs
    · go_wp2_with fail
      refine hAW.mono ?_
      clear hAW
      rintro e w4 ⟨rfl, q4⟩
      go_wp2
      go_ret
      exact ⟨rfl, HF.out.trans (q4.mono (by omega))⟩
    · go_wp2_with fail
      refine hAW.mono ?_
      clear hAW
      rintro e w4 ⟨rfl, q4⟩
      go_wp2
      go_ret
      exact ⟨rfl, HF.out.trans (q4.mono (by omega))⟩
  · clear HST hS
    cases m1 : mayR r1
    · cases m2 : mayR r2
      · rw [m1] at hM1
        rw [m2] at HM2
        unfold errR
        go_wp2_with fail
        refine hM1.mono ?_
        clear hM1
        rintro e w3 ⟨rfl, q3⟩
        have HQ3 := hid (HQ2.out.trans (q3.mono hs2))
        have hs3 := q3.size
        obtain ⟨j0, j1, j2, j3, j4, _⟩ := (HA2.out.below HQ3.out (by omega)).cells
        have hM2 := HM2.out w3 HQ3.out
        clear q3 g0 g1 g2 g3 g4 i0 i1 i2 i3 i4 HM2
        go_wp2_with fail
        refine hM2.mono ?_
        clear hM2
        rintro e w4 ⟨rfl, q4⟩
        have HF := hid (HB.out.trans ((HQ3.out.trans (q4.mono (by omega))).mono (by omega)))
        have hs4 := q4.size
        have hAW := awake_any w4
        clear q4
        go_wp2_with fail
        refine hAW.mono ?_
        clear hAW
        rintro e w5 ⟨rfl, q5⟩
        go_wp2
        go_ret
        exact ⟨rfl, HF.out.trans (q5.mono (by omega))⟩
      · rw [m1] at hM1
        rw [m2] at HM2
        unfold errR
        go_wp2_with fail
        refine hM1.mono ?_
        clear hM1
        rintro e w3 ⟨rfl, q3⟩
        have HQ3 := hid (HQ2.out.trans (q3.mono hs2))
        have hs3 := q3.size
        obtain ⟨j0, j1, j2, j3, j4, _⟩ := (HA2.out.below HQ3.out (by omega)).cells
        have hM2 := HM2.out w3 HQ3.out
        clear q3 g0 g1 g2 g3 g4 i0 i1 i2 i3 i4 HM2
        go_wp2_with fail
        refine hM2.mono ?_
        clear hM2
        rintro e w4 ⟨rfl, q4⟩
        have HF := hid (HB.out.trans ((HQ3.out.trans (q4.mono (by omega))).mono (by omega)))
        have hs4 := q4.size
        have hAW := awake_any w4
        clear q4
        go_wp2_with fail
        refine hAW.mono ?_
        clear hAW
        rintro e w5 ⟨rfl, q5⟩
        go_wp2
        go_ret
        exact ⟨rfl, HF.out.trans (q5.mono (by omega))⟩
    · cases m2 : mayR r2
      · rw [m1] at hM1
        rw [m2] at HM2
        unfold errR
        go_wp2_with fail
        refine hM1.mono ?_
        clear hM1
        rintro e w3 ⟨rfl, q3⟩
        have HQ3 := hid (HQ2.out.trans (q3.mono hs2))
        have hs3 := q3.size
        obtain ⟨j0, j1, j2, j3, j4, _⟩ := (HA2.out.below HQ3.out (by omega)).cells
        have hM2 := HM2.out w3 HQ3.out
        clear q3 g0 g1 g2 g3 g4 i0 i1 i2 i3 i4 HM2
        go_wp2_with fail
        refine hM2.mono ?_
        clear hM2
        rintro e w4 ⟨rfl, q4⟩
        have HF := hid (HB.out.trans ((HQ3.out.trans (q4.mono (by omega))).mono (by omega)))
        have hs4 := q4.size
        have hAW := awake_any w4
        clear q4
        go_wp2_with fail
        refine hAW.mono ?_
        clear hAW
        rintro e w5 ⟨rfl, q5⟩
        go_wp2
        go_ret
        exact ⟨rfl, HF.out.trans (q5.mono (by omega))⟩
      · exact absurd ⟨m1, m2⟩ hall

end Go.Proofs.Ytkbceaofijngoaa
