/-
  The document's Push of a state.
-/
import Derived.Test.YtfnojlgmbfocfaaDoorVTakeB
import Derived.Test.YtfnojlgmbfocfaaDoorVRefC
namespace Go.Proofs.YtfnojlgmbfocfaaDoor
open Go.RowKit
set_option linter.unusedVariables false
set_option linter.unusedSimpArgs false

set_option maxHeartbeats 2000000 in
theorem rpush_full (sv : Value) (s : StL) (vs vk : Value) (n : Int) (w : World) (hS : SeesS w sv s vs vk) (hl : 64 ≤ s.st.length) (hm : s.st.length ≤ 140737488355328) :
    Calls Tryd.prog 19 #[sv, .int .i64 n] w fun e w' => e = .returned (.tuple #[.agg #[.int .i64 0, .slice none 0 0, .slice none 0 0], .int .i64 2]) ∧ Below w.heap.size w w' := by
  obtain ⟨rfl, hs1, hs2, _, _⟩ := hS
  obtain ⟨b1, o1, a1, n1, rfl, hc1, _, _, _⟩ := hs1
  obtain ⟨W, hW⟩ : ∃ W, W = (w.alloc (.cells #[.int .i64 s.pc, .slice a1 s.st.length n1, vk] 25)).alloc (.cells #[.int .i64 0, .slice none 0 0, .slice none 0 0] 25) := ⟨_, rfl⟩
  have hb : Below w.heap.size w W := by rw [hW]; exact below_alloc2 w _ _
  obtain ⟨hz0, hz1⟩ := heap_new1 w (.cells #[.int .i64 s.pc, .slice a1 s.st.length n1, vk] 25) (.cells #[.int .i64 0, .slice none 0 0, .slice none 0 0] 25)
  rw [← hW] at hz0 hz1
  obtain ⟨g0, g1, g2, _, _, _⟩ := cel3 hz0
  obtain ⟨k0, k1, k2, z0, z1, z2⟩ := cel3 hz1
  have nn : ((64 : Int) ≤ (s.st.length : Int)) := by omega
  have HB := hid hb
  have HZ := hid hz1
  clear hb hz0 hz1 hs2
  go_enter Tryd.func19, Tryd.ntmps19
  iterate 9 (first | go_values | go_skip | go_guarded | go_step | go_upon | go_back | go_simp)
  rw [← hW]
  clear hW
  go_wp2
  refine bodyPost_ret (results_ct (fn := Tryd.f19) (p := 4) (u := 5) rfl _ _ (w.heap.size + 1) 25 #[.int .i64 0, .slice none 0 0, .slice none 0 0] (0, 0) _ (.int .i64 2) rfl rfl (fill3_g HZ.out) Tryd.underlying25 rfl) rfl ?_
  exact ⟨rfl, fill3_below HB.out (by omega) _ _ _⟩

set_option maxRecDepth 20000 in
set_option maxHeartbeats 4000000 in
theorem rpush_any (sv : Value) (s : StL) (vs vk : Value) (n : Int) (w : World) (hS : SeesS w sv s vs vk) (hl : s.st.length < 64) (hc : s.ca.length * 8 ≤ 140737488355328) :
    Calls Tryd.prog 19 #[sv, .int .i64 n] w fun e w' => ∃ us uk, e = .returned (.tuple #[.agg #[.int .i64 s.pc, us, uk], .int .i64 0]) ∧ OwnS w' w.heap.size us uk (s.st ++ [n]) s.ca ∧ Below w.heap.size w w' := by
  have hS0 := hS
  obtain ⟨rfl, hs1, hs2, _, _⟩ := hS
  obtain ⟨b1, o1, a1, n1, rfl, hc1, _, _, _⟩ := hs1
  obtain ⟨W, hW⟩ : ∃ W, W = (w.alloc (.cells #[.int .i64 s.pc, .slice a1 s.st.length n1, vk] 25)).alloc (.cells #[.int .i64 0, .slice none 0 0, .slice none 0 0] 25) := ⟨_, rfl⟩
  have hb : Below w.heap.size w W := by rw [hW]; exact below_alloc2 w _ _
  obtain ⟨hz0, hz1⟩ := heap_new1 w (.cells #[.int .i64 s.pc, .slice a1 s.st.length n1, vk] 25) (.cells #[.int .i64 0, .slice none 0 0, .slice none 0 0] 25)
  rw [← hW] at hz0 hz1
  have hsz := (Array.getElem?_eq_some_iff.1 hz1).1
  obtain ⟨g0, g1, g2, _, _, _⟩ := cel3 hz0
  have hC := rcopy_any _ s _ _ W (hS0.below hb) (by omega) hc
  have nn : ¬ ((64 : Int) ≤ (s.st.length : Int)) := by omega
  have HB := hid hb
  have HZ := hid hz1
  clear hb hz0 hz1 hs2 hS0
  go_enter Tryd.func19, Tryd.ntmps19
  iterate 9 (first | go_values | go_skip | go_guarded | go_step | go_upon | go_back | go_simp)
  rw [← hW]
  clear hW
  go_wp2_with fail
  refine hC.mono ?_
  rintro e w1 ⟨us, uk, rfl, o1, o2, sd, b1⟩
  clear hC g0 g1 g2
  obtain ⟨u1, m1, hu1, hm1⟩ := o1.shape
  obtain ⟨u2, m2, hu2, hm2⟩ := o2.shape
  subst hu1
  subst hu2
  obtain ⟨X, hX⟩ : ∃ X, X = (w1.alloc (.cells #[.int .i64 s.pc, .slice u1 s.st.length m1, .slice u2 s.ca.length m2] 25)).alloc (.cells #[.int .i64 n] 3) := ⟨_, rfl⟩
  have hbX : Below w1.heap.size w1 X := by rw [hX]; exact below_alloc2 w1 _ _
  obtain ⟨y0, y1⟩ := heap_new1 w1 (.cells #[.int .i64 s.pc, .slice u1 s.st.length m1, .slice u2 s.ca.length m2] 25) (.cells #[.int .i64 n] 3)
  rw [← hX] at y0 y1
  have hsee : Sees X (.slice (some ⟨w1.heap.size + 1, 0, none⟩) 1 1) [n] := by
    rw [hX]
    have := sees_one (w1.alloc (.cells #[.int .i64 s.pc, .slice u1 s.st.length m1, .slice u2 s.ca.length m2] 25)) n
    simpa using this
  obtain ⟨v', w', hr, ho, hg, hv⟩ := run_app X 23 W.heap.size _ s.st (o1.below hbX) _ [n] hsee (by simp; omega) (by have := b1.size; have := hbX.size; omega)
  have hs1 := b1.size
  have hsX := hbX.size
  have hg1 : w1.heap.size < X.heap.size := (Array.getElem?_eq_some_iff.1 y0).1
  have hlo := fun j hj => o1.lt j hj
  have hne : ∀ j, W.heap.size ≤ j ∧ j < w1.heap.size ∨ True → some w1.heap.size ≠ (Value.slice u1 s.st.length m1).ownBlock := fun _ _ e => by
    have := (hlo _ e.symm).2
    omega
  have x0 := (hg.block w1.heap.size hg1 (hne 0 (Or.inr trivial))).trans y0
  have hz' : w'.heap[w.heap.size + 1]? = some (.cells #[.int .i64 0, .slice none 0 0, .slice none 0 0] 25 (0, 0)) := by
    refine (hg.block (w.heap.size + 1) (by omega) (fun e => ?_)).trans ((hbX.block _ (by omega)).trans ((b1.block _ hsz).trans HZ.out))
    have := (hlo _ e.symm).1
    omega
  obtain ⟨d0, d1, d2, f0, f1, f2⟩ := cel3 x0
  obtain ⟨av, nv, ev, _⟩ := ho.shape
  subst ev
  obtain ⟨Y, hY⟩ : ∃ Y, Y = w'.setCell ⟨w1.heap.size, 1, none⟩ (.slice av (s.st ++ [n]).length nv) := ⟨_, rfl⟩
  have x1 : Y.heap[w1.heap.size]? = some (.cells #[.int .i64 s.pc, .slice av (s.st ++ [n]).length nv, .slice u2 s.ca.length m2] 25 (0, 0)) := by
    rw [hY]
    simp only [World.setCell, Array.getElem?_modify, x0]
    simp
  have hzY : Y.heap[w.heap.size + 1]? = some (.cells #[.int .i64 0, .slice none 0 0, .slice none 0 0] 25 (0, 0)) := by
    rw [hY, far_set (by omega)]
    exact hz'
  obtain ⟨i0, i1, i2, j0, j1, j2⟩ := cel3 x1
  obtain ⟨q0, q1, q2, z0, z1, z2⟩ := cel3 hzY
  have c0X := cel3 y0
  obtain ⟨p0, p1, p2, _, _, _⟩ := c0X
  have hov : Owns Y W.heap.size (.slice av (s.st ++ [n]).length nv) (s.st ++ [n]) := by
    rw [hY]
    refine ownsRow_same ho (fun j hj => far_set (fun e => ?_))
    rcases hv with h9 | h9
    · rw [hj, e] at h9
      exact hne 0 (Or.inr trivial) h9
    · rw [hj, e] at h9
      simp at h9
      omega
  have hok : Owns Y W.heap.size (.slice u2 s.ca.length m2) s.ca := by
    rw [hY]
    have h2 := o2.below hbX
    refine ownsRow_same h2 (fun j hj => ?_)
    have hj2 := (o2.lt j hj)
    rw [far_set (by omega)]
    exact hg.block j (by omega) (fun e => sd j e.symm hj)
  have hdis : ∀ j, (Value.slice av (s.st ++ [n]).length nv).ownBlock = some j → (Value.slice u2 s.ca.length m2).ownBlock ≠ some j := fun j hj e => by
    rcases hv with h9 | h9
    · rw [h9] at hj
      exact sd j hj e
    · rw [h9] at hj
      have := (o2.lt j e).2
      simp at hj
      omega
  have hbY : Below W.heap.size W Y := by
    rw [hY]
    exact ((b1.trans (hbX.mono hs1)).grown hg (by omega) (fun j hj => (hlo j hj).1)).setCell (p := ⟨w1.heap.size, 1, none⟩) hs1 _
  obtain ⟨r0, r1, r2, s0, s1, s2⟩ := cel3 hz'
  have hne2 : ¬ w.heap.size + 1 = w1.heap.size := by omega
  have hne3 : ¬ w1.heap.size = w.heap.size + 1 := by omega
  have e9 : (s.st ++ [n]).length = s.st.length + 1 := by simp
  have HOV := hid hov
  have HOK := hid hok
  have HDI := hid hdis
  have HBY := hid hbY
  have HR := hid hr
  have HZY := hid hzY
  have HSZ := hid hsz
  have HS1 := hid hs1
  rw [e9] at hY i1
  clear hov hok hdis hbY hr hzY hz' x0 x1 y0 y1 ho hg hv hne hlo o1 o2 sd b1 hbX hsee hs1 hsX hg1 e9 hsz
  go_wp2_with (first
    | (at_builtin
       rw [← hX]
       refine wpList_append_run rfl _ _ 23 23 rfl _ _ rfl rfl HR.out ?_
       clear hX)
    | fail)
  have hsz := HSZ.out
  have hs1 := HS1.out
  have hs := HB.out.size
  rw [← hY]
  refine bodyPost_ret (results_ct (fn := Tryd.f19) (p := 4) (u := 5) rfl _ _ (w.heap.size + 1) 25 _ (0, 0) _ (.int .i64 0) rfl rfl (fill3_g HZY.out) Tryd.underlying25 rfl) rfl ?_
  have e9 : (s.st ++ [n]).length = s.st.length + 1 := by simp
  have hov := HOV.out
  unfold Owns at hov
  have hl1 := hov.lt
  have hl2 := HOK.out.lt
  refine ⟨_, _, rfl, ⟨?_, ownsRow_le (ownsRow_same HOK.out (fun j hj => fill3_far _ _ _ (by have := (hl2 j hj).1; omega))) (by omega), fun j hj e => HDI.out j (by cases av <;> exact hj) e⟩, fill3_below (HB.out.trans (HBY.out.mono hs)) (by omega) _ _ _⟩
  have h8 := ownsRow_le (ownsRow_same hov (fun j hj => fill3_far (.int .i64 s.pc) (.slice av (s.st.length + 1) nv) (.slice u2 s.ca.length m2) (by have := (hl1 j hj).1; omega : j ≠ w.heap.size + 1))) hs
  rw [e9] at h8
  unfold Owns
  rw [e9]
  exact h8
end Go.Proofs.YtfnojlgmbfocfaaDoor
