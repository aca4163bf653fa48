/-
  The document's Take of a state.
-/
import Derived.Test.YtfnojlgmbfocfaaDoorVTakeR
namespace Go.Proofs.YtfnojlgmbfocfaaDoor
open Go.RowKit
set_option linter.unusedVariables false
set_option linter.unusedSimpArgs false

set_option maxHeartbeats 2000000 in
theorem rtake_bad (sv : Value) (s : StL) (vs vk : Value) (n : Int) (E : Int) (w : World) (hS : SeesS w sv s vs vk) (hE : (n < 0 ∧ E = 1) ∨ (0 ≤ n ∧ (s.st.length : Int) < n ∧ E = 3)) :
    Calls Tryd.prog 21 #[sv, .int .i64 n] w fun e w' => e = .returned (.tuple #[.agg #[.int .i64 0, .slice none 0 0, .slice none 0 0], .slice none 0 0, .int .i64 E]) ∧ Below w.heap.size w w' := by
  obtain ⟨rfl, hs1, hs2, _, _⟩ := hS
  obtain ⟨b1, o1, a1, n1, rfl, hc1, _, _, _⟩ := hs1
  obtain ⟨W, hW⟩ : ∃ W, W = (w.alloc (.cells #[.int .i64 s.pc, .slice a1 s.st.length n1, vk] 25)).alloc (.cells #[.int .i64 0, .slice none 0 0, .slice none 0 0] 25) := ⟨_, rfl⟩
  have hb : Below w.heap.size w W := by rw [hW]; exact below_alloc2 w _ _
  obtain ⟨hz0, hz1⟩ := heap_new1 w (.cells #[.int .i64 s.pc, .slice a1 s.st.length n1, vk] 25) (.cells #[.int .i64 0, .slice none 0 0, .slice none 0 0] 25)
  rw [← hW] at hz0 hz1
  obtain ⟨g0, g1, g2, _, _, _⟩ := cel3 hz0
  obtain ⟨k0, k1, k2, z0, z1, z2⟩ := cel3 hz1
  have HB := hid hb
  have HZ := hid hz1
  clear hb hz0 hz1 hs2
  rcases hE with ⟨h1, rfl⟩ | ⟨h0, h1, rfl⟩
  · go_enter Tryd.func21, Tryd.ntmps21
    iterate 9 (first | go_values | go_skip | go_guarded | go_step | go_upon | go_back | go_simp)
    rw [← hW]
    clear hW
    go_wp2
    refine bodyPost_ret (results_ctt (fn := Tryd.f21) (p1 := 4) (u := 5) (x := 6) rfl _ _ (w.heap.size + 1) 25 #[.int .i64 0, .slice none 0 0, .slice none 0 0] (0, 0) _ (.slice none 0 0) (.int .i64 1) rfl rfl rfl (fill3_g HZ.out) Tryd.underlying25 rfl) rfl ?_
    exact ⟨rfl, fill3_below HB.out (by omega) _ _ _⟩
  · have h2 : ¬ n < 0 := by omega
    go_enter Tryd.func21, Tryd.ntmps21
    iterate 9 (first | go_values | go_skip | go_guarded | go_step | go_upon | go_back | go_simp)
    rw [← hW]
    clear hW
    go_wp2
    refine bodyPost_ret (results_ctt (fn := Tryd.f21) (p1 := 4) (u := 5) (x := 6) rfl _ _ (w.heap.size + 1) 25 #[.int .i64 0, .slice none 0 0, .slice none 0 0] (0, 0) _ (.slice none 0 0) (.int .i64 3) rfl rfl rfl (fill3_g HZ.out) Tryd.underlying25 rfl) rfl ?_
    exact ⟨rfl, fill3_below HB.out (by omega) _ _ _⟩


set_option maxRecDepth 20000 in
set_option maxHeartbeats 4000000 in
theorem rtake_any (sv : Value) (s : StL) (vs vk : Value) (k m : Nat) (w : World) (hS : SeesS w sv s vs vk) (hkm : k + m = s.st.length) (hc0 : s.st.length * 8 ≤ 140737488355328) (hc : s.ca.length * 8 ≤ 140737488355328) :
    Calls Tryd.prog 21 #[sv, .int .i64 (m : Int)] w fun e w' => ∃ us uk ul, e = .returned (.tuple #[.agg #[.int .i64 s.pc, us, uk], ul, .int .i64 0]) ∧ OwnS w' w.heap.size us uk (s.st.take k) s.ca ∧ Owns w' w.heap.size ul (s.st.drop k) ∧ Below w.heap.size w w' := by
  have hS0 := hS
  obtain ⟨rfl, hs1, hs2, _, _⟩ := hS
  obtain ⟨b1, o1, a1, n1, rfl, hc1, _, _, _⟩ := hs1
  obtain ⟨W, hW⟩ : ∃ W, W = (w.alloc (.cells #[.int .i64 s.pc, .slice a1 s.st.length n1, vk] 25)).alloc (.cells #[.int .i64 0, .slice none 0 0, .slice none 0 0] 25) := ⟨_, rfl⟩
  have hb : Below w.heap.size w W := by rw [hW]; exact below_alloc2 w _ _
  obtain ⟨hz0, hz1⟩ := heap_new1 w (.cells #[.int .i64 s.pc, .slice a1 s.st.length n1, vk] 25) (.cells #[.int .i64 0, .slice none 0 0, .slice none 0 0] 25)
  rw [← hW] at hz0 hz1
  have hsz := (Array.getElem?_eq_some_iff.1 hz1).1
  obtain ⟨g0, g1, g2, _, _, _⟩ := cel3 hz0
  have hC := rcopy_any _ s _ _ W (hS0.below hb) hc0 hc
  obtain ⟨L, hL⟩ : ∃ L, s.st.length = L := ⟨_, rfl⟩
  have nn : ¬ ((m : Int) < 0) := by omega
  have nn2 : ¬ ((L : Int) < (m : Int)) := by omega
  have e1 : (L : Int) - (m : Int) = (k : Int) := by omega
  have e2 : IntKind.i64.wrap (k : Int) = (k : Int) := wrap_i64_nat _ (by omega)
  have e4 : (k : Int) ≤ (L : Int) := by omega
  have HB := hid hb
  have HZ := hid hz1
  have HZ0 := hid hz0
  have hWs : w.heap.size + 1 < W.heap.size := hsz
  have HWS := hid hWs
  rw [hL] at hW g1
  have HL := hid hL
  have HKM := hid hkm
  clear hb hz0 hz1 hs2 hS0 hkm hsz hWs
  rw [hL]
  rw [hL] at hc0 hc1
  rw [show @Value.slice a1 s.st.length n1 = .slice a1 L n1 by rw [hL]] at hC
  clear hL
  go_enter Tryd.func21, Tryd.ntmps21
  iterate 9 (first | go_values | go_skip | go_guarded | go_step | go_upon | go_back | go_simp)
  rw [← hW]
  clear hW
  go_wp2_with fail
  refine hC.mono ?_
  rintro e w1 ⟨us, uk, rfl, o1, o2, sd, b1⟩
  clear hC
  obtain ⟨u1, m1, hu1, hm1⟩ := o1.shape
  obtain ⟨u2, m2, hu2, hm2⟩ := o2.shape
  have hL := HL.out
  rw [hL] at hu1 hm1
  subst hu1
  subst hu2
  have hWs := HWS.out
  have hkm := HKM.out
  have hs1 := b1.size
  have hy2 := (b1.block _ hWs).trans HZ.out
  have hy3 := (b1.block w.heap.size (by omega)).trans HZ0.out
  rw [hL] at hkm hy3
  obtain ⟨X, hX⟩ : ∃ X, X = w1.alloc (.cells #[.int .i64 s.pc, .slice u1 L m1, .slice u2 s.ca.length m2] 25) := ⟨_, rfl⟩
  have hbX : Below w1.heap.size w1 X := by rw [hX]; exact below_alloc w1 _
  have y0 : X.heap[w1.heap.size]? = some (.cells #[.int .i64 s.pc, .slice u1 L m1, .slice u2 s.ca.length m2] 25 (0, 0)) := by rw [hX]; exact heap_alloc_new w1 _
  have hsX : X.heap.size = w1.heap.size + 1 := by rw [hX]; simp
  have hseeU := (o1.below hbX).sees
  obtain ⟨U, hU⟩ : ∃ U, U = Value.slice (if m1 = k then u1 else u1.map (fun x => x.add k)) (L - k) (m1 - k) := ⟨_, rfl⟩
  have hsee : Sees X U (s.st.drop k) := by
    by_cases hk : m1 = k
    · rw [hU, if_pos hk, show L - k = 0 by omega, List.drop_eq_nil_of_le (by omega)]
      exact hseeU.end (m1 - k) (fun _ => by omega)
    · rw [hU, if_neg hk]
      cases u1 with
      | none =>
        obtain ⟨_, _, ao, cp, e, _, hn, _⟩ := hseeU
        cases e
        have := hn rfl
        omega
      | some ad => exact hseeU.drop k (by omega)
  obtain ⟨v', w', hr, ho, hg, hv⟩ := run_app X 23 X.heap.size _ [] (Owns.nil X _) U (s.st.drop k) hsee (by simp; omega) (Nat.le_refl _)
  have hb' : Below X.heap.size X w' := (Below.refl _ _).grown hg (Nat.le_refl _) (fun j hj => by simp [Value.ownBlock] at hj)
  have ho' : Owns w' X.heap.size v' (s.st.drop k) := by simpa using ho
  have x0 := (hb'.block _ (by omega)).trans y0
  have hz' : w'.heap[w.heap.size + 1]? = some (.cells #[.int .i64 0, .slice none 0 0, .slice none 0 0] 25 (0, 0)) := (hb'.block _ (by omega)).trans ((hbX.block _ (by omega)).trans hy2)
  obtain ⟨d0, d1, d2, f0, f1, f2⟩ := cel3 x0
  obtain ⟨p0, p1, p2, _, _, _⟩ := cel3 y0
  obtain ⟨l0, l1, l2, _, _, _⟩ := cel3 ((hbX.block _ (by omega)).trans hy3)
  have l1' := l1
  rw [hX] at l1'
  obtain ⟨av, nv, ev, _⟩ := ho'.shape
  have hdl : (s.st.drop k).length = L - k := by rw [List.length_drop, hL]
  rw [hdl] at ev
  subst ev
  obtain ⟨Y, hY⟩ : ∃ Y, Y = w'.setCell ⟨w1.heap.size, 1, none⟩ (.slice u1 k m1) := ⟨_, rfl⟩
  have x1 : Y.heap[w1.heap.size]? = some (.cells #[.int .i64 s.pc, .slice u1 k m1, .slice u2 s.ca.length m2] 25 (0, 0)) := by
    rw [hY]
    simp only [World.setCell, Array.getElem?_modify, x0]
    simp
  have hzY : Y.heap[w.heap.size + 1]? = some (.cells #[.int .i64 0, .slice none 0 0, .slice none 0 0] 25 (0, 0)) := by
    rw [hY, far_set (by omega)]
    exact hz'
  have hlo := fun j hj => o1.lt j hj
  have hlk := fun j hj => o2.lt j hj
  have hov : Owns Y W.heap.size (.slice u1 k m1) (s.st.take k) := by
    rw [hY]
    refine ownsRow_same ((((o1.below hbX).below hb').cut k (by omega))) (fun j hj => far_set (fun e => ?_))
    have := (hlo j (by cases u1 <;> exact hj)).2
    omega
  have hok : Owns Y W.heap.size (.slice u2 s.ca.length m2) s.ca := by
    rw [hY]
    refine ownsRow_same ((o2.below hbX).below hb') (fun j hj => far_set (fun e => ?_))
    have := (hlk j hj).2
    omega
  have hol : Owns Y X.heap.size (.slice av (L - k) nv) (s.st.drop k) := by
    rw [hY]
    refine ownsRow_same ho' (fun j hj => far_set (fun e => ?_))
    have := (ho'.lt j hj).1
    omega
  have hdis : ∀ j, (Value.slice u1 k m1).ownBlock = some j → (Value.slice u2 s.ca.length m2).ownBlock ≠ some j := fun j hj e => sd j (by cases u1 <;> exact hj) e
  have hbY : Below W.heap.size W Y := by
    rw [hY]
    exact (b1.trans ((hbX.mono hs1).trans (hb'.mono (by omega)))).setCell (p := ⟨w1.heap.size, 1, none⟩) hs1 _
  have hne2 : ¬ w.heap.size + 1 = w1.heap.size := by omega
  have hne3 : ¬ w1.heap.size = w.heap.size + 1 := by omega
  have e3 : (k : Int) ≤ (m1 : Int) := by omega
  have e5 : (L : Int) ≤ (m1 : Int) := by omega
  obtain ⟨r0, r1, r2, s0, s1, s2⟩ := cel3 hz'
  have HOV := hid hov
  have HOK := hid hok
  have HOL := hid hol
  have HDI := hid hdis
  have HBY := hid hbY
  have HR := hid hr
  have HZY := hid hzY
  have HU := hid hU
  have HSX := hid hsX
  have HS1 := hid hs1
  clear hov hok hol hdis hbY hr hzY hz' x0 x1 y0 ho ho' hg hv hlo hlk o1 o2 sd b1 hbX hb' hsee hseeU hs1 hsX hWs hkm hy2 hy3 hL hdl hU hm1 hc1
  go_wp2_with (first
    | (at_builtin
       rw [← hX]
       rw [← HU.out]
       refine wpList_append_run rfl _ _ 23 23 rfl _ _ rfl rfl HR.out ?_
       clear hX)
    | fail)
  have hWs := HWS.out
  have hs1 := HS1.out
  have hs := HB.out.size
  have hsX := HSX.out
  rw [← hY]
  refine bodyPost_ret (results_ctt (fn := Tryd.f21) (p1 := 4) (u := 5) (x := 6) rfl _ _ (w.heap.size + 1) 25 _ (0, 0) _ _ (.int .i64 0) rfl rfl rfl (fill3_g HZY.out) Tryd.underlying25 rfl) rfl ?_
  have hl1 := HOV.out.lt
  have hl2 := HOK.out.lt
  have hl3 := HOL.out.lt
  exact ⟨_, _, _, rfl, ⟨ownsRow_le (ownsRow_same HOV.out (fun j hj => fill3_far _ _ _ (by have := (hl1 j hj).1; omega))) hs, ownsRow_le (ownsRow_same HOK.out (fun j hj => fill3_far _ _ _ (by have := (hl2 j hj).1; omega))) hs, HDI.out⟩, ownsRow_le (ownsRow_same HOL.out (fun j hj => fill3_far _ _ _ (by have := (hl3 j hj).1; omega))) (by omega), fill3_below (HB.out.trans (HBY.out.mono hs)) (by omega) _ _ _⟩
end Go.Proofs.YtfnojlgmbfocfaaDoor
