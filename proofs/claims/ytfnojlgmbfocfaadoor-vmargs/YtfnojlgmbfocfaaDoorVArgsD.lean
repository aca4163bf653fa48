/-
  The walk of the law VmArgs, one of its ways.
-/
import Derived.Test.YtfnojlgmbfocfaaDoorVArgsL
namespace Go.Proofs.YtfnojlgmbfocfaaDoor
open Go.RowKit
set_option linter.unusedVariables false
set_option linter.unusedSimpArgs false

set_option maxRecDepth 20000 in
set_option maxHeartbeats 8000000 in
theorem args_walkD (v : Value) (l : List InsL) (c : Value) (s : StL) (vs vk : Value) (m : ByteArray) (fuel : Int) (w : World) (hS : SeesW w v l c s vs vk m) (hT : Tabs w) (hA : Hid (¬ (checkL l).1 = 0)) (hB : Hid (¬ fuel < 0)) :
    Calls Tryd.prog 7 #[v, .int .i64 fuel] w fun e w' => e = .returned (.bool true) ∧ Below w.heap.size w w' := by
  have hS0 := hS
  obtain ⟨rfl, hc, hst, hcl, hml⟩ := hS
  obtain ⟨W, hW⟩ : ∃ W, W = w.alloc (.cells #[c, .int .i64 s.pc, vs, vk, .string m] 27) := ⟨_, rfl⟩
  have hb : Below w.heap.size w W := by rw [hW]; exact below_alloc w _
  have hz : WorkAt W w.heap.size c s.pc vs vk m := ⟨by rw [hW]; exact heap_alloc_new w _⟩
  have hTW := hT.below hb
  have HC := hid (fun w1 (h : Below W.heap.size W w1) => (hc.below hb).below h)
  have HST := hid (fun w1 (h : Below W.heap.size W w1) => (hst.below hb).below h)
  have HTT := hid (fun w1 (h : Below W.heap.size W w1) => hTW.below h)
  have HZ := hid (fun w1 (h : Below W.heap.size W w1) => hz.below h)
  have hr1 := run_bad c l _ s vs vk 9 .nilIface false (Or.inr ⟨rfl, rfl⟩) W (hc.below hb) hTW (hst.below hb) hcl (by rw [refL_nil]; exact refF_ne l)
  rw [refL_nil] at hr1
  have HRB := hid (fun w1 q (h : Below W.heap.size W w1) (hf : fuel < 0 ∨ 1048576 < fuel) => run_bad c l _ s vs vk fuel (memV q) true (Or.inl ⟨rfl, q, rfl⟩) w1 ((hc.below hb).below h) (hTW.below h) ((hst.below hb).below h) hcl (by rw [refL_fuel l s true fuel hf]; exact refF_ne l))
  have HCK := hid (fun w1 (h : Below W.heap.size W w1) => rcheck_any c l w1 ((hc.below hb).below h) hcl)
  have HAW := hid (fun w1 (h : Below W.heap.size W w1) => awake_any w1 (hTW.below h))
  have hG := guardSt
  have hNE := neqSt
  obtain ⟨g0, g1, g2, g3, g4⟩ := hz.cells
  have HB := hid hb
  obtain ⟨F, hF⟩ : ∃ F, F = refF l := ⟨_, rfl⟩
  rw [← hF] at hr1
  have HF := hid hF
  have hF0 : F ≠ 0 := by rw [hF]; exact refF_ne l
  clear hS0 hc hst hb hz hTW hT hF
  go_enter Tryd.func7, Tryd.ntmps7
  iterate 6 (first | go_values | go_skip | go_guarded | go_step | go_upon | go_back | go_simp)
  rw [← hW]
  clear hW
  go_wp2_with fail
  refine hr1.mono ?_
  rintro e w1 ⟨rfl, b1⟩
  obtain ⟨W1, hW1⟩ : ∃ W1, W1 = (w1.alloc (.cells #[.int .i64 0, .slice none 0 0, .slice none 0 0] 25)).alloc (.cells #[.int .i64 0, .int .i64 0, .int .i64 0] 33) := ⟨_, rfl⟩
  have hbw1 : Below w1.heap.size w1 W1 := by rw [hW1]; exact below_alloc2 w1 _ _
  have z1 : W1.heap[w1.heap.size]? = some (.cells #[.int .i64 0, .slice none 0 0, .slice none 0 0] 25 (0, 0)) := by rw [hW1, Below.heap_alloc _ _ _ (by simp)]; exact heap_alloc_new w1 _
  have z2 : W1.heap[w1.heap.size + 1]? = some (.cells #[.int .i64 0, .int .i64 0, .int .i64 0] 33 (0, 0)) := by
    rw [hW1]
    have := heap_alloc_new (w1.alloc (.cells #[.int .i64 0, .slice none 0 0, .slice none 0 0] 25)) (.cells #[.int .i64 0, .int .i64 0, .int .i64 0] 33)
    simpa using this
  have hzl := (Array.getElem?_eq_some_iff.1 z2).1
  have hB1 : Below W.heap.size W W1 := b1.trans (hbw1.mono b1.size)
  obtain ⟨e0, e1, e2, e3, e4⟩ := (HZ.out w1 b1).cells
  obtain ⟨f0, f1, f2, f3, f4⟩ := (HZ.out W1 hB1).cells
  have hck := HCK.out W1 hB1
  have HB1 := hid hB1
  have HZ1 := hid z1
  have HZ2 := hid z2
  have hx1 : w.heap.size < w1.heap.size := (HZ.out w1 b1).lt
  clear hr1 b1 hbw1 hB1 z1 z2 g0 g1 g2 g3 g4
  go_wp2_with fail
  rw [← hW1]
  refine hck.mono ?_
  rintro e w2 ⟨rfl, b2⟩
  have hB2 := HB1.out.trans (b2.mono HB1.out.size)
  have y1 : w2.heap[w1.heap.size]? = some (.cells #[.int .i64 0, .slice none 0 0, .slice none 0 0] 25 (0, 0)) := by rw [b2.block _ (by omega)]; exact HZ1.out
  have y2 : w2.heap[w1.heap.size + 1]? = some (.cells #[.int .i64 0, .int .i64 0, .int .i64 0] 33 (0, 0)) := by rw [b2.block _ hzl]; exact HZ2.out
  have c0 : w2.cell? ⟨w1.heap.size, 0, none⟩ = some (.int .i64 0) := by simp [World.cell?, y1]
  have c1 : w2.cell? ⟨w1.heap.size, 1, none⟩ = some (.slice none 0 0) := by simp [World.cell?, y1]
  have c2 : w2.cell? ⟨w1.heap.size, 2, none⟩ = some (.slice none 0 0) := by simp [World.cell?, y1]
  have d0 : w2.cell? ⟨w1.heap.size + 1, 0, none⟩ = some (.int .i64 0) := by simp [World.cell?, y2]
  have d1 : w2.cell? ⟨w1.heap.size + 1, 1, none⟩ = some (.int .i64 0) := by simp [World.cell?, y2]
  have d2 : w2.cell? ⟨w1.heap.size + 1, 2, none⟩ = some (.int .i64 0) := by simp [World.cell?, y2]
  obtain ⟨f0, f1, f2, f3, f4⟩ := (HZ.out w2 hB2).cells
  have hsm := sameS_any _ _ s0 s0 _ _ _ _ w2 (sees0 w2) (sees0 w2)
  rw [eqS_self] at hsm
  have HB2 := hid hB2
  obtain ⟨E, hE⟩ : ∃ E, E = (checkL l).1 := ⟨_, rfl⟩
  obtain ⟨K, hK⟩ : ∃ K, K = (checkL l).2 := ⟨_, rfl⟩
  rw [← hE, ← hK]
  have hFE : F = if E = 0 then 1 else E := by rw [HF.out, refF, ← hE]
  have HE := hid hE
  clear hck b2 hB2 y1 y2 hE hK hW1
  -- what follows, once f stands as F
  have hrest : (E = 0 ∧ F = 1) ∨ (¬ E = 0 ∧ F = E) := by
    by_cases h : E = 0
    · rw [if_pos h] at hFE; exact Or.inl ⟨h, hFE⟩
    · rw [if_neg h] at hFE; exact Or.inr ⟨h, hFE⟩
  clear hFE
  have HSX : Hid (∀ X, Below W.heap.size W X → (Below W.heap.size W X ∧ X.cell? ⟨w.heap.size, 0, none⟩ = some c ∧ X.cell? ⟨w.heap.size, 1, none⟩ = some (.int .i64 s.pc) ∧ X.cell? ⟨w.heap.size, 2, none⟩ = some vs ∧ X.cell? ⟨w.heap.size, 3, none⟩ = some vk ∧ X.cell? ⟨w.heap.size, 4, none⟩ = some (.string m))) := fun X hX => ⟨hX, (HZ.out X hX).cells⟩
  have HKB : Hid (∀ X Y, Below X.heap.size X Y → (Below W.heap.size W X ∧ X.cell? ⟨w.heap.size, 0, none⟩ = some c ∧ X.cell? ⟨w.heap.size, 1, none⟩ = some (.int .i64 s.pc) ∧ X.cell? ⟨w.heap.size, 2, none⟩ = some vs ∧ X.cell? ⟨w.heap.size, 3, none⟩ = some vk ∧ X.cell? ⟨w.heap.size, 4, none⟩ = some (.string m)) → (Below W.heap.size W Y ∧ Y.cell? ⟨w.heap.size, 0, none⟩ = some c ∧ Y.cell? ⟨w.heap.size, 1, none⟩ = some (.int .i64 s.pc) ∧ Y.cell? ⟨w.heap.size, 2, none⟩ = some vs ∧ Y.cell? ⟨w.heap.size, 3, none⟩ = some vk ∧ Y.cell? ⟨w.heap.size, 4, none⟩ = some (.string m))) := fun X Y hb hs => HSX.out Y (hs.1.trans (hb.mono hs.1.size))
  have HKA : Hid (∀ (X : World) (o : Obj), (Below W.heap.size W X ∧ X.cell? ⟨w.heap.size, 0, none⟩ = some c ∧ X.cell? ⟨w.heap.size, 1, none⟩ = some (.int .i64 s.pc) ∧ X.cell? ⟨w.heap.size, 2, none⟩ = some vs ∧ X.cell? ⟨w.heap.size, 3, none⟩ = some vk ∧ X.cell? ⟨w.heap.size, 4, none⟩ = some (.string m)) → (Below W.heap.size W (X.alloc o) ∧ (X.alloc o).cell? ⟨w.heap.size, 0, none⟩ = some c ∧ (X.alloc o).cell? ⟨w.heap.size, 1, none⟩ = some (.int .i64 s.pc) ∧ (X.alloc o).cell? ⟨w.heap.size, 2, none⟩ = some vs ∧ (X.alloc o).cell? ⟨w.heap.size, 3, none⟩ = some vk ∧ (X.alloc o).cell? ⟨w.heap.size, 4, none⟩ = some (.string m))) := fun X o hs => HKB.out X _ (below_alloc X o) hs
  have HKS : Hid (∀ (X : World) (p : Addr) (u : Value), W.heap.size ≤ p.block → (Below W.heap.size W X ∧ X.cell? ⟨w.heap.size, 0, none⟩ = some c ∧ X.cell? ⟨w.heap.size, 1, none⟩ = some (.int .i64 s.pc) ∧ X.cell? ⟨w.heap.size, 2, none⟩ = some vs ∧ X.cell? ⟨w.heap.size, 3, none⟩ = some vk ∧ X.cell? ⟨w.heap.size, 4, none⟩ = some (.string m)) → (Below W.heap.size W (X.setCell p u) ∧ (X.setCell p u).cell? ⟨w.heap.size, 0, none⟩ = some c ∧ (X.setCell p u).cell? ⟨w.heap.size, 1, none⟩ = some (.int .i64 s.pc) ∧ (X.setCell p u).cell? ⟨w.heap.size, 2, none⟩ = some vs ∧ (X.setCell p u).cell? ⟨w.heap.size, 3, none⟩ = some vk ∧ (X.setCell p u).cell? ⟨w.heap.size, 4, none⟩ = some (.string m))) := fun X p u hp hs => HSX.out _ (hs.1.setCell hp u)
  have HFI := hid (fun X => filled_any m X hml)
  have hFF : (F == F) = true := by simp
  rcases hrest with ⟨hE0, hF1⟩ | ⟨hE0, hF1⟩
  · exact absurd (HE.out.symm.trans hE0) hA.out
  all_goals
    subst hF1
    try subst hE0
    go_wp2_with fail
    refine hsm.mono ?_
    rintro e w3 ⟨rfl, b3⟩
    have hB3 := HB2.out.trans (b3.mono HB2.out.size)
    have haw := HAW.out w3 hB3
    obtain ⟨f0, f1, f2, f3, f4⟩ := (HZ.out w3 hB3).cells
    have HB3 := hid hB3
    have hk0 := HSX.out w3 hB3
    clear hsm b3 hB3 c0 c1 c2 d0 d1 d2
    by_cases hf : fuel < 0 ∨ 1048576 < fuel
    · have hk0d := HSX.out w3.drew (Below.drew HB3.out)
      have hs3 := HB3.out.size
      have HDW := hid (Below.drew HB3.out)
      have HRX := hid (fun X q (hX : (Below W.heap.size W X ∧ X.cell? ⟨w.heap.size, 0, none⟩ = some c ∧ X.cell? ⟨w.heap.size, 1, none⟩ = some (.int .i64 s.pc) ∧ X.cell? ⟨w.heap.size, 2, none⟩ = some vs ∧ X.cell? ⟨w.heap.size, 3, none⟩ = some vk ∧ X.cell? ⟨w.heap.size, 4, none⟩ = some (.string m))) => HRB.out X q hX.1 hf)
      unfold memV at HRX
      rw [refL_fuel l s true fuel hf, ← HF.out] at HRX
      have hstep : (fuel < 0) ∨ (decide (fuel < 0) = false ∧ 1048576 < fuel) := by
        rcases hf with h | h
        · exact Or.inl h
        · exact Or.inr ⟨decide_eq_false (by omega), h⟩
      rcases hstep with hf0 | ⟨hf0, hf1⟩
      · exfalso; have := hB.out; omega
      all_goals
        go_wp2_with fail
        go_cut [12] (fun x12 wx => ∃ F1, x12 = .int .i64 F1 ∧ Hid (F1 = refF l) ∧ Hid (Below W.heap.size W wx))
        case first =>
          go_region_held3 (fun X => (Below W.heap.size W X ∧ X.cell? ⟨w.heap.size, 0, none⟩ = some c ∧ X.cell? ⟨w.heap.size, 1, none⟩ = some (.int .i64 s.pc) ∧ X.cell? ⟨w.heap.size, 2, none⟩ = some vs ∧ X.cell? ⟨w.heap.size, 3, none⟩ = some vk ∧ X.cell? ⟨w.heap.size, 4, none⟩ = some (.string m)))
            (first | (with_reducible exact hk0d) | (with_reducible assumption) | (refine HSX.out _ ?_; (repeat' (first | (with_reducible exact H5.out) | (with_reducible exact H4.out) | (with_reducible exact HDW.out) | (with_reducible exact HB3.out) | (with_reducible refine Below.drew ?_) | (with_reducible refine Below.setCell ?_ ?_ _) | (with_reducible refine Below.alloc ?_ ?_ _))); all_goals go_size))
            (first
              | (go_at_call 13
                 refine (HRX.out _ q (by assumption)).mono ?_
                 rintro e w5 ⟨rfl, b5⟩
                 have c5 : Below w4.heap.size w4 w5 := by
                   first
                     | exact b5
                     | exact (below_alloc _ _).trans (b5.mono (below_alloc _ _).size)
                     | exact (below_alloc2 _ _ _).trans (b5.mono (below_alloc2 _ _ _).size)
                 have H5 : Hid (Below W.heap.size W w5) := hid (H4.out.trans (c5.mono H4.out.size))
                 (first
                   | (have hh := new2 b5
                      obtain ⟨t0', t1', t2', v0', v1', v2', tl'⟩ := hh
                      have hh := new1 b5
                      obtain ⟨t3', t4', t5', v3', v4', v5', tm'⟩ := hh)
                   | (have hh := new1 b5
                      obtain ⟨t0', t1', t2', v0', v1', v2', tl'⟩ := hh)
                   | skip)
                 (try simp only [World.size_alloc, World.size_drew] at t0' t1' t2' v0' v1' v2' tl')
                 (try simp only [World.size_alloc, World.size_drew] at t3' t4' t5' v3' v4' v5' tm')
                 have s5 := c5.size
                 (try (have v0 := keepf t0 v0 c5
                       have v1 := keepf t1 v1 c5
                       have v2 := keepf t2 v2 c5
                       have t0 := keepc t0 c5
                       have t1 := keepc t1 c5
                       have t2 := keepc t2 c5
                       have tl := Nat.lt_of_lt_of_le tl s5
                       have n3 : ¬ w3.heap.size = w5.heap.size := by omega
                       have n4 : ¬ w5.heap.size = w3.heap.size := by omega))
                 (try (have v3 := keepf t3 v3 c5
                       have v4 := keepf t4 v4 c5
                       have v5 := keepf t5 v5 c5
                       have t3 := keepc t3 c5
                       have t4 := keepc t4 c5
                       have t5 := keepc t5 c5
                       have tm := Nat.lt_of_lt_of_le tm s5
                       have n5 : ¬ w3.heap.size + 1 = w5.heap.size := by omega
                       have n6 : ¬ w5.heap.size = w3.heap.size + 1 := by omega))
                 (try have n7 : ¬ w4.heap.size = w5.heap.size := by omega)
                 (try have n8 : ¬ w5.heap.size = w4.heap.size := by omega)
                 clear c5)
              | (go_at_call 11
                 refine (HFI.out _).mono ?_
                 rintro e w4 ⟨q, r, vb, rfl, mq, q4, _, _, b4⟩
                 have b4 := undrew b4
                 have s4 := mq.lt
                 have H4 : Hid (Below W.heap.size W w4) := hid (by
                   first
                     | exact HB3.out.trans (b4.mono (by go_size))
                     | exact (HB3.out.alloc (by go_size) _).trans (b4.mono (by go_size))
                     | exact ((HB3.out.alloc (by go_size) _).alloc (by go_size) _).trans (b4.mono (by go_size)))
                 clear mq
                 simp only [World.size_alloc, World.size_drew] at q4
                 (first
                   | (have hh := new2 b4
                      obtain ⟨t0, t1, t2, v0, v1, v2, tl⟩ := hh
                      have hh := new1 b4
                      obtain ⟨t3, t4, t5, v3, v4, v5, tm⟩ := hh)
                   | (have hh := new1 b4
                      obtain ⟨t0, t1, t2, v0, v1, v2, tl⟩ := hh)
                   | skip)
                 (try simp only [World.size_alloc, World.size_drew] at t0 t1 t2 v0 v1 v2 tl)
                 (try simp only [World.size_alloc, World.size_drew] at t3 t4 t5 v3 v4 v5 tm)
                 (try have n1 : ¬ w3.heap.size = w4.heap.size := by omega)
                 (try have n2 : ¬ w4.heap.size = w3.heap.size := by omega)
                 skip))
          all_goals
            have HBF := hid ((show (fun X => Below W.heap.size W X ∧ X.cell? ⟨w.heap.size, 0, none⟩ = some c ∧ X.cell? ⟨w.heap.size, 1, none⟩ = some (.int .i64 s.pc) ∧ X.cell? ⟨w.heap.size, 2, none⟩ = some vs ∧ X.cell? ⟨w.heap.size, 3, none⟩ = some vk ∧ X.cell? ⟨w.heap.size, 4, none⟩ = some (.string m)) _ by assumption).1)
            clear HKS HKA HKB HSX HFI HRX HRB
            go_wp2
            go_meet
            case rel => exact ⟨_, rfl, HF, HBF⟩
        case rest =>
          obtain ⟨F1, rfl, HF1, HBX⟩ := hcut
          have hq := HF1.out.trans HF.out.symm
          have hFF2 : (F1 == F1) = true := by simp
          subst hq
          have haw2 := HAW.out wc HBX.out
          clear haw HKS HKA HKB HSX HFI HRX HRB hk0 hk0d HF1 f0 f1 f2 f3 f4
          go_wp2_with fail
          refine haw2.mono ?_
          rintro e w6 ⟨rfl, b6⟩
          have HB6 := hid (HB.out.trans ((HBX.out.trans (b6.mono HBX.out.size)).mono HB.out.size))
          clear haw2 b6
          go_wp2
          go_ret
          exact ⟨by first | rfl | simp, HB6.out⟩
    · have hf0 : decide (fuel < 0) = false := decide_eq_false (by omega)
      have hf1 : decide (1048576 < fuel) = false := decide_eq_false (by omega)
      clear hf HKS HKA HKB HSX HFI HRB hk0 f0 f1 f2 f3 f4
      go_wp2_with fail
      refine haw.mono ?_
      rintro e w4 ⟨rfl, b4⟩
      have HB4 := hid (HB.out.trans ((HB3.out.trans (b4.mono HB3.out.size)).mono HB.out.size))
      clear haw b4
      go_wp2
      go_ret
      exact ⟨by first | rfl | simp, HB4.out⟩
end Go.Proofs.YtfnojlgmbfocfaaDoor
