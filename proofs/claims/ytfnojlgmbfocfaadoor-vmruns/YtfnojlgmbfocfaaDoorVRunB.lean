/-
  Run.
-/
import Derived.Test.YtfnojlgmbfocfaaDoorVRun
namespace Go.Proofs.YtfnojlgmbfocfaaDoor
open Go.RowKit
set_option linter.unusedVariables false
set_option linter.unusedSimpArgs false

theorem results_cct {fn : Func} {p1 p2 u : Nat} {t1 t2 : TypeId} (h : fn.results = #[.cell p1 t1, .cell p2 t2, .tmp u]) (tmps : Array Value) (w : World) (g1 g2 : Nat) (e1 e2 : TypeId) (c1 c2 : Array Value) (fr1 fr2 : Nat × Nat) (fs1 fs2 : Array Field) (v : Value)
    (hp1 : tmps.getD p1 undef = .pointer (some ⟨g1, 0, none⟩)) (hp2 : tmps.getD p2 undef = .pointer (some ⟨g2, 0, none⟩)) (hv : tmps.getD u undef = v) (hg1 : w.heap[g1]? = some (.cells c1 e1 fr1)) (hg2 : w.heap[g2]? = some (.cells c2 e2 fr2)) (hu1 : Tryd.prog.underlying t1 = some (.struct fs1)) (hi1 : (Tryd.prog.info? t1).map (·.size) = some c1.size) (hu2 : Tryd.prog.underlying t2 = some (.struct fs2)) (hi2 : (Tryd.prog.info? t2).map (·.size) = some c2.size) :
    (results fn tmps).run Tryd.prog w = .ok (.tuple #[.agg c1, .agg c2, v]) w := by
  have h1 : (loadVar t1 ⟨g1, 0, none⟩).run Tryd.prog w = .ok (.agg c1) w := run_loadVar_row w g1 e1 t1 c1 fr1 (.struct fs1) hg1 hu1 rfl hi1
  have h2 : (loadVar t2 ⟨g2, 0, none⟩).run Tryd.prog w = .ok (.agg c2) w := run_loadVar_row w g2 e2 t2 c2 fr2 (.struct fs2) hg2 hu2 rfl hi2
  have hp1' : tmps[p1]?.getD undef = .pointer (some ⟨g1, 0, none⟩) := by simpa using hp1
  have hp2' : tmps[p2]?.getD undef = .pointer (some ⟨g2, 0, none⟩) := by simpa using hp2
  have hv' : tmps[u]?.getD undef = v := by simpa using hv
  simp [results, h, hp1', hp2', hv', asAddr, h1, h2, Result.andThen]

theorem heap_new2 (w : World) (a b c : Obj) : (((w.alloc a).alloc b).alloc c).heap[w.heap.size]? = some a ∧ (((w.alloc a).alloc b).alloc c).heap[w.heap.size + 1]? = some b ∧ (((w.alloc a).alloc b).alloc c).heap[w.heap.size + 1 + 1]? = some c := by
  have h1 := heap_alloc_new w a
  have h2 := heap_alloc_new (w.alloc a) b
  have h3 := heap_alloc_new ((w.alloc a).alloc b) c
  have s1 : (w.alloc a).heap.size = w.heap.size + 1 := by simp
  have s2 : ((w.alloc a).alloc b).heap.size = w.heap.size + 1 + 1 := by simp
  rw [s1] at h2
  rw [s2] at h3
  refine ⟨?_, ?_, h3⟩
  · rw [Below.heap_alloc _ _ _ (by rw [s2]; omega), Below.heap_alloc _ _ _ (by rw [s1]; omega)]; exact h1
  · rw [Below.heap_alloc _ _ _ (by rw [s2]; omega)]; exact h2

/-- Two blocks of three cells are filled, one behind the other. -/
def fill6 (w : World) (g h : Nat) (a b c x y z : Value) : World := (((((w.setCell ⟨g, 0, none⟩ a).setCell ⟨g, 1, none⟩ b).setCell ⟨g, 2, none⟩ c).setCell ⟨h, 0, none⟩ x).setCell ⟨h, 1, none⟩ y).setCell ⟨h, 2, none⟩ z
theorem fill6_far {w : World} {g h j : Nat} (a b c x y z : Value) (hg : j ≠ g) (hh : j ≠ h) : (fill6 w g h a b c x y z).heap[j]? = w.heap[j]? := by
  unfold fill6
  rw [far_set hh, far_set hh, far_set hh, far_set hg, far_set hg, far_set hg]
theorem fill6_g {w : World} {g h : Nat} {a0 b0 c0 : Value} {t : TypeId} (a b c x y z : Value) (hgh : g ≠ h) (hg : w.heap[g]? = some (.cells #[a0, b0, c0] t (0, 0))) : (fill6 w g h a b c x y z).heap[g]? = some (.cells #[a, b, c] t (0, 0)) := by
  unfold fill6
  rw [far_set hgh, far_set hgh, far_set hgh]
  exact heap_fill3 hg
theorem fill6_h {w : World} {g h : Nat} {a0 b0 c0 : Value} {t : TypeId} (a b c x y z : Value) (hgh : g ≠ h) (hh : w.heap[h]? = some (.cells #[a0, b0, c0] t (0, 0))) : (fill6 w g h a b c x y z).heap[h]? = some (.cells #[x, y, z] t (0, 0)) := by
  unfold fill6
  refine heap_fill3 (a := a0) (b := b0) (c := c0) ?_
  rw [far_set hgh.symm, far_set hgh.symm, far_set hgh.symm]
  exact hh
theorem fill6_below {B : Nat} {w0 w : World} {g h : Nat} (hb : Below B w0 w) (hg : B ≤ g) (hh : B ≤ h) (a b c x y z : Value) : Below B w0 (fill6 w g h a b c x y z) := by
  unfold fill6
  exact (((((hb.setCell (p := ⟨g, 0, none⟩) hg a).setCell (p := ⟨g, 1, none⟩) hg b).setCell (p := ⟨g, 2, none⟩) hg c).setCell (p := ⟨h, 0, none⟩) hh x).setCell (p := ⟨h, 1, none⟩) hh y).setCell (p := ⟨h, 2, none⟩) hh z

set_option maxRecDepth 20000 in
set_option maxHeartbeats 4000000 in
theorem run_bad (v : Value) (l : List InsL) (sv : Value) (s : StL) (vs vk : Value) (fuel : Int) (mv : Value) (mb : Bool) (hm : (mb = true ∧ ∃ q, mv = memV q) ∨ (mb = false ∧ mv = .nilIface)) (w : World) (hV : SeesI w v l) (hT : Tabs w) (hS : SeesS w sv s vs vk) (hlen : l.length ≤ 140737488355328) (hE : refL l s mb fuel ≠ 0) :
    Calls Tryd.prog 13 #[v, sv, mv, .int .i64 fuel] w fun e w' => e = .returned (.tuple #[.agg #[.int .i64 0, .slice none 0 0, .slice none 0 0], .agg #[.int .i64 0, .int .i64 0, .int .i64 0], .int .i64 (refL l s mb fuel)]) ∧ Below w.heap.size w w' := by
  have hS0 := hS
  obtain ⟨rfl, _, _, _, _⟩ := hS
  obtain ⟨W, hW⟩ : ∃ W, W = ((w.alloc (.cells #[.int .i64 s.pc, vs, vk] 25)).alloc (.cells #[.int .i64 0, .slice none 0 0, .slice none 0 0] 25)).alloc (.cells #[.int .i64 0, .int .i64 0, .int .i64 0] 33) := ⟨_, rfl⟩
  have hb : Below w.heap.size w W := by rw [hW]; exact (below_alloc2 w _ _).alloc (by simp; omega) _
  obtain ⟨z1, z2, z3⟩ : W.heap[w.heap.size]? = some (.cells #[.int .i64 s.pc, vs, vk] 25 (0, 0)) ∧ W.heap[w.heap.size + 1]? = some (.cells #[.int .i64 0, .slice none 0 0, .slice none 0 0] 25 (0, 0)) ∧ W.heap[w.heap.size + 1 + 1]? = some (.cells #[.int .i64 0, .int .i64 0, .int .i64 0] 33 (0, 0)) := by rw [hW]; exact heap_new2 w _ _ _
  have hrf := refused_any v l _ s vs vk fuel mv mb hm W (hV.below hb) (hT.below hb) (hS0.below hb) hlen
  have g0 : W.cell? ⟨w.heap.size, 0, none⟩ = some (.int .i64 s.pc) := by simp [World.cell?, z1]
  have g1 : W.cell? ⟨w.heap.size, 1, none⟩ = some vs := by simp [World.cell?, z1]
  have g2 : W.cell? ⟨w.heap.size, 2, none⟩ = some vk := by simp [World.cell?, z1]
  have hl3 := (Array.getElem?_eq_some_iff.1 z3).1
  have HB := hid hb
  have HZ2 := hid z2
  have HZ3 := hid z3
  obtain ⟨E, hEE⟩ : ∃ E, E = refL l s mb fuel := ⟨_, rfl⟩
  rw [← hEE] at hrf hE ⊢
  have hE' : (E != 0) = true := by simpa using hE
  clear hb hS0 hV hT z1 z2 z3 hEE hm
  go_enter Tryd.func13, Tryd.ntmps13
  go_wp2_with fail
  rw [← hW]
  clear hW
  refine hrf.mono ?_
  rintro e w1 ⟨rfl, b1⟩
  have q2 : w1.heap[w.heap.size + 1]? = some (.cells #[.int .i64 0, .slice none 0 0, .slice none 0 0] 25 (0, 0)) := by rw [b1.block _ (by omega)]; exact HZ2.out
  have q3 : w1.heap[w.heap.size + 1 + 1]? = some (.cells #[.int .i64 0, .int .i64 0, .int .i64 0] 33 (0, 0)) := by rw [b1.block _ (by omega)]; exact HZ3.out
  have c0 : w1.cell? ⟨w.heap.size + 1, 0, none⟩ = some (.int .i64 0) := by simp [World.cell?, q2]
  have c1 : w1.cell? ⟨w.heap.size + 1, 1, none⟩ = some (.slice none 0 0) := by simp [World.cell?, q2]
  have c2 : w1.cell? ⟨w.heap.size + 1, 2, none⟩ = some (.slice none 0 0) := by simp [World.cell?, q2]
  have c3 : w1.frozen? ⟨w.heap.size + 1, 0, none⟩ = false := by simp [World.frozen?, q2]
  have c4 : w1.frozen? ⟨w.heap.size + 1, 1, none⟩ = false := by simp [World.frozen?, q2]
  have c5 : w1.frozen? ⟨w.heap.size + 1, 2, none⟩ = false := by simp [World.frozen?, q2]
  have d0 : w1.cell? ⟨w.heap.size + 1 + 1, 0, none⟩ = some (.int .i64 0) := by simp [World.cell?, q3]
  have d1 : w1.cell? ⟨w.heap.size + 1 + 1, 1, none⟩ = some (.int .i64 0) := by simp [World.cell?, q3]
  have d2 : w1.cell? ⟨w.heap.size + 1 + 1, 2, none⟩ = some (.int .i64 0) := by simp [World.cell?, q3]
  have d3 : w1.frozen? ⟨w.heap.size + 1 + 1, 0, none⟩ = false := by simp [World.frozen?, q3]
  have d4 : w1.frozen? ⟨w.heap.size + 1 + 1, 1, none⟩ = false := by simp [World.frozen?, q3]
  have d5 : w1.frozen? ⟨w.heap.size + 1 + 1, 2, none⟩ = false := by simp [World.frozen?, q3]
  have HQ2 := hid q2
  have HQ3 := hid q3
  have HB1 := hid (HB.out.trans (b1.mono HB.out.size))
  clear hrf b1 q2 q3 g0 g1 g2
  go_wp2
  have hgh : w.heap.size + 1 ≠ w.heap.size + 1 + 1 := by omega
  refine bodyPost_ret (results_cct (fn := Tryd.f13) (p1 := 8) (p2 := 9) (u := 10) rfl _ _ (w.heap.size + 1) (w.heap.size + 1 + 1) 25 33 #[.int .i64 0, .slice none 0 0, .slice none 0 0] #[.int .i64 0, .int .i64 0, .int .i64 0] (0, 0) (0, 0) _ _ (.int .i64 E) rfl rfl rfl (fill6_g _ _ _ _ _ _ hgh HQ2.out) (fill6_h _ _ _ _ _ _ hgh HQ3.out) Tryd.underlying25 rfl Tryd.underlying33 rfl) rfl ?_
  exact ⟨rfl, fill6_below HB1.out (by omega) (by omega) _ _ _ _ _ _⟩

/-- What a run that may be leaves. -/
def GoodR (w : World) (q r : Nat) (vb : Value) (a0 : Nat) (R : (Int × Int × Nat) × StL × List Nat) (e : Ending) (w' : World) : Prop :=
  ∃ us uk, e = .returned (.tuple #[.agg #[.int .i64 R.2.1.pc, us, uk], stopV (R.1.1, R.1.2.1) (R.1.2.2 : Nat), .int .i64 0]) ∧ OwnC w' w.heap.size us R.2.1.st ∧ OwnC w' w.heap.size uk R.2.1.ca ∧ (∀ j, us.ownBlock = some j → uk.ownBlock ≠ some j) ∧
    ∃ ld' st', MemAt w' q r R.2.2 ld' st' vb ∧ ld' + st' ≤ a0 + R.1.2.2 ∧ Kp w.heap.size q r w w'

theorem Kp.far {B q r g : Nat} {w : World} (hg : B ≤ g) (h : Nat) (hh : B ≤ h) (a b c x y z : Value) : Kp B q r w (fill6 w g h a b c x y z) := Kp.of (fill6_below (Below.refl B w) hg hh a b c x y z)
theorem OwnC.le {w : World} {B B' : Nat} {v : Value} {xs : List Int} (h : OwnC w B v xs) (hb : B' ≤ B) : OwnC w B' v xs := by
  rcases h with h | ⟨g, cur, rfl, hb2, hg, hl, ht⟩
  · exact Or.inl h
  · exact Or.inr ⟨g, cur, rfl, by omega, hg, hl, ht⟩

set_option maxRecDepth 20000 in
set_option maxHeartbeats 8000000 in
theorem run_good (v : Value) (l : List InsL) (sv : Value) (s : StL) (vs vk vb : Value) (fuel : Nat) (q r : Nat) (b : List Nat) (ld st : Nat) (w : World) (hV : SeesI w v l) (hT : Tabs w) (hS : SeesS w sv s vs vk) (hlen : l.length ≤ 140737488355328) (hE : refL l s true (fuel : Int) = 0)
    (hM : MemAt w q r b ld st vb) (hr : r < w.heap.size) (hq2 : 2 ≤ q) (hr2 : 2 ≤ r) (hbl : b.length ≤ 4611686018427387904) (ha : ld + st ≤ 1048576 * 1048576) :
    Calls Tryd.prog 13 #[v, sv, memV q, .int .i64 (fuel : Int)] w (GoodR w q r vb (ld + st) (runL l fuel 0 s b)) := by
  have hS0 := hS
  obtain ⟨rfl, _, _, _, _⟩ := hS
  obtain ⟨hck, hok, hf2⟩ : (checkL l).1 = 0 ∧ OkS l.length s ∧ fuel ≤ 1048576 := by
    unfold refL at hE
    by_cases h1 : (checkL l).1 = 0
    · rw [if_pos h1] at hE
      by_cases h2 : okS l.length s = true ∧ true = true ∧ 0 ≤ (fuel : Int) ∧ (fuel : Int) ≤ 1048576
      · exact ⟨h1, okS_iff.1 h2.1, by omega⟩
      · rw [if_neg h2] at hE; simp at hE
    · rw [if_neg h1] at hE; exact absurd hE h1
  obtain ⟨hall, hl1, hl2⟩ : (∀ i ∈ l, mayI l.length i = true) ∧ 1 ≤ l.length ∧ l.length ≤ 1024 := by
    rcases check_cases l with h | ⟨h, _, _⟩ | ⟨h, h2, h3, h4⟩
    · rw [h] at hck; simp at hck
    · rw [h] at hck; simp at hck
    · exact ⟨badAt_all h2, h3, h4⟩
  obtain ⟨W, hW⟩ : ∃ W, W = ((w.alloc (.cells #[.int .i64 s.pc, vs, vk] 25)).alloc (.cells #[.int .i64 0, .slice none 0 0, .slice none 0 0] 25)).alloc (.cells #[.int .i64 0, .int .i64 0, .int .i64 0] 33) := ⟨_, rfl⟩
  have hb : Below w.heap.size w W := by rw [hW]; exact (below_alloc2 w _ _).alloc (by simp; omega) _
  obtain ⟨z1, z2, z3⟩ : W.heap[w.heap.size]? = some (.cells #[.int .i64 s.pc, vs, vk] 25 (0, 0)) ∧ W.heap[w.heap.size + 1]? = some (.cells #[.int .i64 0, .slice none 0 0, .slice none 0 0] 25 (0, 0)) ∧ W.heap[w.heap.size + 1 + 1]? = some (.cells #[.int .i64 0, .int .i64 0, .int .i64 0] 33 (0, 0)) := by rw [hW]; exact heap_new2 w _ _ _
  have hrf := refused_any v l _ s vs vk (fuel : Int) (memV q) true (Or.inl ⟨rfl, q, rfl⟩) W (hV.below hb) (hT.below hb) (hS0.below hb) hlen
  rw [hE] at hrf
  have g0 : W.cell? ⟨w.heap.size, 0, none⟩ = some (.int .i64 s.pc) := by simp [World.cell?, z1]
  have g1 : W.cell? ⟨w.heap.size, 1, none⟩ = some vs := by simp [World.cell?, z1]
  have g2 : W.cell? ⟨w.heap.size, 2, none⟩ = some vk := by simp [World.cell?, z1]
  have hl3 := (Array.getElem?_eq_some_iff.1 z3).1
  have HB := hid hb
  have HZ1 := hid z1
  have HZ2 := hid z2
  have HZ3 := hid z3
  have HNM := hid (fun w1 (h1 : Below w.heap.size w w1) => newM_any v l _ s vs vk q w1 (hV.below h1) (hS0.below h1) hl2 hok.st hok.cl)
  have HMM := hid (fun w1 (h1 : Below w.heap.size w w1) => hM.below h1)
  have HTT := hid (fun w1 (h1 : Below w.heap.size w w1) => hT.below h1)
  have hql := hM.lt
  obtain ⟨R, hR⟩ : ∃ R, R = runL l fuel 0 s b := ⟨_, rfl⟩
  have hRok := run_ok hall fuel 0 s b hok
  rw [← hR] at hRok ⊢
  have HRO := hid hRok.1
  have HR := hid hR
  unfold GoodR
  clear hb hS0 hV hT z1 z2 z3 hM hE hck hR hRok
  go_enter Tryd.func13, Tryd.ntmps13
  go_wp2_with fail
  rw [← hW]
  clear hW
  refine hrf.mono ?_
  rintro e w1 ⟨rfl, b1⟩
  have hB1 := HB.out.trans (b1.mono HB.out.size)
  have u1 : w1.heap[w.heap.size]? = some (.cells #[.int .i64 s.pc, vs, vk] 25 (0, 0)) := by rw [b1.block _ (by omega)]; exact HZ1.out
  have u2 : w1.heap[w.heap.size + 1]? = some (.cells #[.int .i64 0, .slice none 0 0, .slice none 0 0] 25 (0, 0)) := by rw [b1.block _ (by omega)]; exact HZ2.out
  have u3 : w1.heap[w.heap.size + 1 + 1]? = some (.cells #[.int .i64 0, .int .i64 0, .int .i64 0] 33 (0, 0)) := by rw [b1.block _ (by omega)]; exact HZ3.out
  have c0 : w1.cell? ⟨w.heap.size, 0, none⟩ = some (.int .i64 s.pc) := by simp [World.cell?, u1]
  have c1 : w1.cell? ⟨w.heap.size, 1, none⟩ = some vs := by simp [World.cell?, u1]
  have c2 : w1.cell? ⟨w.heap.size, 2, none⟩ = some vk := by simp [World.cell?, u1]
  have hnm := HNM.out w1 hB1
  have HB1 := hid hB1
  have HU2 := hid u2
  have HU3 := hid u3
  have hl31 := (Array.getElem?_eq_some_iff.1 u3).1
  clear hrf b1 hB1 u1 u2 u3 g0 g1 g2 HZ1 HZ2 HZ3 HNM
  go_wp2_with fail
  refine hnm.mono ?_
  rintro e w2 ⟨p, vc, ws, wk, rfl, m2, b2⟩
  have hB2 := HB1.out.trans (b2.mono HB1.out.size)
  have hs1 := HB1.out.size
  have hmm : MM w2 w1.heap.size p q r (memV q) vc ws wk vb l s b ld st := ⟨m2, HMM.out w2 hB2, by omega, by omega⟩
  have hrun := runM_any w2 w1.heap.size p q r vc ws wk vb l s b ld st hmm (HTT.out w2 hB2) (by omega) hq2 hr2 hbl hl2 hall hok fuel hf2 ha
  rw [← HR.out] at hrun
  unfold RunR stopV at hrun
  have v2 : w2.heap[w.heap.size + 1]? = some (.cells #[.int .i64 0, .slice none 0 0, .slice none 0 0] 25 (0, 0)) := by rw [b2.block _ (by omega)]; exact HU2.out
  have v3 : w2.heap[w.heap.size + 1 + 1]? = some (.cells #[.int .i64 0, .int .i64 0, .int .i64 0] 33 (0, 0)) := by rw [b2.block _ (by omega)]; exact HU3.out
  have HV2 := hid v2
  have HV3 := hid v3
  have HB2 := hid hB2
  have hs2 := b2.size
  clear hnm m2 b2 hB2 hmm v2 v3 c0 c1 c2 HU2 HU3 HMM HTT
  obtain ⟨⟨kd, tr, us⟩, sR, bR⟩ := R
  simp only at hrun HRO ⊢
  go_wp2_with fail
  refine hrun.mono ?_
  rintro e w3 ⟨rfl, ws3, wk3, ld3, st3, m3, a3, kp3⟩
  obtain ⟨W4, hW4⟩ : ∃ W4, W4 = w3.alloc (.cells #[.int .i64 kd, .int .i64 tr, .int .i64 (us : Int)] 33) := ⟨_, rfl⟩
  have hb4 : Below w3.heap.size w3 W4 := by rw [hW4]; exact below_alloc w3 _
  have x4 : W4.heap[w3.heap.size]? = some (.cells #[.int .i64 kd, .int .i64 tr, .int .i64 (us : Int)] 33 (0, 0)) := by rw [hW4]; exact heap_alloc_new w3 _
  have hs3 := kp3.size
  have y2 : W4.heap[w.heap.size + 1]? = some (.cells #[.int .i64 0, .slice none 0 0, .slice none 0 0] 25 (0, 0)) := by rw [hb4.block _ (by omega), kp3.block _ (by omega) (by omega) (by omega)]; exact HV2.out
  have y3 : W4.heap[w.heap.size + 1 + 1]? = some (.cells #[.int .i64 0, .int .i64 0, .int .i64 0] 33 (0, 0)) := by rw [hb4.block _ (by omega), kp3.block _ (by omega) (by omega) (by omega)]; exact HV3.out
  have m4 := m3.below hb4
  have hstt := state_any W4.drew w1.heap.size p (memV q) vc ws3 wk3 l sR (m4.m.below (Below.drew (Below.refl _ _))) HRO.out.st HRO.out.cl
  have HM4 := hid m4
  have HK4 : Hid (Kp w.heap.size q r w W4) := ((Kp.of HB2.out).trans (kp3.mono (by omega))).trans (Kp.of (hb4.mono (by omega)))
  have HA4 := hid a3
  have HX4 := hid x4
  have HY2 := hid y2
  have HY3 := hid y3
  have hxl := (Array.getElem?_eq_some_iff.1 x4).1
  have hs4 := hb4.size
  obtain ⟨x, hx⟩ : ∃ x, x = w3.heap.size := ⟨_, rfl⟩
  rw [← hx] at HX4
  clear hrun m3 kp3 hb4 x4 y2 y3 m4 HV2 HV3 a3
  iterate 8 (first | go_values | go_skip | go_guarded | go_step | go_upon | go_back | go_simp)
  rw [← hW4, ← hx]
  have hxw : w3.heap.size = x := hx.symm
  have hxn1 : x ≠ w.heap.size + 1 := by omega
  have hxn2 : x ≠ w.heap.size + 1 + 1 := by omega
  have hxl4 : x < W4.heap.size := by omega
  clear hW4 hx
  have HSX : Hid (∀ X : World, X.heap[x]? = some (.cells #[.int .i64 kd, .int .i64 tr, .int .i64 (us : Int)] 33 (0, 0)) → X.cell? ⟨x, 0, none⟩ = some (.int .i64 kd) ∧ X.cell? ⟨x, 1, none⟩ = some (.int .i64 tr) ∧ X.cell? ⟨x, 2, none⟩ = some (.int .i64 (us : Int))) := fun X hX => ⟨by simp [World.cell?, hX], by simp [World.cell?, hX], by simp [World.cell?, hX]⟩
  have k0 : W4.drew.cell? ⟨x, 0, none⟩ = some (.int .i64 kd) ∧ W4.drew.cell? ⟨x, 1, none⟩ = some (.int .i64 tr) ∧ W4.drew.cell? ⟨x, 2, none⟩ = some (.int .i64 (us : Int)) := HSX.out W4.drew HX4.out
  have hgh : w.heap.size + 1 ≠ w.heap.size + 1 + 1 := by omega
  go_wp2_with fail
  go_region_held3 (fun X => X.cell? ⟨x, 0, none⟩ = some (.int .i64 kd) ∧ X.cell? ⟨x, 1, none⟩ = some (.int .i64 tr) ∧ X.cell? ⟨x, 2, none⟩ = some (.int .i64 (us : Int)))
    (first | (with_reducible exact k0) | (with_reducible exact k1) | (with_reducible exact HKA.out _ _ _) | (with_reducible exact HKB.out _ _ _ _ _ _))
    (first
      | (go_at_call 27
         refine hstt.mono ?_
         rintro e w5 ⟨ss, sk, rfl, os, ok, sd, b5⟩
         have b5' : Below W4.heap.size W4 w5 := Below.trans (Below.drew (Below.refl W4.heap.size W4)) b5
         have i1 : w5.heap[x]? = some (.cells #[.int .i64 kd, .int .i64 tr, .int .i64 (us : Int)] 33 (0, 0)) := by rw [b5'.block _ hxl4]; exact HX4.out
         have i2 : w5.heap[w.heap.size + 1]? = some (.cells #[.int .i64 0, .slice none 0 0, .slice none 0 0] 25 (0, 0)) := by rw [b5'.block _ (by omega)]; exact HY2.out
         have i3 : w5.heap[w.heap.size + 1 + 1]? = some (.cells #[.int .i64 0, .int .i64 0, .int .i64 0] 33 (0, 0)) := by rw [b5'.block _ (by omega)]; exact HY3.out
         have k1 := HSX.out w5 i1
         have HKA : Hid (∀ a b c : Value, (((w5.setCell ⟨w.heap.size + 1, 0, none⟩ a).setCell ⟨w.heap.size + 1, 1, none⟩ b).setCell ⟨w.heap.size + 1, 2, none⟩ c).cell? ⟨x, 0, none⟩ = some (.int .i64 kd) ∧ (((w5.setCell ⟨w.heap.size + 1, 0, none⟩ a).setCell ⟨w.heap.size + 1, 1, none⟩ b).setCell ⟨w.heap.size + 1, 2, none⟩ c).cell? ⟨x, 1, none⟩ = some (.int .i64 tr) ∧ (((w5.setCell ⟨w.heap.size + 1, 0, none⟩ a).setCell ⟨w.heap.size + 1, 1, none⟩ b).setCell ⟨w.heap.size + 1, 2, none⟩ c).cell? ⟨x, 2, none⟩ = some (.int .i64 (us : Int))) := fun a b c => HSX.out _ (by rw [far_set hxn1, far_set hxn1, far_set hxn1]; exact i1)
         have HKB : Hid (∀ a b c d e f : Value, ((((((w5.setCell ⟨w.heap.size + 1, 0, none⟩ a).setCell ⟨w.heap.size + 1, 1, none⟩ b).setCell ⟨w.heap.size + 1, 2, none⟩ c).setCell ⟨w.heap.size + 1 + 1, 0, none⟩ d).setCell ⟨w.heap.size + 1 + 1, 1, none⟩ e).setCell ⟨w.heap.size + 1 + 1, 2, none⟩ f).cell? ⟨x, 0, none⟩ = some (.int .i64 kd) ∧ ((((((w5.setCell ⟨w.heap.size + 1, 0, none⟩ a).setCell ⟨w.heap.size + 1, 1, none⟩ b).setCell ⟨w.heap.size + 1, 2, none⟩ c).setCell ⟨w.heap.size + 1 + 1, 0, none⟩ d).setCell ⟨w.heap.size + 1 + 1, 1, none⟩ e).setCell ⟨w.heap.size + 1 + 1, 2, none⟩ f).cell? ⟨x, 1, none⟩ = some (.int .i64 tr) ∧ ((((((w5.setCell ⟨w.heap.size + 1, 0, none⟩ a).setCell ⟨w.heap.size + 1, 1, none⟩ b).setCell ⟨w.heap.size + 1, 2, none⟩ c).setCell ⟨w.heap.size + 1 + 1, 0, none⟩ d).setCell ⟨w.heap.size + 1 + 1, 1, none⟩ e).setCell ⟨w.heap.size + 1 + 1, 2, none⟩ f).cell? ⟨x, 2, none⟩ = some (.int .i64 (us : Int))) := fun a b c d e f => HSX.out _ (by rw [far_set hxn2, far_set hxn2, far_set hxn2, far_set hxn1, far_set hxn1, far_set hxn1]; exact i1)
         have c0 : w5.cell? ⟨w.heap.size + 1, 0, none⟩ = some (.int .i64 0) := by simp [World.cell?, i2]
         have c1 : w5.cell? ⟨w.heap.size + 1, 1, none⟩ = some (.slice none 0 0) := by simp [World.cell?, i2]
         have c2 : w5.cell? ⟨w.heap.size + 1, 2, none⟩ = some (.slice none 0 0) := by simp [World.cell?, i2]
         have c3 : w5.frozen? ⟨w.heap.size + 1, 0, none⟩ = false := by simp [World.frozen?, i2]
         have c4 : w5.frozen? ⟨w.heap.size + 1, 1, none⟩ = false := by simp [World.frozen?, i2]
         have c5 : w5.frozen? ⟨w.heap.size + 1, 2, none⟩ = false := by simp [World.frozen?, i2]
         have d0 : w5.cell? ⟨w.heap.size + 1 + 1, 0, none⟩ = some (.int .i64 0) := by simp [World.cell?, i3]
         have d1 : w5.cell? ⟨w.heap.size + 1 + 1, 1, none⟩ = some (.int .i64 0) := by simp [World.cell?, i3]
         have d2 : w5.cell? ⟨w.heap.size + 1 + 1, 2, none⟩ = some (.int .i64 0) := by simp [World.cell?, i3]
         have d3 : w5.frozen? ⟨w.heap.size + 1 + 1, 0, none⟩ = false := by simp [World.frozen?, i3]
         have d4 : w5.frozen? ⟨w.heap.size + 1 + 1, 1, none⟩ = false := by simp [World.frozen?, i3]
         have d5 : w5.frozen? ⟨w.heap.size + 1 + 1, 2, none⟩ = false := by simp [World.frozen?, i3]
         obtain ⟨sa1, sn1, hss⟩ : ∃ ao cap, ss = .slice ao sR.st.length cap := by
           rcases os with ⟨rfl, e⟩ | ⟨g, cur, rfl, _⟩
           · exact ⟨none, 0, by rw [e]; rfl⟩
           · exact ⟨_, _, rfl⟩
         obtain ⟨sa2, sn2, hsk⟩ : ∃ ao cap, sk = .slice ao sR.ca.length cap := by
           rcases ok with ⟨rfl, e⟩ | ⟨g, cur, rfl, _⟩
           · exact ⟨none, 0, by rw [e]; rfl⟩
           · exact ⟨_, _, rfl⟩
         subst hss
         subst hsk
         have HI2 := hid i2
         have HI3 := hid i3
         have HOS := hid os
         have HOK := hid ok
         have HSD := hid sd
         have HM5 := hid (HM4.out.below b5')
         have HK5 := hid (HK4.out.trans (Kp.of (b5'.mono (by omega))))
         clear hstt os ok sd b5 b5' i1 i2 i3))
  all_goals
    go_wp2
    refine bodyPost_ret (results_cct (fn := Tryd.f13) (p1 := 8) (p2 := 9) (u := 10) rfl _ _ (w.heap.size + 1) (w.heap.size + 1 + 1) 25 33 #[.int .i64 sR.pc, .slice sa1 sR.st.length sn1, .slice sa2 sR.ca.length sn2] #[.int .i64 kd, .int .i64 tr, .int .i64 (us : Int)] (0, 0) (0, 0) _ _ (.int .i64 0) rfl rfl rfl (fill6_g _ _ _ _ _ _ hgh HI2.out) (fill6_h _ _ _ _ _ _ hgh HI3.out) Tryd.underlying25 rfl Tryd.underlying33 rfl) rfl ?_
    refine ⟨_, _, rfl, (HOS.out.same (fun j hj => fill6_far _ _ _ _ _ _ (by have := (HOS.out.lt j hj).1; omega) (by have := (HOS.out.lt j hj).1; omega))).le (by omega), (HOK.out.same (fun j hj => fill6_far _ _ _ _ _ _ (by have := (HOK.out.lt j hj).1; omega) (by have := (HOK.out.lt j hj).1; omega))).le (by omega), HSD.out, ld3, st3, HM5.out.h.same (fill6_far _ _ _ _ _ _ (by omega) (by omega)) (fun j hj => fill6_far _ _ _ _ _ _ (by have := (HM5.out.h.at_ j hj).1; omega) (by have := (HM5.out.h.at_ j hj).1; omega)), HA4.out, HK5.out.trans (Kp.far (by omega) _ (by omega) _ _ _ _ _ _)⟩
end Go.Proofs.YtfnojlgmbfocfaaDoor
