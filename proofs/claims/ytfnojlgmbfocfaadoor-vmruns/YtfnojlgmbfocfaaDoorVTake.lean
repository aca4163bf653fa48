/-
  Push and Take of a state.
-/
import Derived.Test.YtfnojlgmbfocfaaDoorVRunB
namespace Go.Proofs.YtfnojlgmbfocfaaDoor
open Go.RowKit
set_option linter.unusedVariables false
set_option linter.unusedSimpArgs false

theorem results_ctt {fn : Func} {p1 u x : Nat} {t1 : TypeId} (h : fn.results = #[.cell p1 t1, .tmp u, .tmp x]) (tmps : Array Value) (w : World) (g1 : Nat) (e1 : TypeId) (c1 : Array Value) (fr1 : Nat × Nat) (fs1 : Array Field) (v y : Value)
    (hp1 : tmps.getD p1 undef = .pointer (some ⟨g1, 0, none⟩)) (hv : tmps.getD u undef = v) (hy : tmps.getD x undef = y) (hg1 : w.heap[g1]? = some (.cells c1 e1 fr1)) (hu1 : Tryd.prog.underlying t1 = some (.struct fs1)) (hi1 : (Tryd.prog.info? t1).map (·.size) = some c1.size) :
    (results fn tmps).run Tryd.prog w = .ok (.tuple #[.agg c1, v, y]) w := by
  have h1 : (loadVar t1 ⟨g1, 0, none⟩).run Tryd.prog w = .ok (.agg c1) w := run_loadVar_row w g1 e1 t1 c1 fr1 (.struct fs1) hg1 hu1 rfl hi1
  have hp1' : tmps[p1]?.getD undef = .pointer (some ⟨g1, 0, none⟩) := by simpa using hp1
  have hv' : tmps[u]?.getD undef = v := by simpa using hv
  have hy' : tmps[x]?.getD undef = y := by simpa using hy
  simp [results, h, hp1', hv', hy', asAddr, h1, Result.andThen]

/-- Three cells of a block are set. -/
def fill3 (w : World) (g : Nat) (a b c : Value) : World := ((w.setCell ⟨g, 0, none⟩ a).setCell ⟨g, 1, none⟩ b).setCell ⟨g, 2, none⟩ c
theorem fill3_far {w : World} {g j : Nat} (a b c : Value) (hg : j ≠ g) : (fill3 w g a b c).heap[j]? = w.heap[j]? := by
  unfold fill3
  rw [far_set hg, far_set hg, far_set hg]
theorem fill3_g {w : World} {g : Nat} {a b c x y z : Value} {t : TypeId} (h : w.heap[g]? = some (.cells #[x, y, z] t (0, 0))) : (fill3 w g a b c).heap[g]? = some (.cells #[a, b, c] t (0, 0)) := by
  simp only [fill3, World.setCell, Array.getElem?_modify, h]
  simp
theorem fill3_below {B g : Nat} {w w' : World} (h : Below B w w') (hg : B ≤ g) (a b c : Value) : Below B w (fill3 w' g a b c) :=
  ((h.setCell (p := ⟨g, 0, none⟩) hg _).setCell (p := ⟨g, 1, none⟩) hg _).setCell (p := ⟨g, 2, none⟩) hg _
theorem cel3 {w : World} {g : Nat} {x y z : Value} {t : TypeId} (h : w.heap[g]? = some (.cells #[x, y, z] t (0, 0))) :
    w.cell? ⟨g, 0, none⟩ = some x ∧ w.cell? ⟨g, 1, none⟩ = some y ∧ w.cell? ⟨g, 2, none⟩ = some z ∧ w.frozen? ⟨g, 0, none⟩ = false ∧ w.frozen? ⟨g, 1, none⟩ = false ∧ w.frozen? ⟨g, 2, none⟩ = false := by
  refine ⟨?_, ?_, ?_, ?_, ?_, ?_⟩ <;> simp [World.cell?, World.frozen?, h]
theorem heap_new1 (w : World) (a b : Obj) : ((w.alloc a).alloc b).heap[w.heap.size]? = some a ∧ ((w.alloc a).alloc b).heap[w.heap.size + 1]? = some b := by
  have h1 := heap_alloc_new w a
  have h2 := heap_alloc_new (w.alloc a) b
  have s1 : (w.alloc a).heap.size = w.heap.size + 1 := by simp
  rw [s1] at h2
  refine ⟨?_, h2⟩
  rw [Below.heap_alloc _ _ _ (by rw [s1]; omega)]; exact h1

/-- A state that the call made: rows of its own. -/
def OwnS (w : World) (B : Nat) (us uk : Value) (st ca : List Int) : Prop := Owns w B us st ∧ Owns w B uk ca ∧ ∀ j, us.ownBlock = some j → uk.ownBlock ≠ some j
theorem OwnS.below {w w' : World} {B : Nat} {us uk : Value} {st ca : List Int} (h : OwnS w B us uk st ca) (hb : Below w.heap.size w w') : OwnS w' B us uk st ca := ⟨h.1.below hb, h.2.1.below hb, h.2.2⟩

set_option maxHeartbeats 2000000 in
theorem push_full (sv : Value) (s : StL) (vs vk : Value) (n : Int) (w : World) (hS : SeesS w sv s vs vk) (hl : 64 ≤ s.st.length) (hm : s.st.length ≤ 140737488355328) :
    Calls Tryd.prog 18 #[sv, .int .i64 n] w fun e w' => e = .returned (.tuple #[.agg #[.int .i64 0, .slice none 0 0, .slice none 0 0], .int .i64 2]) ∧ Below w.heap.size w w' := by
  obtain ⟨rfl, hs1, hs2, _, _⟩ := hS
  obtain ⟨b1, o1, a1, n1, rfl, hc1, _, _, _⟩ := hs1
  obtain ⟨W, hW⟩ : ∃ W, W = (w.alloc (.cells #[.int .i64 s.pc, .slice a1 s.st.length n1, vk] 25)).alloc (.cells #[.int .i64 0, .slice none 0 0, .slice none 0 0] 25) := ⟨_, rfl⟩
  have hb : Below w.heap.size w W := by rw [hW]; exact below_alloc2 w _ _
  obtain ⟨hz0, hz1⟩ := heap_new1 w (.cells #[.int .i64 s.pc, .slice a1 s.st.length n1, vk] 25) (.cells #[.int .i64 0, .slice none 0 0, .slice none 0 0] 25)
  rw [← hW] at hz0 hz1
  obtain ⟨g0, g1, g2, _, _, _⟩ := cel3 hz0
  obtain ⟨k0, k1, k2, z0, z1, z2⟩ := cel3 hz1
  have nn : ((64 : Int) ≤ (s.st.length : Int)) := by omega
  have HB := hid hb
  have HZ := hid hz1
  clear hb hz0 hz1 hs2
  go_enter Tryd.func18, Tryd.ntmps18
  iterate 9 (first | go_values | go_skip | go_guarded | go_step | go_upon | go_back | go_simp)
  rw [← hW]
  clear hW
  go_wp2
  refine bodyPost_ret (results_ct (fn := Tryd.f18) (p := 4) (u := 5) rfl _ _ (w.heap.size + 1) 25 #[.int .i64 0, .slice none 0 0, .slice none 0 0] (0, 0) _ (.int .i64 2) rfl rfl (fill3_g HZ.out) Tryd.underlying25 rfl) rfl ?_
  exact ⟨rfl, fill3_below HB.out (by omega) _ _ _⟩

set_option maxRecDepth 20000 in
set_option maxHeartbeats 4000000 in
theorem push_any (sv : Value) (s : StL) (vs vk : Value) (n : Int) (w : World) (hS : SeesS w sv s vs vk) (hl : s.st.length < 64) (hc : s.ca.length * 8 ≤ 140737488355328) :
    Calls Tryd.prog 18 #[sv, .int .i64 n] w fun e w' => ∃ us uk, e = .returned (.tuple #[.agg #[.int .i64 s.pc, us, uk], .int .i64 0]) ∧ OwnS w' w.heap.size us uk (s.st ++ [n]) s.ca ∧ Below w.heap.size w w' := by
  obtain ⟨rfl, hs1, hs2, _, _⟩ := hS
  have hs1' := hs1
  obtain ⟨b1, o1, a1, n1, rfl, hc1, _, _, _⟩ := hs1'
  obtain ⟨W, hW⟩ : ∃ W, W = (w.alloc (.cells #[.int .i64 s.pc, .slice a1 s.st.length n1, vk] 25)).alloc (.cells #[.int .i64 0, .slice none 0 0, .slice none 0 0] 25) := ⟨_, rfl⟩
  have hb : Below w.heap.size w W := by rw [hW]; exact below_alloc2 w _ _
  obtain ⟨hz0, hz1⟩ := heap_new1 w (.cells #[.int .i64 s.pc, .slice a1 s.st.length n1, vk] 25) (.cells #[.int .i64 0, .slice none 0 0, .slice none 0 0] 25)
  rw [← hW] at hz0 hz1
  have hbd : Below w.heap.size w W.drew := Below.drew hb
  have hWd : Below W.heap.size W W.drew := Below.drew (Below.refl _ _)
  have hsz := (Array.getElem?_eq_some_iff.1 hz1).1
  have HKC : Hid (∀ X, Below W.heap.size W X → X.cell? ⟨w.heap.size, 0, none⟩ = some (.int .i64 s.pc) ∧ X.cell? ⟨w.heap.size, 1, none⟩ = some (.slice a1 s.st.length n1) ∧ X.cell? ⟨w.heap.size, 2, none⟩ = some vk) := fun X h => by
    obtain ⟨g0, g1, g2, _⟩ := cel3 ((h.block w.heap.size (by omega)).trans hz0)
    exact ⟨g0, g1, g2⟩
  have HZC : Hid (∀ X, Below W.heap.size W X → X.heap[w.heap.size + 1]? = some (.cells #[.int .i64 0, .slice none 0 0, .slice none 0 0] 25 (0, 0))) := fun X h => (h.block _ hsz).trans hz1
  have HF1 : Hid (∀ X, Below w.heap.size w X → Calls Tryd.prog 30 #[.slice a1 s.st.length n1] X fun e w' => ∃ v', e = .returned v' ∧ Owns w' X.heap.size v' s.st ∧ Below X.heap.size X w') := fun X h => fresh_any _ s.st X (hs1.below h) (by omega)
  have HF2 : Hid (∀ X, Below w.heap.size w X → Calls Tryd.prog 30 #[vk] X fun e w' => ∃ v', e = .returned v' ∧ Owns w' X.heap.size v' s.ca ∧ Below X.heap.size X w') := fun X h => fresh_any _ s.ca X (hs2.below h) hc
  obtain ⟨c0, c1, c2⟩ := HKC.out W (Below.refl _ _)
  have hd0 := HKC.out _ hWd
  have HB := hid hb
  have hba : Below W.heap.size W ((W.alloc (.cells #[.int .i64 n] 3)).drew) := Below.drew (below_alloc W _)
  have HBA := hid hba
  have HBD := hid hWd
  have hka := HKC.out _ hba
  have hsa : Sees ((W.alloc (.cells #[.int .i64 n] 3)).drew) (.slice (some ⟨W.heap.size, 0, none⟩) 1 1) [n] := (sees_one W n).below (Below.drew (Below.refl _ _))
  have HSA := hid hsa
  have HKA : Hid (∀ (X : World) (o : Obj), Below W.heap.size W X → (X.alloc o).cell? ⟨w.heap.size, 0, none⟩ = some (.int .i64 s.pc) ∧ (X.alloc o).cell? ⟨w.heap.size, 1, none⟩ = some (.slice a1 s.st.length n1) ∧ (X.alloc o).cell? ⟨w.heap.size, 2, none⟩ = some vk) := fun X o h => HKC.out _ (h.alloc h.size o)
  have nn : ¬ ((64 : Int) ≤ (s.st.length : Int)) := by omega
  have HAP : Hid (∀ (X : World) (v u : Value), Below W.heap.size W X → Owns X W.heap.size v s.st → Sees X u [n] → ∃ v' w', (Builtin.append_ #[23, 23] 23 #[v, u]).run Tryd.prog X = .ok v' w' ∧ Owns w' W.heap.size v' (s.st ++ [n]) ∧ Below W.heap.size W w' ∧ X.heap.size ≤ w'.heap.size) := fun X v u h ho hs => by
    obtain ⟨v', w', hr, ho', hg, _⟩ := run_app X 23 W.heap.size v s.st ho u [n] hs (by simp; omega) h.size
    exact ⟨v', w', hr, ho', h.grown hg h.size (fun j hj => (ho.lt j hj).1), hg.size⟩
  have HKF : Hid (∀ (X : World) (x y z : Value), Below W.heap.size W X → (((X.setCell ⟨w.heap.size + 1, 0, none⟩ x).setCell ⟨w.heap.size + 1, 1, none⟩ y).setCell ⟨w.heap.size + 1, 2, none⟩ z).cell? ⟨w.heap.size, 0, none⟩ = some (.int .i64 s.pc) ∧ (((X.setCell ⟨w.heap.size + 1, 0, none⟩ x).setCell ⟨w.heap.size + 1, 1, none⟩ y).setCell ⟨w.heap.size + 1, 2, none⟩ z).cell? ⟨w.heap.size, 1, none⟩ = some (.slice a1 s.st.length n1) ∧ (((X.setCell ⟨w.heap.size + 1, 0, none⟩ x).setCell ⟨w.heap.size + 1, 1, none⟩ y).setCell ⟨w.heap.size + 1, 2, none⟩ z).cell? ⟨w.heap.size, 2, none⟩ = some vk) := fun X x y z h => by
    obtain ⟨g0, g1, g2, _⟩ := cel3 ((fill3_far (w := X) (g := w.heap.size + 1) (j := w.heap.size) x y z (by omega)).trans ((h.block w.heap.size (by omega)).trans hz0))
    exact ⟨g0, g1, g2⟩
  have HT1 : Hid True := trivial
  clear hb hbd hWd hba hsa hz0 hz1 hs1 hs2
  go_enter Tryd.func18, Tryd.ntmps18
  iterate 9 (first | go_values | go_skip | go_guarded | go_step | go_upon | go_back | go_simp)
  rw [← hW]
  clear hW
  go_wp2_with fail
  go_region_held3 (fun X => X.cell? ⟨w.heap.size, 0, none⟩ = some (.int .i64 s.pc) ∧ X.cell? ⟨w.heap.size, 1, none⟩ = some (.slice a1 s.st.length n1) ∧ X.cell? ⟨w.heap.size, 2, none⟩ = some vk)
    (first | (with_reducible exact hd0) | (with_reducible exact hka) | (with_reducible exact k1) | (with_reducible exact k1a) | (with_reducible exact k2) | (with_reducible exact k3) | (with_reducible exact HKF.out _ _ _ _ HB3.out))
    (first
      | (go_at_call 30
         clear HT1
         refine (HF1.out W.drew (HB.out.trans (HBD.out.mono HB.out.size))).mono ?_
         rintro e w1 ⟨u1, rfl, o1, b1⟩
         have b1' := HBD.out.trans b1
         have k1 := HKC.out w1 b1'
         have k1a := HKA.out w1 (.cells #[.int .i64 n] 3) b1'
         have hb1a := b1'.alloc b1'.size (.cells #[.int .i64 n] 3)
         have ho1a := ownsRow_below o1 (below_alloc w1 (.cells #[.int .i64 n] 3))
         have hap := HAP.out _ _ _ hb1a ho1a (sees_one w1 n)
         obtain ⟨v2, w2, hr, o2, b2, s2⟩ := hap
         obtain ⟨aa1, cc1, hu1⟩ := ownsRow_shape o1
         obtain ⟨aa2, cc2, hu2⟩ := ownsRow_shape o2
         subst hu1
         subst hu2
         have k2 := HKC.out w2 b2
         have HR := hid hr
         have HO2 := hid o2
         have HB2 := hid b2
         clear o1 b1 b1' hb1a ho1a hr o2 b2 s2)
      | (go_at_call 30
         clear HT1
         refine (HF1.out ((W.alloc (.cells #[.int .i64 n] 3)).drew) (HB.out.trans (HBA.out.mono HB.out.size))).mono ?_
         rintro e w1 ⟨u1, rfl, o1, b1⟩
         have b1' := HBA.out.trans (b1.mono HBA.out.size)
         have k1 := HKC.out w1 b1'
         have ho1a := ownsRow_le o1 HBA.out.size
         have hap := HAP.out _ _ _ b1' ho1a (HSA.out.below b1)
         obtain ⟨v2, w2, hr, o2, b2, s2⟩ := hap
         obtain ⟨aa1, cc1, hu1⟩ := ownsRow_shape o1
         obtain ⟨aa2, cc2, hu2⟩ := ownsRow_shape o2
         subst hu1
         subst hu2
         have k2 := HKC.out w2 b2
         have HR := hid hr
         have HO2 := hid o2
         have HB2 := hid b2
         clear o1 b1 b1' ho1a hr o2 b2 s2)
      | (refine step_append_run rfl (.tmp 15) (.tmp 17) 23 23 rfl _ _ (by simp [Act.eval, Act.put]) (by simp [Act.eval, Act.put]) HR.out ?_)
      | (go_at_call 30
         refine (HF2.out w2 (HB.out.trans (HB2.out.mono HB.out.size))).mono ?_
         rintro e w3 ⟨u3, rfl, o3, b3⟩
         have b3' := HB2.out.trans (b3.mono HB2.out.size)
         have k3 := HKC.out w3 b3'
         obtain ⟨aa3, cc3, hu3⟩ := ownsRow_shape o3
         subst hu3
         have HC3 := hid (HZC.out w3 b3')
         obtain ⟨q0, q1, q2, z0, z1, z2⟩ := cel3 HC3.out
         have HO3 := hid o3
         have HO2' := hid (ownsRow_below HO2.out b3)
         have HL2 := hid HO2.out.lt
         have HB3 := hid b3'
         clear o3 b3 b3'))
  all_goals
    go_wp2
    refine bodyPost_ret (results_ct (fn := Tryd.f18) (p := 4) (u := 5) rfl _ _ (w.heap.size + 1) 25 _ (0, 0) _ (.int .i64 0) rfl rfl (fill3_g HC3.out) Tryd.underlying25 rfl) rfl ?_
    have e9 : (s.st ++ [n]).length = s.st.length + 1 := by simp
    have hl2 : ∀ j, (Value.slice aa2 (s.st.length + 1) cc2).ownBlock = some j → W.heap.size ≤ j ∧ j < w2.heap.size := fun j hj => HL2.out j (by cases aa2 <;> exact hj)
    have ho2 : w3.ownsRow W.heap.size 3 1 (.slice aa2 (s.st.length + 1) cc2) (s.st ++ [n]).length ((s.st ++ [n]).map (Value.int .i64)) := by rw [← e9]; exact HO2'.out
    have hl3 := HO3.out.lt
    have hs3 := HB2.out.size
    have hs := HB.out.size
    refine ⟨_, _, rfl, ⟨ownsRow_le (ownsRow_same ho2 (fun j hj => fill3_far _ _ _ (by have := (hl2 j hj).1; omega))) hs, ownsRow_le (ownsRow_same HO3.out (fun j hj => fill3_far _ _ _ (by have := (hl3 j hj).1; omega))) (by omega), fun j hj e => ?_⟩, fill3_below (HB.out.trans (HB3.out.mono hs)) (by omega) _ _ _⟩
    have := (hl2 j hj).2
    have := (hl3 j e).1
    omega
end Go.Proofs.YtfnojlgmbfocfaaDoor
