/-
  The document's Copy of a state.
-/
import Derived.Test.YtfnojlgmbfocfaaDoorVWork
namespace Go.Proofs.YtfnojlgmbfocfaaDoor
open Go.RowKit
set_option linter.unusedVariables false
set_option linter.unusedSimpArgs false

set_option maxRecDepth 20000 in
set_option maxHeartbeats 4000000 in
theorem rcopy_any (v : Value) (s : StL) (vs vk : Value) (w : World) (hS : SeesS w v s vs vk) (h1 : s.st.length * 8 ≤ 140737488355328) (h2 : s.ca.length * 8 ≤ 140737488355328) :
    Calls Tryd.prog 12 #[v] w fun e w' => ∃ us uk, e = .returned (.agg #[.int .i64 s.pc, us, uk]) ∧ Owns w' w.heap.size us s.st ∧ Owns w' w.heap.size uk s.ca ∧ (∀ j, us.ownBlock = some j → uk.ownBlock ≠ some j) ∧ Below w.heap.size w w' := by
  obtain ⟨rfl, hs, hk, _, _⟩ := hS
  obtain ⟨W, hW⟩ : ∃ W, W = ((w.alloc (.cells #[.int .i64 s.pc, vs, vk] 25)).alloc (.cells #[.int .i64 0, .slice none 0 0, .slice none 0 0] 25)).alloc (.cells #[.int .i64 s.pc, .slice none 0 0, .slice none 0 0] 25) := ⟨_, rfl⟩
  have hb : Below w.heap.size w W := by rw [hW]; exact (below_alloc2 w _ _).alloc (by simp; omega) _
  have z2 : W.heap[w.heap.size + 1 + 1]? = some (.cells #[.int .i64 s.pc, .slice none 0 0, .slice none 0 0] 25 (0, 0)) := by
    rw [hW]
    have := heap_alloc_new ((w.alloc (.cells #[.int .i64 s.pc, vs, vk] 25)).alloc (.cells #[.int .i64 0, .slice none 0 0, .slice none 0 0] 25)) (.cells #[.int .i64 s.pc, .slice none 0 0, .slice none 0 0] 25)
    simpa using this
  have z1 : W.heap[w.heap.size + 1]? = some (.cells #[.int .i64 0, .slice none 0 0, .slice none 0 0] 25 (0, 0)) := by
    rw [hW, Below.heap_alloc _ _ _ (by simp)]
    have := heap_alloc_new (w.alloc (.cells #[.int .i64 s.pc, vs, vk] 25)) (.cells #[.int .i64 0, .slice none 0 0, .slice none 0 0] 25)
    simpa using this
  have z0 : W.heap[w.heap.size]? = some (.cells #[.int .i64 s.pc, vs, vk] 25 (0, 0)) := by
    rw [hW, Below.heap_alloc _ _ _ (by simp; omega), Below.heap_alloc _ _ _ (by simp)]
    exact heap_alloc_new w _
  have hzl := (Array.getElem?_eq_some_iff.1 z2).1
  obtain ⟨v1, w1, hr1, ho1, hg1, hv1⟩ := run_app W 23 W.heap.size _ [] (Owns.nil W _) vs s.st (hs.below hb) (by simpa using h1) (Nat.le_refl _)
  have hb1 : Below W.heap.size W w1 := (Below.refl _ _).grown hg1 (Nat.le_refl _) (fun k hk => by simp [Value.ownBlock] at hk)
  have ho1' : Owns w1 W.heap.size v1 s.st := by simpa using ho1
  have y0 := (hb1.block w.heap.size (by omega)).trans z0
  have y1 := (hb1.block (w.heap.size + 1) (by omega)).trans z1
  have y2 := (hb1.block (w.heap.size + 1 + 1) hzl).trans z2
  obtain ⟨W1, hW1⟩ : ∃ W1, W1 = w1.setCell ⟨w.heap.size + 1 + 1, 1, none⟩ v1 := ⟨_, rfl⟩
  have s1 := hb1.size
  have x2 : W1.heap[w.heap.size + 1 + 1]? = some (.cells #[.int .i64 s.pc, v1, .slice none 0 0] 25 (0, 0)) := by
    rw [hW1]
    simp only [World.setCell, Array.getElem?_modify, y2]
    simp
  have x1 := (show W1.heap[w.heap.size + 1]? = w1.heap[w.heap.size + 1]? by rw [hW1]; exact far_set (by simp)).trans y1
  have hbW1 : Below w.heap.size w W1 := by
    rw [hW1]
    exact (hb.trans (hb1.mono hb.size)).setCell (by show w.heap.size ≤ w.heap.size + 1 + 1; omega) _
  have sW1 : W1.heap.size = w1.heap.size := by rw [hW1]; simp
  have oW1 : Owns W1 W.heap.size v1 s.st := by
    rw [hW1]
    exact ownsRow_same ho1' (fun j hj => far_set (by have := (ho1'.lt j hj).1; omega))
  obtain ⟨v2, w2, hr2, ho2, hg2, hv2⟩ := run_app W1 23 W1.heap.size _ [] (Owns.nil W1 _) vk s.ca (hk.below hbW1) (by simpa using h2) (Nat.le_refl _)
  have hb2 : Below W1.heap.size W1 w2 := (Below.refl _ _).grown hg2 (Nat.le_refl _) (fun k hk => by simp [Value.ownBlock] at hk)
  have ho2' : Owns w2 W1.heap.size v2 s.ca := by simpa using ho2
  have q2 := (hb2.block (w.heap.size + 1 + 1) (by omega)).trans x2
  have q1 := (hb2.block (w.heap.size + 1) (by omega)).trans x1
  have o1w2 : Owns w2 W.heap.size v1 s.st := oW1.below hb2
  obtain ⟨a1, n1, e1, _⟩ := ho1'.shape
  obtain ⟨a2, n2, e2, _⟩ := ho2'.shape
  subst e1
  subst e2
  have c0 : w1.cell? ⟨w.heap.size + 1 + 1, 0, none⟩ = some (.int .i64 s.pc) := by simp [World.cell?, y2]
  have c1 : w1.cell? ⟨w.heap.size + 1 + 1, 1, none⟩ = some (.slice none 0 0) := by simp [World.cell?, y2]
  have c2 : w1.cell? ⟨w.heap.size + 1 + 1, 2, none⟩ = some (.slice none 0 0) := by simp [World.cell?, y2]
  have f1 : w1.frozen? ⟨w.heap.size + 1 + 1, 1, none⟩ = false := by simp [World.frozen?, y2]
  have d2 : w1.cell? ⟨w.heap.size, 2, none⟩ = some (vk) := by simp [World.cell?, y0]
  have k0 : w2.cell? ⟨w.heap.size + 1 + 1, 0, none⟩ = some (.int .i64 s.pc) := by simp [World.cell?, q2]
  have k1 : w2.cell? ⟨w.heap.size + 1 + 1, 1, none⟩ = some (.slice a1 s.st.length n1) := by simp [World.cell?, q2]
  have k2 : w2.cell? ⟨w.heap.size + 1 + 1, 2, none⟩ = some (.slice none 0 0) := by simp [World.cell?, q2]
  have m2 : w2.frozen? ⟨w.heap.size + 1 + 1, 2, none⟩ = false := by simp [World.frozen?, q2]
  have t0 : w2.cell? ⟨w.heap.size + 1, 0, none⟩ = some (.int .i64 0) := by simp [World.cell?, q1]
  have u0 : w2.frozen? ⟨w.heap.size + 1, 0, none⟩ = false := by simp [World.frozen?, q1]
  have t1 : w2.cell? ⟨w.heap.size + 1, 1, none⟩ = some (.slice none 0 0) := by simp [World.cell?, q1]
  have u1 : w2.frozen? ⟨w.heap.size + 1, 1, none⟩ = false := by simp [World.frozen?, q1]
  have t2 : w2.cell? ⟨w.heap.size + 1, 2, none⟩ = some (.slice none 0 0) := by simp [World.cell?, q1]
  have u2 : w2.frozen? ⟨w.heap.size + 1, 2, none⟩ = false := by simp [World.frozen?, q1]
  have HR1 := hid hr1
  have HR2 := hid hr2
  have HO1 := hid o1w2
  have HO2 := hid ho2'
  have HL1 := hid (fun j hj => ho1'.lt j hj)
  have HQ1 := hid q1
  have hb2' := hbW1.trans (hb2.mono hbW1.size)
  have HB := hid hb2'
  have hsz : W.heap.size ≤ W1.heap.size := by omega
  have HSZ := hid (And.intro hsz (And.intro s1 sW1))
  have HZL := hid hzl
  clear hr1 hr2 o1w2 ho2 ho2' ho1 ho1' oW1 hb hb1 hb2 hb2' hbW1 z0 z1 z2 y0 y1 y2 x1 x2 q1 q2 hg1 hg2 hv1 hv2 hs hk hzl s1 sW1 hsz
  go_enter Tryd.func12, Tryd.ntmps12
  go_wp2_with (first
    | (at_builtin
       rw [← hW]
       refine wpList_append_run rfl _ _ 23 23 rfl _ _ rfl rfl HR1.out ?_
       clear hW)
    | (at_builtin
       rw [← hW1]
       refine wpList_append_run rfl _ _ 23 23 rfl _ _ rfl rfl HR2.out ?_
       clear hW1)
    | fail)
  refine bodyPost_ret (v := .agg #[.int .i64 s.pc, .slice a1 s.st.length n1, .slice a2 s.ca.length n2]) (results_cell_row (fn := Tryd.f12) (p := 2) (ty := 25) rfl _ _ (w.heap.size + 1) 25 #[.int .i64 s.pc, .slice a1 s.st.length n1, .slice a2 s.ca.length n2] (0, 0) _ rfl (by exact heap_fill3 ((far_set (by simp)).trans HQ1.out)) Tryd.underlying25 rfl rfl) rfl ?_
  have hz := HSZ.out
  have hzz := HZL.out
  have l1 := fun j hj => HL1.out j hj
  have l2 := fun j hj => (HO2.out.lt j hj)
  have hfar : ∀ (x y z u : Value) (j : Nat), j ≠ w.heap.size + 1 + 1 → j ≠ w.heap.size + 1 → ((((w2.setCell ⟨w.heap.size + 1 + 1, 2, none⟩ x).setCell ⟨w.heap.size + 1, 0, none⟩ y).setCell ⟨w.heap.size + 1, 1, none⟩ z).setCell ⟨w.heap.size + 1, 2, none⟩ u).heap[j]? = w2.heap[j]? := fun x y z u j h1 h2 => by
    rw [far_set h2, far_set h2, far_set h2, far_set h1]
  refine ⟨_, _, rfl, ownsRow_le (ownsRow_same HO1.out (fun j hj => hfar _ _ _ _ j (by have := (l1 j hj).1; omega) (by have := (l1 j hj).1; omega))) (by omega), ownsRow_le (ownsRow_same HO2.out (fun j hj => hfar _ _ _ _ j (by have := (l2 j hj).1; omega) (by have := (l2 j hj).1; omega))) (by omega), fun j hj e => ?_, ?_⟩
  · have a := (l1 j hj).2
    have b := (l2 j e).1
    omega
  · exact (((HB.out.setCell (p := ⟨w.heap.size + 1 + 1, 2, none⟩) (by show w.heap.size ≤ w.heap.size + 1 + 1; omega) _).setCell (p := ⟨w.heap.size + 1, 0, none⟩) (Nat.le_succ _) _).setCell (p := ⟨w.heap.size + 1, 1, none⟩) (Nat.le_succ _) _).setCell (p := ⟨w.heap.size + 1, 2, none⟩) (Nat.le_succ _) _
end Go.Proofs.YtfnojlgmbfocfaaDoor
