/-
  What the document's single instruction is told with: three cells of results, and the blocks that it lays.
-/
import Derived.Test.YtfnojlgmbfocfaaDoorRTwo
import Derived.Test.YtfnojlgmbfocfaaDoorVRefC
import Derived.Test.YtfnojlgmbfocfaaDoorVRunB
import Derived.Test.YtfnojlgmbfocfaaDoorVTake
namespace Go.Proofs.YtfnojlgmbfocfaaDoor
open Go.RowKit
set_option linter.unusedVariables false
set_option linter.unusedSimpArgs false

theorem results_ccc {fn : Func} {p1 p2 p3 : Nat} {t1 t2 t3 : TypeId} (h : fn.results = #[.cell p1 t1, .cell p2 t2, .cell p3 t3]) (tmps : Array Value) (w : World) (g1 g2 g3 : Nat) (e1 e2 e3 : TypeId) (c1 c2 c3 : Array Value) (fr1 fr2 fr3 : Nat × Nat) (fs1 fs2 fs3 : Array Field)
    (hp1 : tmps.getD p1 undef = .pointer (some ⟨g1, 0, none⟩)) (hp2 : tmps.getD p2 undef = .pointer (some ⟨g2, 0, none⟩)) (hp3 : tmps.getD p3 undef = .pointer (some ⟨g3, 0, none⟩)) (hg1 : w.heap[g1]? = some (.cells c1 e1 fr1)) (hg2 : w.heap[g2]? = some (.cells c2 e2 fr2)) (hg3 : w.heap[g3]? = some (.cells c3 e3 fr3))
    (hu1 : Tryd.prog.underlying t1 = some (.struct fs1)) (hi1 : (Tryd.prog.info? t1).map (·.size) = some c1.size) (hu2 : Tryd.prog.underlying t2 = some (.struct fs2)) (hi2 : (Tryd.prog.info? t2).map (·.size) = some c2.size) (hu3 : Tryd.prog.underlying t3 = some (.struct fs3)) (hi3 : (Tryd.prog.info? t3).map (·.size) = some c3.size) :
    (results fn tmps).run Tryd.prog w = .ok (.tuple #[.agg c1, .agg c2, .agg c3]) w := by
  have h1 : (loadVar t1 ⟨g1, 0, none⟩).run Tryd.prog w = .ok (.agg c1) w := run_loadVar_row w g1 e1 t1 c1 fr1 (.struct fs1) hg1 hu1 rfl hi1
  have h2 : (loadVar t2 ⟨g2, 0, none⟩).run Tryd.prog w = .ok (.agg c2) w := run_loadVar_row w g2 e2 t2 c2 fr2 (.struct fs2) hg2 hu2 rfl hi2
  have h3 : (loadVar t3 ⟨g3, 0, none⟩).run Tryd.prog w = .ok (.agg c3) w := run_loadVar_row w g3 e3 t3 c3 fr3 (.struct fs3) hg3 hu3 rfl hi3
  have hp1' : tmps[p1]?.getD undef = .pointer (some ⟨g1, 0, none⟩) := by simpa using hp1
  have hp2' : tmps[p2]?.getD undef = .pointer (some ⟨g2, 0, none⟩) := by simpa using hp2
  have hp3' : tmps[p3]?.getD undef = .pointer (some ⟨g3, 0, none⟩) := by simpa using hp3
  simp [results, h, hp1', hp2', hp3', asAddr, h1, h2, h3, Result.andThen]

/-- A row that was there, or is new. -/
def NewV (w : World) (v v0 : Value) : Prop := v = v0 ∨ ∀ j, v.ownBlock = some j → w.heap.size ≤ j
/-- What one instruction leaves. -/
def OneR (w : World) (vs vk vb : Value) (R : (Int × Int) × StL × List Nat) (e : Ending) (w' : World) : Prop :=
  ∃ us uk ub, e = .returned (.tuple #[.agg #[.int .i64 R.2.1.pc, us, uk], .agg #[ub], .agg #[.int .i64 R.1.1, .int .i64 R.1.2, .int .i64 0]]) ∧ Sees w' us R.2.1.st ∧ Sees w' uk R.2.1.ca ∧ SeesN .u8 w' ub R.2.2 ∧ Below w.heap.size w w' ∧ NewV w us vs ∧ NewV w uk vk ∧ NewV w ub vb

/-- The six blocks that it lays first. -/
def sixW (w : World) (pc : Int) (vs vk vb : Value) : World :=
  (((((w.alloc (.cells #[.int .i64 pc, vs, vk] 25)).alloc (.cells #[vb] 39)).alloc (.cells #[.int .i64 0, .slice none 0 0, .slice none 0 0] 25)).alloc (.cells #[.slice none 0 0] 39)).alloc (.cells #[.int .i64 0, .int .i64 0, .int .i64 0] 33)).alloc (.cells #[.int .i64 4, .int .i64 0, .int .i64 0] 33)
/-- They lie so still. -/
structure Six (w : World) (z : Nat) (pc : Int) (vs vk vb : Value) : Prop where
  b0 : w.heap[z]? = some (.cells #[.int .i64 pc, vs, vk] 25 (0, 0))
  b1 : w.heap[z + 1]? = some (.cells #[vb] 39 (0, 0))
  b2 : w.heap[z + 1 + 1]? = some (.cells #[.int .i64 0, .slice none 0 0, .slice none 0 0] 25 (0, 0))
  b3 : w.heap[z + 1 + 1 + 1]? = some (.cells #[.slice none 0 0] 39 (0, 0))
  b4 : w.heap[z + 1 + 1 + 1 + 1]? = some (.cells #[.int .i64 0, .int .i64 0, .int .i64 0] 33 (0, 0))
  b5 : w.heap[z + 1 + 1 + 1 + 1 + 1]? = some (.cells #[.int .i64 4, .int .i64 0, .int .i64 0] 33 (0, 0))
theorem six_new (w : World) (pc : Int) (vs vk vb : Value) : Six (sixW w pc vs vk vb) w.heap.size pc vs vk vb ∧ Below w.heap.size w (sixW w pc vs vk vb) ∧ (sixW w pc vs vk vb).heap.size = w.heap.size + 6 := by
  have key : ∀ (u : World) (o : Obj) (j : Nat), j < u.heap.size → (u.alloc o).heap[j]? = u.heap[j]? := fun u o j h => Below.heap_alloc _ _ _ h
  have new : ∀ (u : World) (o : Obj) (j : Nat), j = u.heap.size → (u.alloc o).heap[j]? = some o := fun u o j h => by rw [h]; exact heap_alloc_new u o
  refine ⟨⟨?_, ?_, ?_, ?_, ?_, ?_⟩, ?_, ?_⟩
  · unfold sixW
    rw [key _ _ _ (by first | (simp; done) | (simp; omega)), key _ _ _ (by first | (simp; done) | (simp; omega)), key _ _ _ (by first | (simp; done) | (simp; omega)), key _ _ _ (by first | (simp; done) | (simp; omega)), key _ _ _ (by simp), new _ _ _ rfl]
  · unfold sixW
    rw [key _ _ _ (by first | (simp; done) | (simp; omega)), key _ _ _ (by first | (simp; done) | (simp; omega)), key _ _ _ (by first | (simp; done) | (simp; omega)), key _ _ _ (by simp), new _ _ _ (by simp)]
  · unfold sixW
    rw [key _ _ _ (by first | (simp; done) | (simp; omega)), key _ _ _ (by first | (simp; done) | (simp; omega)), key _ _ _ (by simp), new _ _ _ (by simp)]
  · unfold sixW
    rw [key _ _ _ (by first | (simp; done) | (simp; omega)), key _ _ _ (by simp), new _ _ _ (by simp)]
  · unfold sixW
    rw [key _ _ _ (by simp), new _ _ _ (by simp)]
  · unfold sixW
    rw [new _ _ _ (by simp)]
  · unfold sixW
    exact (((((below_alloc w _).alloc (by simp) _).alloc (by first | (simp; done) | (simp; omega)) _).alloc (by first | (simp; done) | (simp; omega)) _).alloc (by first | (simp; done) | (simp; omega)) _).alloc (by first | (simp; done) | (simp; omega)) _
  · unfold sixW
    simp
theorem Six.below {w w' : World} {z B : Nat} {pc : Int} {vs vk vb : Value} (h : Six w z pc vs vk vb) (hb : Below B w w') (hB : z + 6 ≤ B) : Six w' z pc vs vk vb :=
  ⟨by rw [hb.block _ (by omega)]; exact h.b0, by rw [hb.block _ (by omega)]; exact h.b1, by rw [hb.block _ (by omega)]; exact h.b2, by rw [hb.block _ (by omega)]; exact h.b3, by rw [hb.block _ (by omega)]; exact h.b4, by rw [hb.block _ (by omega)]; exact h.b5⟩
theorem cel1 {w : World} {g : Nat} {x : Value} {t : TypeId} (h : w.heap[g]? = some (.cells #[x] t (0, 0))) : w.cell? ⟨g, 0, none⟩ = some x ∧ w.frozen? ⟨g, 0, none⟩ = false := by
  refine ⟨?_, ?_⟩ <;> simp [World.cell?, World.frozen?, h]
theorem cel2 {w : World} {g : Nat} {x y : Value} {t : TypeId} (h : w.heap[g]? = some (.cells #[x, y] t (0, 0))) : w.cell? ⟨g, 0, none⟩ = some x ∧ w.cell? ⟨g, 1, none⟩ = some y := by
  refine ⟨?_, ?_⟩ <;> simp [World.cell?, h]

theorem set1_g {w : World} {g : Nat} {x a : Value} {t : TypeId} (h : w.heap[g]? = some (.cells #[x] t (0, 0))) : (w.setCell ⟨g, 0, none⟩ a).heap[g]? = some (.cells #[a] t (0, 0)) := by
  simp only [World.setCell, Array.getElem?_modify, h]
  simp
/-- The results' blocks are filled. -/
def fill7 (w : World) (z : Nat) (a b c x d e f : Value) : World := ((((((w.setCell ⟨z + 1 + 1, 0, none⟩ a).setCell ⟨z + 1 + 1, 1, none⟩ b).setCell ⟨z + 1 + 1, 2, none⟩ c).setCell ⟨z + 1 + 1 + 1, 0, none⟩ x).setCell ⟨z + 1 + 1 + 1 + 1, 0, none⟩ d).setCell ⟨z + 1 + 1 + 1 + 1, 1, none⟩ e).setCell ⟨z + 1 + 1 + 1 + 1, 2, none⟩ f
theorem fill7_far {w : World} {z j : Nat} (a b c x d e f : Value) (h2 : j ≠ z + 1 + 1) (h3 : j ≠ z + 1 + 1 + 1) (h4 : j ≠ z + 1 + 1 + 1 + 1) : (fill7 w z a b c x d e f).heap[j]? = w.heap[j]? := by
  unfold fill7
  rw [far_set h4, far_set h4, far_set h4, far_set h3, far_set h2, far_set h2, far_set h2]
theorem fill7_get {w : World} {z : Nat} {pc : Int} {vs vk vb : Value} (h : Six w z pc vs vk vb) (a b c x d e f : Value) :
    (fill7 w z a b c x d e f).heap[z + 1 + 1]? = some (.cells #[a, b, c] 25 (0, 0)) ∧ (fill7 w z a b c x d e f).heap[z + 1 + 1 + 1]? = some (.cells #[x] 39 (0, 0)) ∧ (fill7 w z a b c x d e f).heap[z + 1 + 1 + 1 + 1]? = some (.cells #[d, e, f] 33 (0, 0)) := by
  unfold fill7
  refine ⟨?_, ?_, ?_⟩
  · rw [far_set (by omega), far_set (by omega), far_set (by omega), far_set (by omega)]
    exact fill3_g h.b2
  · rw [far_set (by omega), far_set (by omega), far_set (by omega)]
    refine set1_g (x := .slice none 0 0) ?_
    rw [far_set (by omega), far_set (by omega), far_set (by omega)]
    exact h.b3
  · refine fill3_g (x := .int .i64 0) (y := .int .i64 0) (z := .int .i64 0) ?_
    rw [far_set (by omega), far_set (by omega), far_set (by omega), far_set (by omega)]
    exact h.b4
theorem drew_heapW (X : World) : X.drew.heap = X.heap := rfl
theorem fill7_getD {w : World} {z : Nat} {pc : Int} {vs vk vb : Value} (h : Six w z pc vs vk vb) (a b c x d e f : Value) :
    (fill7 w z a b c x d e f).drew.heap[z + 1 + 1]? = some (.cells #[a, b, c] 25 (0, 0)) ∧ (fill7 w z a b c x d e f).drew.heap[z + 1 + 1 + 1]? = some (.cells #[x] 39 (0, 0)) ∧ (fill7 w z a b c x d e f).drew.heap[z + 1 + 1 + 1 + 1]? = some (.cells #[d, e, f] 33 (0, 0)) := by
  rw [drew_heapW]
  exact fill7_get h a b c x d e f
theorem fill7_below {B z : Nat} {w w' : World} (h : Below B w w') (hz : B ≤ z) (a b c x d e f : Value) : Below B w (fill7 w' z a b c x d e f) :=
  ((((((h.setCell (p := ⟨z + 1 + 1, 0, none⟩) (by show B ≤ z + 1 + 1; omega) _).setCell (p := ⟨z + 1 + 1, 1, none⟩) (by show B ≤ z + 1 + 1; omega) _).setCell (p := ⟨z + 1 + 1, 2, none⟩) (by show B ≤ z + 1 + 1; omega) _).setCell (p := ⟨z + 1 + 1 + 1, 0, none⟩) (by show B ≤ z + 1 + 1 + 1; omega) _).setCell (p := ⟨z + 1 + 1 + 1 + 1, 0, none⟩) (by show B ≤ z + 1 + 1 + 1 + 1; omega) _).setCell (p := ⟨z + 1 + 1 + 1 + 1, 1, none⟩) (by show B ≤ z + 1 + 1 + 1 + 1; omega) _).setCell (p := ⟨z + 1 + 1 + 1 + 1, 2, none⟩) (by show B ≤ z + 1 + 1 + 1 + 1; omega) _
theorem set3_a {w : World} {g : Nat} {x y z a : Value} {t : TypeId} (h : w.heap[g]? = some (.cells #[x, y, z] t (0, 0))) : (w.setCell ⟨g, 0, none⟩ a).heap[g]? = some (.cells #[a, y, z] t (0, 0)) := by
  simp only [World.setCell, Array.getElem?_modify, h]
  simp
theorem set3_b {w : World} {g : Nat} {x y z a : Value} {t : TypeId} (h : w.heap[g]? = some (.cells #[x, y, z] t (0, 0))) : (w.setCell ⟨g, 1, none⟩ a).heap[g]? = some (.cells #[x, a, z] t (0, 0)) := by
  simp only [World.setCell, Array.getElem?_modify, h]
  simp
/-- What the stores of the results meet, one behind the other. -/
theorem six_steps {w : World} {z : Nat} {pc : Int} {vs vk vb : Value} (h : Six w z pc vs vk vb) (a b c x d e : Value) :
    (((w.setCell ⟨z + 1 + 1, 0, none⟩ a).drew.cell? ⟨z + 1 + 1, 1, none⟩ = some (.slice none 0 0) ∧ (w.setCell ⟨z + 1 + 1, 0, none⟩ a).drew.frozen? ⟨z + 1 + 1, 1, none⟩ = false) ∧
    (((w.setCell ⟨z + 1 + 1, 0, none⟩ a).setCell ⟨z + 1 + 1, 1, none⟩ b).drew.cell? ⟨z + 1 + 1, 2, none⟩ = some (.slice none 0 0) ∧ ((w.setCell ⟨z + 1 + 1, 0, none⟩ a).setCell ⟨z + 1 + 1, 1, none⟩ b).drew.frozen? ⟨z + 1 + 1, 2, none⟩ = false)) ∧
    (((((w.setCell ⟨z + 1 + 1, 0, none⟩ a).setCell ⟨z + 1 + 1, 1, none⟩ b).setCell ⟨z + 1 + 1, 2, none⟩ c).drew.cell? ⟨z + 1 + 1 + 1, 0, none⟩ = some (.slice none 0 0) ∧ (((w.setCell ⟨z + 1 + 1, 0, none⟩ a).setCell ⟨z + 1 + 1, 1, none⟩ b).setCell ⟨z + 1 + 1, 2, none⟩ c).drew.frozen? ⟨z + 1 + 1 + 1, 0, none⟩ = false) ∧
    ((((w.setCell ⟨z + 1 + 1, 0, none⟩ a).setCell ⟨z + 1 + 1, 1, none⟩ b).setCell ⟨z + 1 + 1, 2, none⟩ c).drew.cell? ⟨z + 1, 0, none⟩ = some vb)) ∧
    ((((((w.setCell ⟨z + 1 + 1, 0, none⟩ a).setCell ⟨z + 1 + 1, 1, none⟩ b).setCell ⟨z + 1 + 1, 2, none⟩ c).setCell ⟨z + 1 + 1 + 1, 0, none⟩ x).drew.cell? ⟨z + 1 + 1 + 1 + 1, 0, none⟩ = some (.int .i64 0) ∧ ((((w.setCell ⟨z + 1 + 1, 0, none⟩ a).setCell ⟨z + 1 + 1, 1, none⟩ b).setCell ⟨z + 1 + 1, 2, none⟩ c).setCell ⟨z + 1 + 1 + 1, 0, none⟩ x).drew.frozen? ⟨z + 1 + 1 + 1 + 1, 0, none⟩ = false) ∧
    (((((w.setCell ⟨z + 1 + 1, 0, none⟩ a).setCell ⟨z + 1 + 1, 1, none⟩ b).setCell ⟨z + 1 + 1, 2, none⟩ c).setCell ⟨z + 1 + 1 + 1, 0, none⟩ x).drew.cell? ⟨z + 1 + 1 + 1 + 1 + 1, 0, none⟩ = some (.int .i64 4) ∧ ((((w.setCell ⟨z + 1 + 1, 0, none⟩ a).setCell ⟨z + 1 + 1, 1, none⟩ b).setCell ⟨z + 1 + 1, 2, none⟩ c).setCell ⟨z + 1 + 1 + 1, 0, none⟩ x).drew.cell? ⟨z + 1 + 1 + 1 + 1 + 1, 1, none⟩ = some (.int .i64 0) ∧ ((((w.setCell ⟨z + 1 + 1, 0, none⟩ a).setCell ⟨z + 1 + 1, 1, none⟩ b).setCell ⟨z + 1 + 1, 2, none⟩ c).setCell ⟨z + 1 + 1 + 1, 0, none⟩ x).drew.cell? ⟨z + 1 + 1 + 1 + 1 + 1, 2, none⟩ = some (.int .i64 0))) ∧
    ((((((w.setCell ⟨z + 1 + 1, 0, none⟩ a).setCell ⟨z + 1 + 1, 1, none⟩ b).setCell ⟨z + 1 + 1, 2, none⟩ c).setCell ⟨z + 1 + 1 + 1, 0, none⟩ x).setCell ⟨z + 1 + 1 + 1 + 1, 0, none⟩ d).drew.cell? ⟨z + 1 + 1 + 1 + 1, 1, none⟩ = some (.int .i64 0) ∧ (((((w.setCell ⟨z + 1 + 1, 0, none⟩ a).setCell ⟨z + 1 + 1, 1, none⟩ b).setCell ⟨z + 1 + 1, 2, none⟩ c).setCell ⟨z + 1 + 1 + 1, 0, none⟩ x).setCell ⟨z + 1 + 1 + 1 + 1, 0, none⟩ d).drew.frozen? ⟨z + 1 + 1 + 1 + 1, 1, none⟩ = false) ∧
    (((((((w.setCell ⟨z + 1 + 1, 0, none⟩ a).setCell ⟨z + 1 + 1, 1, none⟩ b).setCell ⟨z + 1 + 1, 2, none⟩ c).setCell ⟨z + 1 + 1 + 1, 0, none⟩ x).setCell ⟨z + 1 + 1 + 1 + 1, 0, none⟩ d).setCell ⟨z + 1 + 1 + 1 + 1, 1, none⟩ e).drew.cell? ⟨z + 1 + 1 + 1 + 1, 2, none⟩ = some (.int .i64 0) ∧ ((((((w.setCell ⟨z + 1 + 1, 0, none⟩ a).setCell ⟨z + 1 + 1, 1, none⟩ b).setCell ⟨z + 1 + 1, 2, none⟩ c).setCell ⟨z + 1 + 1 + 1, 0, none⟩ x).setCell ⟨z + 1 + 1 + 1 + 1, 0, none⟩ d).setCell ⟨z + 1 + 1 + 1 + 1, 1, none⟩ e).drew.frozen? ⟨z + 1 + 1 + 1 + 1, 2, none⟩ = false) := by
  have k1 := set3_a (a := a) h.b2
  have k2 := set3_b (a := b) k1
  obtain ⟨W3, hW3⟩ : ∃ W3, W3 = ((w.setCell ⟨z + 1 + 1, 0, none⟩ a).setCell ⟨z + 1 + 1, 1, none⟩ b).setCell ⟨z + 1 + 1, 2, none⟩ c := ⟨_, rfl⟩
  have f3 : ∀ j, j ≠ z + 1 + 1 → W3.heap[j]? = w.heap[j]? := fun j hj => by rw [hW3, far_set hj, far_set hj, far_set hj]
  obtain ⟨W4, hW4⟩ : ∃ W4, W4 = W3.setCell ⟨z + 1 + 1 + 1, 0, none⟩ x := ⟨_, rfl⟩
  have f4 : ∀ j, j ≠ z + 1 + 1 → j ≠ z + 1 + 1 + 1 → W4.heap[j]? = w.heap[j]? := fun j hj hj2 => by rw [hW4, far_set hj2, f3 j hj]
  rw [← hW3, ← hW4]
  have q3 := (f3 (z + 1 + 1 + 1) (by omega)).trans h.b3
  have q1 := (f3 (z + 1) (by omega)).trans h.b1
  have q4 := (f4 (z + 1 + 1 + 1 + 1) (by omega) (by omega)).trans h.b4
  have q5 := (f4 (z + 1 + 1 + 1 + 1 + 1) (by omega) (by omega)).trans h.b5
  have k5 := set3_a (a := d) q4
  have k6 := set3_b (a := e) k5
  have c1 := cel3 (w := (w.setCell ⟨z + 1 + 1, 0, none⟩ a).drew) k1
  have c2 := cel3 (w := ((w.setCell ⟨z + 1 + 1, 0, none⟩ a).setCell ⟨z + 1 + 1, 1, none⟩ b).drew) k2
  have c3 := cel1 (w := W3.drew) q3
  have c4 := cel1 (w := W3.drew) q1
  have c5 := cel3 (w := W4.drew) q4
  have c6 := cel3 (w := W4.drew) q5
  have c7 := cel3 (w := (W4.setCell ⟨z + 1 + 1 + 1 + 1, 0, none⟩ d).drew) k5
  have c8 := cel3 (w := ((W4.setCell ⟨z + 1 + 1 + 1 + 1, 0, none⟩ d).setCell ⟨z + 1 + 1 + 1 + 1, 1, none⟩ e).drew) k6
  exact ⟨⟨⟨c1.2.1, c1.2.2.2.2.1⟩, c2.2.2.1, c2.2.2.2.2.2⟩, ⟨⟨c3.1, c3.2⟩, c4.1⟩, ⟨⟨c5.1, c5.2.2.2.1⟩, c6.1, c6.2.1, c6.2.2.1⟩, ⟨c7.2.1, c7.2.2.2.2.1⟩, c8.2.2.1, c8.2.2.2.2.2⟩
end Go.Proofs.YtfnojlgmbfocfaaDoor
