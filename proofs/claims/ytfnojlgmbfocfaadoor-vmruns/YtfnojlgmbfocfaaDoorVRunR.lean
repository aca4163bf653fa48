/-
  The document's Run: what lies where, its results.
-/
import Derived.Test.YtfnojlgmbfocfaaDoorVOne
import Derived.Test.YtfnojlgmbfocfaaDoorVFrameW
namespace Go.Proofs.YtfnojlgmbfocfaaDoor
open Go.RowKit
set_option linter.unusedVariables false
set_option linter.unusedSimpArgs false

theorem results_ccct {fn : Func} {p1 p2 p3 u : Nat} {t1 t2 t3 : TypeId} (h : fn.results = #[.cell p1 t1, .cell p2 t2, .cell p3 t3, .tmp u]) (tmps : Array Value) (w : World) (g1 g2 g3 : Nat) (e1 e2 e3 : TypeId) (c1 c2 c3 : Array Value) (fr1 fr2 fr3 : Nat × Nat) (fs1 fs2 fs3 : Array Field) (v : Value)
    (hp1 : tmps.getD p1 undef = .pointer (some ⟨g1, 0, none⟩)) (hp2 : tmps.getD p2 undef = .pointer (some ⟨g2, 0, none⟩)) (hp3 : tmps.getD p3 undef = .pointer (some ⟨g3, 0, none⟩)) (hv : tmps.getD u undef = v) (hg1 : w.heap[g1]? = some (.cells c1 e1 fr1)) (hg2 : w.heap[g2]? = some (.cells c2 e2 fr2)) (hg3 : w.heap[g3]? = some (.cells c3 e3 fr3))
    (hu1 : Tryd.prog.underlying t1 = some (.struct fs1)) (hi1 : (Tryd.prog.info? t1).map (·.size) = some c1.size) (hu2 : Tryd.prog.underlying t2 = some (.struct fs2)) (hi2 : (Tryd.prog.info? t2).map (·.size) = some c2.size) (hu3 : Tryd.prog.underlying t3 = some (.struct fs3)) (hi3 : (Tryd.prog.info? t3).map (·.size) = some c3.size) :
    (results fn tmps).run Tryd.prog w = .ok (.tuple #[.agg c1, .agg c2, .agg c3, v]) w := by
  have h1 : (loadVar t1 ⟨g1, 0, none⟩).run Tryd.prog w = .ok (.agg c1) w := run_loadVar_row w g1 e1 t1 c1 fr1 (.struct fs1) hg1 hu1 rfl hi1
  have h2 : (loadVar t2 ⟨g2, 0, none⟩).run Tryd.prog w = .ok (.agg c2) w := run_loadVar_row w g2 e2 t2 c2 fr2 (.struct fs2) hg2 hu2 rfl hi2
  have h3 : (loadVar t3 ⟨g3, 0, none⟩).run Tryd.prog w = .ok (.agg c3) w := run_loadVar_row w g3 e3 t3 c3 fr3 (.struct fs3) hg3 hu3 rfl hi3
  have hp1' : tmps[p1]?.getD undef = .pointer (some ⟨g1, 0, none⟩) := by simpa using hp1
  have hp2' : tmps[p2]?.getD undef = .pointer (some ⟨g2, 0, none⟩) := by simpa using hp2
  have hp3' : tmps[p3]?.getD undef = .pointer (some ⟨g3, 0, none⟩) := by simpa using hp3
  have hv' : tmps[u]?.getD undef = v := by simpa using hv
  simp [results, h, hp1', hp2', hp3', hv', asAddr, h1, h2, h3, Result.andThen]

/-- The five blocks that Run lays first. -/
def fiveW (w : World) (pc : Int) (vs vk vb : Value) : World :=
  ((((w.alloc (.cells #[.int .i64 pc, vs, vk] 25)).alloc (.cells #[vb] 39)).alloc (.cells #[.int .i64 0, .slice none 0 0, .slice none 0 0] 25)).alloc (.cells #[.slice none 0 0] 39)).alloc (.cells #[.int .i64 0, .int .i64 0, .int .i64 0] 33)
structure Five (w : World) (z : Nat) (pc : Int) (vs vk vb : Value) : Prop where
  b0 : w.heap[z]? = some (.cells #[.int .i64 pc, vs, vk] 25 (0, 0))
  b1 : w.heap[z + 1]? = some (.cells #[vb] 39 (0, 0))
  b2 : w.heap[z + 1 + 1]? = some (.cells #[.int .i64 0, .slice none 0 0, .slice none 0 0] 25 (0, 0))
  b3 : w.heap[z + 1 + 1 + 1]? = some (.cells #[.slice none 0 0] 39 (0, 0))
  b4 : w.heap[z + 1 + 1 + 1 + 1]? = some (.cells #[.int .i64 0, .int .i64 0, .int .i64 0] 33 (0, 0))
theorem five_new (w : World) (pc : Int) (vs vk vb : Value) : Five (fiveW w pc vs vk vb) w.heap.size pc vs vk vb ∧ Below w.heap.size w (fiveW w pc vs vk vb) ∧ (fiveW w pc vs vk vb).heap.size = w.heap.size + 5 := by
  have key : ∀ (u : World) (o : Obj) (j : Nat), j < u.heap.size → (u.alloc o).heap[j]? = u.heap[j]? := fun u o j h => Below.heap_alloc _ _ _ h
  have new : ∀ (u : World) (o : Obj) (j : Nat), j = u.heap.size → (u.alloc o).heap[j]? = some o := fun u o j h => by rw [h]; exact heap_alloc_new u o
  refine ⟨⟨?_, ?_, ?_, ?_, ?_⟩, ?_, ?_⟩
  · unfold fiveW
    rw [key _ _ _ (by first | (simp; done) | (simp; omega)), key _ _ _ (by first | (simp; done) | (simp; omega)), key _ _ _ (by first | (simp; done) | (simp; omega)), key _ _ _ (by first | (simp; done) | (simp; omega)), new _ _ _ rfl]
  · unfold fiveW
    rw [key _ _ _ (by first | (simp; done) | (simp; omega)), key _ _ _ (by first | (simp; done) | (simp; omega)), key _ _ _ (by first | (simp; done) | (simp; omega)), new _ _ _ (by simp)]
  · unfold fiveW
    rw [key _ _ _ (by first | (simp; done) | (simp; omega)), key _ _ _ (by first | (simp; done) | (simp; omega)), new _ _ _ (by simp)]
  · unfold fiveW
    rw [key _ _ _ (by first | (simp; done) | (simp; omega)), new _ _ _ (by simp)]
  · unfold fiveW
    rw [new _ _ _ (by simp)]
  · unfold fiveW
    exact ((((below_alloc w _).alloc (by first | (simp; done) | (simp; omega)) _).alloc (by first | (simp; done) | (simp; omega)) _).alloc (by first | (simp; done) | (simp; omega)) _).alloc (by first | (simp; done) | (simp; omega)) _
  · unfold fiveW
    simp
theorem Five.below {w w' : World} {z B : Nat} {pc : Int} {vs vk vb : Value} (h : Five w z pc vs vk vb) (hb : Below B w w') (hB : z + 5 ≤ B) : Five w' z pc vs vk vb :=
  ⟨by rw [hb.block _ (by omega)]; exact h.b0, by rw [hb.block _ (by omega)]; exact h.b1, by rw [hb.block _ (by omega)]; exact h.b2, by rw [hb.block _ (by omega)]; exact h.b3, by rw [hb.block _ (by omega)]; exact h.b4⟩
theorem Five.cells {Y : World} {z : Nat} {pc : Int} {vs vk vb : Value} (h : Five Y z pc vs vk vb) :
    (Y.cell? ⟨z, 0, none⟩ = some (.int .i64 pc) ∧ Y.cell? ⟨z, 1, none⟩ = some vs ∧ Y.cell? ⟨z, 2, none⟩ = some vk ∧ Y.frozen? ⟨z, 0, none⟩ = false ∧ Y.frozen? ⟨z, 1, none⟩ = false ∧ Y.frozen? ⟨z, 2, none⟩ = false) ∧ (Y.cell? ⟨z + 1, 0, none⟩ = some vb ∧ Y.frozen? ⟨z + 1, 0, none⟩ = false) ∧
    (Y.cell? ⟨z + 1 + 1, 0, none⟩ = some (.int .i64 0) ∧ Y.cell? ⟨z + 1 + 1, 1, none⟩ = some (.slice none 0 0) ∧ Y.cell? ⟨z + 1 + 1, 2, none⟩ = some (.slice none 0 0) ∧ Y.frozen? ⟨z + 1 + 1, 0, none⟩ = false ∧ Y.frozen? ⟨z + 1 + 1, 1, none⟩ = false ∧ Y.frozen? ⟨z + 1 + 1, 2, none⟩ = false) ∧
    (Y.cell? ⟨z + 1 + 1 + 1, 0, none⟩ = some (.slice none 0 0) ∧ Y.frozen? ⟨z + 1 + 1 + 1, 0, none⟩ = false) ∧
    (Y.cell? ⟨z + 1 + 1 + 1 + 1, 0, none⟩ = some (.int .i64 0) ∧ Y.cell? ⟨z + 1 + 1 + 1 + 1, 1, none⟩ = some (.int .i64 0) ∧ Y.cell? ⟨z + 1 + 1 + 1 + 1, 2, none⟩ = some (.int .i64 0) ∧ Y.frozen? ⟨z + 1 + 1 + 1 + 1, 0, none⟩ = false ∧ Y.frozen? ⟨z + 1 + 1 + 1 + 1, 1, none⟩ = false ∧ Y.frozen? ⟨z + 1 + 1 + 1 + 1, 2, none⟩ = false) :=
  ⟨cel3 h.b0, cel1 h.b1, cel3 h.b2, cel1 h.b3, cel3 h.b4⟩
theorem five_get {w : World} {z : Nat} {pc : Int} {vs vk vb : Value} (h : Five w z pc vs vk vb) (a b c x d e f : Value) :
    (fill7 w z a b c x d e f).drew.heap[z + 1 + 1]? = some (.cells #[a, b, c] 25 (0, 0)) ∧ (fill7 w z a b c x d e f).drew.heap[z + 1 + 1 + 1]? = some (.cells #[x] 39 (0, 0)) ∧ (fill7 w z a b c x d e f).drew.heap[z + 1 + 1 + 1 + 1]? = some (.cells #[d, e, f] 33 (0, 0)) := by
  rw [drew_heapW]
  unfold fill7
  refine ⟨?_, ?_, ?_⟩
  · rw [far_set (by omega), far_set (by omega), far_set (by omega), far_set (by omega)]
    exact fill3_g h.b2
  · rw [far_set (by omega), far_set (by omega), far_set (by omega)]
    refine set1_g (x := .slice none 0 0) ?_
    rw [far_set (by omega), far_set (by omega), far_set (by omega)]
    exact h.b3
  · refine fill3_g (x := .int .i64 0) (y := .int .i64 0) (z := .int .i64 0) ?_
    rw [far_set (by omega), far_set (by omega), far_set (by omega), far_set (by omega)]
    exact h.b4

/-- What a run leaves: the error, how it stopped, the state, the memory. -/
def RunQ (w : World) (vb : Value) (E : Int) (R : (Int × Int × Nat) × StL × List Nat) (e : Ending) (w' : World) : Prop :=
  ∃ us uk ub, e = .returned (.tuple #[.agg #[.int .i64 R.2.1.pc, us, uk], .agg #[ub], .agg #[.int .i64 R.1.1, .int .i64 R.1.2.1, .int .i64 (R.1.2.2 : Nat)], .int .i64 E]) ∧ Sees w' us R.2.1.st ∧ Sees w' uk R.2.1.ca ∧ SeesN .u8 w' ub R.2.2 ∧ Below w.heap.size w w' ∧ (∀ j, us.ownBlock = some j → w.heap.size ≤ j) ∧ (∀ j, uk.ownBlock = some j → w.heap.size ≤ j) ∧ NewV w ub vb
theorem run_none {w X : World} {vb : Value} {b : List Nat} (hbel : Below w.heap.size w X) (hb : SeesN .u8 w vb b) (E : Int) :
    RunQ w vb E ((0, 0, 0), ⟨0, [], []⟩, b) (.returned (.tuple #[.agg #[.int .i64 0, .slice none 0 0, .slice none 0 0], .agg #[vb], .agg #[.int .i64 0, .int .i64 0, .int .i64 0], .int .i64 E])) (fill7 X w.heap.size (.int .i64 0) (.slice none 0 0) (.slice none 0 0) vb (.int .i64 0) (.int .i64 0) (.int .i64 0)).drew := by
  have hB : Below w.heap.size w (fill7 X w.heap.size (.int .i64 0) (.slice none 0 0) (.slice none 0 0) vb (.int .i64 0) (.int .i64 0) (.int .i64 0)).drew := Below.drew (fill7_below hbel (Nat.le_refl _) _ _ _ _ _ _ _)
  exact ⟨_, _, _, rfl, Sees.nil _, Sees.nil _, hb.below hB, hB, fun j hj => by simp [Value.ownBlock] at hj, fun j hj => by simp [Value.ownBlock] at hj, Or.inl rfl⟩
end Go.Proofs.YtfnojlgmbfocfaaDoor
