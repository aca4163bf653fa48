/-
  Run of an event process: a run that ends by a trap.
-/
import Derived.Test.YtkaffbchlngfaaaDoorEFol
namespace Go.Proofs.YtkaffbchlngfaaaDoor
open Go.RowKit
set_option linter.unusedVariables false
set_option linter.unusedSimpArgs false

theorem blk1 {X w' : World} {o : Obj} (h : Below (X.alloc o).heap.size (X.alloc o) w') : w'.heap[X.heap.size]? = some o := by
  rw [h.block _ (by simp)]; exact heap_alloc_new X _
theorem blk2 {X w' : World} {o o' : Obj} (h : Below ((X.alloc o).alloc o').heap.size ((X.alloc o).alloc o') w') : w'.heap[X.heap.size]? = some o ∧ w'.heap[X.heap.size + 1]? = some o' := by
  refine ⟨blk1 ((below_alloc _ o').trans (h.mono (below_alloc _ o').size)), ?_⟩
  have := blk1 h
  simpa using this
theorem undrew {X w' : World} (h : Below X.drew.heap.size X.drew w') : Below X.heap.size X w' := ⟨h.os, h.tape, h.output, h.size, h.block⟩
theorem OwnC.shape {w : World} {B : Nat} {v : Value} {xs : List Int} (h : OwnC w B v xs) : ∃ ao, v = .slice ao xs.length xs.length := by
  rcases h with ⟨rfl, h⟩ | ⟨g, cur, rfl, _⟩
  · exact ⟨none, by rw [h]; rfl⟩
  · exact ⟨_, rfl⟩

/-- What lies behind the machine's run. -/
def MidR (W : World) (s' : StL) (tr : Int) (used : Nat) (a b : Nat) (us uk : Value) (wx : World) : Prop :=
  wx.heap[a]? = some (.cells #[.int .i64 s'.pc, us, uk] 34 (0, 0)) ∧ wx.heap[b]? = some (.cells #[.int .i64 2, .int .i64 tr, .int .i64 (used : Int)] 52 (0, 0)) ∧ OwnC wx W.heap.size us s'.st ∧ OwnC wx W.heap.size uk s'.ca ∧ (∀ j, us.ownBlock = some j → uk.ownBlock ≠ some j) ∧ W.heap.size ≤ a ∧ W.heap.size ≤ b ∧ Below W.heap.size W wx
/-- The run's own answer, at a world behind W. -/
def MidO (W : World) (Ysz : Nat) (s' : StL) (us uk : Value) (w5 : World) : Prop :=
  OwnC w5 Ysz us s'.st ∧ OwnC w5 Ysz uk s'.ca ∧ (∀ j, us.ownBlock = some j → uk.ownBlock ≠ some j) ∧ W.heap.size ≤ Ysz ∧ Ysz ≤ w5.heap.size ∧ Below W.heap.size W w5
theorem mid_of {W : World} {Y : Nat} {s' : StL} {tr : Int} {used a b : Nat} {us uk : Value} {w5 wx : World} (h : MidO W Y s' us uk w5)
    (ha : W.heap.size ≤ a ∧ (a < Y ∨ w5.heap.size ≤ a)) (hb : W.heap.size ≤ b ∧ (b < Y ∨ w5.heap.size ≤ b)) (hx : ∀ j, j < w5.heap.size → j ≠ a → j ≠ b → wx.heap[j]? = w5.heap[j]?)
    (hA : wx.heap[a]? = some (.cells #[.int .i64 s'.pc, us, uk] 34 (0, 0))) (hB : wx.heap[b]? = some (.cells #[.int .i64 2, .int .i64 tr, .int .i64 (used : Int)] 52 (0, 0))) (h5 : Below W.heap.size w5 wx) : MidR W s' tr used a b us uk wx := by
  obtain ⟨o1, o2, od, y1, y2, b5⟩ := h
  refine ⟨hA, hB, (o1.same fun j hj => ?_).le y1, (o2.same fun j hj => ?_).le y1, od, ha.1, hb.1, b5.trans h5⟩
  · have := o1.lt j hj; exact hx j this.2 (by omega) (by omega)
  · have := o2.lt j hj; exact hx j this.2 (by omega) (by omega)
theorem mid_before {W : World} {Y : Nat} {s' : StL} {tr : Int} {used a b : Nat} {us uk : Value} {w5 : World} (h : MidO W Y s' us uk w5) (ha : W.heap.size ≤ a) (ha2 : a < Y) (hb : W.heap.size ≤ b) (hb2 : b < Y) (hab : a ≠ b) {a0 b0 c0 a1 b1 c1 : Value}
    (hA : w5.heap[a]? = some (.cells #[a0, b0, c0] 34 (0, 0))) (hB : w5.heap[b]? = some (.cells #[a1, b1, c1] 52 (0, 0))) :
    MidR W s' tr used a b us uk (fill6 w5 a b (.int .i64 s'.pc) us uk (.int .i64 2) (.int .i64 tr) (.int .i64 (used : Int))) :=
  mid_of h ⟨ha, .inl ha2⟩ ⟨hb, .inl hb2⟩ (fun j _ h1 h2 => fill6_far _ _ _ _ _ _ h1 h2) (fill6_g _ _ _ _ _ _ hab hA) (fill6_h _ _ _ _ _ _ hab hB) (fill6_below (Below.refl _ _) ha hb _ _ _ _ _ _)
theorem mid_first {W : World} {Y : Nat} {s' : StL} {tr : Int} {used a : Nat} {us uk : Value} {w5 : World} (h : MidO W Y s' us uk w5) (ha : W.heap.size ≤ a) (ha2 : a < Y) {a0 b0 c0 : Value}
    (hA : w5.heap[a]? = some (.cells #[a0, b0, c0] 34 (0, 0))) :
    MidR W s' tr used a w5.heap.size us uk ((fill3 w5 a (.int .i64 s'.pc) us uk).alloc (.cells #[.int .i64 2, .int .i64 tr, .int .i64 (used : Int)] 52)) := by
  have hs : (fill3 w5 a (.int .i64 s'.pc) us uk).heap.size = w5.heap.size := by simp [fill3, World.setCell]
  have hl := (Array.getElem?_eq_some_iff.1 hA).1
  have hy := h.2.2.2.1
  have hy2 := h.2.2.2.2.1
  refine mid_of h ⟨ha, .inl ha2⟩ ⟨by omega, .inr (Nat.le_refl _)⟩ (fun j hj h1 h2 => ?_) ?_ ?_ ?_
  · rw [Below.heap_alloc _ _ _ (by omega)]; exact fill3_far _ _ _ h1
  · rw [Below.heap_alloc _ _ _ (by omega)]; exact fill3_g hA
  · have := heap_alloc_new (fill3 w5 a (.int .i64 s'.pc) us uk) (.cells #[.int .i64 2, .int .i64 tr, .int .i64 (used : Int)] 52); rwa [hs] at this
  · exact (fill3_below (Below.refl _ _) ha _ _ _).alloc (by omega) _
theorem mid_last {W : World} {Y : Nat} {s' : StL} {tr : Int} {used b : Nat} {us uk : Value} {w5 : World} (h : MidO W Y s' us uk w5) (hb : W.heap.size ≤ b) (hb2 : b < Y) {a0 b0 c0 : Value}
    (hB : w5.heap[b]? = some (.cells #[a0, b0, c0] 52 (0, 0))) :
    MidR W s' tr used w5.heap.size b us uk ((fill3 w5 b (.int .i64 2) (.int .i64 tr) (.int .i64 (used : Int))).alloc (.cells #[.int .i64 s'.pc, us, uk] 34)) := by
  have hs : (fill3 w5 b (.int .i64 2) (.int .i64 tr) (.int .i64 (used : Int))).heap.size = w5.heap.size := by simp [fill3, World.setCell]
  have hl := (Array.getElem?_eq_some_iff.1 hB).1
  have hy := h.2.2.2.1
  have hy2 := h.2.2.2.2.1
  refine mid_of h ⟨by omega, .inr (Nat.le_refl _)⟩ ⟨hb, .inl hb2⟩ (fun j hj h1 h2 => ?_) ?_ ?_ ?_
  · rw [Below.heap_alloc _ _ _ (by omega)]; exact fill3_far _ _ _ h2
  · have := heap_alloc_new (fill3 w5 b (.int .i64 2) (.int .i64 tr) (.int .i64 (used : Int))) (.cells #[.int .i64 s'.pc, us, uk] 34); rwa [hs] at this
  · rw [Below.heap_alloc _ _ _ (by omega)]; exact fill3_g hB
  · exact (fill3_below (Below.refl _ _) hb _ _ _).alloc (by omega) _
theorem mid_after {W : World} {Y : Nat} {s' : StL} {tr : Int} {used : Nat} {us uk : Value} {w5 : World} (h : MidO W Y s' us uk w5) :
    MidR W s' tr used w5.heap.size (w5.heap.size + 1) us uk ((w5.alloc (.cells #[.int .i64 s'.pc, us, uk] 34)).alloc (.cells #[.int .i64 2, .int .i64 tr, .int .i64 (used : Int)] 52)) := by
  have hy := h.2.2.2.1
  have hy2 := h.2.2.2.2.1
  have hs : (w5.alloc (.cells #[.int .i64 s'.pc, us, uk] 34)).heap.size = w5.heap.size + 1 := by simp
  have b2 := blk2 (X := w5) (o := .cells #[.int .i64 s'.pc, us, uk] 34) (o' := .cells #[.int .i64 2, .int .i64 tr, .int .i64 (used : Int)] 52) (Below.refl _ _)
  refine mid_of h ⟨by omega, .inr (Nat.le_refl _)⟩ ⟨by omega, .inr (by omega)⟩ (fun j hj h1 h2 => ?_) b2.1 b2.2 ?_
  · rw [Below.heap_alloc _ _ _ (by omega), Below.heap_alloc _ _ _ (by omega)]
  · exact ((Below.refl _ _).alloc (by omega) _).alloc (by omega) _
theorem mid_after2 {W : World} {Y : Nat} {s' : StL} {tr : Int} {used : Nat} {us uk : Value} {w5 : World} (h : MidO W Y s' us uk w5) :
    MidR W s' tr used (w5.heap.size + 1) w5.heap.size us uk ((w5.alloc (.cells #[.int .i64 2, .int .i64 tr, .int .i64 (used : Int)] 52)).alloc (.cells #[.int .i64 s'.pc, us, uk] 34)) := by
  have hy := h.2.2.2.1
  have hy2 := h.2.2.2.2.1
  have hs : (w5.alloc (.cells #[.int .i64 2, .int .i64 tr, .int .i64 (used : Int)] 52)).heap.size = w5.heap.size + 1 := by simp
  have b2 := blk2 (X := w5) (o' := .cells #[.int .i64 s'.pc, us, uk] 34) (o := .cells #[.int .i64 2, .int .i64 tr, .int .i64 (used : Int)] 52) (Below.refl _ _)
  refine mid_of h ⟨by omega, .inr (by omega)⟩ ⟨by omega, .inr (Nat.le_refl _)⟩ (fun j hj h1 h2 => ?_) b2.2 b2.1 ?_
  · rw [Below.heap_alloc _ _ _ (by omega), Below.heap_alloc _ _ _ (by omega)]
  · exact ((Below.refl _ _).alloc (by omega) _).alloc (by omega) _
/-- What lies once the request holds the new state. -/
def MidQ (W : World) (p : Nat) (vc : Value) (q g : Nat) (x : ByteArray) (n : Int) (s' : StL) (tr : Int) (used b : Nat) (us uk : Value) (wx : World) : Prop :=
  EpAt wx p vc q (some g) ∧ ReqAt wx g x n s'.pc us uk false ∧ wx.heap[b]? = some (.cells #[.int .i64 2, .int .i64 tr, .int .i64 (used : Int)] 52 (0, 0)) ∧ OwnC wx W.heap.size us s'.st ∧ OwnC wx W.heap.size uk s'.ca ∧ Ke W.heap.size g W wx
end Go.Proofs.YtkaffbchlngfaaaDoor
