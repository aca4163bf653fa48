/-
  Some nodes side by side: a call turns a row of one of them, lays a node, sets an item.
-/
import Derived.Test.YtkjmilcocnjjoaaTPutAI
namespace Go.Proofs.Ytkjmilcocnjjoaa.I
open Go.RowKit Tm
set_option linter.unusedVariables false

/-- A node by itself: its block, its rows, what they hold. -/
structure Nd where
  p : Nat
  vi : Value
  vk : Value
  is : List It
  qs : List Nat

def Nd.cnt (b : Nat) (x : Nd) : Nat := eqN x.p b + rc x.vi b + rc x.vk b
def sumN (N : List Nd) (b : Nat) : Nat := (N.map (Nd.cnt b)).sum
theorem sumN_app (A B : List Nd) (x : Nd) (b : Nat) : sumN (A ++ x :: B) b = sumN A b + x.cnt b + sumN B b := by
  simp only [sumN, List.map_append, List.map_cons, List.sum_append, List.sum_cons]; omega
theorem sumN_cons (B : List Nd) (x : Nd) (b : Nat) : sumN (x :: B) b = x.cnt b + sumN B b := by simp [sumN]
theorem sumN_nil (b : Nat) : sumN [] b = 0 := rfl

structure Nd.Lies (w : World) (x : Nd) : Prop where
  blk : w.heap[x.p]? = some (.cells #[x.vi, x.vk] 69 (0, 0))
  ri : RowI w x.vi x.is
  rk : RowP w x.vk x.qs

structure Bun (w : World) (N : List Nd) : Prop where
  lies : ∀ x ∈ N, x.Lies w
  one : ∀ b, sumN N b ≤ 1

theorem Nd.Lies.gr {w w' : World} {x : Nd} {F : Nat → Prop} (h : x.Lies w) (hg : Gr F w w') (hF : ∀ b, 0 < x.cnt b → ¬ F b) : x.Lies w' :=
  ⟨node_gr h.blk hg (hF _ (by have := eqN_self x.p; simp only [Nd.cnt]; omega)), ownsRow_gr h.ri hg (fun k hk => hF k (by have := rc_pos.2 hk; simp only [Nd.cnt]; omega)), ownsRow_gr h.rk hg (fun k hk => hF k (by have := rc_pos.2 hk; simp only [Nd.cnt]; omega))⟩
theorem Nd.Lies.lt {w : World} {x : Nd} (h : x.Lies w) {b : Nat} (hb : w.heap.size ≤ b) : x.cnt b = 0 := by
  have h1 := heap_lt h.blk
  have e1 : eqN x.p b = 0 := by unfold eqN; rw [if_neg (by omega)]
  have e2 : rc x.vi b = 0 := by unfold rc; rw [if_neg (fun e => by have := ownsRow_blk h.ri e; omega)]
  have e3 : rc x.vk b = 0 := by unfold rc; rw [if_neg (fun e => by have := ownsRow_blk h.rk e; omega)]
  simp only [Nd.cnt]; omega
theorem Bun.lt {w : World} {N : List Nd} (h : Bun w N) {b : Nat} (hb : w.heap.size ≤ b) : sumN N b = 0 := sum_zero _ _ fun x hx => (h.lies x hx).lt hb
theorem sumN_mem {N : List Nd} {x : Nd} (h : x ∈ N) (b : Nat) : x.cnt b ≤ sumN N b := sum_mem (Nd.cnt b) N x h

structure TB (w w' : World) (N N' : List Nd) : Prop where
  gr : Gr (fun b => 0 < sumN N b) w w'
  old : ∀ b, b < w.heap.size → sumN N' b ≤ sumN N b
  bun : Bun w' N'

theorem TB.refl {w : World} {N : List Nd} (h : Bun w N) : TB w w N N := ⟨Gr.refl _ _, fun _ _ => Nat.le_refl _, h⟩
theorem TB.trans {a b c : World} {N M L : List Nd} (h : TB a b N M) (k : TB b c M L) : TB a c N L :=
  ⟨h.gr.trans k.gr (fun x hx hp => by have := h.old x hx; omega), fun x hx => Nat.le_trans (k.old x (Nat.lt_of_lt_of_le hx h.gr.size)) (h.old x hx), k.bun⟩
theorem TB.below {a b : World} {N : List Nd} (h : Bun a N) (hb : Below a.heap.size a b) : TB a b N N :=
  ⟨Gr.of_below hb _, fun _ _ => Nat.le_refl _, ⟨fun x hx => (h.lies x hx).gr (F := fun _ => False) (Gr.of_below hb _) (fun _ _ => id), h.one⟩⟩

/-- The others lie on. -/
theorem others {w w' : World} {A B : List Nd} {x : Nd} (h : Bun w (A ++ x :: B)) (hg : Gr (fun b => 0 < x.cnt b) w w') : ∀ y, y ∈ A ∨ y ∈ B → y.Lies w' := by
  intro y hy
  refine (h.lies y (by rcases hy with hy | hy <;> simp [hy])).gr hg (fun b hb hx => ?_)
  have := h.one b
  rw [sumN_app] at this
  rcases hy with hy | hy
  · have := sumN_mem hy b; omega
  · have := sumN_mem hy b; omega

/-- A node is turned in itself. -/
theorem step_any {w w' : World} {A B : List Nd} {x x' : Nd} (h : Bun w (A ++ x :: B)) (hg : Gr (fun b => 0 < x.cnt b) w w') (hl : x'.Lies w') (h1 : ∀ b, x'.cnt b ≤ 1) (ho : ∀ b, b < w.heap.size → x'.cnt b ≤ x.cnt b) :
    TB w w' (A ++ x :: B) (A ++ x' :: B) := by
  have hoth := others h hg
  refine ⟨hg.mono (fun b _ hb => by rw [sumN_app]; omega), fun b hb => by rw [sumN_app, sumN_app]; have := ho b hb; omega, ⟨fun y hy => ?_, fun b => ?_⟩⟩
  · rcases List.mem_append.1 hy with hy | hy
    · exact hoth y (.inl hy)
    · rcases List.mem_cons.1 hy with rfl | hy
      · exact hl
      · exact hoth y (.inr hy)
  · rcases Nat.lt_or_ge b w.heap.size with hb | hb
    · have e1 := h.one b; have e2 := ho b hb; rw [sumN_app] at e1 ⊢; omega
    · have e1 := h.lt hb; have e2 := h1 b; rw [sumN_app] at e1 ⊢; omega

/-- A node's row of items is another one. -/
theorem step_items {w w1 : World} {A B : List Nd} {x : Nd} (h : Bun w (A ++ x :: B)) (vi' : Value) (is' : List It) (hg : w.grownBy w1 x.vi.ownBlock) (hr : RowI w1 vi' is') (hv : vi'.ownBlock = x.vi.ownBlock ∨ ∃ g, vi'.ownBlock = some g ∧ w.heap.size ≤ g) :
    TB w (w1.setCell ⟨x.p, 0, none⟩ vi') (A ++ x :: B) (A ++ ⟨x.p, vi', x.vk, is', x.qs⟩ :: B) := by
  have hx := h.lies x (by simp)
  have hp := heap_lt hx.blk
  have hb1 : ∀ b, x.cnt b ≤ 1 := fun b => by have := h.one b; rw [sumN_app] at this; omega
  have hpi : ∀ b, x.vi.ownBlock = some b → b ≠ x.p := fun b hb e => by
    have := hb1 b; have := rc_pos.2 hb; have := eqN_self x.p; simp only [Nd.cnt] at *; subst e; omega
  have hpk : ∀ b, x.vk.ownBlock = some b → b ≠ x.p := fun b hb e => by
    have := hb1 b; have := rc_pos.2 hb; have := eqN_self x.p; simp only [Nd.cnt] at *; subst e; omega
  have hki : ∀ b, x.vk.ownBlock = some b → x.vi.ownBlock ≠ some b := fun b hb e => by
    have := hb1 b; have := rc_pos.2 hb; have := rc_pos.2 e; simp only [Nd.cnt] at *; omega
  have hvn : ∀ b, vi'.ownBlock = some b → b ≠ x.p := fun b hb e => by
    rcases hv with hv | ⟨g, hv, hgs⟩
    · exact hpi b (by rw [← hv]; exact hb) e
    · rw [hb] at hv; cases hv; omega
  have hblk1 : w1.heap[x.p]? = some (.cells #[x.vi, x.vk] 69 (0, 0)) := by
    rw [hg.block x.p hp (fun e => hpi _ e.symm rfl)]; exact hx.blk
  have hrk1 : RowP w1 x.vk x.qs := hx.rk.kept hg (by
    cases hh : x.vk.ownBlock with
    | none => exact .inl rfl
    | some b => right; intro e; exact hki b hh e.symm)
  have hgr : Gr (fun b => 0 < x.cnt b) w (w1.setCell ⟨x.p, 0, none⟩ vi') := by
    refine (Gr.of_grownBy hg (fun b hb => ?_)).trans (Gr.setCell (F := fun b => b = x.p) w1 rfl _) (fun b hb hp => ?_)
    · have := rc_pos.2 hb; simp only [Nd.cnt]; omega
    · subst hp; have := eqN_self x.p; simp only [Nd.cnt]; omega
  refine step_any h hgr ⟨node_set0 vi' hblk1, ownsRow_gr hr (Gr.setCell (F := fun b => b = x.p) w1 rfl _) hvn, ownsRow_gr hrk1 (Gr.setCell (F := fun b => b = x.p) w1 rfl _) hpk⟩ (fun b => ?_) (fun b hb => ?_)
  · have e0 := hb1 b
    simp only [Nd.cnt] at e0 ⊢
    rcases hv with hv | ⟨g, hv, hgs⟩
    · rw [rc_eq hv]; exact e0
    · by_cases hgb : g = b
      · have e1 : eqN x.p b = 0 := by unfold eqN; rw [if_neg (by omega)]
        have e2 : rc x.vk b = 0 := by unfold rc; rw [if_neg (fun e => by have := ownsRow_blk hx.rk e; omega)]
        have := rc_one vi' b; omega
      · have : rc vi' b = 0 := by unfold rc; rw [hv, if_neg (by simpa using hgb)]
        omega
  · simp only [Nd.cnt]
    rcases hv with hv | ⟨g, hv, hgs⟩
    · rw [rc_eq hv]; exact Nat.le_refl _
    · have : rc vi' b = 0 := by unfold rc; rw [hv, if_neg (by simp; omega)]
      omega

/-- A node's row of pointers is another one. -/
theorem step_kids {w w1 : World} {A B : List Nd} {x : Nd} (h : Bun w (A ++ x :: B)) (vk' : Value) (qs' : List Nat) (hg : w.grownBy w1 x.vk.ownBlock) (hr : RowP w1 vk' qs') (hv : vk'.ownBlock = x.vk.ownBlock ∨ ∃ g, vk'.ownBlock = some g ∧ w.heap.size ≤ g) :
    TB w (w1.setCell ⟨x.p, 1, none⟩ vk') (A ++ x :: B) (A ++ ⟨x.p, x.vi, vk', x.is, qs'⟩ :: B) := by
  have hx := h.lies x (by simp)
  have hp := heap_lt hx.blk
  have hb1 : ∀ b, x.cnt b ≤ 1 := fun b => by have := h.one b; rw [sumN_app] at this; omega
  have hpi : ∀ b, x.vi.ownBlock = some b → b ≠ x.p := fun b hb e => by
    have := hb1 b; have := rc_pos.2 hb; have := eqN_self x.p; simp only [Nd.cnt] at *; subst e; omega
  have hpk : ∀ b, x.vk.ownBlock = some b → b ≠ x.p := fun b hb e => by
    have := hb1 b; have := rc_pos.2 hb; have := eqN_self x.p; simp only [Nd.cnt] at *; subst e; omega
  have hki : ∀ b, x.vi.ownBlock = some b → x.vk.ownBlock ≠ some b := fun b hb e => by
    have := hb1 b; have := rc_pos.2 hb; have := rc_pos.2 e; simp only [Nd.cnt] at *; omega
  have hvn : ∀ b, vk'.ownBlock = some b → b ≠ x.p := fun b hb e => by
    rcases hv with hv | ⟨g, hv, hgs⟩
    · exact hpk b (by rw [← hv]; exact hb) e
    · rw [hb] at hv; cases hv; omega
  have hblk1 : w1.heap[x.p]? = some (.cells #[x.vi, x.vk] 69 (0, 0)) := by
    rw [hg.block x.p hp (fun e => hpk _ e.symm rfl)]; exact hx.blk
  have hri1 : RowI w1 x.vi x.is := hx.ri.kept hg (by
    cases hh : x.vi.ownBlock with
    | none => exact .inl rfl
    | some b => right; intro e; exact hki b hh e.symm)
  have hgr : Gr (fun b => 0 < x.cnt b) w (w1.setCell ⟨x.p, 1, none⟩ vk') := by
    refine (Gr.of_grownBy hg (fun b hb => ?_)).trans (Gr.setCell (F := fun b => b = x.p) w1 rfl _) (fun b hb hp => ?_)
    · have := rc_pos.2 hb; simp only [Nd.cnt]; omega
    · subst hp; have := eqN_self x.p; simp only [Nd.cnt]; omega
  refine step_any h hgr ⟨node_set1 vk' hblk1, ownsRow_gr hri1 (Gr.setCell (F := fun b => b = x.p) w1 rfl _) hpi, ownsRow_gr hr (Gr.setCell (F := fun b => b = x.p) w1 rfl _) hvn⟩ (fun b => ?_) (fun b hb => ?_)
  · have e0 := hb1 b
    simp only [Nd.cnt] at e0 ⊢
    rcases hv with hv | ⟨g, hv, hgs⟩
    · rw [rc_eq hv]; exact e0
    · by_cases hgb : g = b
      · have e1 : eqN x.p b = 0 := by unfold eqN; rw [if_neg (by omega)]
        have e2 : rc x.vi b = 0 := by unfold rc; rw [if_neg (fun e => by have := ownsRow_blk hx.ri e; omega)]
        have := rc_one vk' b; omega
      · have : rc vk' b = 0 := by unfold rc; rw [hv, if_neg (by simpa using hgb)]
        omega
  · simp only [Nd.cnt]
    rcases hv with hv | ⟨g, hv, hgs⟩
    · rw [rc_eq hv]; exact Nat.le_refl _
    · have : rc vk' b = 0 := by unfold rc; rw [hv, if_neg (by simp; omega)]
      omega

/-- A node is laid, with a row of items that is new. -/
theorem step_new {w w1 : World} {N : List Nd} (h : Bun w N) (hb : Below w.heap.size w w1) (vi vk : Value) (is : List It) (qs : List Nat) (hr : RowI w1 vi is) (hk : RowP w1 vk qs) (hv : ∀ g, vi.ownBlock = some g → w.heap.size ≤ g) (hv2 : ∀ g, vk.ownBlock = some g → w.heap.size ≤ g ∧ vi.ownBlock ≠ some g) :
    TB w (w1.alloc (.cells #[vi, vk] 69)) N (N ++ [⟨w1.heap.size, vi, vk, is, qs⟩]) := by
  have hb2 : Below w.heap.size w (w1.alloc (.cells #[vi, vk] 69)) := hb.alloc hb.size _
  have t := TB.below h hb2
  have hs := hb.size
  have hgr : Gr (fun _ => False) w1 (w1.alloc (.cells #[vi, vk] 69)) := Gr.alloc _ _ _
  have hold : ∀ b, b < w.heap.size → Nd.cnt b ⟨w1.heap.size, vi, vk, is, qs⟩ = 0 := fun b hb => by
    have e1 : eqN w1.heap.size b = 0 := by unfold eqN; rw [if_neg (by omega)]
    have e2 : rc vi b = 0 := by unfold rc; rw [if_neg (fun e => by have := hv b e; omega)]
    have e3 : rc vk b = 0 := by unfold rc; rw [if_neg (fun e => by have := (hv2 b e).1; omega)]
    simp only [Nd.cnt]; omega
  refine ⟨t.gr, fun b hb => ?_, ⟨fun x hx => ?_, fun b => ?_⟩⟩
  · rw [sumN_app, sumN_nil, hold b hb]; omega
  · rcases List.mem_append.1 hx with hx | hx
    · exact t.bun.lies x hx
    · obtain rfl := List.mem_singleton.1 hx
      exact ⟨heap_alloc_new w1 _, ownsRow_gr hr hgr (fun _ _ => id), ownsRow_gr hk hgr (fun _ _ => id)⟩
  · rw [sumN_app, sumN_nil]
    rcases Nat.lt_or_ge b w.heap.size with hb | hb
    · rw [hold b hb]; have := h.one b; omega
    · have e0 := h.lt hb
      by_cases hbb : b = w1.heap.size
      · have e2 : rc vi b = 0 := by unfold rc; rw [if_neg (fun e => by have := ownsRow_blk hr e; omega)]
        have e3 : rc vk b = 0 := by unfold rc; rw [if_neg (fun e => by have := ownsRow_blk hk e; omega)]
        have := eqN_one w1.heap.size b
        simp only [Nd.cnt]; omega
      · have e1 : eqN w1.heap.size b = 0 := by unfold eqN; rw [if_neg (by omega)]
        by_cases hvi : vi.ownBlock = some b
        · have e3 : rc vk b = 0 := by unfold rc; rw [if_neg (fun e => (hv2 b e).2 hvi)]
          have := rc_one vi b
          simp only [Nd.cnt]; omega
        · have e3 : rc vi b = 0 := by unfold rc; rw [if_neg hvi]
          have := rc_one vk b
          simp only [Nd.cnt]; omega

theorem Bun.blk_i {w w1 : World} {N : List Nd} {x : Nd} (h : Bun w N) (hx : x ∈ N) (hg : w.grownBy w1 x.vi.ownBlock) : w1.heap[x.p]? = some (.cells #[x.vi, x.vk] 69 (0, 0)) := by
  have h1 := (h.lies x hx).blk
  rw [hg.block x.p (heap_lt h1) (fun e => by
    have e1 := h.one x.p; have e2 := sumN_mem hx x.p; have e3 := rc_pos.2 e.symm; have e4 := eqN_self x.p; simp only [Nd.cnt] at e2; omega)]
  exact h1
theorem Bun.blk_k {w w1 : World} {N : List Nd} {x : Nd} (h : Bun w N) (hx : x ∈ N) (hg : w.grownBy w1 x.vk.ownBlock) : w1.heap[x.p]? = some (.cells #[x.vi, x.vk] 69 (0, 0)) := by
  have h1 := (h.lies x hx).blk
  rw [hg.block x.p (heap_lt h1) (fun e => by
    have e1 := h.one x.p; have e2 := sumN_mem hx x.p; have e3 := rc_pos.2 e.symm; have e4 := eqN_self x.p; simp only [Nd.cnt] at e2; omega)]
  exact h1
theorem grown_drew {w w1 : World} {r : Option Nat} (h : w.drew.grownBy w1 r) : w.grownBy w1 r := ⟨h.os, h.tape, h.output, h.size, h.block⟩
theorem Bun.drew {w : World} {N : List Nd} (h : Bun w N) : Bun w.drew N := ⟨fun x hx => ⟨(h.lies x hx).blk, (h.lies x hx).ri, (h.lies x hx).rk⟩, h.one⟩

theorem itC_set2 (l : List It) (j : Nat) (h : j < l.length) (x : It) : ((itC encI l).set (j * 2) (.string x.1)).set (j * 2 + 1) (encI x.2) = itC encI (l.take j ++ x :: l.drop (j + 1)) := by
  induction l generalizing j with
  | nil => simp at h
  | cons y l ih => cases j with
    | zero => simp [itC]
    | succ j =>
      rw [show (j + 1) * 2 + 1 = j * 2 + 1 + 1 + 1 by omega, show (j + 1) * 2 = j * 2 + 1 + 1 by omega]
      simp [itC, ih j (by simpa using h)]

/-- An item of a node is set. -/
theorem step_item {w : World} {A B : List Nd} {x : Nd} (h : Bun w (A ++ x :: B)) {g n cap : Nat} (hv : x.vi = .slice (some ⟨g, 0, none⟩) n cap) (j : Nat) (hj : j < x.is.length) (y : It) :
    TB w ((w.setCell ⟨g, j * 2, none⟩ (.string y.1)).setCell ⟨g, j * 2 + 1, none⟩ (encI y.2)) (A ++ x :: B) (A ++ ⟨x.p, x.vi, x.vk, x.is.take j ++ y :: x.is.drop (j + 1), x.qs⟩ :: B) := by
  have hx := h.lies x (by simp)
  have hb1 : ∀ b, x.cnt b ≤ 1 := fun b => by have := h.one b; rw [sumN_app] at this; omega
  have hr : RowI w (.slice (some ⟨g, 0, none⟩) n cap) x.is := by rw [← hv]; exact hx.ri
  have hn : n = x.is.length := by
    obtain ⟨ao, c, e, _⟩ := ownsRow_shape hr
    cases e; rfl
  subst hn
  obtain ⟨r1, g1⟩ := hr.stored (j * 2) (.string y.1)
  obtain ⟨r2, g2⟩ := r1.stored (j * 2 + 1) (encI y.2)
  rw [itC_set2 x.is j hj y] at r2
  have hrg : rc x.vi g = 1 := by rw [hv, rc_at, if_pos rfl]
  have hg1 := hb1 g
  simp only [Nd.cnt] at hg1
  have hG : Gr (fun b => b = g) w ((w.setCell ⟨g, j * 2, none⟩ (.string y.1)).setCell ⟨g, j * 2 + 1, none⟩ (encI y.2)) :=
    (Gr.of_grownBy g1 (fun b hb => by cases hb; rfl)).trans (Gr.of_grownBy (F := fun b => b = g) g2 (fun b hb => by cases hb; rfl)) (fun _ _ => id)
  have e : (x.is.take j ++ y :: x.is.drop (j + 1)).length = x.is.length := by simp; omega
  refine step_any h (hG.mono (fun b _ hb => by subst hb; simp only [Nd.cnt]; omega)) ⟨node_gr hx.blk hG (fun e => by have := eqN_self x.p; rw [e] at this; rw [e] at hg1; omega), ?_, ownsRow_gr hx.rk hG (fun b hb e => by subst e; have e2 : 0 < rc x.vk b := rc_pos.2 hb; omega)⟩ hb1 (fun _ _ => Nat.le_refl _)
  rw [hv]
  exact row_of r2 e.symm rfl

end Go.Proofs.Ytkjmilcocnjjoaa.I
