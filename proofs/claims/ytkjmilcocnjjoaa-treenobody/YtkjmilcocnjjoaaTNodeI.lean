/-
  Trees in memory: each node has a block of its own, a row of items, a row of pointers to the nodes below.
-/
import Derived.Test.YtkjmilcocnjjoaaTSearchI
namespace Go.Proofs.Ytkjmilcocnjjoaa.I
open Go.RowKit Tm
set_option linter.unusedVariables false

abbrev It := ByteArray × Int

/-- A tree of a depth with its places: block, row of items, row of pointers. -/
def LT : Nat → Type
  | 0 => (Nat × Value × Value) × List It
  | d + 1 => (Nat × Value × Value) × List It × List (LT d)

def lf (p : Nat) (vi : Value) (is : List It) : LT 0 := ((p, vi, .slice none 0 0), is)
def nd {d : Nat} (p : Nat) (vi vk : Value) (is : List It) (ks : List (LT d)) : LT (d + 1) := ((p, vi, vk), is, ks)

def pT : (d : Nat) → LT d → Nat
  | 0, t => (Prod.fst t).1
  | _ + 1, t => (Prod.fst t).1
def viT : (d : Nat) → LT d → Value
  | 0, t => (Prod.fst t).2.1
  | _ + 1, t => (Prod.fst t).2.1
def vkT : (d : Nat) → LT d → Value
  | 0, t => (Prod.fst t).2.2
  | _ + 1, t => (Prod.fst t).2.2
def isT : (d : Nat) → LT d → List It
  | 0, t => Prod.snd t
  | _ + 1, t => (Prod.snd t).1

/-- The tree without its places. -/
def er : (d : Nat) → LT d → Tr It d
  | 0, t => leafT (Prod.snd t)
  | d + 1, t => nodeT (Prod.snd t).1 ((Prod.snd t).2.map (er d))

theorem er_nd {d : Nat} (p : Nat) (vi vk : Value) (is : List It) (ks : List (LT d)) : er (d + 1) (nd p vi vk is ks) = nodeT is (ks.map (er d)) := rfl
theorem er_lf (p : Nat) (vi : Value) (is : List It) : er 0 (lf p vi is) = leafT is := rfl
theorem er_its (d : Nat) (t : LT d) : itsT d (er d t) = isT d t := by cases d <;> rfl

/-- How often a tree lies in a block. -/
def cnt (b : Nat) : (d : Nat) → LT d → Nat
  | 0, t => eqN (Prod.fst t).1 b + rc (Prod.fst t).2.1 b
  | d + 1, t => eqN (Prod.fst t).1 b + rc (Prod.fst t).2.1 b + rc (Prod.fst t).2.2 b + ((Prod.snd t).2.map (cnt b d)).sum

theorem cnt_lf (b p : Nat) (vi : Value) (is : List It) : cnt b 0 (lf p vi is) = eqN p b + rc vi b := rfl
theorem cnt_nd {d : Nat} (b p : Nat) (vi vk : Value) (is : List It) (ks : List (LT d)) : cnt b (d + 1) (nd p vi vk is ks) = eqN p b + rc vi b + rc vk b + (ks.map (cnt b d)).sum := rfl

/-- A row of pointers that is whole a node's. -/
def RowP (w : World) (v : Value) (qs : List Nat) : Prop := w.ownsRow 0 59 1 v qs.length (qs.map ptr)

/-- The tree lies in memory. -/
def At (w : World) : (d : Nat) → LT d → Prop
  | 0, t => w.heap[(Prod.fst t).1]? = some (.cells #[(Prod.fst t).2.1, (Prod.fst t).2.2] 69 (0, 0)) ∧ RowI w (Prod.fst t).2.1 (Prod.snd t) ∧ (Prod.fst t).2.2 = .slice none 0 0
  | d + 1, t => w.heap[(Prod.fst t).1]? = some (.cells #[(Prod.fst t).2.1, (Prod.fst t).2.2] 69 (0, 0)) ∧ RowI w (Prod.fst t).2.1 (Prod.snd t).1 ∧ RowP w (Prod.fst t).2.2 ((Prod.snd t).2.map (pT d)) ∧ ∀ k ∈ (Prod.snd t).2, At w d k

theorem at_lf {w : World} {p : Nat} {vi : Value} {is : List It} : At w 0 (lf p vi is) ↔ w.heap[p]? = some (.cells #[vi, .slice none 0 0] 69 (0, 0)) ∧ RowI w vi is :=
  ⟨fun h => ⟨h.1, h.2.1⟩, fun h => ⟨h.1, h.2, rfl⟩⟩
theorem at_nd {w : World} {d p : Nat} {vi vk : Value} {is : List It} {ks : List (LT d)} : At w (d + 1) (nd p vi vk is ks) ↔ w.heap[p]? = some (.cells #[vi, vk] 69 (0, 0)) ∧ RowI w vi is ∧ RowP w vk (ks.map (pT d)) ∧ ∀ k ∈ ks, At w d k := Iff.rfl

/-- A leaf is one. -/
theorem at_leaf {w : World} {t : LT 0} (h : At w 0 t) : ∃ p vi is, t = lf p vi is := by
  obtain ⟨⟨p, vi, vk⟩, is⟩ := t
  obtain ⟨_, _, h3⟩ := h
  change vk = _ at h3
  subst h3
  exact ⟨p, vi, is, rfl⟩
theorem at_node {d : Nat} (t : LT (d + 1)) : ∃ p vi vk is ks, t = nd p vi vk is ks := by
  obtain ⟨⟨p, vi, vk⟩, is, ks⟩ := t
  exact ⟨p, vi, vk, is, ks, rfl⟩

theorem at_blk {w : World} {d : Nat} {t : LT d} (h : At w d t) : w.heap[pT d t]? = some (.cells #[viT d t, vkT d t] 69 (0, 0)) := by
  cases d with
  | zero => exact h.1
  | succ d => exact h.1
theorem at_row {w : World} {d : Nat} {t : LT d} (h : At w d t) : RowI w (viT d t) (isT d t) := by
  cases d with
  | zero => exact h.2.1
  | succ d => exact h.2.1

theorem sum_mem {α : Type} (f : α → Nat) (l : List α) (x : α) (h : x ∈ l) : f x ≤ (l.map f).sum := by
  induction l with
  | nil => cases h
  | cons y l ih =>
    simp only [List.map_cons, List.sum_cons]
    rcases List.mem_cons.1 h with rfl | h
    · omega
    · have := ih h; omega
theorem sum_zero {α : Type} (f : α → Nat) (l : List α) (h : ∀ x ∈ l, f x = 0) : (l.map f).sum = 0 := by
  induction l with
  | nil => rfl
  | cons y l ih =>
    simp only [List.map_cons, List.sum_cons, h y (List.mem_cons_self ..), ih fun x hx => h x (List.mem_cons_of_mem _ hx)]

theorem at_gr {w w' : World} {F : Nat → Prop} (hg : Gr F w w') : ∀ {d : Nat} {t : LT d}, At w d t → (∀ b, 0 < cnt b d t → ¬ F b) → At w' d t
  | 0, t, h, hF => ⟨node_gr h.1 hg (hF _ (by have := eqN_self (Prod.fst t).1; simp only [cnt]; omega)), ownsRow_gr h.2.1 hg (fun k hk => hF k (by have := rc_pos.2 hk; simp only [cnt]; omega)), h.2.2⟩
  | d + 1, t, h, hF => ⟨node_gr h.1 hg (hF _ (by have := eqN_self (Prod.fst t).1; simp only [cnt]; omega)), ownsRow_gr h.2.1 hg (fun k hk => hF k (by have := rc_pos.2 hk; simp only [cnt]; omega)),
      ownsRow_gr h.2.2.1 hg (fun k hk => hF k (by have := rc_pos.2 hk; simp only [cnt]; omega)), fun k hk => at_gr hg (h.2.2.2 k hk) fun b hb => hF b (by have := sum_mem (cnt b d) _ k hk; simp only [cnt]; omega)⟩

theorem cnt_lt {w : World} {b : Nat} (hb : w.heap.size ≤ b) : ∀ {d : Nat} {t : LT d}, At w d t → cnt b d t = 0
  | 0, t, h => by
    have h1 := heap_lt h.1
    have e1 : eqN (Prod.fst t).1 b = 0 := by unfold eqN; rw [if_neg (by omega)]
    have e2 : rc (Prod.fst t).2.1 b = 0 := by unfold rc; rw [if_neg (fun e => by have := ownsRow_blk h.2.1 e; omega)]
    simp only [cnt]; omega
  | d + 1, t, h => by
    have h1 := heap_lt h.1
    have e1 : eqN (Prod.fst t).1 b = 0 := by unfold eqN; rw [if_neg (by omega)]
    have e2 : rc (Prod.fst t).2.1 b = 0 := by unfold rc; rw [if_neg (fun e => by have := ownsRow_blk h.2.1 e; omega)]
    have e3 : rc (Prod.fst t).2.2 b = 0 := by unfold rc; rw [if_neg (fun e => by have := ownsRow_blk h.2.2.1 e; omega)]
    have e4 := sum_zero (cnt b d) _ fun k hk => cnt_lt hb (h.2.2.2 k hk)
    simp only [cnt]; omega

/-- What a call makes of a tree: it turns its blocks alone; what is its own now was so, or is new. -/
structure Turn (w w' : World) (d d' : Nat) (t : LT d) (t' : LT d') : Prop where
  gr : Gr (fun b => 0 < cnt b d t) w w'
  one : ∀ b, cnt b d' t' ≤ 1
  old : ∀ b, b < w.heap.size → cnt b d' t' ≤ cnt b d t
  lies : At w' d' t'

theorem Turn.refl {w : World} {d : Nat} {t : LT d} (h : At w d t) (h1 : ∀ b, cnt b d t ≤ 1) : Turn w w d d t t := ⟨Gr.refl _ _, h1, fun _ _ => Nat.le_refl _, h⟩
theorem Turn.trans {a b c : World} {d e f : Nat} {t : LT d} {u : LT e} {v : LT f} (h : Turn a b d e t u) (k : Turn b c e f u v) : Turn a c d f t v :=
  ⟨h.gr.trans k.gr (fun x hx hp => by have := h.old x hx; omega), k.one, fun x hx => Nat.le_trans (k.old x (Nat.lt_of_lt_of_le hx h.gr.size)) (h.old x hx), k.lies⟩
/-- New blocks beside the tree. -/
theorem Turn.below {a b : World} {d : Nat} {t : LT d} (h : At a d t) (h1 : ∀ x, cnt x d t ≤ 1) (hb : Below a.heap.size a b) : Turn a b d d t t :=
  ⟨Gr.of_below hb _, h1, fun _ _ => Nat.le_refl _, at_gr (F := fun _ => False) (Gr.of_below hb _) h (fun _ _ => id)⟩
theorem Turn.then {a b c : World} {d e : Nat} {t : LT d} {u : LT e} (h : Turn a b d e t u) (hb : Below b.heap.size b c) : Turn a c d e t u := h.trans (Turn.below h.lies h.one hb)

/-- One node below is turned. -/
theorem child_turn {w w' : World} {d p : Nat} {vi vk : Value} {is : List It} {A D : List (LT d)} {c c' : LT d} (h : At w (d + 1) (nd p vi vk is (A ++ c :: D))) (h1 : ∀ b, cnt b (d + 1) (nd p vi vk is (A ++ c :: D)) ≤ 1)
    (ht : Turn w w' d d c c') (hp : pT d c' = pT d c) : Turn w w' (d + 1) (d + 1) (nd p vi vk is (A ++ c :: D)) (nd p vi vk is (A ++ c' :: D)) := by
  obtain ⟨a1, a2, a3, a4⟩ := at_nd.1 h
  have hsum : ∀ b (x : LT d), ((A ++ x :: D).map (cnt b d)).sum = (A.map (cnt b d)).sum + cnt b d x + (D.map (cnt b d)).sum := fun b x => by
    simp only [List.map_append, List.map_cons, List.sum_append, List.sum_cons]; omega
  have hc : ∀ b, cnt b (d + 1) (nd p vi vk is (A ++ c :: D)) = eqN p b + rc vi b + rc vk b + ((A.map (cnt b d)).sum + cnt b d c + (D.map (cnt b d)).sum) := fun b => by rw [cnt_nd, hsum]
  have hc' : ∀ b, cnt b (d + 1) (nd p vi vk is (A ++ c' :: D)) = eqN p b + rc vi b + rc vk b + ((A.map (cnt b d)).sum + cnt b d c' + (D.map (cnt b d)).sum) := fun b => by rw [cnt_nd, hsum]
  refine ⟨ht.gr.mono (fun b _ hb => by rw [hc]; omega), fun b => ?_, fun b hb => ?_, ?_⟩
  · rcases Nat.lt_or_ge b w.heap.size with hb | hb
    · have := ht.old b hb
      have := h1 b
      rw [hc] at this
      rw [hc']; omega
    · have e := cnt_lt hb h
      have := ht.one b
      rw [hc] at e
      rw [hc']; omega
  · have := ht.old b hb
    rw [hc, hc']; omega
  · refine at_nd.2 ⟨node_gr a1 ht.gr (fun hb => ?_), ownsRow_gr a2 ht.gr (fun b hb hx => ?_), ?_, fun k hk => ?_⟩
    · have := h1 p; rw [hc] at this; have := eqN_self p; omega
    · have := h1 b; rw [hc] at this; have := rc_pos.2 hb; omega
    · have e : (A ++ c' :: D).map (pT d) = (A ++ c :: D).map (pT d) := by simp [hp]
      rw [e]
      exact ownsRow_gr a3 ht.gr (fun b hb hx => by have := h1 b; rw [hc] at this; have := rc_pos.2 hb; omega)
    · rcases List.mem_append.1 hk with hk | hk
      · refine at_gr ht.gr (a4 k (List.mem_append.2 (.inl hk))) fun b hb hx => ?_
        have := h1 b; rw [hc] at this; have := sum_mem (cnt b d) A k hk; omega
      · rcases List.mem_cons.1 hk with rfl | hk
        · exact ht.lies
        · refine at_gr ht.gr (a4 k (List.mem_append.2 (.inr (List.mem_cons_of_mem _ hk)))) fun b hb hx => ?_
          have := h1 b; rw [hc] at this; have := sum_mem (cnt b d) D k hk; omega

end Go.Proofs.Ytkjmilcocnjjoaa.I
