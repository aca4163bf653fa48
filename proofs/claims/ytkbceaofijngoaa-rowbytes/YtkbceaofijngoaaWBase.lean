/-
  Rows in memory: lists of texts, a row's block, a row that is handed on.
-/
import Derived.Test.YtkbceaofijngoaaWMathB
import Derived.Test.YtkbceaofijngoaaLOf
import Derived.Test.YtkbceaofijngoaaLROf
namespace Go.Proofs.Ytkbceaofijngoaa
open Go.RowKit
set_option linter.unusedVariables false

/-! ### Lists of texts -/
def cellsT (l : List ByteArray) : List Value := l.map Value.string
theorem cellsT_len (l : List ByteArray) : (cellsT l).length = l.length := by simp [cellsT]
theorem cellsT_app (a b : List ByteArray) : cellsT (a ++ b) = cellsT a ++ cellsT b := by simp [cellsT]
theorem cellsT_one (l : List ByteArray) : ∀ v ∈ cellsT l, v.oneCell' = true := by
  intro v hv
  obtain ⟨x, _, rfl⟩ := List.mem_map.1 hv
  rfl
theorem cellsT_get (l : List ByteArray) (j : Nat) (h : j < l.length) : (cellsT l)[j]? = some (.string l[j]) := by simp [cellsT, h]
def SeesT (w : World) (v : Value) (l : List ByteArray) : Prop :=
  ∃ b off ao cap, v = .slice ao l.length cap ∧ l.length ≤ cap ∧ (ao = none → cap = 0) ∧ (l ≠ [] → ao = some ⟨b, off, none⟩) ∧ ∀ j, (h : j < l.length) → w.cell? ⟨b, off + j, none⟩ = some (.string l[j])
theorem SeesT.below {w w' : World} {v : Value} {l : List ByteArray} (h : SeesT w v l) (hb : Below w.heap.size w w') : SeesT w' v l := by
  obtain ⟨b, off, ao, cap, hv, hc, hn, ha, hcell⟩ := h
  exact ⟨b, off, ao, cap, hv, hc, hn, ha, fun j hj => (hb.cell (World.block_lt_of_cell? w _ (hcell j hj))).trans (hcell j hj)⟩
theorem SeesT.box {w : World} {v : Value} {l : List ByteArray} (h : SeesT w v l) (o : Obj) : SeesT (w.alloc o) v l := h.below (below_alloc w o)
def OwnsT (w : World) (base : Nat) (v : Value) (l : List ByteArray) : Prop := w.ownsRow base 9 1 v l.length (cellsT l)
theorem OwnsT.below {w w' : World} {base : Nat} {v : Value} {l : List ByteArray} (h : OwnsT w base v l) (hb : Below w.heap.size w w') : OwnsT w' base v l := ownsRow_below h hb
theorem OwnsT.nil (w : World) (base : Nat) : OwnsT w base (.slice none 0 0) [] := World.ownsRow_nil _ _ _ _
theorem OwnsT.sees {w : World} {base : Nat} {v : Value} {l : List ByteArray} (h : OwnsT w base v l) : SeesT w v l := by
  rcases h.2 with ⟨rfl, hn⟩ | ⟨g, cap, cur, rfl, hbase, hg, hcap, _, _, ht⟩
  · have : l = [] := List.eq_nil_of_length_eq_zero hn
    subst this
    exact ⟨0, 0, none, 0, rfl, Nat.le_refl _, fun _ => rfl, fun h => absurd rfl h, fun j hj => by simp at hj⟩
  · refine ⟨g, 0, _, cap, rfl, hcap, (fun h => by cases h), fun _ => rfl, fun j hj => ?_⟩
    have h1 := h.cells (g := g) rfl _ _ (cellsT_get l j hj)
    rw [addr_add] at h1
    exact h1
theorem OwnsT.shape {w : World} {base : Nat} {v : Value} {l : List ByteArray} (h : OwnsT w base v l) : ∃ ao cap, v = .slice ao l.length cap := by
  rcases h.2 with ⟨rfl, hn⟩ | ⟨g, cap, cur, rfl, _⟩
  · exact ⟨none, 0, by rw [hn]⟩
  · exact ⟨_, cap, rfl⟩
theorem OwnsT.block {w : World} {base : Nat} {v : Value} {l : List ByteArray} (h : OwnsT w base v l) : ∀ j, v.ownBlock = some j → base ≤ j := by
  intro j hj
  rcases h.2 with ⟨rfl, hn⟩ | ⟨g, cap, cur, rfl, hb, _⟩
  · simp [Value.ownBlock] at hj
  · simp [Value.ownBlock] at hj
    omega
theorem OwnsT.lt {w : World} {base : Nat} {v : Value} {l : List ByteArray} (h : OwnsT w base v l) : ∀ j, v.ownBlock = some j → j < w.heap.size := by
  intro j hj
  rcases h.2 with ⟨rfl, hn⟩ | ⟨g, cap, cur, rfl, hb, hg, _⟩
  · simp [Value.ownBlock] at hj
  · simp [Value.ownBlock] at hj
    subst hj
    exact (Array.getElem?_eq_some_iff.1 hg).1
theorem OwnsT.le {w : World} {base base' : Nat} {v : Value} {l : List ByteArray} (h : OwnsT w base v l) (hb : base' ≤ base) : OwnsT w base' v l := by
  refine ⟨h.1, ?_⟩
  rcases h.2 with hn | ⟨g, cap, cur, rfl, hbase, hg, rest⟩
  · exact Or.inl hn
  · exact Or.inr ⟨g, cap, cur, rfl, by omega, hg, rest⟩
/-- What lies in a block that stays as it is. -/
theorem ownsRow_same {w w' : World} {base : Nat} {e : TypeId} {size : Nat} {v : Value} {n : Nat} {xs : List Value} (h : w.ownsRow base e size v n xs) (hb : ∀ j, v.ownBlock = some j → w'.heap[j]? = w.heap[j]?) : w'.ownsRow base e size v n xs := by
  refine ⟨h.1, ?_⟩
  rcases h.2 with hn | ⟨g, cap, cur, rfl, hbase, hg, rest⟩
  · exact Or.inl hn
  · exact Or.inr ⟨g, cap, cur, rfl, hbase, by rw [hb g (by simp [Value.ownBlock])]; exact hg, rest⟩
theorem OwnsT.same {w w' : World} {base : Nat} {v : Value} {l : List ByteArray} (h : OwnsT w base v l) (hb : ∀ j, v.ownBlock = some j → w'.heap[j]? = w.heap[j]?) : OwnsT w' base v l := ownsRow_same h hb
theorem Owns.same {w w' : World} {base : Nat} {v : Value} {xs : List Int} (h : Owns w base v xs) (hb : ∀ j, v.ownBlock = some j → w'.heap[j]? = w.heap[j]?) : Owns w' base v xs := ownsRow_same h hb
theorem Owns.lt {w : World} {base : Nat} {v : Value} {xs : List Int} (h : Owns w base v xs) : ∀ j, v.ownBlock = some j → j < w.heap.size := by
  intro j hj
  rcases h.2 with ⟨rfl, hn⟩ | ⟨g, cap, cur, rfl, hb, hg, _⟩
  · simp [Value.ownBlock] at hj
  · simp [Value.ownBlock] at hj
    subst hj
    exact (Array.getElem?_eq_some_iff.1 hg).1

theorem Try.info9 : (Try.prog.info? 9).map (fun i => (i.zero, i.size, i.bytes)) = some (some (.string ⟨#[]⟩), 1, 16) := by kernel_rfl
theorem Try.infoRd : (Try.prog.info? 52).map (fun i => (i.zero, i.size, i.bytes)) = some (some Value.nilFunc, 1, 8) := by kernel_rfl
/-- 'append(v, p)' of one thing, v the call's own: where the new row lies. -/
theorem wpList_appOne {T e : TypeId} {z : Value} {by8 : Nat} (hT : Try.prog.underlying T = some (.slice e)) (hinfo : (Try.prog.info? e).map (fun i => (i.zero, i.size, i.bytes)) = some (some z, 1, by8)) (hz : z.cells.size = 1)
    {w : World} {ops : Array Oper} {rest : List Oper} {o : Oper} {a : Act} {Q : Exit → Act → World → Prop} (hgd : o.guard = none) (s x : Operand)
    (ho : o.op = .call { callee := .builtin .append, args := #[s, x], argTypes := #[T, T] }) (base : Nat) (v : Value) (n : Nat) (xs : List Value) (hs : a.eval s = v) (hown : w.ownsRow base e 1 v n xs) (b : Nat) (p : Value)
    (hx : a.eval x = .slice (some ⟨b, 0, none⟩) 1 1) (hsee : w.cell? ⟨b, 0, none⟩ = some p) (hp : p.oneCell' = true) (hn : n ≤ 1000000) (hb8 : by8 ≤ 16) (hbase : base ≤ w.heap.size)
    (h : ∀ g cap w', w'.ownsRow base e 1 (.slice (some ⟨g, 0, none⟩) (n + 1) cap) (n + 1) (xs ++ [p]) → w.grownBy w' v.ownBlock → (v.ownBlock = some g ∨ g = w.heap.size) → g < w'.heap.size → wpList Try.prog ops Q rest (a.put o.dst (.slice (some ⟨g, 0, none⟩) (n + 1) cap)) w') : wpList Try.prog ops Q (o :: rest) a w := by
  obtain ⟨i0, hi, hz0, hz1, hz2⟩ := info_parts hinfo
  refine wpList_append_lies w hgd s x T ho base e i0 z 1 by8 hT hi hz0 hz1 hz2 hz (by decide) v n xs hs hown ⟨b, 0, none⟩ 1 1 [p] hx rfl ?_ (by simpa using hp) (by decide) (by simp only [maxLen]; omega) ?_ hbase w.heap.size rfl h
  · intro j y hj
    have hj0 : j = 0 := by
      have := (List.getElem?_eq_some_iff.1 hj).1
      simp at this
      exact this
    subst hj0
    simp at hj
    subst hj
    rw [addr_add]
    exact hsee
  · have : (n + 1) * by8 ≤ 1000001 * 16 := Nat.mul_le_mul (by omega) hb8
    omega
theorem OwnsT.app {w : World} {base : Nat} {g cap : Nat} {l : List ByteArray} {p : ByteArray} (h : w.ownsRow base 9 1 (.slice (some ⟨g, 0, none⟩) (l.length + 1) cap) (l.length + 1) (cellsT l ++ [.string p])) : OwnsT w base (.slice (some ⟨g, 0, none⟩) (l.length + 1) cap) (l ++ [p]) := by
  simpa [OwnsT, cellsT_app, cellsT] using h

/-! ### A row's block -/
/-- At p lies a row, whole. -/
def RowAt (w : World) (p : Nat) (a b c d e : Value) : Prop := w.heap[p]? = some (.cells #[a, b, c, d, e] 27 (0, 0))
theorem RowAt.lt {w : World} {p : Nat} {a b c d e : Value} (h : RowAt w p a b c d e) : p < w.heap.size := (Array.getElem?_eq_some_iff.1 h).1
theorem RowAt.same {w w' : World} {p : Nat} {a b c d e : Value} (h : RowAt w p a b c d e) (x : w'.heap[p]? = w.heap[p]?) : RowAt w' p a b c d e := by
  unfold RowAt
  rw [x]
  exact h
theorem RowAt.below {w w' : World} {p B : Nat} {a b c d e : Value} (h : RowAt w p a b c d e) (hb : Below B w w') (hp : p < B) : RowAt w' p a b c d e := h.same (hb.block p hp)
theorem RowAt.cells {w : World} {p : Nat} {a b c d e : Value} (h : RowAt w p a b c d e) :
    w.cell? ⟨p, 0, none⟩ = some a ∧ w.cell? ⟨p, 1, none⟩ = some b ∧ w.cell? ⟨p, 2, none⟩ = some c ∧ w.cell? ⟨p, 3, none⟩ = some d ∧ w.cell? ⟨p, 4, none⟩ = some e ∧
    w.frozen? ⟨p, 0, none⟩ = false ∧ w.frozen? ⟨p, 1, none⟩ = false ∧ w.frozen? ⟨p, 2, none⟩ = false ∧ w.frozen? ⟨p, 3, none⟩ = false ∧ w.frozen? ⟨p, 4, none⟩ = false := by
  unfold RowAt at h
  refine ⟨?_, ?_, ?_, ?_, ?_, ?_, ?_, ?_, ?_, ?_⟩ <;> simp [World.cell?, World.frozen?, h]
theorem RowAt.new (w : World) (a b c d e : Value) : RowAt (w.alloc (.cells #[a, b, c, d, e] 27)) w.heap.size a b c d e := heap_alloc_new w _
theorem RowAt.box {w : World} {p : Nat} {a b c d e : Value} (h : RowAt w p a b c d e) (o : Obj) : RowAt (w.alloc o) p a b c d e := h.below (below_alloc w o) h.lt
theorem RowAt.new2 (w : World) (o : Obj) (a b c d e : Value) : RowAt ((w.alloc o).alloc (.cells #[a, b, c, d, e] 27)) (w.heap.size + 1) a b c d e := by
  have h := RowAt.new (w.alloc o) a b c d e
  simpa using h
theorem RowAt.store0 {w : World} {p : Nat} {a b c d e x : Value} (h : RowAt w p a b c d e) : RowAt (w.setCell ⟨p, 0, none⟩ x) p x b c d e := by
  unfold RowAt at *
  simp only [World.setCell, Array.getElem?_modify, h]
  simp
theorem RowAt.store1 {w : World} {p : Nat} {a b c d e x : Value} (h : RowAt w p a b c d e) : RowAt (w.setCell ⟨p, 1, none⟩ x) p a x c d e := by
  unfold RowAt at *
  simp only [World.setCell, Array.getElem?_modify, h]
  simp
theorem RowAt.store2 {w : World} {p : Nat} {a b c d e x : Value} (h : RowAt w p a b c d e) : RowAt (w.setCell ⟨p, 2, none⟩ x) p a b x d e := by
  unfold RowAt at *
  simp only [World.setCell, Array.getElem?_modify, h]
  simp
theorem RowAt.store3 {w : World} {p : Nat} {a b c d e x : Value} (h : RowAt w p a b c d e) : RowAt (w.setCell ⟨p, 3, none⟩ x) p a b c x e := by
  unfold RowAt at *
  simp only [World.setCell, Array.getElem?_modify, h]
  simp
theorem RowAt.store4 {w : World} {p : Nat} {a b c d e x : Value} (h : RowAt w p a b c d e) : RowAt (w.setCell ⟨p, 4, none⟩ x) p a b c d x := by
  unfold RowAt at *
  simp only [World.setCell, Array.getElem?_modify, h]
  simp
theorem RowAt.far {w : World} {p q o : Nat} {a b c d e x : Value} (h : RowAt w p a b c d e) (hq : p ≠ q) : RowAt (w.setCell ⟨q, o, none⟩ x) p a b c d e := by
  unfold RowAt at h ⊢
  rw [Below.heap_setCell w ⟨q, o, none⟩ x p hq]
  exact h

/-- The value of a row. -/
def rowVal (r : RowV) (vc vs vi : Value) : Value := .agg #[.string r.key, vc, vs, vi, .int .i64 r.who]
/-- A row that is handed on: what its lists read. -/
structure SeesR (w : World) (v : Value) (r : RowV) (vc vs vi : Value) : Prop where
  val : v = rowVal r vc vs vi
  cells : SeesT w vc r.cells
  s : Sees w vs r.s
  i : Sees w vi r.i
  clen : r.cells.length ≤ 140737488355328
  slen : r.s.length ≤ 4611686018427387904
  ilen : r.i.length ≤ 4611686018427387904
  klen : r.key.size ≤ 4611686018427387904
  tlen : ∀ c ∈ r.cells, c.size ≤ 4611686018427387904
theorem SeesR.below {w w' : World} {v : Value} {r : RowV} {vc vs vi : Value} (h : SeesR w v r vc vs vi) (hb : Below w.heap.size w w') : SeesR w' v r vc vs vi :=
  ⟨h.val, h.cells.below hb, h.s.below hb, h.i.below hb, h.clen, h.slen, h.ilen, h.klen, h.tlen⟩
theorem SeesR.box {w : World} {v : Value} {r : RowV} {vc vs vi : Value} (h : SeesR w v r vc vs vi) (o : Obj) : SeesR (w.alloc o) v r vc vs vi := h.below (below_alloc w o)
theorem SeesR.lab {w : World} {v : Value} {r : RowV} {vc vs vi : Value} (h : SeesR w v r vc vs vi) : SeesL w (.agg #[vs, vi]) r.s r.i := ⟨vs, vi, rfl, h.s, h.i, h.slen, h.ilen⟩

end Go.Proofs.Ytkbceaofijngoaa
