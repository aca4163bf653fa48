/-
  Rows of responses: what they read, what 'append' makes of them.
-/
import Derived.Test.YtgkipeehmckbdaaDoorYPrintsWalk
namespace Go.Proofs.YtgkipeehmckbdaaDoor
open Go.RowKit
set_option linter.unusedVariables false

/-- A response, and where its fields lie. -/
abbrev ResE := RespL × Option Addr × Nat
def ResE.v (e : ResE) : Value := .slice e.2.1 e.1.2.1.length e.2.2
def ResE.row (e : ResE) : List Value := [.int .i64 e.1.1, ResE.v e, .string ⟨e.1.2.2.1.toArray⟩, .bool e.1.2.2.2]
def cellsR (l : List ResE) : List Value := l.flatMap ResE.row
theorem cellsR_app (a b : List ResE) : cellsR (a ++ b) = cellsR a ++ cellsR b := by simp [cellsR]
theorem cellsR_len (l : List ResE) : (cellsR l).length = l.length * 4 := by
  induction l with
  | nil => rfl
  | cons e r ih =>
    have : cellsR (e :: r) = ResE.row e ++ cellsR r := by simp [cellsR]
    rw [this, List.length_append, ih]
    simp [ResE.row]
    omega
theorem cellsR_one (l : List ResE) : ∀ v ∈ cellsR l, v.oneCell' = true := by
  intro v hv
  obtain ⟨e, _, h⟩ := List.mem_flatMap.1 hv
  simp only [ResE.row, List.mem_cons, List.not_mem_nil, or_false] at h
  rcases h with rfl | rfl | rfl | rfl <;> rfl
theorem cellsR_get : ∀ (l : List ResE) (j i : Nat) (h : j < l.length), i < 4 → (cellsR l)[j * 4 + i]? = (ResE.row l[j])[i]?
  | [], j, i, h, _ => by simp at h
  | e :: r, 0, i, h, hi => by
    have : cellsR (e :: r) = ResE.row e ++ cellsR r := by simp [cellsR]
    rw [this, Nat.zero_mul, Nat.zero_add, List.getElem?_append_left (by simpa [ResE.row] using hi)]
    rfl
  | e :: r, j + 1, i, h, hi => by
    have : cellsR (e :: r) = ResE.row e ++ cellsR r := by simp [cellsR]
    rw [this, List.getElem?_append_right (by simp [ResE.row]; omega)]
    have ih := cellsR_get r j i (by simpa using h) hi
    rw [show (j + 1) * 4 + i - (ResE.row e).length = j * 4 + i by simp [ResE.row]; omega, ih]
    rfl
/-- Four cells hold a response. -/
def RowR (w : World) (b o : Nat) (e : ResE) : Prop := ∀ i, i < 4 → w.cell? ⟨b, o + i, none⟩ = (ResE.row e)[i]?
theorem RowR.cells {w : World} {b o : Nat} {e : ResE} (h : RowR w b o e) : w.cell? ⟨b, o, none⟩ = some (.int .i64 e.1.1) ∧ w.cell? ⟨b, o + 1, none⟩ = some (.slice e.2.1 e.1.2.1.length e.2.2) ∧ w.cell? ⟨b, o + 2, none⟩ = some (.string ⟨e.1.2.2.1.toArray⟩) ∧ w.cell? ⟨b, o + 3, none⟩ = some (.bool e.1.2.2.2) :=
  ⟨h 0 (by decide), h 1 (by decide), h 2 (by decide), h 3 (by decide)⟩
theorem RowR.below {w w' : World} {b o : Nat} {e : ResE} (h : RowR w b o e) (hb : Below w.heap.size w w') : RowR w' b o e := by
  intro i hi
  have h1 := h i hi
  have hl : i < (ResE.row e).length := hi
  rw [List.getElem?_eq_getElem hl] at h1 ⊢
  exact (hb.cell (World.block_lt_of_cell? w _ h1)).trans h1
/-- The slice v reads the responses l in the world w. -/
def SeesR (w : World) (v : Value) (l : List ResE) : Prop :=
  ∃ b off ao cap, v = .slice ao l.length cap ∧ l.length ≤ cap ∧ (l ≠ [] → ao = some ⟨b, off, none⟩) ∧ (∀ j (h : j < l.length), RowR w b (off + j * 4) l[j]) ∧ ∀ e ∈ l, SeesP w (ResE.v e) e.1.2.1
theorem SeesR.below {w w' : World} {v : Value} {l : List ResE} (h : SeesR w v l) (hb : Below w.heap.size w w') : SeesR w' v l := by
  obtain ⟨b, off, ao, cap, hv, hc, ha, hcell, hp⟩ := h
  exact ⟨b, off, ao, cap, hv, hc, ha, fun j hj => (hcell j hj).below hb, fun e he => (hp e he).below hb⟩
/-- The slice v is the call's own, made from block 'base' on, and holds the responses l. -/
def OwnsR (w : World) (base : Nat) (v : Value) (l : List ResE) : Prop := w.ownsRow base 24 4 v l.length (cellsR l)
theorem OwnsR.below {w w' : World} {base : Nat} {v : Value} {l : List ResE} (h : OwnsR w base v l) (hb : Below w.heap.size w w') : OwnsR w' base v l := ownsRow_below h hb
theorem OwnsR.nil (w : World) (base : Nat) : OwnsR w base (.slice none 0 0) [] := World.ownsRow_nil _ _ _ _
theorem OwnsR.shape {w : World} {base : Nat} {v : Value} {l : List ResE} (h : OwnsR w base v l) : ∃ ao cap, v = .slice ao l.length cap := by
  rcases h.2 with ⟨rfl, hn⟩ | ⟨g, cap, cur, rfl, _⟩
  · exact ⟨none, 0, by rw [hn]⟩
  · exact ⟨_, cap, rfl⟩
theorem OwnsR.block {w : World} {base : Nat} {v : Value} {l : List ResE} (h : OwnsR w base v l) : ∀ j, v.ownBlock = some j → base ≤ j := by
  intro j hj
  rcases h.2 with ⟨rfl, hn⟩ | ⟨g, cap, cur, rfl, hb, _⟩
  · simp [Value.ownBlock] at hj
  · simp [Value.ownBlock] at hj
    omega
theorem OwnsR.rows {w : World} {base : Nat} {v : Value} {l : List ResE} (h : OwnsR w base v l) : ∃ g ao cap, v = .slice ao l.length cap ∧ (l ≠ [] → ao = some ⟨g, 0, none⟩) ∧ ∀ j (hj : j < l.length), RowR w g (j * 4) l[j] := by
  rcases h.2 with ⟨rfl, hn⟩ | ⟨g, cap, cur, rfl, hbase, hg, hcap, _, _, ht⟩
  · have : l = [] := List.eq_nil_of_length_eq_zero hn
    subst this
    exact ⟨0, none, 0, rfl, fun h => absurd rfl h, fun j hj => by simp at hj⟩
  · refine ⟨g, _, cap, rfl, fun _ => rfl, fun j hj i hi => ?_⟩
    have e := cellsR_get l j i hj hi
    have hl : i < (ResE.row l[j]).length := hi
    rw [List.getElem?_eq_getElem hl] at e ⊢
    have h1 := h.cells (g := g) rfl _ _ e
    rw [addr_add, Nat.zero_add] at h1
    exact h1
theorem Tryd.infoR : (Tryd.prog.info? 24).map (fun i => (i.zero, i.size, i.bytes)) = some (some (.agg #[.int .i64 0, .slice none 0 0, .string ⟨#[]⟩, .bool false]), 4, 56) := by kernel_rfl
theorem news_resp (w : World) (e : ResE) (t : TypeId) : ∀ j u, (cellsR [e])[j]? = some u → (w.alloc (.cells #[.int .i64 e.1.1, .slice e.2.1 e.1.2.1.length e.2.2, .string ⟨e.1.2.2.1.toArray⟩, .bool e.1.2.2.2] t)).cell? ((⟨w.heap.size, 0, none⟩ : Addr).add j) = some u :=
  World.news_of_block (heap_alloc_new w _)
theorem run_appR (w : World) (ty : TypeId) (base : Nat) (v : Value) (l : List ResE) (hown : OwnsR w base v l) (b : Nat) (e : ResE)
    (hsee : ∀ j u, (cellsR [e])[j]? = some u → w.cell? ((⟨b, 0, none⟩ : Addr).add j) = some u) (hb : (l.length + 1) * 56 ≤ 140737488355328) (hbase : base ≤ w.heap.size) :
    ∃ v' w', (Builtin.append_ #[38, 38] ty #[v, .slice (some ⟨b, 0, none⟩) 1 1]).run Tryd.prog w = .ok v' w' ∧ OwnsR w' base v' (l ++ [e]) ∧ w.grownBy w' v.ownBlock := by
  obtain ⟨i0, hi, hz0, hz1, hz2⟩ := info_parts Tryd.infoR
  have hmx : l.length + 1 ≤ maxLen := by simp only [maxLen]; omega
  obtain ⟨g, cap', w', hr, h1, h2, _, _⟩ := run_append_lies (P := Tryd.prog) w 38 ty base 24 i0 _ 4 56 Tryd.underlying38 hi hz0 hz1 hz2 (by decide) (by decide) v _ _ hown ⟨b, 0, none⟩ 1 1 (cellsR [e]) rfl hsee (cellsR_one _) (by decide) hmx hb hbase _ rfl
  exact ⟨_, w', hr, by simpa [OwnsR, cellsR_app] using h1, h2⟩
theorem wp_appR {w : World} {o : Oper} {a : Act} {K : Act → World → Prop} {Q : Exit → Act → World → Prop} (s x : Operand)
    (ho : o.op = .call { callee := .builtin .append, args := #[s, x], argTypes := #[38, 38] }) (base : Nat) (v : Value) (l : List ResE) (hs : a.eval s = v) (hown : OwnsR w base v l) (b : Nat) (e : ResE)
    (hx : a.eval x = .slice (some ⟨b, 0, none⟩) 1 1) (hsee : ∀ j u, (cellsR [e])[j]? = some u → w.cell? ((⟨b, 0, none⟩ : Addr).add j) = some u) (hb : (l.length + 1) * 56 ≤ 140737488355328) (hbase : base ≤ w.heap.size)
    (h : ∀ v' w', OwnsR w' base v' (l ++ [e]) → w.grownBy w' v.ownBlock → K (a.put o.dst v') w') : o.wp Tryd.prog a w K Q := by
  obtain ⟨v', w', hr, h1, h2⟩ := run_appR w o.type base v l hown b e hsee hb hbase
  unfold Oper.wp execOp
  simp only [ho, resolve, invoke, builtin, Sem.run_bind, Sem.run_pure, Result.andThen_ok, List.map_toArray, List.map_cons, List.map_nil, hs, hx, hr]
  exact h v' w' h1 h2
theorem wpList_appR {w : World} {ops : Array Oper} {rest : List Oper} {o : Oper} {a : Act} {Q : Exit → Act → World → Prop} (hgd : o.guard = none) (s x : Operand)
    (ho : o.op = .call { callee := .builtin .append, args := #[s, x], argTypes := #[38, 38] }) (base : Nat) (v : Value) (l : List ResE) (hs : a.eval s = v) (hown : OwnsR w base v l) (b : Nat) (e : ResE)
    (hx : a.eval x = .slice (some ⟨b, 0, none⟩) 1 1) (hsee : ∀ j u, (cellsR [e])[j]? = some u → w.cell? ((⟨b, 0, none⟩ : Addr).add j) = some u) (hb : (l.length + 1) * 56 ≤ 140737488355328) (hbase : base ≤ w.heap.size)
    (h : ∀ v' w', OwnsR w' base v' (l ++ [e]) → w.grownBy w' v.ownBlock → wpList Tryd.prog ops Q rest (a.put o.dst v') w') : wpList Tryd.prog ops Q (o :: rest) a w :=
  wpList_plain hgd fun _ hK => wp_appR s x ho base v l hs hown b e hx hsee hb hbase fun v' w' h1 h2 => hK _ _ (h v' w' h1 h2)
end Go.Proofs.YtgkipeehmckbdaaDoor
