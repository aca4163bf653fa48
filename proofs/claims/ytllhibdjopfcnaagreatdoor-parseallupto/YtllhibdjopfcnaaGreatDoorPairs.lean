/-
  Slices of pairs: what they read, what 'append' makes of them.
-/
import Derived.Test.YtllhibdjopfcnaaGreatDoorCut
namespace Go.Proofs.YtllhibdjopfcnaaGreatDoor
open Go.RowKit
set_option linter.unusedVariables false

def strV (l : List UInt8) : Value := .string ⟨l.toArray⟩
/-- The cells of a list of pairs. -/
def cellsP : List PairL → List Value
  | [] => []
  | p :: r => strV p.1 :: strV p.2 :: cellsP r
theorem cellsP_len (l : List PairL) : (cellsP l).length = l.length * 2 := by
  induction l with
  | nil => rfl
  | cons p r ih => simp [cellsP, ih]; omega
theorem cellsP_app (a b : List PairL) : cellsP (a ++ b) = cellsP a ++ cellsP b := by
  induction a with
  | nil => rfl
  | cons p r ih => simp [cellsP, ih]
theorem cellsP_get : ∀ (l : List PairL) (j : Nat) (h : j < l.length), (cellsP l)[j * 2]? = some (strV l[j].1) ∧ (cellsP l)[j * 2 + 1]? = some (strV l[j].2)
  | [], j, h => by simp at h
  | p :: r, 0, h => by simp [cellsP]
  | p :: r, j + 1, h => by
    have ih := cellsP_get r j (by simpa using h)
    rw [show (j + 1) * 2 = j * 2 + 1 + 1 by omega]
    simpa [cellsP] using ih
theorem cellsP_one (l : List PairL) : ∀ v ∈ cellsP l, v.oneCell' = true := by
  induction l with
  | nil => intro v hv; cases hv
  | cons p r ih =>
    intro v hv
    simp only [cellsP, List.mem_cons] at hv
    rcases hv with rfl | rfl | hv
    · rfl
    · rfl
    · exact ih v hv

/-- The slice v reads the pairs l in the world w. -/
def SeesP (w : World) (v : Value) (l : List PairL) : Prop :=
  ∃ b off ao cap, v = .slice ao l.length cap ∧ l.length ≤ cap ∧ (ao = none → cap = 0) ∧ (l ≠ [] → ao = some ⟨b, off, none⟩) ∧ ∀ j, (h : j < l.length) → w.cell? ⟨b, off + j * 2, none⟩ = some (strV l[j].1) ∧ w.cell? ⟨b, off + j * 2 + 1, none⟩ = some (strV l[j].2)
theorem SeesP.below {w w' : World} {v : Value} {l : List PairL} (h : SeesP w v l) (hb : Below w.heap.size w w') : SeesP w' v l := by
  obtain ⟨b, off, ao, cap, hv, hc, hn, ha, hcell⟩ := h
  refine ⟨b, off, ao, cap, hv, hc, hn, ha, fun j hj => ?_⟩
  obtain ⟨h1, h2⟩ := hcell j hj
  exact ⟨(hb.cell (World.block_lt_of_cell? w _ h1)).trans h1, (hb.cell (World.block_lt_of_cell? w _ h2)).trans h2⟩

/-- The slice v is the call's own, made from block 'base' on, and holds the pairs l. -/
def OwnsP (w : World) (base : Nat) (v : Value) (l : List PairL) : Prop := w.ownsRow base 73 2 v l.length (cellsP l)
theorem OwnsP.below {w w' : World} {base : Nat} {v : Value} {l : List PairL} (h : OwnsP w base v l) (hb : Below w.heap.size w w') : OwnsP w' base v l := ownsRow_below h hb
theorem OwnsP.nil (w : World) (base : Nat) : OwnsP w base (.slice none 0 0) [] := World.ownsRow_nil _ _ _ _
theorem OwnsP.sees {w : World} {base : Nat} {v : Value} {l : List PairL} (h : OwnsP w base v l) : SeesP w v l := by
  rcases h.2 with ⟨rfl, hn⟩ | ⟨g, cap, cur, rfl, hbase, hg, hcap, _, _, ht⟩
  · have : l = [] := List.eq_nil_of_length_eq_zero hn
    subst this
    exact ⟨0, 0, none, 0, rfl, Nat.le_refl _, fun _ => rfl, fun h => absurd rfl h, fun j hj => by simp at hj⟩
  · refine ⟨g, 0, _, cap, rfl, hcap, (fun h => by cases h), fun _ => rfl, fun j hj => ?_⟩
    obtain ⟨e1, e2⟩ := cellsP_get l j hj
    have h1 := h.cells (g := g) rfl _ _ e1
    have h2 := h.cells (g := g) rfl _ _ e2
    rw [addr_add] at h1 h2
    exact ⟨h1, h2⟩
theorem OwnsP.shape {w : World} {base : Nat} {v : Value} {l : List PairL} (h : OwnsP w base v l) : ∃ ao cap, v = .slice ao l.length cap := by
  rcases h.2 with ⟨rfl, hn⟩ | ⟨g, cap, cur, rfl, _⟩
  · exact ⟨none, 0, by rw [hn]⟩
  · exact ⟨_, cap, rfl⟩
theorem OwnsP.block {w : World} {base : Nat} {v : Value} {l : List PairL} (h : OwnsP w base v l) : ∀ j, v.ownBlock = some j → base ≤ j := by
  intro j hj
  rcases h.2 with ⟨rfl, hn⟩ | ⟨g, cap, cur, rfl, hb, _⟩
  · simp [Value.ownBlock] at hj
  · simp [Value.ownBlock] at hj
    omega
theorem OwnsP.le {w : World} {base base' : Nat} {v : Value} {l : List PairL} (h : OwnsP w base v l) (hb : base' ≤ base) : OwnsP w base' v l := by
  refine ⟨h.1, ?_⟩
  rcases h.2 with hn | ⟨g, cap, cur, rfl, hbase, hg, rest⟩
  · exact Or.inl hn
  · exact Or.inr ⟨g, cap, cur, rfl, by omega, hg, rest⟩

theorem Tryz.info46 : (Tryz.prog.info? 73).map (fun i => (i.zero, i.size, i.bytes)) = some (some (.agg #[.string ⟨#[]⟩, .string ⟨#[]⟩]), 2, 32) := by kernel_rfl

theorem news_pair (w : World) (a b : List UInt8) (t : TypeId) : ∀ j u, (cellsP [(a, b)])[j]? = some u → (w.alloc (.cells #[strV a, strV b] t)).cell? ((⟨w.heap.size, 0, none⟩ : Addr).add j) = some u :=
  World.news_of_block (heap_alloc_new w _)

theorem run_appP (w : World) (ty : TypeId) (base : Nat) (v : Value) (l : List PairL) (hown : OwnsP w base v l) (b : Nat) (p : PairL)
    (hsee : ∀ j u, (cellsP [p])[j]? = some u → w.cell? ((⟨b, 0, none⟩ : Addr).add j) = some u) (hb : (l.length + 1) * 32 ≤ 140737488355328) (hbase : base ≤ w.heap.size) :
    ∃ v' w', (Builtin.append_ #[32, 32] ty #[v, .slice (some ⟨b, 0, none⟩) 1 1]).run Tryz.prog w = .ok v' w' ∧ OwnsP w' base v' (l ++ [p]) ∧ w.grownBy w' v.ownBlock := by
  obtain ⟨i0, hi, hz0, hz1, hz2⟩ := info_parts Tryz.info46
  have hmx : l.length + 1 ≤ maxLen := by simp only [maxLen]; omega
  obtain ⟨g, cap', w', hr, h1, h2, _, _⟩ := run_append_lies (P := Tryz.prog) w 32 ty base 73 i0 _ 2 32 Tryz.underlying32 hi hz0 hz1 hz2 (by decide) (by decide) v _ _ hown ⟨b, 0, none⟩ 1 1 (cellsP [p]) rfl hsee (cellsP_one _) (by decide) hmx hb hbase _ rfl
  exact ⟨_, w', hr, by simpa [OwnsP, cellsP_app] using h1, h2⟩

theorem wp_appP {w : World} {o : Oper} {a : Act} {K : Act → World → Prop} {Q : Exit → Act → World → Prop} (s x : Operand)
    (ho : o.op = .call { callee := .builtin .append, args := #[s, x], argTypes := #[32, 32] }) (base : Nat) (v : Value) (l : List PairL) (hs : a.eval s = v) (hown : OwnsP w base v l) (b : Nat) (p : PairL)
    (hx : a.eval x = .slice (some ⟨b, 0, none⟩) 1 1) (hsee : ∀ j u, (cellsP [p])[j]? = some u → w.cell? ((⟨b, 0, none⟩ : Addr).add j) = some u) (hb : (l.length + 1) * 32 ≤ 140737488355328) (hbase : base ≤ w.heap.size)
    (h : ∀ v' w', OwnsP w' base v' (l ++ [p]) → w.grownBy w' v.ownBlock → K (a.put o.dst v') w') : o.wp Tryz.prog a w K Q := by
  obtain ⟨v', w', hr, h1, h2⟩ := run_appP w o.type base v l hown b p hsee hb hbase
  unfold Oper.wp execOp
  simp only [ho, resolve, invoke, builtin, Sem.run_bind, Sem.run_pure, Result.andThen_ok, List.map_toArray, List.map_cons, List.map_nil, hs, hx, hr]
  exact h v' w' h1 h2
theorem step_appP {w : World} {ops : Array Oper} {o : Oper} {a : Act} {K : Act → World → Prop} {Q : Exit → Act → World → Prop} {E : Prop} (hgd : o.guard = none) (s x : Operand)
    (ho : o.op = .call { callee := .builtin .append, args := #[s, x], argTypes := #[32, 32] }) (base : Nat) (v : Value) (l : List PairL) (hs : a.eval s = v) (hown : OwnsP w base v l) (b : Nat) (p : PairL)
    (hx : a.eval x = .slice (some ⟨b, 0, none⟩) 1 1) (hsee : ∀ j u, (cellsP [p])[j]? = some u → w.cell? ((⟨b, 0, none⟩ : Addr).add j) = some u) (hb : (l.length + 1) * 32 ≤ 140737488355328) (hbase : base ≤ w.heap.size)
    (h : ∀ v' w', OwnsP w' base v' (l ++ [p]) → w.grownBy w' v.ownBlock → K (a.put o.dst v') w') :
    if Region.wanted o (yielded ops a.tmps) = true then Oper.wp Tryz.prog o a w K Q else E := by
  have hw : Region.wanted o (yielded ops a.tmps) = true := by simp [Region.wanted, hgd]
  rw [if_pos hw]
  exact wp_appP s x ho base v l hs hown b p hx hsee hb hbase h
theorem wpList_appP {w : World} {ops : Array Oper} {rest : List Oper} {o : Oper} {a : Act} {Q : Exit → Act → World → Prop} (hgd : o.guard = none) (s x : Operand)
    (ho : o.op = .call { callee := .builtin .append, args := #[s, x], argTypes := #[32, 32] }) (base : Nat) (v : Value) (l : List PairL) (hs : a.eval s = v) (hown : OwnsP w base v l) (b : Nat) (p : PairL)
    (hx : a.eval x = .slice (some ⟨b, 0, none⟩) 1 1) (hsee : ∀ j u, (cellsP [p])[j]? = some u → w.cell? ((⟨b, 0, none⟩ : Addr).add j) = some u) (hb : (l.length + 1) * 32 ≤ 140737488355328) (hbase : base ≤ w.heap.size)
    (h : ∀ v' w', OwnsP w' base v' (l ++ [p]) → w.grownBy w' v.ownBlock → wpList Tryz.prog ops Q rest (a.put o.dst v') w') : wpList Tryz.prog ops Q (o :: rest) a w :=
  wpList_plain hgd fun _ hK => wp_appP s x ho base v l hs hown b p hx hsee hb hbase fun v' w' h1 h2 => hK _ _ (h v' w' h1 h2)

end Go.Proofs.YtllhibdjopfcnaaGreatDoor
