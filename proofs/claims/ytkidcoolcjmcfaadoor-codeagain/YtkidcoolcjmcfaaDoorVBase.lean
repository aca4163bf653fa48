/-
  Memory of the machine: rows of numbers, of instructions, the machine's block, the law's memory.
-/
import Derived.Test.YtkidcoolcjmcfaaDoorBase
import Derived.Test.YtkidcoolcjmcfaaDoorCMathB
namespace Go.Proofs.YtkidcoolcjmcfaaDoor
open Go.RowKit
set_option linter.unusedVariables false

/-- The slice v reads xs in the world w. -/
def Sees (w : World) (v : Value) (xs : List Int) : Prop :=
  ∃ b off ao cap, v = .slice ao xs.length cap ∧ xs.length ≤ cap ∧ (ao = none → cap = 0) ∧ (xs ≠ [] → ao = some ⟨b, off, none⟩) ∧ ∀ j, j < xs.length → w.cell? ⟨b, off + j, none⟩ = some (.int .i64 (xs.getD j 0))
theorem Sees.below {w w' : World} {v : Value} {xs : List Int} (h : Sees w v xs) (hb : Below w.heap.size w w') : Sees w' v xs := by
  obtain ⟨b, off, ao, cap, hv, hc, hn, ha, hcell⟩ := h
  exact ⟨b, off, ao, cap, hv, hc, hn, ha, fun j hj => (hb.cell (World.block_lt_of_cell? w _ (hcell j hj))).trans (hcell j hj)⟩
theorem Sees.nil (w : World) : Sees w (.slice none 0 0) [] := ⟨0, 0, none, 0, rfl, Nat.le_refl _, fun _ => rfl, fun h => absurd rfl h, fun j hj => by simp at hj⟩
/-- The slice v is the call's own, made from block 'base' on, and holds xs. -/
def Owns (w : World) (base : Nat) (v : Value) (xs : List Int) : Prop := w.ownsRow base 3 1 v xs.length (xs.map (Value.int .i64))
theorem Owns.below {w w' : World} {base : Nat} {v : Value} {xs : List Int} (h : Owns w base v xs) (hb : Below w.heap.size w w') : Owns w' base v xs := ownsRow_below h hb
theorem Owns.nil (w : World) (base : Nat) : Owns w base (.slice none 0 0) [] := World.ownsRow_nil _ _ _ _
theorem Owns.sees {w : World} {base : Nat} {v : Value} {xs : List Int} (h : Owns w base v xs) : Sees w v xs := by
  rcases h.2 with ⟨rfl, hn⟩ | ⟨g, cap, cur, rfl, hbase, hg, hcap, _, _, ht⟩
  · have : xs = [] := List.eq_nil_of_length_eq_zero hn
    subst this
    exact Sees.nil w
  · refine ⟨g, 0, _, cap, rfl, hcap, (fun h => by cases h), fun _ => rfl, fun j hj => ?_⟩
    have hc := h.cells (g := g) rfl j (.int .i64 (xs.getD j 0)) (by simp [List.getD, hj])
    rw [Nat.zero_add]
    rwa [addr_add, Nat.zero_add] at hc
theorem Owns.shape {w : World} {base : Nat} {v : Value} {xs : List Int} (h : Owns w base v xs) : ∃ ao cap, v = .slice ao xs.length cap ∧ xs.length ≤ cap := by
  rcases h.2 with ⟨rfl, hn⟩ | ⟨g, cap, cur, rfl, _, _, hc, _⟩
  · exact ⟨none, 0, by rw [hn], by omega⟩
  · exact ⟨_, cap, rfl, hc⟩
/-- What lies in a block that stays as it is. -/
theorem ownsRow_same {w w' : World} {base : Nat} {e : TypeId} {size : Nat} {v : Value} {n : Nat} {xs : List Value} (h : w.ownsRow base e size v n xs) (hb : ∀ j, v.ownBlock = some j → w'.heap[j]? = w.heap[j]?) : w'.ownsRow base e size v n xs := by
  refine ⟨h.1, ?_⟩
  rcases h.2 with hn | ⟨g, cap, cur, rfl, hbase, hg, rest⟩
  · exact Or.inl hn
  · exact Or.inr ⟨g, cap, cur, rfl, hbase, by rw [hb g (by simp [Value.ownBlock])]; exact hg, rest⟩
theorem ownsRow_le {w : World} {base base' : Nat} {e : TypeId} {size : Nat} {v : Value} {n : Nat} {xs : List Value} (h : w.ownsRow base e size v n xs) (hb : base' ≤ base) : w.ownsRow base' e size v n xs := by
  refine ⟨h.1, ?_⟩
  rcases h.2 with hn | ⟨g, cap, cur, rfl, hbase, hg, rest⟩
  · exact Or.inl hn
  · exact Or.inr ⟨g, cap, cur, rfl, by omega, hg, rest⟩
theorem ownsRow_lt {w : World} {base : Nat} {e : TypeId} {size : Nat} {v : Value} {n : Nat} {xs : List Value} (h : w.ownsRow base e size v n xs) : ∀ j, v.ownBlock = some j → base ≤ j ∧ j < w.heap.size := h.lt
/-- A row cut short. -/
theorem Owns.cut {w : World} {base : Nat} {ao : Option Addr} {n cap : Nat} {xs : List Int} (h : Owns w base (.slice ao n cap) xs) (k : Nat) (hk : k ≤ xs.length) : Owns w base (.slice ao k cap) (xs.take k) := by
  have hl : (xs.take k).length = k := by rw [List.length_take]; omega
  unfold Owns at *
  rw [hl]
  refine ⟨by simp; omega, ?_⟩
  rcases h.2 with ⟨hv, hn⟩ | ⟨g, cap', cur, hv, hbase, hg, hcap, hm, hsz, ht⟩
  · cases hv
    have : k = 0 := by omega
    subst this
    exact Or.inl ⟨rfl, rfl⟩
  · cases hv
    refine Or.inr ⟨g, cap, cur, rfl, hbase, hg, by omega, hm, hsz, ?_⟩
    rw [List.map_take, ← ht, List.take_take]
    congr 1
    omega
theorem Tryd.info3 : (Tryd.prog.info? 3).map (fun i => (i.zero, i.size, i.bytes)) = some (some (.int .i64 0), 1, 8) := by kernel_rfl

/-- 'append(v, u...)' of numbers, v the call's own. -/
theorem run_app (w : World) (ty : TypeId) (base : Nat) (v : Value) (xs : List Int) (hown : Owns w base v xs) (u : Value) (ys : List Int) (hsee : Sees w u ys) (hb : (xs.length + ys.length) * 8 ≤ 140737488355328) (hbase : base ≤ w.heap.size) :
    ∃ v' w', (Builtin.append_ #[49, 49] ty #[v, u]).run Tryd.prog w = .ok v' w' ∧ Owns w' base v' (xs ++ ys) ∧ w.grownBy w' v.ownBlock ∧ (v'.ownBlock = v.ownBlock ∨ v'.ownBlock = some w.heap.size) := by
  obtain ⟨i0, hi, hz0, hz1, hz2⟩ := info_parts Tryd.info3
  obtain ⟨b, off, ao, cap, rfl, hcap, hnil, hao, hcell⟩ := hsee
  by_cases hy : ys = []
  · subst hy
    cases ao with
    | none =>
      obtain rfl := hnil rfl
      refine ⟨v, w, run_append_owned_none (P := Tryd.prog) (w := w) base 49 ty 3 i0 1 Tryd.underlying49 hi v _ _ hown, by simpa using hown, ⟨rfl, rfl, rfl, Nat.le_refl _, fun _ _ _ => rfl⟩, Or.inl rfl⟩
    | some ad =>
      rcases hown.2 with ⟨rfl, hn⟩ | ⟨g, cp, cur, hv, hbs, hg, hcp, _⟩
      · obtain ⟨v', w', hr, h1, h2, h3⟩ := run_append_own (P := Tryd.prog) w base 49 ty 3 i0 (.int .i64 0) 1 8 Tryd.underlying49 hi hz0 hz1 hz2 rfl (by decide) _ _ _ hown ad 0 cap [] rfl (by simp) (by simp) (by simp only [maxLen]; simp at hb; omega) (by simpa using hb) hbase
        exact ⟨v', w', hr, by simpa [Owns] using h1, h2, Or.inl (by rw [h3.2 ⟨rfl, rfl⟩])⟩
      · subst hv
        obtain ⟨w', hr, h1, h2⟩ := run_append_fits (P := Tryd.prog) (w := w) base 49 ty 3 i0 1 Tryd.underlying49 hi hz1 g _ cp _ hown ad 0 cap [] rfl (by simp) (by simp) (by omega)
        exact ⟨_, w', hr, by simpa [Owns] using h1, h2, Or.inl rfl⟩
  · obtain rfl := hao hy
    have hpl : 0 < ys.length := List.length_pos_iff.2 hy
    obtain ⟨g, cap', w', hr, h1, h2, h3, _⟩ := run_append_lies (P := Tryd.prog) w 49 ty base 3 i0 (.int .i64 0) 1 8 Tryd.underlying49 hi hz0 hz1 hz2 rfl (by decide) v _ _ hown ⟨b, off, none⟩ ys.length cap (ys.map (Value.int .i64)) (by simp) (fun j y hj => by
        have hjl : j < ys.length := by
          have := (List.getElem?_eq_some_iff.1 hj).1
          simpa using this
        rw [addr_add, hcell j hjl]
        simp [hjl] at hj
        simp [List.getD, hjl, hj]) (by
        intro y hy'
        obtain ⟨z, _, rfl⟩ := List.mem_map.1 hy'
        rfl) hpl (by simp only [maxLen]; omega) hb hbase _ rfl
    refine ⟨_, w', hr, by simpa [Owns] using h1, h2, ?_⟩
    rcases h3 with h3 | h3
    · exact Or.inl (by simpa [Value.ownBlock] using h3.symm)
    · exact Or.inr (by simp [Value.ownBlock, h3])
theorem step_append_run {ops : Array Oper} {o : Oper} {a : Act} {w : World} {K : Act → World → Prop} {Q : Exit → Act → World → Prop} {E : Prop}
    (hg : o.guard = none) (d x : Operand) (dT sT : TypeId) (hop : o.op = Op.call { callee := Callee.builtin Builtin.append, args := #[d, x], argTypes := #[dT, sT] })
    (v u : Value) (hd : a.eval d = v) (hx : a.eval x = u) {v' : Value} {w' : World} (hr : (Builtin.append_ #[dT, sT] o.type #[v, u]).run Tryd.prog w = .ok v' w') (hK : K (a.put o.dst v') w') :
    if Region.wanted o (yielded ops a.tmps) = true then Oper.wp Tryd.prog o a w K Q else E := by
  have hw : Region.wanted o (yielded ops a.tmps) = true := by simp [Region.wanted, hg]
  rw [if_pos hw]
  unfold Oper.wp
  simp [execOp, hop, resolve, invoke, builtin, hd, hx, hr, Result.andThen]
  exact hK
theorem wpList_append_run {w : World} {ops : Array Oper} {rest : List Oper} {o : Oper} {a : Act} {Q : Exit → Act → World → Prop} (hgd : o.guard = none) (s x : Operand) (dT sT : TypeId)
    (ho : o.op = .call { callee := .builtin .append, args := #[s, x], argTypes := #[dT, sT] }) (v u : Value) (hs : a.eval s = v) (hx : a.eval x = u) {v' : Value} {w' : World} (hr : (Builtin.append_ #[dT, sT] o.type #[v, u]).run Tryd.prog w = .ok v' w')
    (h : wpList Tryd.prog ops Q rest (a.put o.dst v') w') : wpList Tryd.prog ops Q (o :: rest) a w := by
  refine wpList_plain hgd fun K hK => ?_
  unfold Oper.wp
  simp [execOp, ho, resolve, invoke, builtin, hs, hx, hr, Result.andThen]
  exact hK _ _ h
theorem sees_one (w : World) (x : Int) : Sees (w.alloc (.cells #[.int .i64 x] 3)) (.slice (some ⟨w.heap.size, 0, none⟩) 1 1) [x] := by
  refine ⟨w.heap.size, 0, _, 1, rfl, Nat.le_refl _, (fun h => by cases h), fun _ => rfl, fun j hj => ?_⟩
  have : j = 0 := by simp at hj; omega
  subst this
  simp
theorem sees_two (w : World) (x y : Int) : Sees (w.alloc (.cells #[.int .i64 x, .int .i64 y] 3)) (.slice (some ⟨w.heap.size, 0, none⟩) 2 2) [x, y] := by
  refine ⟨w.heap.size, 0, _, 2, rfl, Nat.le_refl _, (fun h => by cases h), fun _ => rfl, fun j hj => ?_⟩
  have : j = 0 ∨ j = 1 := by simp at hj; omega
  rcases this with rfl | rfl <;> simp

/-! ### Instructions -/
def cellsI : List InsL → List Value
  | [] => []
  | p :: r => .int .i64 p.1 :: .int .i64 p.2 :: cellsI r
theorem cellsI_len (l : List InsL) : (cellsI l).length = l.length * 2 := by
  induction l with
  | nil => rfl
  | cons p r ih => simp [cellsI, ih]; omega
theorem cellsI_get : ∀ (l : List InsL) (j : Nat) (h : j < l.length), (cellsI l)[j * 2]? = some (.int .i64 l[j].1) ∧ (cellsI l)[j * 2 + 1]? = some (.int .i64 l[j].2)
  | [], j, h => by simp at h
  | p :: r, 0, h => by simp [cellsI]
  | p :: r, j + 1, h => by
    have ih := cellsI_get r j (by simpa using h)
    rw [show (j + 1) * 2 = j * 2 + 1 + 1 by omega]
    simpa [cellsI] using ih
theorem cellsI_one (l : List InsL) : ∀ v ∈ cellsI l, v.oneCell' = true := by
  induction l with
  | nil => intro v hv; cases hv
  | cons p r ih =>
    intro v hv
    simp only [cellsI, List.mem_cons] at hv
    rcases hv with rfl | rfl | hv
    · rfl
    · rfl
    · exact ih v hv
def SeesI (w : World) (v : Value) (l : List InsL) : Prop :=
  ∃ b off ao cap, v = .slice ao l.length cap ∧ l.length ≤ cap ∧ (ao = none → cap = 0) ∧ (l ≠ [] → ao = some ⟨b, off, none⟩) ∧ ∀ j, (h : j < l.length) → w.cell? ⟨b, off + j * 2, none⟩ = some (.int .i64 l[j].1) ∧ w.cell? ⟨b, off + j * 2 + 1, none⟩ = some (.int .i64 l[j].2)
theorem SeesI.below {w w' : World} {v : Value} {l : List InsL} (h : SeesI w v l) (hb : Below w.heap.size w w') : SeesI w' v l := by
  obtain ⟨b, off, ao, cap, hv, hc, hn, ha, hcell⟩ := h
  refine ⟨b, off, ao, cap, hv, hc, hn, ha, fun j hj => ?_⟩
  obtain ⟨h1, h2⟩ := hcell j hj
  exact ⟨(hb.cell (World.block_lt_of_cell? w _ h1)).trans h1, (hb.cell (World.block_lt_of_cell? w _ h2)).trans h2⟩
def OwnsI (w : World) (base : Nat) (v : Value) (l : List InsL) : Prop := w.ownsRow base 38 2 v l.length (cellsI l)
theorem OwnsI.sees {w : World} {base : Nat} {v : Value} {l : List InsL} (h : OwnsI w base v l) : SeesI w v l := by
  rcases h.2 with ⟨rfl, hn⟩ | ⟨g, cap, cur, rfl, hbase, hg, hcap, _, _, ht⟩
  · have : l = [] := List.eq_nil_of_length_eq_zero hn
    subst this
    exact ⟨0, 0, none, 0, rfl, Nat.le_refl _, fun _ => rfl, fun h => absurd rfl h, fun j hj => by simp at hj⟩
  · refine ⟨g, 0, _, cap, rfl, hcap, (fun h => by cases h), fun _ => rfl, fun j hj => ?_⟩
    obtain ⟨e1, e2⟩ := cellsI_get l j hj
    have h1 := h.cells (g := g) rfl _ _ e1
    have h2 := h.cells (g := g) rfl _ _ e2
    rw [addr_add] at h1 h2
    exact ⟨h1, h2⟩
theorem Tryd.infoI : (Tryd.prog.info? 38).map (fun i => (i.zero, i.size, i.bytes)) = some (some (.agg #[.int .i64 0, .int .i64 0]), 2, 16) := by kernel_rfl
/-- 'append(nil, u...)' of instructions. -/
theorem run_appI (w : World) (ty : TypeId) (u : Value) (l : List InsL) (hsee : SeesI w u l) (hb : l.length * 16 ≤ 140737488355328) :
    ∃ v' w', (Builtin.append_ #[22, 22] ty #[.slice none 0 0, u]).run Tryd.prog w = .ok v' w' ∧ OwnsI w' w.heap.size v' l ∧ Below w.heap.size w w' := by
  obtain ⟨i0, hi, hz0, hz1, hz2⟩ := info_parts Tryd.infoI
  have hown : w.ownsRow w.heap.size 38 2 (.slice none 0 0) 0 [] := World.ownsRow_nil _ _ _ _
  obtain ⟨b, off, ao, cap, rfl, hcap, hnil, hao, hcell⟩ := hsee
  by_cases hy : l = []
  · subst hy
    cases ao with
    | none =>
      obtain rfl := hnil rfl
      exact ⟨_, w, run_append_owned_none (P := Tryd.prog) (w := w) w.heap.size 22 ty 38 i0 2 Tryd.underlying22 hi _ _ _ hown, hown, Below.refl _ _⟩
    | some ad =>
      obtain ⟨v', w', hr, h1, h2, h3⟩ := run_append_own (P := Tryd.prog) w w.heap.size 22 ty 38 i0 _ 2 16 Tryd.underlying22 hi hz0 hz1 hz2 rfl (by decide) _ _ _ hown ad 0 cap [] rfl (by simp) (by simp) (by simp only [maxLen]; omega) (by simp) (Nat.le_refl _)
      exact ⟨v', w', hr, by simpa [OwnsI, cellsI] using h1, (Below.refl _ _).grown h2 (Nat.le_refl _) (fun k hk => by simp [Value.ownBlock] at hk)⟩
  · obtain rfl := hao hy
    have hpl : 0 < l.length := List.length_pos_iff.2 hy
    obtain ⟨g, cap', w', hr, h1, h2, h3, _⟩ := run_append_lies (P := Tryd.prog) w 22 ty w.heap.size 38 i0 _ 2 16 Tryd.underlying22 hi hz0 hz1 hz2 rfl (by decide) _ _ _ hown ⟨b, off, none⟩ l.length cap (cellsI l) (by rw [cellsI_len]) (fun j y hj => by
        have hjl : j < l.length * 2 := by
          have := (List.getElem?_eq_some_iff.1 hj).1
          rwa [cellsI_len] at this
        rw [addr_add]
        have hj2 : j / 2 < l.length := by omega
        obtain ⟨c1, c2⟩ := hcell (j / 2) hj2
        obtain ⟨e1, e2⟩ := cellsI_get l (j / 2) hj2
        have hm : j % 2 = 0 ∨ j % 2 = 1 := by omega
        rcases hm with hm | hm
        · rw [show j = j / 2 * 2 by omega, e1] at hj
          rw [show off + j = off + j / 2 * 2 by omega, c1]
          exact hj
        · rw [show j = j / 2 * 2 + 1 by omega, e2] at hj
          rw [show off + j = off + j / 2 * 2 + 1 by omega, c2]
          exact hj) (cellsI_one l) hpl (by simp only [maxLen]; omega) (by omega) (Nat.le_refl _) _ rfl
    exact ⟨_, w', hr, by simpa [OwnsI] using h1, (Below.refl _ _).grown h2 (Nat.le_refl _) (fun k hk => by simp [Value.ownBlock] at hk)⟩

/-! ### What stays -/
end Go.Proofs.YtkidcoolcjmcfaaDoor
