/-
  Grants in memory.
-/
import Derived.Test.YtciphhfaoljndaaLRef
import Derived.Test.YtciphhfaoljndaaUMath
namespace Go.Proofs.Ytciphhfaoljndaa
open Go.RowKit
set_option linter.unusedVariables false
set_option linter.unusedSimpArgs false

def In64 (x : Int) : Prop := -9223372036854775808 ≤ x ∧ x ≤ 9223372036854775807
/-- All that stands in some grants is within an int's kind. -/
def InG (gs : List GrL) : Prop := ∀ g ∈ gs, In64 g.1 ∧ In64 g.2.1 ∧ In64 g.2.2.1 ∧ In64 g.2.2.2
def cellsG : List GrL → List Value
  | [] => []
  | g :: r => .int .i64 g.1 :: .int .i64 g.2.1 :: .int .i64 g.2.2.1 :: .int .i64 g.2.2.2 :: cellsG r
theorem cellsG_len (l : List GrL) : (cellsG l).length = l.length * 4 := by
  induction l with
  | nil => rfl
  | cons p r ih => simp [cellsG, ih]; omega
theorem cellsG_app (l m : List GrL) : cellsG (l ++ m) = cellsG l ++ cellsG m := by
  induction l with
  | nil => rfl
  | cons p r ih => simp [cellsG, ih]
theorem cellsG_get : ∀ (l : List GrL) (j : Nat) (h : j < l.length), (cellsG l)[j * 4]? = some (.int .i64 l[j].1) ∧ (cellsG l)[j * 4 + 1]? = some (.int .i64 l[j].2.1) ∧ (cellsG l)[j * 4 + 2]? = some (.int .i64 l[j].2.2.1) ∧ (cellsG l)[j * 4 + 3]? = some (.int .i64 l[j].2.2.2)
  | [], j, h => by simp at h
  | q :: r, 0, h => by simp [cellsG]
  | q :: r, j + 1, h => by
    have ih := cellsG_get r j (by simpa using h)
    rw [show (j + 1) * 4 = j * 4 + 1 + 1 + 1 + 1 by omega]
    simpa [cellsG] using ih
theorem cellsG_one (l : List GrL) : ∀ v ∈ cellsG l, v.oneCell' = true := by
  induction l with
  | nil => intro v hv; simp [cellsG] at hv
  | cons p r ih =>
    intro v hv
    simp only [cellsG, List.mem_cons] at hv
    rcases hv with rfl | rfl | rfl | rfl | hv
    · rfl
    · rfl
    · rfl
    · rfl
    · exact ih v hv
def SeesG (w : World) (v : Value) (l : List GrL) : Prop :=
  ∃ b off ao cap, v = .slice ao l.length cap ∧ l.length ≤ cap ∧ (ao = none → cap = 0) ∧ (l ≠ [] → ao = some ⟨b, off, none⟩) ∧
    ∀ j, (h : j < l.length) → w.cell? ⟨b, off + j * 4, none⟩ = some (.int .i64 l[j].1) ∧ w.cell? ⟨b, off + j * 4 + 1, none⟩ = some (.int .i64 l[j].2.1) ∧ w.cell? ⟨b, off + j * 4 + 2, none⟩ = some (.int .i64 l[j].2.2.1) ∧ w.cell? ⟨b, off + j * 4 + 3, none⟩ = some (.int .i64 l[j].2.2.2)
theorem SeesG.below {w w' : World} {v : Value} {l : List GrL} (h : SeesG w v l) (hb : Below w.heap.size w w') : SeesG w' v l := by
  obtain ⟨b, off, ao, cap, hv, hc, hn, ha, hcell⟩ := h
  refine ⟨b, off, ao, cap, hv, hc, hn, ha, fun j hj => ?_⟩
  obtain ⟨h1, h2, h3, h4⟩ := hcell j hj
  exact ⟨(hb.cell (World.block_lt_of_cell? w _ h1)).trans h1, (hb.cell (World.block_lt_of_cell? w _ h2)).trans h2, (hb.cell (World.block_lt_of_cell? w _ h3)).trans h3, (hb.cell (World.block_lt_of_cell? w _ h4)).trans h4⟩
theorem SeesG.shape {w : World} {v : Value} {l : List GrL} (h : SeesG w v l) : ∃ ao cap, v = .slice ao l.length cap := by
  obtain ⟨b, off, ao, cap, h1, _⟩ := h
  exact ⟨ao, cap, h1⟩
def OwnsG (w : World) (base : Nat) (v : Value) (l : List GrL) : Prop := w.ownsRow base 37 4 v l.length (cellsG l)
theorem OwnsG.below {w w' : World} {base : Nat} {v : Value} {l : List GrL} (h : OwnsG w base v l) (hb : Below w.heap.size w w') : OwnsG w' base v l := ownsRow_below h hb
theorem OwnsG.sees {w : World} {base : Nat} {v : Value} {l : List GrL} (h : OwnsG w base v l) : SeesG w v l := by
  rcases h.2 with ⟨rfl, hn⟩ | ⟨g, cap, cur, rfl, hbase, hg, hcap, _, _, ht⟩
  · have : l = [] := List.eq_nil_of_length_eq_zero hn
    subst this
    exact ⟨0, 0, none, 0, rfl, Nat.le_refl _, fun _ => rfl, fun h => absurd rfl h, fun j hj => by simp at hj⟩
  · refine ⟨g, 0, _, cap, rfl, hcap, (fun h => by cases h), fun _ => rfl, fun j hj => ?_⟩
    obtain ⟨e1, e2, e3, e4⟩ := cellsG_get l j hj
    have h1 := h.cells (g := g) rfl _ _ e1
    have h2 := h.cells (g := g) rfl _ _ e2
    have h3 := h.cells (g := g) rfl _ _ e3
    have h4 := h.cells (g := g) rfl _ _ e4
    rw [addr_add] at h1 h2 h3 h4
    rw [Nat.zero_add] at h1 h2 h3 h4
    rw [Nat.zero_add]
    exact ⟨h1, h2, h3, h4⟩
theorem Try.infoG : (Try.prog.info? 37).map (fun i => (i.zero, i.size, i.bytes)) = some (some (.agg #[.int .i64 0, .int .i64 0, .int .i64 0, .int .i64 0]), 4, 32) := by kernel_rfl

/-- 'append(v, u...)' of grants, v the call's own. -/
theorem wpList_appG {w : World} {ops : Array Oper} {rest : List Oper} {o : Oper} {a : Act} {Q : Exit → Act → World → Prop} (hgd : o.guard = none) (s x : Operand)
    (ho : o.op = .call { callee := .builtin .append, args := #[s, x], argTypes := #[22, 22] }) (base : Nat) (v : Value) (l : List GrL) (hs : a.eval s = v) (hown : OwnsG w base v l)
    (u : Value) (m : List GrL) (hx : a.eval x = u) (hsee : SeesG w u m) (hb : (l.length + m.length) * 32 ≤ 140737488355328) (hbase : base ≤ w.heap.size)
    (h : ∀ v' w', OwnsG w' base v' (l ++ m) → w.grownBy w' v.ownBlock → wpList Try.prog ops Q rest (a.put o.dst v') w') : wpList Try.prog ops Q (o :: rest) a w := by
  obtain ⟨i0, hi, hz0, hz1, hz2⟩ := info_parts Try.infoG
  obtain ⟨b, off, ao, cap, rfl, hcap, hnil, hao, hcell⟩ := hsee
  by_cases hy : m = []
  · subst hy
    cases ao with
    | none =>
      obtain rfl := hnil rfl
      refine wpList_append_own_none hgd s x 22 ho base 37 i0 4 Try.underlying22 hi v _ _ hs hown hx ?_
      exact h v w (by simpa using hown) ⟨rfl, rfl, rfl, Nat.le_refl _, fun _ _ _ => rfl⟩
    | some ad =>
      refine wpList_append_own w hgd s x 22 ho base 37 i0 (.agg #[.int .i64 0, .int .i64 0, .int .i64 0, .int .i64 0]) 4 32 Try.underlying22 hi hz0 hz1 hz2 rfl (by decide) v _ _ hs hown ad 0 cap [] hx rfl (by simp) (by simp) (by simp only [maxLen]; simp at hb; omega) (by simpa using hb) hbase ?_
      intro v' w' h1 h2 _
      exact h v' w' (by simpa [OwnsG] using h1) h2
  · obtain rfl := hao hy
    refine wpList_append_own w hgd s x 22 ho base 37 i0 (.agg #[.int .i64 0, .int .i64 0, .int .i64 0, .int .i64 0]) 4 32 Try.underlying22 hi hz0 hz1 hz2 rfl (by decide) v _ _ hs hown ⟨b, off, none⟩ m.length cap (cellsG m) hx (cellsG_len m) ?_ (cellsG_one m) (by simp only [maxLen]; omega) hb hbase ?_
    · intro j y hj
      have hjl : j < m.length * 4 := by
        have := (List.getElem?_eq_some_iff.1 hj).1
        rwa [cellsG_len] at this
      have hj2 : j / 4 < m.length := by omega
      obtain ⟨c1, c2, c3, c4⟩ := hcell (j / 4) hj2
      obtain ⟨e1, e2, e3, e4⟩ := cellsG_get m (j / 4) hj2
      rw [addr_add]
      have hm : j % 4 = 0 ∨ j % 4 = 1 ∨ j % 4 = 2 ∨ j % 4 = 3 := by omega
      rcases hm with hm | hm | hm | hm
      · rw [show j = j / 4 * 4 by omega, e1] at hj
        rw [show off + j = off + j / 4 * 4 by omega, c1]
        exact hj
      · rw [show j = j / 4 * 4 + 1 by omega, e2] at hj
        rw [show off + j = off + j / 4 * 4 + 1 by omega, c2]
        exact hj
      · rw [show j = j / 4 * 4 + 2 by omega, e3] at hj
        rw [show off + j = off + j / 4 * 4 + 2 by omega, c3]
        exact hj
      · rw [show j = j / 4 * 4 + 3 by omega, e4] at hj
        rw [show off + j = off + j / 4 * 4 + 3 by omega, c4]
        exact hj
    · intro v' w' h1 h2 _
      exact h v' w' (by show w'.ownsRow _ _ _ _ _ _; rw [cellsG_app, List.length_append]; exact h1) h2
theorem seesG_one (w : World) (g : GrL) : SeesG (w.alloc (.cells #[.int .i64 g.1, .int .i64 g.2.1, .int .i64 g.2.2.1, .int .i64 g.2.2.2] 37)) (.slice (some ⟨w.heap.size, 0, none⟩) 1 1) [g] := by
  refine ⟨w.heap.size, 0, _, 1, rfl, Nat.le_refl _, (fun h => by cases h), fun _ => rfl, fun j hj => ?_⟩
  have : j = 0 := by simp at hj; omega
  subst this
  simp
theorem SeesG.nil (w : World) : SeesG w (.slice none 0 0) [] := ⟨0, 0, none, 0, rfl, Nat.le_refl _, fun _ => rfl, fun h => absurd rfl h, fun j hj => by simp at hj⟩
end Go.Proofs.Ytciphhfaoljndaa
