/-
  Texts in the place of numbers: a slice that reads a list of texts, and that such a reading lasts where old memory stays.
-/
import Derived.Test.YtaillppmfbbnjaaSetB
import Derived.Sort.OwnSorted
namespace Go.Proofs.Ytaillppmfbbnjaa
open Go.RowKit
set_option linter.unusedVariables false

/-- The slice v reads xs in the world w. -/
def SeesS (w : World) (v : Value) (xs : List (List UInt8)) : Prop :=
  ∃ b off ao cap, v = .slice ao xs.length cap ∧ xs.length ≤ cap ∧ (ao = none → cap = 0) ∧ (xs ≠ [] → ao = some ⟨b, off, none⟩) ∧ ∀ j, j < xs.length → w.cell? ⟨b, off + j, none⟩ = some (encStr (xs.getD j []))

theorem SeesS.below {w w' : World} {v : Value} {xs : List (List UInt8)} (h : SeesS w v xs) (hb : Below w.heap.size w w') : SeesS w' v xs := by
  obtain ⟨b, off, ao, cap, hv, hc, hn, ha, hcell⟩ := h
  exact ⟨b, off, ao, cap, hv, hc, hn, ha, fun j hj => (hb.cell (World.block_lt_of_cell? w _ (hcell j hj))).trans (hcell j hj)⟩

/-- The slice v is the call's own, made from block 'base' on, and holds xs. -/
def OwnsS (w : World) (base : Nat) (v : Value) (xs : List (List UInt8)) : Prop := w.ownsRow base 9 1 v xs.length (xs.map encStr)

theorem OwnsS.below {w w' : World} {base : Nat} {v : Value} {xs : List (List UInt8)} (h : OwnsS w base v xs) (hb : Below w.heap.size w w') : OwnsS w' base v xs := ownsRow_below h hb

theorem OwnsS.sees {w : World} {base : Nat} {v : Value} {xs : List (List UInt8)} (h : OwnsS w base v xs) : SeesS w v xs := by
  rcases h.2 with ⟨rfl, hn⟩ | ⟨g, cap, cur, rfl, hbase, hg, hcap, _, _, ht⟩
  · have : xs = [] := List.eq_nil_of_length_eq_zero hn
    subst this
    exact ⟨0, 0, none, 0, rfl, Nat.le_refl _, fun _ => rfl, fun h => absurd rfl h, fun j hj => by simp at hj⟩
  · refine ⟨g, 0, _, cap, rfl, hcap, (fun h => by cases h), fun _ => rfl, fun j hj => ?_⟩
    have hc := h.cells (g := g) rfl j (encStr (xs.getD j [])) (by simp [List.getD, hj])
    rw [Nat.zero_add]
    have hadd : (⟨g, 0, none⟩ : Addr).add j = ⟨g, j, none⟩ := by unfold Addr.add; split <;> simp_all
    rwa [hadd] at hc

theorem Try.info9 : (Try.prog.info? 9).map (fun i => (i.zero, i.size, i.bytes)) = some (some (.string ByteArray.empty), 1, 16) := by kernel_rfl

/-- 'append(v, u...)', v the call's own: it owns both. -/
theorem wpList_appS {w : World} {ops : Array Oper} {rest : List Oper} {o : Oper} {a : Act} {Q : Exit → Act → World → Prop} (hgd : o.guard = none) (s x : Operand)
    (ho : o.op = .call { callee := .builtin .append, args := #[s, x], argTypes := #[30, 30] }) (base : Nat) (v : Value) (xs : List (List UInt8)) (hs : a.eval s = v) (hown : OwnsS w base v xs)
    (u : Value) (ys : List (List UInt8)) (hx : a.eval x = u) (hsee : SeesS w u ys) (hb : (xs.length + ys.length) * 16 ≤ 140737488355328) (hbase : base ≤ w.heap.size)
    (h : ∀ v' w', OwnsS w' base v' (xs ++ ys) → w.grownBy w' v.ownBlock → wpList Try.prog ops Q rest (a.put o.dst v') w') : wpList Try.prog ops Q (o :: rest) a w := by
  obtain ⟨i0, hi, hz0, hz1, hz2⟩ := info_parts Try.info9
  obtain ⟨b, off, ao, cap, rfl, hcap, hnil, hao, hcell⟩ := hsee
  by_cases hy : ys = []
  · subst hy
    cases ao with
    | none =>
      obtain rfl := hnil rfl
      refine wpList_append_own_none hgd s x 30 ho base 9 i0 1 Try.underlying30 hi v _ _ hs hown hx ?_
      exact h v w (by simpa using hown) ⟨rfl, rfl, rfl, Nat.le_refl _, fun _ _ _ => rfl⟩
    | some ad =>
      refine wpList_append_own w hgd s x 30 ho base 9 i0 (.string ByteArray.empty) 1 16 Try.underlying30 hi hz0 hz1 hz2 rfl (by decide) v _ _ hs hown ad 0 cap [] hx rfl (by simp) (by simp) (by simp only [maxLen]; simp at hb; omega) (by simpa using hb) hbase ?_
      intro v' w' h1 h2 _
      exact h v' w' (by simpa [OwnsS] using h1) h2
  · obtain rfl := hao hy
    refine wpList_append_own w hgd s x 30 ho base 9 i0 (.string ByteArray.empty) 1 16 Try.underlying30 hi hz0 hz1 hz2 rfl (by decide) v _ _ hs hown ⟨b, off, none⟩ ys.length cap (ys.map encStr) hx (by simp) ?_ ?_ (by simp only [maxLen]; omega) hb hbase ?_
    · intro j y hj
      have hjl : j < ys.length := by
        have := (List.getElem?_eq_some_iff.1 hj).1
        simpa using this
      rw [addr_add, hcell j hjl]
      simp [hjl] at hj
      simp [List.getD, hjl, hj]
    · intro y hy'
      obtain ⟨z, _, rfl⟩ := List.mem_map.1 hy'
      rfl
    · intro v' w' h1 h2 _
      exact h v' w' (by simpa [OwnsS] using h1) h2

theorem sees_oneS (w : World) (x : List UInt8) : SeesS (w.alloc (.cells #[encStr x] 9)) (.slice (some ⟨w.heap.size, 0, none⟩) 1 1) [x] := by
  refine ⟨w.heap.size, 0, _, 1, rfl, Nat.le_refl _, (fun h => by cases h), fun _ => rfl, fun j hj => ?_⟩
  have : j = 0 := by simp at hj; omega
  subst this
  simp

end Go.Proofs.Ytaillppmfbbnjaa
