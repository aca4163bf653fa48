/-
  What Hex leans on: digits; 'append' at a step of a region that draws its order.
-/
import Derived.Test.YtplljpodejpbgaaGreatDoorXSum
namespace Go.Proofs.YtplljpodejpbgaaGreatDoor
open Go.RowKit
set_option linter.unusedVariables false
set_option maxRecDepth 100000

/-- A digit of a number below 16. -/
def dig (n : Nat) : Nat := [48, 49, 50, 51, 52, 53, 54, 55, 56, 57, 97, 98, 99, 100, 101, 102].getD n 0
def hexOf (l : List Nat) : List Nat := l.flatMap fun x => [dig (x / 16), dig (x % 16)]

theorem hexOf_len (l : List Nat) : (hexOf l).length = 2 * l.length := by
  induction l with
  | nil => rfl
  | cons a t ih =>
    unfold hexOf at *
    rw [List.flatMap_cons, List.length_append, ih]
    show 2 + 2 * t.length = 2 * (t.length + 1)
    omega
theorem hexOf_take {l : List Nat} {k : Nat} (h : k < l.length) : hexOf (l.take (k + 1)) = hexOf (l.take k) ++ [dig (l.getD k 0 / 16), dig (l.getD k 0 % 16)] := by
  unfold hexOf
  rw [List.take_succ_eq_append_getElem h, List.flatMap_append]
  simp [List.getD, h]

theorem run_appN {T e : TypeId} {k : IntKind} {by8 : Nat} (R : Rowed T e k by8) (w : World) (ty : TypeId) (base : Nat) (v : Value) (xs : List Nat) (hown : OwnsN k e w base v xs)
    (u : Value) (ys : List Nat) (hne : ys ≠ []) (hsee : SeesN k w u ys) (hb : (xs.length + ys.length) * by8 ≤ 140737488355328) (hbase : base ≤ w.heap.size) :
    ∃ v' w', (Builtin.append_ #[T, T] ty #[v, u]).run Tryz.prog w = .ok v' w' ∧ OwnsN k e w' base v' (xs ++ ys) ∧ w.grownBy w' v.ownBlock := by
  obtain ⟨i0, hi, hz0, hz1, hz2⟩ := info_parts R.info
  have hpos := R.pos
  have hmx : xs.length + ys.length ≤ maxLen := by
    have : (xs.length + ys.length) * 1 ≤ (xs.length + ys.length) * by8 := Nat.mul_le_mul_left _ hpos
    simp only [maxLen]; omega
  obtain ⟨b, off, ao, cap, rfl, hcap, hnil, hao, hcell⟩ := hsee
  obtain rfl := hao hne
  have hpl : 0 < ys.length := List.length_pos_iff.2 hne
  obtain ⟨g, cap', w', hr, h1, h2, _, _⟩ := run_append_lies (P := Tryz.prog) w T ty base e i0 (.int k 0) 1 by8 R.und hi hz0 hz1 hz2 rfl (by decide) v _ _ hown ⟨b, off, none⟩ ys.length cap (cellsN k ys) (by simp [cellsN_len]) (fun j y hj => by
      have hjl : j < ys.length := by
        have := (List.getElem?_eq_some_iff.1 hj).1
        simpa [cellsN_len] using this
      rw [xaddr_add, hcell j hjl]
      rw [cellsN_get k ys j hjl] at hj
      exact hj) (cellsN_one k ys) hpl hmx hb hbase _ rfl
  exact ⟨_, w', hr, by simpa [OwnsN, cellsN_app] using h1, h2⟩

theorem wp_appN {T e : TypeId} {k : IntKind} {by8 : Nat} (R : Rowed T e k by8) {w : World} {o : Oper} {a : Act} {K : Act → World → Prop} {Q : Exit → Act → World → Prop} (s x : Operand)
    (ho : o.op = .call { callee := .builtin .append, args := #[s, x], argTypes := #[T, T] }) (base : Nat) (v : Value) (xs : List Nat) (hs : a.eval s = v) (hown : OwnsN k e w base v xs)
    (u : Value) (ys : List Nat) (hx : a.eval x = u) (hne : ys ≠ []) (hsee : SeesN k w u ys) (hb : (xs.length + ys.length) * by8 ≤ 140737488355328) (hbase : base ≤ w.heap.size)
    (h : ∀ v' w', OwnsN k e w' base v' (xs ++ ys) → w.grownBy w' v.ownBlock → K (a.put o.dst v') w') : o.wp Tryz.prog a w K Q := by
  obtain ⟨v', w', hr, h1, h2⟩ := run_appN R w o.type base v xs hown u ys hne hsee hb hbase
  unfold Oper.wp execOp
  simp only [ho, resolve, invoke, builtin, Sem.run_bind, Sem.run_pure, Result.andThen_ok, List.map_toArray, List.map_cons, List.map_nil, hs, hx, hr]
  exact h v' w' h1 h2

/-- 'append(v, u...)' at a step of a region that draws its order. -/
theorem step_appN {T e : TypeId} {k : IntKind} {by8 : Nat} (R : Rowed T e k by8) {w : World} {ops : Array Oper} {o : Oper} {a : Act} {K : Act → World → Prop} {Q : Exit → Act → World → Prop} {E : Prop} (hgd : o.guard = none) (s x : Operand)
    (ho : o.op = .call { callee := .builtin .append, args := #[s, x], argTypes := #[T, T] }) (base : Nat) (v : Value) (xs : List Nat) (hs : a.eval s = v) (hown : OwnsN k e w base v xs)
    (u : Value) (ys : List Nat) (hx : a.eval x = u) (hne : ys ≠ []) (hsee : SeesN k w u ys) (hb : (xs.length + ys.length) * by8 ≤ 140737488355328) (hbase : base ≤ w.heap.size)
    (h : ∀ v' w', OwnsN k e w' base v' (xs ++ ys) → w.grownBy w' v.ownBlock → K (a.put o.dst v') w') :
    if Region.wanted o (yielded ops a.tmps) = true then Oper.wp Tryz.prog o a w K Q else E := by
  have hw : Region.wanted o (yielded ops a.tmps) = true := by simp [Region.wanted, hgd]
  rw [if_pos hw]
  exact wp_appN R s x ho base v xs hs hown u ys hx hne hsee hb hbase h

theorem sees_b2 (w : World) (y z : Int) (m n : Nat) (h : y = (m : Int)) (h2 : z = (n : Int)) : SeesN .u8 (w.alloc (.cells #[.int .u8 y, .int .u8 z] 5)) (.slice (some ⟨w.heap.size, 0, none⟩) 2 2) [m, n] := by
  subst h h2
  refine ⟨w.heap.size, 0, _, 2, rfl, Nat.le_refl _, (fun h => by cases h), fun _ => rfl, fun j hj => ?_⟩
  have : j = 0 ∨ j = 1 := by simp at hj; omega
  rcases this with rfl | rfl <;> simp

end Go.Proofs.YtplljpodejpbgaaGreatDoor
