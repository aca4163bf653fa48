/-
  What the document's block leans on: 'append' that keeps what was read; words as ints.
-/
import Derived.Test.YtplljpodejpbgaaGreatDoorXHex
import Derived.ArgAppend
import Derived.Deep.DeepAppendRoom
namespace Go.Proofs.YtplljpodejpbgaaGreatDoor
open Go.RowKit
set_option linter.unusedVariables false
set_option maxRecDepth 100000

theorem far_cell {wr w4 : World} {o : Obj} {r : Option Nat} {B bb i : Nat} {v : Value} (hG : (wr.alloc o).drew.grownBy w4 r) (hr : ∀ j, r = some j → B ≤ j) (hb : bb < B) (hB : B ≤ wr.heap.size) (c : wr.cell? ⟨bb, i, none⟩ = some v) : w4.cell? ⟨bb, i, none⟩ = some v := by
  rw [hG.cell_far ⟨bb, i, none⟩ (by simp; omega) (by intro e; have := hr bb e.symm; omega)]
  have hlt : bb < wr.heap.size := by omega
  rw [← c]
  show (wr.alloc o).cell? ⟨bb, i, none⟩ = _
  exact (below_alloc wr o).cell (p := ⟨bb, i, none⟩) hlt

/-- 'append' onto a row that is not empty: what it held is read where it lay. -/
theorem run_appK {T e : TypeId} {k : IntKind} {by8 : Nat} (R : Rowed T e k by8) (w : World) (ty : TypeId) (base g n cap : Nat) (xs : List Nat) (hown : OwnsN k e w base (.slice (some ⟨g, 0, none⟩) n cap) xs) (hn : xs.length = n)
    (u : Value) (ys : List Nat) (hne : ys ≠ []) (hsee : SeesN k w u ys) (hb : (xs.length + ys.length) * by8 ≤ 140737488355328) (hbase : base ≤ w.heap.size) :
    ∃ v' w', (Builtin.append_ #[T, T] ty #[.slice (some ⟨g, 0, none⟩) n cap, u]).run Tryz.prog w = .ok v' w' ∧ OwnsN k e w' base v' (xs ++ ys) ∧ w.grownBy w' (some g) ∧ ∀ j, j < n → w'.cell? ⟨g, j, none⟩ = some (.int k ((xs.getD j 0 : Nat) : Int)) := by
  subst hn
  obtain ⟨i0, hi, hz0, hz1, hz2⟩ := info_parts R.info
  have hpos := R.pos
  have hmx : xs.length + ys.length ≤ maxLen := by
    have : (xs.length + ys.length) * 1 ≤ (xs.length + ys.length) * by8 := Nat.mul_le_mul_left _ hpos
    simp only [maxLen]; omega
  obtain ⟨b, off, ao, cap', rfl, hcap, hnil, hao, hcell⟩ := hsee
  obtain rfl := hao hne
  have hnews : ∀ j y, (cellsN k ys)[j]? = some y → w.cell? ((⟨b, off, none⟩ : Addr).add j) = some y := fun j y hj => by
    have hjl : j < ys.length := by
      have := (List.getElem?_eq_some_iff.1 hj).1
      simpa [cellsN_len] using this
    rw [xaddr_add, hcell j hjl]
    rw [cellsN_get k ys j hjl] at hj
    exact hj
  have hold : ∀ j, j < xs.length → w.cell? ⟨g, j, none⟩ = some (.int k ((xs.getD j 0 : Nat) : Int)) := fun j hj => by
    have h := hown.cells (g := g) rfl j (.int k ((xs.getD j 0 : Nat) : Int)) (cellsN_get k xs j hj)
    rwa [xaddr_add, Nat.zero_add] at h
  have hglt : g < w.heap.size := (hown.lt g rfl).2
  by_cases hroom : xs.length + ys.length ≤ cap
  · obtain ⟨w', hr, h1, h2⟩ := run_append_own_spare (P := Tryz.prog) w base T ty e i0 1 R.und hi hz1 g xs.length cap (cellsN k xs) hown ⟨b, off, none⟩ ys.length cap' (cellsN k ys) (by simp [cellsN_len]) hnews (cellsN_one k ys) hroom
    have h3 : OwnsN k e w' base (.slice (some ⟨g, 0, none⟩) (xs.length + ys.length) cap) (xs ++ ys) := by simpa [OwnsN, cellsN_app] using h1
    refine ⟨_, w', hr, h3, h2, fun j hj => ?_⟩
    have h := h3.cells (g := g) rfl j (.int k (((xs ++ ys).getD j 0 : Nat) : Int)) (cellsN_get k _ j (by simp; omega))
    rw [xaddr_add, Nat.zero_add, getD_app_left hj] at h
    exact h
  · obtain ⟨v', w', hr, h1, h2⟩ := run_append_arg_grows (P := Tryz.prog) w T ty e i0 (.int k 0) 1 by8 R.und hi hz0 hz1 hz2 rfl (by decide) ⟨g, 0, none⟩ xs.length cap (cellsN k xs) (by simp [cellsN_len]) (fun j y hj => by
        have hjl : j < xs.length := by
          have := (List.getElem?_eq_some_iff.1 hj).1
          simpa [cellsN_len] using this
        rw [cellsN_get k xs j hjl] at hj
        rw [xaddr_add, Nat.zero_add, hold j hjl]
        exact hj) ⟨b, off, none⟩ ys.length cap' (cellsN k ys) (by simp [cellsN_len]) hnews (by omega) hmx hb
    have h3 : OwnsN k e w' w.heap.size v' (xs ++ ys) := by simpa [OwnsN, cellsN_app] using h1
    refine ⟨v', w', hr, ownsN_le h3 hbase, ⟨h2.os, h2.tape, h2.output, h2.size, fun i hi _ => h2.block i hi (by simp)⟩, fun j hj => ?_⟩
    rw [h2.cell_far ⟨g, j, none⟩ hglt (by simp)]
    exact hold j hj

/-- The same at a step of a region that draws its order. -/
theorem step_appK {T e : TypeId} {k : IntKind} {by8 : Nat} (R : Rowed T e k by8) {w : World} {ops : Array Oper} {o : Oper} {a : Act} {K : Act → World → Prop} {Q : Exit → Act → World → Prop} {E : Prop} (hgd : o.guard = none) (s x : Operand)
    (ho : o.op = .call { callee := .builtin .append, args := #[s, x], argTypes := #[T, T] }) (base g n cap : Nat) (xs : List Nat) (hs : a.eval s = .slice (some ⟨g, 0, none⟩) n cap) (hown : OwnsN k e w base (.slice (some ⟨g, 0, none⟩) n cap) xs) (hn : xs.length = n)
    (u : Value) (ys : List Nat) (hx : a.eval x = u) (hne : ys ≠ []) (hsee : SeesN k w u ys) (hb : (xs.length + ys.length) * by8 ≤ 140737488355328) (hbase : base ≤ w.heap.size)
    (h : ∀ v' w', OwnsN k e w' base v' (xs ++ ys) → w.grownBy w' (some g) → (∀ j, j < n → w'.cell? ⟨g, j, none⟩ = some (.int k ((xs.getD j 0 : Nat) : Int))) → K (a.put o.dst v') w') :
    if Region.wanted o (yielded ops a.tmps) = true then Oper.wp Tryz.prog o a w K Q else E := by
  have hw : Region.wanted o (yielded ops a.tmps) = true := by simp [Region.wanted, hgd]
  rw [if_pos hw]
  obtain ⟨v', w', hr, h1, h2, h3⟩ := run_appK R w o.type base g n cap xs hown hn u ys hne hsee hb hbase
  unfold Oper.wp execOp
  simp only [ho, resolve, invoke, builtin, Sem.run_bind, Sem.run_pure, Result.andThen_ok, List.map_toArray, List.map_cons, List.map_nil, hs, hx, hr]
  exact h v' w' h1 h2 h3

theorem wrap_i64_small (n : Int) (h0 : 0 ≤ n) (h1 : n < 9223372036854775808) : IntKind.i64.wrap n = n := by
  obtain ⟨m, rfl⟩ := Int.eq_ofNat_of_zero_le h0
  exact wrap_i64_nat m (by omega)
theorem ref_word (b0 b1 b2 b3 : Nat) (h0 : b0 < 256) (h1 : b1 < 256) (h2 : b2 < 256) (h3 : b3 < 256) :
    IntKind.i64.wrap (IntKind.i64.wrap (IntKind.i64.wrap (IntKind.i64.wrap (IntKind.i64.wrap (b0 : Int) * 16777216) + IntKind.i64.wrap (IntKind.i64.wrap (b1 : Int) * 65536)) + IntKind.i64.wrap (IntKind.i64.wrap (b2 : Int) * 256)) + IntKind.i64.wrap (b3 : Int)) = ((b0 * 16777216 + b1 * 65536 + b2 * 256 + b3 : Nat) : Int) := by
  rw [wrap_i64_small (b0 : Int) (by omega) (by omega), wrap_i64_small (b1 : Int) (by omega) (by omega), wrap_i64_small (b2 : Int) (by omega) (by omega), wrap_i64_small (b3 : Int) (by omega) (by omega),
    wrap_i64_small ((b0 : Int) * 16777216) (by omega) (by omega), wrap_i64_small ((b1 : Int) * 65536) (by omega) (by omega), wrap_i64_small ((b2 : Int) * 256) (by omega) (by omega)]
  rw [wrap_i64_small ((b0 : Int) * 16777216 + (b1 : Int) * 65536) (by omega) (by omega), wrap_i64_small ((b0 : Int) * 16777216 + (b1 : Int) * 65536 + (b2 : Int) * 256) (by omega) (by omega), wrap_i64_small _ (by omega) (by omega)]
  omega

end Go.Proofs.YtplljpodejpbgaaGreatDoor
