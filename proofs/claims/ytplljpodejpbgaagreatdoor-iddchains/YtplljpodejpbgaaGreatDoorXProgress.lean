/-
  Where a text's progress lies in memory, and the table of rounds.
-/
import Derived.Test.YtplljpodejpbgaaGreatDoorXSpread
import Derived.Deep.AppendLies
namespace Go.Proofs.YtplljpodejpbgaaGreatDoor
open Go.RowKit
set_option linter.unusedVariables false

/-- The cells of a progress: the state, the block, how many bytes were taken. -/
def P3 (st bl : List Nat) (n : Nat) : List Value := cellsN .u32 st ++ (cellsN .u8 bl ++ [.int .i64 (n : Int)])
/-- In block g, behind 'pre', lies a progress. -/
def PAt (w : World) (g : Nat) (pre : List Value) (t : TypeId) (st bl : List Nat) (n : Nat) : Prop := w.heap[g]? = some (.cells (pre ++ P3 st bl n).toArray t (0, 0)) ∧ st.length = 8 ∧ bl.length = 64
/-- The words K lie where the program laid them. -/
def Rounds (w : World) : Prop := ∀ j, j < 64 → w.cell? ⟨0, j, none⟩ = some (.int .u32 ((K0.getD j 0 : Nat) : Int))

theorem Rounds.pos {w : World} (h : Rounds w) : 0 < w.heap.size := World.block_lt_of_cell? w _ (h 0 (by decide))
theorem Rounds.below {w w' : World} (h : Rounds w) {B : Nat} (hb : Below B w w') (hB : 0 < B) : Rounds w' := fun j hj => (hb.cell (p := ⟨0, j, none⟩) hB).trans (h j hj)
theorem Rounds.grown {w w' : World} (h : Rounds w) {g : Nat} (hb : w.grownBy w' (some g)) (hg : g ≠ 0) : Rounds w' := fun j hj => by
  rw [hb.cell_far ⟨0, j, none⟩ h.pos (by simp; omega)]
  exact h j hj

theorem PAt.lt {w : World} {g : Nat} {pre : List Value} {t : TypeId} {st bl : List Nat} {n : Nat} (h : PAt w g pre t st bl n) : g < w.heap.size := (Array.getElem?_eq_some_iff.1 h.1).1
theorem PAt.below {w w' : World} {g : Nat} {pre : List Value} {t : TypeId} {st bl : List Nat} {n : Nat} (h : PAt w g pre t st bl n) {B : Nat} (hb : Below B w w') (hB : g < B) : PAt w' g pre t st bl n := by
  refine ⟨?_, h.2⟩
  rw [hb.block g hB]
  exact h.1
theorem PAt.warm {w : World} {g : Nat} {pre : List Value} {t : TypeId} {st bl : List Nat} {n : Nat} (h : PAt w g pre t st bl n) (j : Nat) : w.frozen? ⟨g, j, none⟩ = false := by
  have := h.1
  simp [World.frozen?, this]
theorem PAt.cell {w : World} {g : Nat} {pre : List Value} {t : TypeId} {st bl : List Nat} {n : Nat} (h : PAt w g pre t st bl n) (j : Nat) : w.cell? ⟨g, pre.length + j, none⟩ = (P3 st bl n)[j]? := by
  rw [cell_of_row w g _ _ t _ h.1, List.getElem?_toArray, List.getElem?_append_right (by omega)]
  congr 1
  omega
theorem P3_state {st bl : List Nat} {n : Nat} (h1 : st.length = 8) (i : Nat) (hi : i < 8) : (P3 st bl n)[i]? = some (.int .u32 ((st.getD i 0 : Nat) : Int)) := by
  unfold P3
  rw [List.getElem?_append_left (by rw [cellsN_len]; omega), cellsN_get _ _ _ (by omega)]
theorem P3_block {st bl : List Nat} {n : Nat} (h1 : st.length = 8) (h2 : bl.length = 64) (i : Nat) (hi : i < 64) : (P3 st bl n)[8 + i]? = some (.int .u8 ((bl.getD i 0 : Nat) : Int)) := by
  unfold P3
  rw [List.getElem?_append_right (by rw [cellsN_len]; omega), cellsN_len, h1, Nat.add_sub_cancel_left, List.getElem?_append_left (by rw [cellsN_len]; omega), cellsN_get _ _ _ (by omega)]
theorem P3_taken {st bl : List Nat} {n : Nat} (h1 : st.length = 8) (h2 : bl.length = 64) : (P3 st bl n)[72]? = some (.int .i64 (n : Int)) := by
  unfold P3
  rw [List.getElem?_append_right (by rw [cellsN_len]; omega), cellsN_len, h1, List.getElem?_append_right (by rw [cellsN_len]; omega), cellsN_len, h2]
  rfl
theorem PAt.state {w : World} {g : Nat} {pre : List Value} {t : TypeId} {st bl : List Nat} {n : Nat} (h : PAt w g pre t st bl n) (i : Nat) (hi : i < 8) : w.cell? ⟨g, pre.length + i, none⟩ = some (.int .u32 ((st.getD i 0 : Nat) : Int)) := by
  rw [h.cell, P3_state h.2.1 i hi]
theorem PAt.taken {w : World} {g : Nat} {pre : List Value} {t : TypeId} {st bl : List Nat} {n : Nat} (h : PAt w g pre t st bl n) : w.cell? ⟨g, pre.length + 72, none⟩ = some (.int .i64 (n : Int)) := by
  rw [h.cell, P3_taken h.2.1 h.2.2]
theorem PAt.stateRange {w : World} {g : Nat} {pre : List Value} {t : TypeId} {st bl : List Nat} {n : Nat} (h : PAt w g pre t st bl n) : w.rangeAt g pre.length (cellsN .u32 st) := fun j v hv => by
  have hj : j < st.length := by
    have := (List.getElem?_eq_some_iff.1 hv).1
    simpa [cellsN_len] using this
  rw [h.state j (by have := h.2.1; omega), ← hv, cellsN_get _ _ _ hj]
theorem PAt.blockRange {w : World} {g : Nat} {pre : List Value} {t : TypeId} {st bl : List Nat} {n : Nat} (h : PAt w g pre t st bl n) : w.rangeAt g (pre.length + 8) (cellsN .u8 bl) := fun j v hv => by
  have hj : j < bl.length := by
    have := (List.getElem?_eq_some_iff.1 hv).1
    simpa [cellsN_len] using this
  rw [Nat.add_assoc, h.cell, P3_block h.2.1 h.2.2 j (by have := h.2.2; omega), ← hv, cellsN_get _ _ _ hj]
/-- A word of the state is written. -/
theorem PAt.setState {w : World} {g : Nat} {pre : List Value} {t : TypeId} {st bl : List Nat} {n : Nat} (h : PAt w g pre t st bl n) (i y : Nat) (hi : i < 8) : PAt (w.setCell ⟨g, pre.length + i, none⟩ (.int .u32 (y : Int))) g pre t (st.set i y) bl n := by
  refine ⟨?_, by rw [List.length_set]; exact h.2.1, h.2.2⟩
  have h0 := h.1
  simp only [World.setCell, Array.getElem?_modify, h0]
  simp only [if_true, Option.map_some, List.setIfInBounds_toArray]
  rw [List.set_append_right _ _ (by omega), Nat.add_sub_cancel_left]
  unfold P3
  rw [List.set_append_left _ _ (by rw [cellsN_len, h.2.1]; exact hi)]
  simp [cellsN, List.map_set]
/-- How many were taken is written. -/
theorem PAt.setTaken {w : World} {g : Nat} {pre : List Value} {t : TypeId} {st bl : List Nat} {n : Nat} (h : PAt w g pre t st bl n) (y : Nat) : PAt (w.setCell ⟨g, pre.length + 72, none⟩ (.int .i64 (y : Int))) g pre t st bl y := by
  refine ⟨?_, h.2⟩
  have h0 := h.1
  simp only [World.setCell, Array.getElem?_modify, h0]
  simp only [if_true, Option.map_some, List.setIfInBounds_toArray]
  rw [List.set_append_right _ _ (by omega), Nat.add_sub_cancel_left]
  unfold P3
  rw [List.set_append_right _ _ (by rw [cellsN_len, h.2.1]; omega), List.set_append_right _ _ (by rw [cellsN_len, cellsN_len, h.2.1, h.2.2]; omega), cellsN_len, cellsN_len, h.2.1, h.2.2]
  rfl
theorem grown_set {w0 w : World} {g : Nat} (h : w0.grownBy w (some g)) (o : Nat) (v : Value) : w0.grownBy (w.setCell ⟨g, o, none⟩ v) (some g) := by
  refine ⟨h.os, h.tape, h.output, by simpa using h.size, fun i hi hne => ?_⟩
  rw [← h.block i hi hne]
  simp only [World.setCell, Array.getElem?_modify]
  rw [if_neg (by intro e; exact hne (by rw [e]))]
theorem grown_below {w0 w w' : World} {r : Option Nat} (h : w0.grownBy w r) (hb : Below w.heap.size w w') : w0.grownBy w' r :=
  ⟨hb.os.trans h.os, hb.tape.trans h.tape, hb.output.trans h.output, Nat.le_trans h.size hb.size, fun i hi hne => by rw [hb.block i (Nat.lt_of_lt_of_le hi h.size)]; exact h.block i hi hne⟩
theorem grown_refl (w : World) (r : Option Nat) : w.grownBy w r := ⟨rfl, rfl, rfl, Nat.le_refl _, fun _ _ _ => rfl⟩
theorem below_setRow' {B : Nat} {w0 w : World} (h : Below B w0 w) {g : Nat} (hg : B ≤ g) (cs : Array Value) : Below B w0 (w.setRow g cs) :=
  ⟨h.os, h.tape, h.output, by simpa using h.size, fun k hk => by rw [← h.block k hk]; simp only [World.setRow, Array.getElem?_modify]; rw [if_neg (by omega)]⟩

theorem list8 {l : List Nat} (h : l.length = 8) : ∃ a b c d e f g h, l = [a, b, c, d, e, f, g, h] := by
  match l, h with
  | [a, b, c, d, e, f, g, h], _ => exact ⟨a, b, c, d, e, f, g, h, rfl⟩

/-- A new variable, and a row stored into it. -/
theorem new_row {w w2 : World} {Z R : Array Value} {t : TypeId} (h : (w.alloc (.cells Z t)).setRow w.heap.size R = w2) : w2.heap[w.heap.size]? = some (.cells R t (0, 0)) ∧ Below w.heap.size w w2 ∧ w2.heap.size = w.heap.size + 1 := by
  subst h
  exact ⟨setRow_heap _ _ _ _ _ _ (heap_alloc_new w _), below_setRow' (below_alloc w _) (Nat.le_refl _) _, by simp⟩

theorem Tryz.size139 : (Tryz.prog.info? 139).map (·.size) = some 8 := by kernel_rfl
theorem Tryz.size140 : (Tryz.prog.info? 140).map (·.size) = some 64 := by kernel_rfl
theorem Tryz.size142 : (Tryz.prog.info? 142).map (·.size) = some 73 := by kernel_rfl

end Go.Proofs.YtplljpodejpbgaaGreatDoor
