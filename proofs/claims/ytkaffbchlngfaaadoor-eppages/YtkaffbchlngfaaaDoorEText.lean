/-
  A part of a memory, as a text.
-/
import Derived.Test.YtkaffbchlngfaaaDoorELoad
import Derived.Laws.MakeOwn
namespace Go.Proofs.YtkaffbchlngfaaaDoor
open Go.RowKit
set_option linter.unusedVariables false
set_option linter.unusedSimpArgs false

theorem madeCells_zero (n : Nat) : madeCells #[.int .u8 0] n = (cellsN .u8 (List.replicate n 0)).toArray := by
  apply Array.ext
  · simp [madeCells, cellsN]
  · intro i h1 h2
    simp [madeCells, cellsN, Nat.mod_one]
theorem Tryd.info5b : (Tryd.prog.info? 5).map (fun i => (i.zero, i.size, i.bytes)) = some (some (.int .u8 0), 1, 1) := by kernel_rfl
theorem made_run (w : World) (n : Nat) (hc : n ≤ 140737488355328) : (Instr.makeSlice 28 (.int .i64 (n : Int)) (.int .i64 (n : Int))).run Tryd.prog w = .ok (.slice (some ⟨w.heap.size, 0, none⟩) n n) (w.alloc (.cells (cellsN .u8 (List.replicate n 0)).toArray 5)) := by
  obtain ⟨i0, hi, hz0, hz1, hz2⟩ := info_parts Tryd.info5b
  have h := run_make (P := Tryd.prog) w 28 5 i0 (.int .u8 0) Tryd.underlying28 hi hz0 .i64 .i64 (n : Int) (n : Int) (by omega) (by omega) (by rw [hz2]; omega) (by omega)
  rw [hz1, Nat.mul_one, Int.toNat_natCast] at h
  rw [← madeCells_zero]
  exact h

def rowK (b : List Nat) (a n k : Nat) : List Nat := (b.drop a).take k ++ List.replicate (n - k) 0
theorem rowK_len (b : List Nat) (a n k : Nat) (hb : b.length = 4096) (ha : a + n ≤ 4096) (hk : k ≤ n) : (rowK b a n k).length = n := by simp [rowK]; omega
theorem rowK_set (b : List Nat) (a n k : Nat) (hb : b.length = 4096) (ha : a + n ≤ 4096) (hk : k < n) : (rowK b a n k).set k (b.getD (a + k) 0) = rowK b a n (k + 1) := by
  apply List.ext_getElem?
  intro i
  have hl := rowK_len b a n k hb ha (by omega)
  rw [List.getElem?_set]
  unfold rowK at *
  have h1 : ((b.drop a).take k).length = k := by simp; omega
  have h2 : ((b.drop a).take (k + 1)).length = k + 1 := by simp; omega
  by_cases hi : k = i
  · subst hi
    rw [if_pos rfl, if_pos (by omega), List.getElem?_append_left (by omega), List.getElem?_take, if_pos (by omega), List.getElem?_drop, List.getElem?_eq_getElem (by omega)]
    simp [List.getD, show a + k < b.length by omega]
  · rw [if_neg hi]
    by_cases hlt : i < k
    · rw [List.getElem?_append_left (by omega), List.getElem?_append_left (by omega), List.getElem?_take, if_pos hlt, List.getElem?_take, if_pos (by omega)]
    · rw [List.getElem?_append_right (by omega), List.getElem?_append_right (by omega), List.getElem?_replicate, List.getElem?_replicate, h1, h2]
      by_cases h3 : i - k < n - k
      · rw [if_pos h3, if_pos (by omega)]
      · rw [if_neg h3, if_neg (by omega)]
structure TxAt (w wr : World) (b : List Nat) (a n k : Nat) : Prop where
  hk : k ≤ n
  own : wr.heap[w.heap.size]? = some (.cells (cellsN .u8 (rowK b a n k)).toArray 5 (0, 0))
  bel : Below w.heap.size w wr
theorem owns_cells {w : World} {g n : Nat} {xs : List Nat} (h : w.heap[g]? = some (.cells (cellsN .u8 xs).toArray 5 (0, 0))) (hn : xs.length = n) (hm : n ≤ 140737488355328) : OwnsN .u8 5 w 0 (.slice (some ⟨g, 0, none⟩) n n) xs := by
  subst hn
  refine ⟨by simp [cellsN_len], Or.inr ⟨g, xs.length, _, rfl, Nat.zero_le _, h, Nat.le_refl _, by simp only [maxLen]; omega, by simp [cellsN_len], ?_⟩⟩
  rw [List.toList_toArray, Nat.mul_one, List.take_of_length_le (by simp [cellsN_len])]

set_option maxRecDepth 100000 in
set_option maxHeartbeats 1000000 in
theorem mtext_any (w : World) (q : Nat) (pg : List Nat) (ow : List Bool) (b : List Nat) (h : MemP w q pg ow b) (a n : Nat) (ha : a + n ≤ 4096) :
    Calls Tryd.prog 43 #[.pointer (some ⟨q, 0, none⟩), .int .i64 (a : Int), .int .i64 (n : Int)] w fun e w' => e = .returned (.string (strOf ((b.drop a).take n))) ∧ Below w.heap.size w w' := by
  have hmk := made_run w n (by omega)
  have hlb := h.lb
  have HLB := hid hlb
  have HH := hid h
  obtain ⟨X, hX⟩ : ∃ X, X = w.alloc (.cells (cellsN .u8 (List.replicate n 0)).toArray 5) := ⟨_, rfl⟩
  rw [← hX] at hmk
  have H0 : Hid (TxAt w X b a n 0) := ⟨Nat.zero_le _, by rw [hX]; simpa [rowK] using heap_alloc_new w _, by rw [hX]; exact below_alloc w _⟩
  clear h hlb hX
  go_enter Tryd.func43, Tryd.ntmps43
  go_wp2_with fail
  go_loopw [13] (fun i wr => ∃ k : Nat, i = .int .i64 (k : Int) ∧ Hid (TxAt w wr b a n k)) (fun i _ => n - (intOf i).toNat)
  case atStart => exact ⟨0, rfl, H0⟩
  case round =>
    obtain ⟨k, rfl, hM⟩ := hrel
    by_cases hk : k < n
    · have hk2 : (k : Int) < (n : Int) := by omega
      have hl := load_any wr q pg ow b (HH.out.below hM.out.bel) (a + k) (by omega)
      rw [show ((a + k : Nat) : Int) = (a : Int) + (k : Int) by omega] at hl
      have e1 : IntKind.i64.wrap ((a : Int) + (k : Int)) = (a : Int) + (k : Int) := by
        rw [show (a : Int) + (k : Int) = ((a + k : Nat) : Int) by omega]
        exact wrap_i64_nat _ (by omega)
      have c : ∃ v, wr.cell? ⟨w.heap.size, k, none⟩ = some v := by
        have hlen := rowK_len b a n k HLB.out ha hM.out.hk
        have hg : (cellsN .u8 (rowK b a n k))[k]? = some (.int .u8 (((rowK b a n k).getD k 0 : Nat) : Int)) := cellsN_get .u8 _ k (by omega)
        exact ⟨_, cell_list hM.out.own hg⟩
      obtain ⟨v0, c⟩ := c
      have f := frozen_list (j := k) hM.out.own
      obtain ⟨y, hy⟩ : ∃ y, y = b.getD (a + k) 0 := ⟨_, rfl⟩
      rw [← hy] at hl
      have HD : Hid (TxAt w (wr.setCell ⟨w.heap.size, k, none⟩ (.int .u8 (y : Int))) b a n (k + 1)) := by
        refine ⟨hk, ?_, hM.out.bel.setCell (p := ⟨w.heap.size, k, none⟩) (Nat.le_refl _) _⟩
        rw [heap_set_list hM.out.own]
        have e : (cellsN .u8 (rowK b a n k)).set k (.int .u8 (y : Int)) = cellsN .u8 (rowK b a n (k + 1)) := by
          rw [← rowK_set b a n k HLB.out ha hk, hy]
          simp [cellsN, List.map_set]
        rw [e]
      clear hy
      go_wp2_with fail
      refine hl.mono ?_
      rintro e w1 ⟨rfl, hw1⟩
      subst w1
      clear hl
      go_wp2
      go_roundw
      case rel => exact ⟨k + 1, by go_num, HD⟩
      case measure => simp [intOf]; omega
    · obtain rfl : k = n := by have := hM.out.hk; omega
      have hcv := conv_own (owns_cells hM.out.own (rowK_len b a k k HLB.out ha (Nat.le_refl _)) (by omega))
      rw [show rowK b a k k = (b.drop a).take k by simp [rowK]] at hcv
      go_wp2
      go_ret
      exact ⟨rfl, hM.out.bel⟩
end Go.Proofs.YtkaffbchlngfaaaDoor
