/-
  Bytes of a memory.
-/
import Derived.Test.YtkaffbchlngfaaaDoorEMem
namespace Go.Proofs.YtkaffbchlngfaaaDoor
open Go.RowKit
set_option linter.unusedVariables false
set_option linter.unusedSimpArgs false

def memC (pg : List Nat) (ow : List Bool) : List Value := pg.map (fun g => Value.pointer (some ⟨g, 0, none⟩)) ++ ow.map Value.bool
/-- At q lies a memory: pages at pg, whose own are told by ow; its bytes are b. -/
structure MemP (w : World) (q : Nat) (pg : List Nat) (ow : List Bool) (b : List Nat) : Prop where
  lp : pg.length = 16
  lo : ow.length = 16
  lb : b.length = 4096
  small : ∀ x ∈ b, x < 256
  blk : w.heap[q]? = some (.cells (memC pg ow).toArray 107 (0, 0))
  pgs : ∀ j, j < 16 → w.heap[pg.getD j 0]? = some (.cells (cellsN .u8 (pgL b j)).toArray 109 (0, 0))
theorem MemP.below {w w' : World} {q : Nat} {pg : List Nat} {ow : List Bool} {b : List Nat} (h : MemP w q pg ow b) (hb : Below w.heap.size w w') : MemP w' q pg ow b :=
  ⟨h.lp, h.lo, h.lb, h.small, (hb.block q (Array.getElem?_eq_some_iff.1 h.blk).1).trans h.blk, fun j hj => (hb.block _ (Array.getElem?_eq_some_iff.1 (h.pgs j hj)).1).trans (h.pgs j hj)⟩
theorem imgL_len (t : ByteArray) (ht : t.size ≤ 4096) : (imgL t).length = 4096 := by
  unfold imgL
  rw [List.length_append, bytesOf_len, List.length_replicate]
  omega
theorem MkAt.memP {w w' : World} {t : ByteArray} (h : MkAt w w' t 16) (ht : t.size ≤ 4096) : MemP w' w.heap.size ((List.range 16).map fun j => w.heap.size + 1 + j) (List.replicate 16 false) (imgL t) := by
  refine ⟨by simp, by simp, imgL_len t ht, fun x hx => ?_, ?_, fun j hj => ?_⟩
  · unfold imgL at hx
    rcases List.mem_append.1 hx with h1 | h1
    · exact bytesOf_lt t x h1
    · have h2 := (List.mem_replicate.1 h1).2
      omega
  · rw [h.blk]
    have e : mC w.heap.size 16 = memC ((List.range 16).map fun j => w.heap.size + 1 + j) (List.replicate 16 false) := by
      unfold mC memC
      congr 1
    rw [e]
  · have e : ((List.range 16).map fun j => w.heap.size + 1 + j).getD j 0 = w.heap.size + 1 + j := by simp [List.getD, hj]
    rw [e]
    exact h.pgs j hj
theorem MemP.ptr {w : World} {q : Nat} {pg : List Nat} {ow : List Bool} {b : List Nat} (h : MemP w q pg ow b) (j : Nat) (hj : j < 16) : w.cell? ⟨q, j, none⟩ = some (.pointer (some ⟨pg.getD j 0, 0, none⟩)) := by
  refine cell_list h.blk ?_
  have := h.lp
  unfold memC
  rw [List.getElem?_append_left (by simp; omega)]
  simp [List.getD, show j < pg.length by omega]
theorem MemP.byte {w : World} {q : Nat} {pg : List Nat} {ow : List Bool} {b : List Nat} (h : MemP w q pg ow b) (j i : Nat) (hj : j < 16) (hi : i < 256) : w.cell? ⟨pg.getD j 0, i, none⟩ = some (.int .u8 ((b.getD (256 * j + i) 0 : Nat) : Int)) := by
  refine cell_list (h.pgs j hj) ?_
  have hlb := h.lb
  unfold cellsN pgL
  rw [List.getElem?_map, List.getElem?_take, if_pos hi, List.getElem?_drop, List.getElem?_eq_getElem (by omega)]
  simp [List.getD, show 256 * j + i < b.length by omega]

set_option maxRecDepth 100000 in
set_option maxHeartbeats 1000000 in
theorem load_any (w : World) (q : Nat) (pg : List Nat) (ow : List Bool) (b : List Nat) (h : MemP w q pg ow b) (a : Nat) (ha : a < 4096) :
    Calls Tryd.prog 60 #[.pointer (some ⟨q, 0, none⟩), .int .i64 (a : Int)] w fun e w' => e = .returned (.tuple #[.int .u8 ((b.getD a 0 : Nat) : Int), .bool true]) ∧ w' = w := by
  have hp := isPart_yes a 1 (by omega) w
  have c1 := h.ptr (a / 256) (by omega)
  have c2 := h.byte (a / 256) (a % 256) (by omega) (by omega)
  rw [show 256 * (a / 256) + a % 256 = a by omega] at c2
  generalize b.getD a 0 = x at *
  generalize pg.getD (a / 256) 0 = g at *
  obtain ⟨d, hd⟩ : ∃ d, d = a / 256 := ⟨_, rfl⟩
  obtain ⟨m, hm⟩ : ∃ m, m = a % 256 := ⟨_, rfl⟩
  have e1 : (a : Int).tdiv 256 = (d : Int) := by rw [Int.tdiv_eq_ediv_of_nonneg (by omega)]; omega
  have e2 : (a : Int).tmod 256 = (m : Int) := by rw [Int.tmod_eq_emod_of_nonneg (by omega)]; omega
  have e3 : IntKind.i64.wrap (d : Int) = (d : Int) := wrap_i64_nat _ (by omega)
  have e4 : (d : Int) < 16 := by omega
  have e5 : (m : Int) < 256 := by omega
  rw [← hd] at c1
  rw [← hm] at c2
  clear h hd hm
  go_enter Tryd.func60, Tryd.ntmps60
  go_wp2_with fail
  refine hp.mono ?_
  rintro e w1 ⟨rfl, hw1⟩
  subst w1
  clear hp
  go_wp2
  go_ret2
  exact ⟨rfl, rfl⟩
end Go.Proofs.YtkaffbchlngfaaaDoor
