/-
  The frame of the reader of a chunked body, and what holds at its labels.
-/
import Derived.Test.YtllhibdjopfcnaaGreatDoorPApp
import Derived.Test.YtllhibdjopfcnaaGreatDoorPScope
import Derived.Deep.RegionLaw
import Derived.Deep.CutBlock
namespace Go.Proofs.YtllhibdjopfcnaaGreatDoor
open Go.RowKit
set_option linter.unusedVariables false

theorem u32_or16 (n d : Nat) (hn : n < 268435456) (hd : d < 16) : bits .or .u32 ((n : Int) * 16) (d : Int) = ((16 * n + d : Nat) : Int) := by
  have h1 : (BitVec.ofInt 32 ((n : Int) * 16)).toNat = 16 * n := by
    rw [show ((n : Int) * 16) = ((16 * n : Nat) : Int) by omega, BitVec.ofInt_natCast, BitVec.toNat_ofNat]
    exact Nat.mod_eq_of_lt (by omega)
  have h2 : (BitVec.ofInt 32 (d : Int)).toNat = d := by
    rw [BitVec.ofInt_natCast, BitVec.toNat_ofNat]
    exact Nat.mod_eq_of_lt (by omega)
  have h3 : 16 * n ||| d = 16 * n + d := (Nat.two_pow_add_eq_or_of_lt (i := 4) (by simpa using hd) n).symm
  show IntKind.u32.wrap ((BitVec.ofInt 32 ((n : Int) * 16) ||| BitVec.ofInt 32 (d : Int)).toNat : Int) = _
  rw [BitVec.toNat_or, h1, h2, h3]
  simp [IntKind.wrap, IntKind.bits, IntKind.signed]
  omega
theorem wrap64_nat (m : Nat) (h : m ≤ 140737488355328) : wrap64 (m : Int) = (m : Int) := by
  simp only [wrap64]
  omega
/-- The frame of the reader: what is live in it. -/
def RdFr (a : Act) (p ln n : Nat) (st : Int) : Prop := a.defers = [] ∧ a.tmps.size = 144 ∧ a.tmps[0]? = some (.pointer (some ⟨p, 0, none⟩)) ∧ a.tmps[1]? = some undef ∧ a.tmps[2]? = some (.int .i64 0) ∧ a.tmps[3]? = some (.int .i64 (ln : Int)) ∧ a.tmps[4]? = some (.int .u32 (n : Int)) ∧ a.tmps[5]? = some (.int .i64 st)
theorem list_map {α : Type} (l : List α) (n : Nat) (V : Nat → α) (hl : l.length = n) (h : ∀ i, i < n → l[i]? = some (V i)) : l = (List.range n).map V := by
  apply List.ext_getElem?
  intro i
  by_cases hi : i < n
  · rw [h i hi]; simp [hi]
  · rw [List.getElem?_eq_none (by omega), List.getElem?_eq_none (by simp; omega)]
theorem RdFr.open {a : Act} {p ln n : Nat} {st : Int} (h : RdFr a p ln n st) : ∃ U : Nat → Value, a = { tmps := #[.pointer (some ⟨p, 0, none⟩), undef, .int .i64 0, .int .i64 (ln : Int), .int .u32 (n : Int), .int .i64 st, U 6, U 7, U 8, U 9, U 10, U 11, U 12, U 13, U 14, U 15, U 16, U 17, U 18, U 19, U 20, U 21, U 22, U 23, U 24, U 25, U 26, U 27, U 28, U 29, U 30, U 31, U 32, U 33, U 34, U 35, U 36, U 37, U 38, U 39, U 40, U 41, U 42, U 43, U 44, U 45, U 46, U 47, U 48, U 49, U 50, U 51, U 52, U 53, U 54, U 55, U 56, U 57, U 58, U 59, U 60, U 61, U 62, U 63, U 64, U 65, U 66, U 67, U 68, U 69, U 70, U 71, U 72, U 73, U 74, U 75, U 76, U 77, U 78, U 79, U 80, U 81, U 82, U 83, U 84, U 85, U 86, U 87, U 88, U 89, U 90, U 91, U 92, U 93, U 94, U 95, U 96, U 97, U 98, U 99, U 100, U 101, U 102, U 103, U 104, U 105, U 106, U 107, U 108, U 109, U 110, U 111, U 112, U 113, U 114, U 115, U 116, U 117, U 118, U 119, U 120, U 121, U 122, U 123, U 124, U 125, U 126, U 127, U 128, U 129, U 130, U 131, U 132, U 133, U 134, U 135, U 136, U 137, U 138, U 139, U 140, U 141, U 142, U 143], defers := [] } := by
  obtain ⟨d, sz, h0, h1, h2, h3, h4, h5⟩ := h
  obtain ⟨t, df⟩ := a
  simp only at d sz h0 h1 h2 h3 h4 h5
  subst d
  refine ⟨fun i => t.getD i undef, ?_⟩
  have e : t.toList = (List.range 144).map (fun i => match i with
      | 0 => .pointer (some ⟨p, 0, none⟩)
      | 1 => undef
      | 2 => .int .i64 0
      | 3 => .int .i64 (ln : Int)
      | 4 => .int .u32 (n : Int)
      | 5 => .int .i64 st
      | i => t.getD i undef) := by
    refine list_map t.toList 144 _ (by simpa using sz) ?_
    intro i hi
    rw [Array.getElem?_toList]
    match i with
    | 0 => exact h0
    | 1 => exact h1
    | 2 => exact h2
    | 3 => exact h3
    | 4 => exact h4
    | 5 => exact h5
    | i + 6 =>
      have hi' : i + 6 < t.size := by omega
      simp [Array.getD, hi']
  have e2 : t = (t.toList).toArray := by simp
  rw [e2, e]
  rfl
/-- What holds at each label. -/
def RdSt (T : Tell (List UInt8)) (L : List UInt8) (at' : Nat) (l k ln n : Nat) (B : List UInt8) : Prop :=
  (l = 0 ∧ Left T L at' k B) ∨
  (l = 1 ∧ Left T L at' ln B ∧ ∃ j, k = ln + j ∧ AtD (L.drop ln) j n) ∨
  (l = 2 ∧ Left T L at' ln B ∧ ∃ j, k = ln + j ∧ AtS (L.drop ln) j n) ∨
  (l = 3 ∧ Left T L at' ln B ∧ ∃ j, k = ln + j ∧ AtM (L.drop ln) j n) ∨
  (l = 4 ∧ Left T L at' ln B ∧ ∃ j, k = ln + j ∧ sizeL (L.drop ln) = (.ok (0, j)))
def RdJ (T : Tell (List UInt8)) (L : List UInt8) (s : ByteArray) (at' p B0 : Nat) (w0 : World) (l : Nat) (a : Act) (w : World) : Prop :=
  ∃ (k ln n : Nat) (st : Int) (v : Value) (B : List UInt8), RdFr a p ln n st ∧ RdAt w p s k v ∧ OwnsB w B0 v B ∧ Kept p B0 w0 w ∧ B0 ≤ w.heap.size ∧ k ≤ L.length ∧ RdSt T L at' l k ln n B
/-- How far the reader is from the end. -/
def RdM (L : List UInt8) (p : Nat) (w : World) : Nat := match w.cell? ⟨p, 1, none⟩ with
  | some (.int _ z) => L.length + 1 - z.toNat
  | _ => 0
theorem RdM.at {L : List UInt8} {p k : Nat} {s : ByteArray} {v : Value} {w : World} (h : RdAt w p s k v) : RdM L p w = L.length + 1 - k := by
  unfold RdM
  rw [h.cells.2.1]
  simp
/-- What the reader answers. -/
def RdEnd (T : Tell (List UInt8)) (s : ByteArray) (at' p B0 : Nat) (st : Int) (w : World) : Prop := match T with
  | (.error none) => st = -1
  | (.error (some t)) => st = t
  | (.ok (b, n)) => st = 0 ∧ ∃ v, RdAt w p s (at' + n) v ∧ OwnsB w B0 v b

end Go.Proofs.YtllhibdjopfcnaaGreatDoor
