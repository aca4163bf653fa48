/-
  Decode of the code, whole.
-/
import Derived.Test.YtllhibdjopfcnaaGreatDoorWalk
namespace Go.Proofs.YtllhibdjopfcnaaGreatDoor
open Go.RowKit
set_option linter.unusedVariables false

theorem madeCells_zero (n : Nat) : madeCells #[.int .u8 0] n = (cellsN .u8 (List.replicate n 0)).toArray := by
  apply Array.ext
  · simp [madeCells, cellsN]
  · intro i h1 h2
    simp [madeCells, cellsN, Nat.mod_one]
theorem owns_made (w : World) (base l c : Nat) (hl : l ≤ c) (hc : c ≤ 140737488355328) (hb : base ≤ w.heap.size) : OwnsN .u8 5 (w.alloc (.cells (madeCells #[.int .u8 0] c) 5)) base (.slice (some ⟨w.heap.size, 0, none⟩) l c) (List.replicate l 0) := by
  refine ⟨by simp [cellsN_len], Or.inr ⟨w.heap.size, c, madeCells #[.int .u8 0] c, by rw [List.length_replicate], hb, heap_alloc_new w _, by simpa using hl, by simp only [maxLen]; omega, by simp [size_madeCells], ?_⟩⟩
  rw [madeCells_zero]
  simp only [cellsN, ← List.map_take]
  simp [Nat.min_eq_left hl]
theorem made_run (w : World) (l c : Int) (h0 : 0 ≤ l) (hlc : l ≤ c) (hc : c ≤ 140737488355328) : (Instr.makeSlice 75 (.int .i64 l) (.int .i64 c)).run Tryz.prog w = .ok (.slice (some ⟨w.heap.size, 0, none⟩) l.toNat c.toNat) (w.alloc (.cells (madeCells #[.int .u8 0] c.toNat) 5)) := by
  obtain ⟨i0, hi, hz0, hz1, hz2⟩ := info_parts Tryz.info5
  have h := run_make (P := Tryz.prog) w 75 5 i0 (.int .u8 0) Tryz.underlying75 hi hz0 .i64 .i64 l c h0 hlc (by rw [hz2]; omega) (by omega)
  rw [hz1, Nat.mul_one] at h
  exact h

/-- What Decode answers. -/
def decOut (plus : Bool) (L : List UInt8) : List UInt8 := if (dec plus L).2 = none then (dec plus L).1 else []
def decErr (L : List UInt8) : Int := if (dec true L).2 = none then 0 else 60
def decPl (L : List UInt8) : Nat := (dec true L).2.getD 0

set_option maxRecDepth 20000 in
set_option maxHeartbeats 1000000 in
theorem decode_any (s : ByteArray) (plus : Bool) (w : World) (hs : s.size + 1 ≤ 140737488355328) :
    Calls Tryz.prog 56 #[.string s, .bool plus] w fun e w' => e = .returned (.tuple #[.string ⟨(decOut plus s.data.toList).toArray⟩, .int .i64 (decErr s.data.toList), .int .i64 (decPl s.data.toList : Int)]) ∧ Below w.heap.size w w' := by
  obtain ⟨w1, hw1⟩ : ∃ w1, w1 = w.alloc (.cells #[.bool plus] 4) := ⟨_, rfl⟩
  have hz1 : w1.heap.size = w.heap.size + 1 := by rw [hw1]; simp
  have hmk := made_run w1 0 (s.size : Int) (by omega) (by omega) (by omega)
  rw [show (s.size : Int).toNat = s.size by omega, hz1] at hmk
  obtain ⟨w2, hw2⟩ : ∃ w2, w2 = w1.alloc (.cells (madeCells #[.int .u8 0] s.size) 5) := ⟨_, rfl⟩
  have hz2 : w2.heap.size = w.heap.size + 2 := by rw [hw2]; simp [hz1]
  rw [← hw2] at hmk
  obtain ⟨w4, hw4⟩ : ∃ w4, w4 = w2.alloc (.cells #[.slice (some ⟨w.heap.size + 1, 0, none⟩) 0 s.size] 75) := ⟨_, rfl⟩
  have hv0 : VarAt 4 w1 w.heap.size (.bool plus) := by rw [hw1]; exact heap_alloc_new w _
  have hv1 : VarAt 4 w2 w.heap.size (.bool plus) := by rw [hw2]; exact hv0.below (below_alloc w1 _) (by omega)
  have ho2 : OwnsN .u8 5 w2 w.heap.size (.slice (some ⟨w1.heap.size, 0, none⟩) 0 s.size) (List.replicate 0 0) := by rw [hw2]; exact owns_made w1 w.heap.size 0 s.size (by omega) (by omega) (by omega)
  rw [hz1] at ho2
  have hDS : DecS w4 w.heap.size w.heap.size (w.heap.size + 2) plus [] := by
    rw [hw4]
    refine ⟨⟨w.heap.size + 1, s.size, ?_, ?_, by omega, by omega, by simp; omega⟩, ?_, by omega, by omega, by omega⟩
    · unfold VarAt
      rw [← hz2]
      exact heap_alloc_new w2 _
    · exact ownsRow_below ho2 (below_alloc w2 _)
    · exact hv1.below (below_alloc w2 _) (by omega)
  have hB4 : Below w.heap.size w w4 := by
    rw [hw4]
    refine Below.alloc ?_ (by omega) _
    rw [hw2]
    refine Below.alloc ?_ (by omega) _
    rw [hw1]
    exact below_alloc w _
  have hWk := walkD_any s plus w.heap.size w.heap.size (w.heap.size + 2) w4 hDS hs
  have HB4 := hid hB4
  have HW1 := hid hw1
  have HW4 := hid hw4
  have e1 : dec plus s.data.toList = (if (dec plus s.data.toList).2 = none then (decOut plus s.data.toList, none) else ((dec plus s.data.toList).1, some (decPl s.data.toList))) := by
    unfold decOut decPl
    rw [dec_any true plus]
    cases h : dec plus s.data.toList with
    | mk a b => cases b <;> simp
  have HE := hid e1
  have HErr := hid (show decErr s.data.toList = if (dec plus s.data.toList).2 = none then 0 else 60 by rw [decErr, dec_any true plus])
  have HPl := hid (show decPl s.data.toList = (dec plus s.data.toList).2.getD 0 by rw [decPl, dec_any true plus])
  have HOut := hid (show decOut plus s.data.toList = if (dec plus s.data.toList).2 = none then (dec plus s.data.toList).1 else [] from rfl)
  obtain ⟨A1, hA1⟩ : ∃ x, x = decOut plus s.data.toList := ⟨_, rfl⟩
  obtain ⟨A2, hA2⟩ : ∃ x, x = decErr s.data.toList := ⟨_, rfl⟩
  obtain ⟨A3, hA3⟩ : ∃ x, x = decPl s.data.toList := ⟨_, rfl⟩
  rw [← hA1] at HOut ⊢
  rw [← hA2] at HErr ⊢
  rw [← hA3] at HPl ⊢
  obtain ⟨R, hR⟩ : ∃ R, R = dec plus s.data.toList := ⟨_, rfl⟩
  rw [← hR] at HOut HErr HPl hWk
  rw [hw1, show Int.toNat 0 = 0 from rfl] at hmk
  clear hw2 hv0 hv1 ho2 hDS hB4 e1 HE hA1 hA2 hA3 hR hw4 hw1 HW1 hz1
  go_enter Tryz.func56, Tryz.ntmps56
  go_wp2_with fail
  rw [← HW4.out]
  refine hWk.mono ?_
  clear hWk hmk hz2 HW4
  rintro e w5 ⟨rfl, hS, hB⟩
  obtain ⟨⟨g, cap, hV, hO, _, _, _⟩, _, _, _, _⟩ := hS
  have hc := hO.conv
  obtain ⟨k1, k2⟩ := hV.cells
  have HB := hid (HB4.out.trans hB)
  clear hV hO hB HB4
  obtain ⟨R1, R2⟩ := R
  cases R2 with
  | none =>
    have E1 := HOut.out
    have E2 := HErr.out
    have E3 := HPl.out
    simp at E1 E2 E3
    have HE1 := hid E1
    have HE2 := hid E2
    have HE3 := hid E3
    obtain ⟨M, hM⟩ : ∃ M, M = R1.length := ⟨_, rfl⟩
    rw [← hM] at k1 hc
    clear E1 E2 E3 HOut HErr HPl hM
    go_wp2
    go_ret3
    refine ⟨?_, HB.out⟩
    rw [HE1.out, HE2.out, HE3.out]
    rfl
  | some x =>
    have E1 := HOut.out
    have E2 := HErr.out
    have E3 := HPl.out
    simp at E1 E2 E3
    have HE1 := hid E1
    have HE2 := hid E2
    have HE3 := hid E3
    clear E1 E2 E3 HOut HErr HPl k1 k2 hc
    go_wp2
    go_ret3
    refine ⟨?_, HB.out⟩
    rw [HE1.out, HE2.out, HE3.out]
    rfl

end Go.Proofs.YtllhibdjopfcnaaGreatDoor
