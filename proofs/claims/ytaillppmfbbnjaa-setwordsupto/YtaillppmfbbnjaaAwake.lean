/-
  The contract of 'awake': it answers true, whatever the world, and no old memory turns.
-/
import Derived.Test.YtaillppmfbbnjaaObj
namespace Go.Proofs.Ytaillppmfbbnjaa
open Go.RowKit
set_option linter.unusedVariables false

theorem Lies.lt {w : World} {p : Nat} {room : Int} {lv : Value} (h : Lies w p room lv) : p < w.heap.size := (Array.getElem?_eq_some_iff.1 h).1

theorem Lies.below {w w' : World} {p : Nat} {room : Int} {lv : Value} (h : Lies w p room lv) (hb : Below w.heap.size w w') : Lies w' p room lv := by
  unfold Lies
  rw [hb.block p h.lt]
  exact h

theorem Lies.store {w : World} {p : Nat} {room : Int} {lv lv' : Value} (h : Lies w p room lv) : Lies (w.setCell ⟨p, 2, none⟩ lv') p room lv' := by
  unfold Lies at *
  simp only [World.setCell, Array.getElem?_modify, h]
  simp

theorem cell_new (w : World) (v : Value) : (w.alloc (.cells #[v] 3)).cell? ⟨w.heap.size, 0, none⟩ = some v := by simp

set_option maxHeartbeats 400000 in
theorem add_new (p : Nat) (room x : Int) (w : World) (hL : Lies w p room (.slice none 0 0)) (h1 : 1 ≤ room) (h2 : room ≤ 64) :
    Calls Try.prog 31 #[.pointer (some ⟨p, 0, none⟩), .int .i64 x] w fun e w' => e = .returned (.int .i64 0) ∧ ∃ v', Lies w' p room v' ∧ Owns w' w.heap.size v' [x] ∧ Below p w w' := by
  obtain ⟨c0, c1, c2, c3⟩ := hL.cells
  have hpl := hL.lt
  have HL := hid hL
  clear hL
  go_enter Try.func31, Try.ntmps31
  go_wp2_with fail
  refine (given_yes p _ c0).mono ?_
  rintro e w1 ⟨rfl, rfl⟩
  go_wp2_with fail
  refine (Try.slices_BinarySearch_int_empty _ _ _ _).mono ?_
  rintro e w1 ⟨rfl, rfl⟩
  go_wp2_with fail
  go_quiet (fail)
  go_wp2_with fail
  have hIns := insert_first x w1.heap.size ((w1.drewN nq).alloc (.cells #[.int .i64 x] 3)) (cell_new (w1.drewN nq) _)
  refine hIns.mono ?_
  clear hIns
  rintro e w2 ⟨v', rfl, hO, hB⟩
  have hsz : ((w1.drewN nq).alloc (.cells #[.int .i64 x] 3)).heap.size = w1.heap.size + 1 := by simp
  rw [hsz] at hO hB
  clear hsz
  have hB1 : Below w1.heap.size w1 w2 := ((below_drewN (Below.refl _ _) nq).alloc (by simp) _).trans (hB.mono (by omega))
  have hL2 := HL.out.below hB1
  obtain ⟨d0, d1, d2, d3⟩ := hL2.cells
  have hS2 : Lies (w2.setCell ⟨p, 2, none⟩ v') p room v' := hL2.store
  have hO2 : Owns (w2.setCell ⟨p, 2, none⟩ v') w1.heap.size v' [x] := by
    have := ownsRow_setCell_below hO (a := ⟨p, 2, none⟩) (by show p < _; omega) v'
    exact owns_le this (by omega)
  have hB2 : Below p w1 (w2.setCell ⟨p, 2, none⟩ v') := (hB1.mono (B' := p) (by omega)).setCell (p := ⟨p, 2, none⟩) (Nat.le_refl _) _
  have H2 := hid (And.intro hS2 (And.intro hO2 hB2))
  obtain ⟨ao, n, c, hv⟩ : ∃ ao n c, v' = .slice ao n c := by
    obtain ⟨b, off, ao, cap, hv, _⟩ := hO.sees
    exact ⟨ao, _, cap, hv⟩
  subst hv
  clear hS2 hO2 hB2 hL2 hO hB hB1 d0 d1 HL c0 c1 c2 c3
  go_wp2
  go_ret
  exact ⟨rfl, _, H2.out.1, H2.out.2.1, H2.out.2.2⟩

set_option maxHeartbeats 400000 in
theorem add_full (p : Nat) (x y : Int) (lv : Value) (w : World) (hL : Lies w p 1 lv) (hO : Owns w 0 lv [y]) (hxy : y < x) :
    Calls Try.prog 31 #[.pointer (some ⟨p, 0, none⟩), .int .i64 x] w fun e w' => e = .returned (.int .i64 2) ∧ Below w.heap.size w w' := by
  obtain ⟨c0, c1, c2, c3⟩ := hL.cells
  obtain ⟨b, off, ao, cap, rfl, hcap, _, hao, hcell⟩ := hO.sees
  obtain rfl := hao (by simp)
  have hc := Try.slices_BinarySearch_int b off [y].length cap [y] x w (Nat.le_refl _) (by simp) hcell (by simp)
  have e1 : (List.take [y].length [y]).countP (· < x) = 1 := by simp [hxy]
  have e2 : (List.take [y].length [y]).contains x = false := by simp; omega
  rw [e1, e2] at hc
  clear hL hO hcell hao e1 e2
  simp only [List.length_singleton] at *
  go_enter Try.func31, Try.ntmps31
  go_wp2_with fail
  refine (given_yes p _ c0).mono ?_
  rintro e w1 ⟨rfl, rfl⟩
  go_wp2_with fail
  refine hc.mono ?_
  clear hc
  rintro e w2 ⟨rfl, q, rfl⟩
  go_wp2_with fail
  go_quiet (fail)
  go_wp2
  go_ret
  exact ⟨rfl, below_drewN (below_drewN (Below.refl _ _) _) _⟩

theorem sees_lit (w : World) (xs : List Int) : Sees (w.alloc (.cells (xs.map (Value.int .i64)).toArray 3)) (.slice (some ⟨w.heap.size, 0, none⟩) xs.length xs.length) xs := by
  refine ⟨w.heap.size, 0, _, xs.length, rfl, Nat.le_refl _, (fun h => by cases h), fun _ => rfl, fun j hj => ?_⟩
  simp [hj]

set_option maxHeartbeats 1000000 in
theorem awake_any (w : World) : Calls Try.prog 23 #[] w fun e w' => e = .returned (.bool true) ∧ Below w.heap.size w w' := by
  go_enter Try.func23, Try.ntmps23
  go_wp2_with fail
  refine (new_any 1 _ (by decide) (by decide)).mono ?_
  rintro e w1 ⟨rfl, hL, hB⟩
  go_wp2_with fail
  refine (add_new w.heap.size 1 5 _ hL (by decide) (by decide)).mono ?_
  rintro e w2 ⟨rfl, v2, hL2, hO2, hB2⟩
  go_wp2_with fail
  refine (add_full w.heap.size 6 5 v2 _ hL2 (owns_le hO2 (Nat.zero_le _)) (by decide)).mono ?_
  rintro e w3 ⟨rfl, hB3⟩
  have hZ3 : Below w.heap.size w w3 := (hB.trans hB2).trans (hB3.mono (Nat.le_trans hB.size hB2.size))
  clear hL2 hO2 hB2 hB3 hL hB
  go_wp2_with fail
  have hA := sees_lit w3 [3, 1]
  have hA2 := hA.below (((Below.refl _ _).alloc (Nat.le_refl _) (.cells #[.int .i64 3, .int .i64 2] 3)))
  have hA3 := sees_lit (w3.alloc (.cells #[.int .i64 3, .int .i64 1] 3)) [3, 2]
  have hsz3 : (w3.alloc (.cells #[.int .i64 3, .int .i64 1] 3)).heap.size = w3.heap.size + 1 := by simp
  rw [hsz3] at hA3
  have hJ := join_any _ _ _ _ _ hA2 hA3 (by decide)
  refine hJ.mono ?_
  clear hJ hA hA2 hA3 hsz3
  rintro e w4 ⟨v4, rfl, hO4, hB4⟩
  have e123 : sd ([3, 1] ++ [3, 2]) = [1, 2, 3] := sd_of (by decide) (fun x => by simp; omega)
  rw [e123] at hO4
  clear e123
  have hZ4 : Below w.heap.size w w4 := ((hZ3.alloc hZ3.size _).alloc (by have := hZ3.size; simp; omega) _).trans (hB4.mono (by have := hZ3.size; simp; omega))
  have hS4 := hO4.sees
  clear hO4 hB4 hZ3
  go_wp2_with fail
  have hT := sees_lit w4 [1, 2, 3]
  have hS5 := hS4.below (((Below.refl _ _).alloc (Nat.le_refl _) (.cells #[.int .i64 1, .int .i64 2, .int .i64 3] 3)))
  have hM := same_any _ _ _ _ _ hS5 hT (by decide) (by decide)
  refine hM.mono ?_
  clear hM hT hS5 hS4
  rintro e w5 ⟨rfl, hB5⟩
  have hZ5 : Below w.heap.size w w5 := (hZ4.alloc hZ4.size _).trans (hB5.mono (by have := hZ4.size; simp; omega))
  clear hB5 hZ4
  go_wp2_with fail
  have hA := sees_lit w5 [1]
  have hA2 := hA.below (((Below.refl _ _).alloc (Nat.le_refl _) (.cells #[.int .i64 2, .int .i64 1] 3)))
  have hA3 := sees_lit (w5.alloc (.cells #[.int .i64 1] 3)) [2, 1]
  have hsz3 : (w5.alloc (.cells #[.int .i64 1] 3)).heap.size = w5.heap.size + 1 := by simp
  rw [hsz3] at hA3
  have hJ := within_any _ _ _ _ _ hA2 hA3 (by decide)
  have e1 : withinB [1] [2, 1] = true := by
    unfold withinB
    rw [decide_eq_true_eq, lessL_nil]
    simp
  rw [e1] at hJ
  refine hJ.mono ?_
  clear hJ hA hA2 hA3 hsz3
  rintro e w6 ⟨rfl, hB6⟩
  have hZ6 : Below w.heap.size w w6 := ((hZ5.alloc hZ5.size _).alloc (by have := hZ5.size; simp; omega) _).trans (hB6.mono (by have := hZ5.size; simp; omega))
  clear hB6 hZ5
  go_wp2
  go_ret
  exact ⟨rfl, hZ6⟩

end Go.Proofs.Ytaillppmfbbnjaa
