/-
  The document's machine: its small functions.
-/
import Derived.Test.YtfnojlgmbfocfaaDoorVLeaf
namespace Go.Proofs.YtfnojlgmbfocfaaDoor
open Go.RowKit
set_option linter.unusedVariables false
set_option linter.unusedSimpArgs false

theorem rbit_any (b : Bool) (w : World) : Calls Tryd.prog 37 #[.bool b] w fun e w' => e = .returned (.int .i64 (bitI b)) ∧ w' = w := by
  cases b
  · go_enter Tryd.func37, Tryd.ntmps37
    go_wp2
    go_ret
    exact ⟨rfl, rfl⟩
  · go_enter Tryd.func37, Tryd.ntmps37
    go_wp2
    go_ret
    exact ⟨rfl, rfl⟩
/-- How many numbers an operation takes, by the document. -/
theorem rtakes_any (op a : Int) (h1 : 1 ≤ op) (h2 : op ≤ 25) (ha : op = 3 → 0 ≤ a ∧ a < 64) (w : World) :
    Calls Tryd.prog 36 #[.agg #[.int .i64 op, .int .i64 a]] w fun e w' => e = .returned (.int .i64 (tkI (op, a))) ∧ Below w.heap.size w w' := by
  have hw : op = 3 → wrap64 (a + 1) = a + 1 := fun h => by have := ha h; unfold wrap64; omega
  have HB := hid (below_alloc w (.cells #[.int .i64 op, .int .i64 a] 57))
  rcases op_cases h1 h2 with rfl | rfl | rfl | rfl | rfl | rfl | rfl | rfl | rfl | rfl | rfl | rfl | rfl | rfl | rfl | rfl | rfl | rfl | rfl | rfl | rfl | rfl | rfl | rfl | rfl
  all_goals
    simp only [tkI, effO, effT]
    try have hw3 := hw rfl
    clear hw ha h1 h2
    go_enter Tryd.func36, Tryd.ntmps36
    go_wp2
    go_ret
    refine ⟨?_, HB.out⟩
    first | rfl | (simp; omega) | simp [Int.add_comm]
set_option maxHeartbeats 1000000 in
theorem rtwo5 (x y : Int) (w : World) : Calls Tryd.prog 38 #[.int .i64 5, .int .i64 x, .int .i64 y] w fun e w' => e = .returned (.tuple #[.int .i64 (wrap64 (x + y)), .bool true]) ∧ w' = w := by
  go_enter Tryd.func38, Tryd.ntmps38
  go_wp2
  go_ret2
  exact ⟨rfl, rfl⟩
set_option maxHeartbeats 1000000 in
theorem rtwo6 (x y : Int) (w : World) : Calls Tryd.prog 38 #[.int .i64 6, .int .i64 x, .int .i64 y] w fun e w' => e = .returned (.tuple #[.int .i64 (wrap64 (x - y)), .bool true]) ∧ w' = w := by
  go_enter Tryd.func38, Tryd.ntmps38
  go_wp2
  go_ret2
  exact ⟨rfl, rfl⟩
set_option maxHeartbeats 1000000 in
theorem rtwo7 (x y : Int) (w : World) : Calls Tryd.prog 38 #[.int .i64 7, .int .i64 x, .int .i64 y] w fun e w' => e = .returned (.tuple #[.int .i64 (wrap64 (x * y)), .bool true]) ∧ w' = w := by
  go_enter Tryd.func38, Tryd.ntmps38
  go_wp2
  go_ret2
  exact ⟨rfl, rfl⟩
set_option maxHeartbeats 1000000 in
theorem rtwo10 (x y : Int) (w : World) : Calls Tryd.prog 38 #[.int .i64 10, .int .i64 x, .int .i64 y] w fun e w' => e = .returned (.tuple #[.int .i64 (bits .and .i64 x y), .bool true]) ∧ w' = w := by
  go_enter Tryd.func38, Tryd.ntmps38
  go_wp2
  go_ret2
  exact ⟨rfl, rfl⟩
set_option maxHeartbeats 1000000 in
theorem rtwo11 (x y : Int) (w : World) : Calls Tryd.prog 38 #[.int .i64 11, .int .i64 x, .int .i64 y] w fun e w' => e = .returned (.tuple #[.int .i64 (bits .or .i64 x y), .bool true]) ∧ w' = w := by
  go_enter Tryd.func38, Tryd.ntmps38
  go_wp2
  go_ret2
  exact ⟨rfl, rfl⟩
set_option maxHeartbeats 1000000 in
theorem rtwo12 (x y : Int) (w : World) : Calls Tryd.prog 38 #[.int .i64 12, .int .i64 x, .int .i64 y] w fun e w' => e = .returned (.tuple #[.int .i64 (bits .xor .i64 x y), .bool true]) ∧ w' = w := by
  go_enter Tryd.func38, Tryd.ntmps38
  go_wp2
  go_ret2
  exact ⟨rfl, rfl⟩
set_option maxHeartbeats 1000000 in
theorem rtwo13 (x y : Int) (w : World) : Calls Tryd.prog 38 #[.int .i64 13, .int .i64 x, .int .i64 y] w fun e w' => e = .returned (.tuple #[.int .i64 (wrap64 (x * 2 ^ min (shN y) 64)), .bool true]) ∧ w' = w := by
  have hs := sh_i y
  have hk := shN_lt y
  obtain ⟨k, hkk⟩ : ∃ k, k = shN y := ⟨_, rfl⟩
  rw [← hkk] at hs hk ⊢
  rw [show min k 64 = k by omega]
  clear hkk
  go_enter Tryd.func38, Tryd.ntmps38
  go_wp2
  go_ret2
  exact ⟨rfl, rfl⟩
set_option maxHeartbeats 1000000 in
theorem rtwo14 (x y : Int) (w : World) : Calls Tryd.prog 38 #[.int .i64 14, .int .i64 x, .int .i64 y] w fun e w' => e = .returned (.tuple #[.int .i64 (x / 2 ^ min (shN y) 64), .bool true]) ∧ w' = w := by
  have hs := sh_i y
  have hk := shN_lt y
  obtain ⟨k, hkk⟩ : ∃ k, k = shN y := ⟨_, rfl⟩
  rw [← hkk] at hs hk ⊢
  rw [show min k 64 = k by omega]
  clear hkk
  go_enter Tryd.func38, Tryd.ntmps38
  go_wp2
  go_ret2
  exact ⟨rfl, rfl⟩
set_option maxHeartbeats 1000000 in
theorem rtwo15 (x y : Int) (w : World) : Calls Tryd.prog 38 #[.int .i64 15, .int .i64 x, .int .i64 y] w fun e w' => e = .returned (.tuple #[.int .i64 (bitI (decide (x = y))), .bool true]) ∧ w' = w := by
  have ht := fun (b : Bool) (w : World) => rbit_any b w
  go_enter Tryd.func38, Tryd.ntmps38
  go_wp2_with fail
  refine (rbit_any _ _).mono ?_
  rintro e w1 ⟨rfl, hw⟩
  subst hw
  go_wp2
  go_ret2
  exact ⟨by simp; rfl, rfl⟩
set_option maxHeartbeats 1000000 in
theorem rtwo16 (x y : Int) (w : World) : Calls Tryd.prog 38 #[.int .i64 16, .int .i64 x, .int .i64 y] w fun e w' => e = .returned (.tuple #[.int .i64 (bitI (decide (x < y))), .bool true]) ∧ w' = w := by
  have ht := fun (b : Bool) (w : World) => rbit_any b w
  go_enter Tryd.func38, Tryd.ntmps38
  go_wp2_with fail
  refine (rbit_any _ _).mono ?_
  rintro e w1 ⟨rfl, hw⟩
  subst hw
  go_wp2
  go_ret2
  exact ⟨rfl, rfl⟩
set_option maxHeartbeats 1000000 in
theorem rtwo8 (x y : Int) (hy : ¬ y = 0) (w : World) : Calls Tryd.prog 38 #[.int .i64 8, .int .i64 x, .int .i64 y] w fun e w' => e = .returned (.tuple #[.int .i64 (wrap64 (x.tdiv y)), .bool true]) ∧ w' = w := by
  go_enter Tryd.func38, Tryd.ntmps38
  go_wp2
  go_ret2
  exact ⟨rfl, rfl⟩

set_option maxHeartbeats 1000000 in
theorem rtwo8z (x : Int) (w : World) : Calls Tryd.prog 38 #[.int .i64 8, .int .i64 x, .int .i64 0] w fun e w' => e = .returned (.tuple #[.int .i64 0, .bool false]) ∧ w' = w := by
  go_enter Tryd.func38, Tryd.ntmps38
  go_wp2
  go_ret2
  exact ⟨rfl, rfl⟩

set_option maxHeartbeats 1000000 in
theorem rtwo9 (x y : Int) (hy : ¬ y = 0) (w : World) : Calls Tryd.prog 38 #[.int .i64 9, .int .i64 x, .int .i64 y] w fun e w' => e = .returned (.tuple #[.int .i64 (x.tmod y), .bool true]) ∧ w' = w := by
  go_enter Tryd.func38, Tryd.ntmps38
  go_wp2
  go_ret2
  exact ⟨rfl, rfl⟩

set_option maxHeartbeats 1000000 in
theorem rtwo9z (x : Int) (w : World) : Calls Tryd.prog 38 #[.int .i64 9, .int .i64 x, .int .i64 0] w fun e w' => e = .returned (.tuple #[.int .i64 0, .bool false]) ∧ w' = w := by
  go_enter Tryd.func38, Tryd.ntmps38
  go_wp2
  go_ret2
  exact ⟨rfl, rfl⟩

theorem rtwo_any (op x y : Int) (h5 : 5 ≤ op) (h16 : op ≤ 16) (w : World) : Calls Tryd.prog 38 #[.int .i64 op, .int .i64 x, .int .i64 y] w fun e w' => e = .returned (.tuple #[.int .i64 ((twoL op x y).getD 0), .bool (twoL op x y).isSome]) ∧ w' = w := by
  have : op = 5 ∨ op = 6 ∨ op = 7 ∨ op = 8 ∨ op = 9 ∨ op = 10 ∨ op = 11 ∨ op = 12 ∨ op = 13 ∨ op = 14 ∨ op = 15 ∨ op = 16 := by omega
  rcases this with rfl | rfl | rfl | rfl | rfl | rfl | rfl | rfl | rfl | rfl | rfl | rfl
  · exact rtwo5 x y w
  · exact rtwo6 x y w
  · exact rtwo7 x y w
  · by_cases hy : y = 0
    · subst hy; exact rtwo8z x w
    · simpa [twoL, hy] using rtwo8 x y hy w
  · by_cases hy : y = 0
    · subst hy; exact rtwo9z x w
    · simpa [twoL, hy] using rtwo9 x y hy w
  · exact rtwo10 x y w
  · exact rtwo11 x y w
  · exact rtwo12 x y w
  · exact rtwo13 x y w
  · exact rtwo14 x y w
  · exact rtwo15 x y w
  · exact rtwo16 x y w

end Go.Proofs.YtfnojlgmbfocfaaDoor
