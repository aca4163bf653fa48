/-
  The machine's small functions: truth, divide, reckon, last, put.
-/
import Derived.Test.YtfnojlgmbfocfaaDoorVBase
import Derived.Deep.RegionLaw
namespace Go.Proofs.YtfnojlgmbfocfaaDoor
open Go.RowKit
set_option linter.unusedVariables false
set_option linter.unusedSimpArgs false

theorem truth_any (b : Bool) (w : World) : Calls Tryd.prog 47 #[.bool b] w fun e w' => e = .returned (.int .i64 (bitI b)) ∧ w' = w := by
  cases b
  · go_enter Tryd.func47, Tryd.ntmps47
    go_wp2
    go_ret
    exact ⟨rfl, rfl⟩
  · go_enter Tryd.func47, Tryd.ntmps47
    go_wp2
    go_ret
    exact ⟨rfl, rfl⟩

theorem div_zero (op x : Int) (w : World) : Calls Tryd.prog 52 #[.int .i64 op, .int .i64 x, .int .i64 0] w fun e w' => e = .returned (.tuple #[.int .i64 0, .bool false]) ∧ w' = w := by
  go_enter Tryd.func52, Tryd.ntmps52
  go_wp2
  go_ret2
  exact ⟨rfl, rfl⟩
theorem div_quo (x y : Int) (hy : ¬ y = 0) (w : World) : Calls Tryd.prog 52 #[.int .i64 8, .int .i64 x, .int .i64 y] w fun e w' => e = .returned (.tuple #[.int .i64 (wrap64 (x.tdiv y)), .bool true]) ∧ w' = w := by
  go_enter Tryd.func52, Tryd.ntmps52
  go_wp2
  go_ret2
  exact ⟨rfl, rfl⟩
theorem div_rem (x y : Int) (hy : ¬ y = 0) (w : World) : Calls Tryd.prog 52 #[.int .i64 9, .int .i64 x, .int .i64 y] w fun e w' => e = .returned (.tuple #[.int .i64 (x.tmod y), .bool true]) ∧ w' = w := by
  go_enter Tryd.func52, Tryd.ntmps52
  go_wp2
  go_ret2
  exact ⟨rfl, rfl⟩

theorem ofInt_nat (k : Nat) (y : Int) : (BitVec.ofInt k y).toNat = (y % 2 ^ k).toNat := by
  rw [BitVec.toNat_ofInt]
  simp
theorem and63 (n : Nat) : n &&& 63 = n % 64 := Nat.and_two_pow_sub_one_eq_mod n 6
theorem sh_u (y : Int) : bits .and .u64 (IntKind.u64.wrap y) 63 = ((shN y : Nat) : Int) := by
  show IntKind.u64.wrap ((BitVec.ofInt 64 (IntKind.u64.wrap y) &&& BitVec.ofInt 64 63).toNat : Int) = _
  have e63 : ((63 : Int) % 2 ^ 64).toNat = 63 := by decide
  rw [BitVec.toNat_and, ofInt_nat, ofInt_nat, e63, and63]
  have : IntKind.u64.wrap y = y % 18446744073709551616 := by simp [IntKind.wrap, IntKind.bits, IntKind.signed]
  rw [this]
  simp [IntKind.wrap, IntKind.bits, IntKind.signed, shN]
  omega
theorem sh_i (y : Int) : bits .and .i64 y 63 = ((shN y : Nat) : Int) := by
  show IntKind.i64.wrap ((BitVec.ofInt 64 y &&& BitVec.ofInt 64 63).toNat : Int) = _
  have e63 : ((63 : Int) % 2 ^ 64).toNat = 63 := by decide
  rw [BitVec.toNat_and, ofInt_nat, ofInt_nat, e63, and63, wrap_i64_nat _ (by omega)]
  simp [shN]
  omega
theorem shN_lt (y : Int) : shN y < 64 := by unfold shN; omega
set_option maxHeartbeats 1000000 in
theorem reckon5 (x y : Int) (w : World) : Calls Tryd.prog 49 #[.int .i64 5, .int .i64 x, .int .i64 y] w fun e w' => e = .returned (.tuple #[.int .i64 (wrap64 (x + y)), .bool true]) ∧ w' = w := by
  go_enter Tryd.func49, Tryd.ntmps49
  go_wp2
  go_ret2
  exact ⟨rfl, rfl⟩
set_option maxHeartbeats 1000000 in
theorem reckon6 (x y : Int) (w : World) : Calls Tryd.prog 49 #[.int .i64 6, .int .i64 x, .int .i64 y] w fun e w' => e = .returned (.tuple #[.int .i64 (wrap64 (x - y)), .bool true]) ∧ w' = w := by
  go_enter Tryd.func49, Tryd.ntmps49
  go_wp2
  go_ret2
  exact ⟨rfl, rfl⟩
set_option maxHeartbeats 1000000 in
theorem reckon7 (x y : Int) (w : World) : Calls Tryd.prog 49 #[.int .i64 7, .int .i64 x, .int .i64 y] w fun e w' => e = .returned (.tuple #[.int .i64 (wrap64 (x * y)), .bool true]) ∧ w' = w := by
  go_enter Tryd.func49, Tryd.ntmps49
  go_wp2
  go_ret2
  exact ⟨rfl, rfl⟩
set_option maxHeartbeats 1000000 in
theorem reckon10 (x y : Int) (w : World) : Calls Tryd.prog 49 #[.int .i64 10, .int .i64 x, .int .i64 y] w fun e w' => e = .returned (.tuple #[.int .i64 (bits .and .i64 x y), .bool true]) ∧ w' = w := by
  go_enter Tryd.func49, Tryd.ntmps49
  go_wp2
  go_ret2
  exact ⟨rfl, rfl⟩
set_option maxHeartbeats 1000000 in
theorem reckon11 (x y : Int) (w : World) : Calls Tryd.prog 49 #[.int .i64 11, .int .i64 x, .int .i64 y] w fun e w' => e = .returned (.tuple #[.int .i64 (bits .or .i64 x y), .bool true]) ∧ w' = w := by
  go_enter Tryd.func49, Tryd.ntmps49
  go_wp2
  go_ret2
  exact ⟨rfl, rfl⟩
set_option maxHeartbeats 1000000 in
theorem reckon12 (x y : Int) (w : World) : Calls Tryd.prog 49 #[.int .i64 12, .int .i64 x, .int .i64 y] w fun e w' => e = .returned (.tuple #[.int .i64 (bits .xor .i64 x y), .bool true]) ∧ w' = w := by
  go_enter Tryd.func49, Tryd.ntmps49
  go_wp2
  go_ret2
  exact ⟨rfl, rfl⟩
set_option maxHeartbeats 1000000 in
theorem reckon13 (x y : Int) (w : World) : Calls Tryd.prog 49 #[.int .i64 13, .int .i64 x, .int .i64 y] w fun e w' => e = .returned (.tuple #[.int .i64 (wrap64 (x * 2 ^ min (shN y) 64)), .bool true]) ∧ w' = w := by
  have hs := sh_u y
  go_enter Tryd.func49, Tryd.ntmps49
  go_wp2
  go_ret2
  exact ⟨rfl, rfl⟩
set_option maxHeartbeats 1000000 in
theorem reckon14 (x y : Int) (w : World) : Calls Tryd.prog 49 #[.int .i64 14, .int .i64 x, .int .i64 y] w fun e w' => e = .returned (.tuple #[.int .i64 (x / 2 ^ min (shN y) 64), .bool true]) ∧ w' = w := by
  have hs := sh_u y
  go_enter Tryd.func49, Tryd.ntmps49
  go_wp2
  go_ret2
  exact ⟨rfl, rfl⟩
set_option maxHeartbeats 1000000 in
theorem reckon15 (x y : Int) (w : World) : Calls Tryd.prog 49 #[.int .i64 15, .int .i64 x, .int .i64 y] w fun e w' => e = .returned (.tuple #[.int .i64 (bitI (decide (x = y))), .bool true]) ∧ w' = w := by
  have ht := fun (b : Bool) (w : World) => truth_any b w
  go_enter Tryd.func49, Tryd.ntmps49
  go_wp2_with fail
  refine (truth_any _ _).mono ?_
  rintro e w1 ⟨rfl, hw⟩
  subst hw
  go_wp2
  go_ret2
  exact ⟨by simp; rfl, rfl⟩
set_option maxHeartbeats 1000000 in
theorem reckon16 (x y : Int) (w : World) : Calls Tryd.prog 49 #[.int .i64 16, .int .i64 x, .int .i64 y] w fun e w' => e = .returned (.tuple #[.int .i64 (bitI (decide (x < y))), .bool true]) ∧ w' = w := by
  have ht := fun (b : Bool) (w : World) => truth_any b w
  go_enter Tryd.func49, Tryd.ntmps49
  go_wp2_with fail
  refine (truth_any _ _).mono ?_
  rintro e w1 ⟨rfl, hw⟩
  subst hw
  go_wp2
  go_ret2
  exact ⟨rfl, rfl⟩
set_option maxHeartbeats 1000000 in
theorem reckon8 (x y : Int) (hy : ¬ y = 0) (w : World) : Calls Tryd.prog 49 #[.int .i64 8, .int .i64 x, .int .i64 y] w fun e w' => e = .returned (.tuple #[.int .i64 (wrap64 (x.tdiv y)), .bool true]) ∧ w' = w := by
  have hd := div_quo x y hy w
  go_enter Tryd.func49, Tryd.ntmps49
  go_wp2_with fail
  refine hd.mono ?_
  rintro e w1 ⟨rfl, hw⟩
  subst hw
  go_wp2
  go_ret2
  exact ⟨rfl, rfl⟩
set_option maxHeartbeats 1000000 in
theorem reckon8z (x : Int) (w : World) : Calls Tryd.prog 49 #[.int .i64 8, .int .i64 x, .int .i64 0] w fun e w' => e = .returned (.tuple #[.int .i64 0, .bool false]) ∧ w' = w := by
  have hd := div_zero 8 x w
  go_enter Tryd.func49, Tryd.ntmps49
  go_wp2_with fail
  refine hd.mono ?_
  rintro e w1 ⟨rfl, hw⟩
  subst hw
  go_wp2
  go_ret2
  exact ⟨rfl, rfl⟩
set_option maxHeartbeats 1000000 in
theorem reckon9 (x y : Int) (hy : ¬ y = 0) (w : World) : Calls Tryd.prog 49 #[.int .i64 9, .int .i64 x, .int .i64 y] w fun e w' => e = .returned (.tuple #[.int .i64 (x.tmod y), .bool true]) ∧ w' = w := by
  have hd := div_rem x y hy w
  go_enter Tryd.func49, Tryd.ntmps49
  go_wp2_with fail
  refine hd.mono ?_
  rintro e w1 ⟨rfl, hw⟩
  subst hw
  go_wp2
  go_ret2
  exact ⟨rfl, rfl⟩
set_option maxHeartbeats 1000000 in
theorem reckon9z (x : Int) (w : World) : Calls Tryd.prog 49 #[.int .i64 9, .int .i64 x, .int .i64 0] w fun e w' => e = .returned (.tuple #[.int .i64 0, .bool false]) ∧ w' = w := by
  have hd := div_zero 9 x w
  go_enter Tryd.func49, Tryd.ntmps49
  go_wp2_with fail
  refine hd.mono ?_
  rintro e w1 ⟨rfl, hw⟩
  subst hw
  go_wp2
  go_ret2
  exact ⟨rfl, rfl⟩
/-- What an operation makes of two numbers. -/
theorem reckon_any (op x y : Int) (h5 : 5 ≤ op) (h16 : op ≤ 16) (w : World) : Calls Tryd.prog 49 #[.int .i64 op, .int .i64 x, .int .i64 y] w fun e w' => e = .returned (.tuple #[.int .i64 ((twoL op x y).getD 0), .bool (twoL op x y).isSome]) ∧ w' = w := by
  have : op = 5 ∨ op = 6 ∨ op = 7 ∨ op = 8 ∨ op = 9 ∨ op = 10 ∨ op = 11 ∨ op = 12 ∨ op = 13 ∨ op = 14 ∨ op = 15 ∨ op = 16 := by omega
  rcases this with rfl | rfl | rfl | rfl | rfl | rfl | rfl | rfl | rfl | rfl | rfl | rfl
  · exact reckon5 x y w
  · exact reckon6 x y w
  · exact reckon7 x y w
  · by_cases hy : y = 0
    · subst hy; exact reckon8z x w
    · simpa [twoL, hy] using reckon8 x y hy w
  · by_cases hy : y = 0
    · subst hy; exact reckon9z x w
    · simpa [twoL, hy] using reckon9 x y hy w
  · exact reckon10 x y w
  · exact reckon11 x y w
  · exact reckon12 x y w
  · exact reckon13 x y w
  · exact reckon14 x y w
  · exact reckon15 x y w
  · exact reckon16 x y w

/-- The number so far below the last one. -/
theorem last_any (w : World) (B p : Nat) (m vc vs vk : Value) (code : List InsL) (s : StL) (h : Mach w B p m vc vs vk code s) (k : Nat) (hk : k < s.st.length) (hl : s.st.length ≤ 64) :
    Calls Tryd.prog 48 #[.pointer (some ⟨p, 0, none⟩), .int .i64 (k : Int)] w fun e w' => e = .returned (.int .i64 (topL s.st k)) ∧ Below w.heap.size w w' := by
  obtain ⟨c0, c1, c2, c3, c4, _⟩ := h.cells
  obtain ⟨b, off, ao, cap, hv, hc, hn, hao, hcell⟩ := h.os.sees
  obtain rfl := hao (by intro e; rw [e] at hk; simp at hk)
  subst hv
  have hi := hcell (s.st.length - 1 - k) (by omega)
  have e1 : wrap64 (wrap64 ((s.st.length : Int) - 1) - (k : Int)) = ((s.st.length - 1 - k : Nat) : Int) := by unfold wrap64; omega
  have e2 : (s.st.length : Int) - 1 - (k : Int) = ((s.st.length - 1 - k : Nat) : Int) := by omega
  have hj : s.st.length - 1 - k < s.st.length := by omega
  obtain ⟨J, hJ⟩ : ∃ J, J = s.st.length - 1 - k := ⟨_, rfl⟩
  unfold topL
  rw [← hJ] at hi e1 e2 hj ⊢
  obtain ⟨x, hx⟩ : ∃ x, x = s.st.getD J 0 := ⟨_, rfl⟩
  rw [← hx] at hi ⊢
  clear h hcell hao c0 c1 c2 c4 hJ hx
  have hj' : (J : Int) < (s.st.length : Int) := by omega
  generalize s.st.length = L at *
  go_enter Tryd.func48, Tryd.ntmps48
  go_wp2
  go_quiet (fail)
  go_wp2
  go_ret
  exact ⟨rfl, below_drewN' _ _ _⟩
end Go.Proofs.YtfnojlgmbfocfaaDoor
