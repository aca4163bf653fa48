/-
  Instructions: which may be.
-/
import Derived.RowKit
import Derived.Below
namespace Go.Proofs.YtfnojlgmbfocfaaDoor
set_option linter.unusedVariables false

/-! ### Instructions -/
abbrev InsL := Int × Int
/-- Names, and what an A may be: 0 none, 1 any, 2 a depth, 3 a place, 4 a call. -/
def opT : List (List UInt8 × Int) := [([112, 117, 115, 104], 1), ([112, 111, 112], 0), ([100, 117, 112], 2), ([115, 119, 97, 112], 0), ([97, 100, 100], 0), ([115, 117, 98], 0), ([109, 117, 108], 0), ([100, 105, 118], 0), ([114, 101, 109], 0), ([97, 110, 100], 0), ([111, 114], 0), ([120, 111, 114], 0), ([115, 104, 108], 0), ([115, 104, 114], 0), ([101, 113], 0), ([108, 101, 115, 115], 0), ([110, 111, 116], 0), ([108, 111, 97, 100], 0), ([115, 116, 111, 114, 101], 0), ([106, 117, 109, 112], 3), ([105, 102], 3), ([99, 97, 108, 108], 3), ([114, 101, 116], 0), ([116, 114, 97, 112], 4), ([104, 97, 108, 116], 0)]
theorem opT_len : opT.length = 25 := rfl
def opOf (n : Int) : Option (List UInt8 × Int) := if 1 ≤ n ∧ n ≤ 25 then opT[(n - 1).toNat]? else none
def mayW (w a : Int) (n : Nat) : Bool :=
  if w = 1 then true else if w = 2 then decide (0 ≤ a ∧ a < 64) else if w = 3 then decide (0 ≤ a ∧ a < n) else if w = 4 then decide (1 ≤ a ∧ a ≤ 99) else decide (a = 0)
def mayI (n : Nat) (i : InsL) : Bool :=
  match opOf i.1 with
  | none => false
  | some o => mayW o.2 i.2 n
/-- The place of the first that may not be; how many there are, if all may. -/
def badAt (n : Nat) : List InsL → Nat
  | [] => 0
  | i :: r => if mayI n i = true then badAt n r + 1 else 0
theorem badAt_le (n : Nat) : ∀ l : List InsL, badAt n l ≤ l.length
  | [] => Nat.le_refl _
  | i :: r => by
    have := badAt_le n r
    unfold badAt
    split <;> simp <;> omega
def checkL (l : List InsL) : Int × Nat :=
  if l.length = 0 ∨ 1024 < l.length then (2, 0) else if badAt l.length l < l.length then (130, badAt l.length l) else (0, 0)
theorem check_cases (l : List InsL) : checkL l = (2, 0) ∨ (checkL l = (130, badAt l.length l) ∧ badAt l.length l < l.length ∧ l.length ≤ 1024) ∨ (checkL l = (0, 0) ∧ badAt l.length l = l.length ∧ 1 ≤ l.length ∧ l.length ≤ 1024) := by
  unfold checkL
  split
  · exact Or.inl rfl
  · split
    · exact Or.inr (Or.inl ⟨rfl, by assumption, by omega⟩)
    · have := badAt_le l.length l
      exact Or.inr (Or.inr ⟨rfl, by omega, by omega, by omega⟩)
theorem badAt_all {n : Nat} : ∀ {l : List InsL}, badAt n l = l.length → ∀ i ∈ l, mayI n i = true
  | [], _, i, h => by simp at h
  | x :: r, h, i, hi => by
    unfold badAt at h
    split at h
    · rename_i hx
      rcases List.mem_cons.1 hi with rfl | hi
      · exact hx
      · exact badAt_all (by simpa using h) i hi
    · simp at h
theorem badAt_drop {n : Nat} {l : List InsL} {k : Nat} (h : k < l.length) : badAt n (l.drop k) = if mayI n l[k] = true then badAt n (l.drop (k + 1)) + 1 else 0 := by
  rw [List.drop_eq_getElem_cons h, badAt]
def withO (n : Int) : Int := ((opOf n).map (·.2)).getD 0

end Go.Proofs.YtfnojlgmbfocfaaDoor
