/-
  What a target is, over lists of bytes.
-/
import Derived.Test.YtllhibdjopfcnaaGreatDoorMathB
namespace Go.Proofs.YtllhibdjopfcnaaGreatDoor
set_option linter.unusedVariables false

def badB (b : UInt8) : Prop := b.toNat < 33 ∨ 126 < b.toNat ∨ b.toNat = 35
/-- The place of the first byte that no target has. -/
def firstBad : List UInt8 → Option Nat
  | [] => none
  | b :: r => if b.toNat < 33 ∨ 126 < b.toNat ∨ b.toNat = 35 then some 0 else (firstBad r).map (· + 1)
def standsV (L : List UInt8) : Option Nat := if L.head? = some 47 then firstBad L else some 0
theorem firstBad_at : ∀ (L : List UInt8) (k : Nat) (h : k < L.length), (∀ j, j < k → ¬ badB (L.getD j 0)) → badB L[k] → firstBad L = some k
  | [], k, h, _, _ => by simp at h
  | b :: r, 0, h, _, hb => by
    have : b.toNat < 33 ∨ 126 < b.toNat ∨ b.toNat = 35 := hb
    rw [firstBad, if_pos this]
  | b :: r, k + 1, h, hno, hb => by
    have h0 : ¬ (b.toNat < 33 ∨ 126 < b.toNat ∨ b.toNat = 35) := hno 0 (by omega)
    have ih := firstBad_at r k (by simpa using h) (fun j hj => by have := hno (j + 1) (by omega); simpa using this) (by simpa using hb)
    rw [firstBad, if_neg h0, ih]
    rfl
theorem firstBad_none : ∀ (L : List UInt8), (∀ j, j < L.length → ¬ badB (L.getD j 0)) → firstBad L = none
  | [], _ => rfl
  | b :: r, hno => by
    have h0 : ¬ (b.toNat < 33 ∨ 126 < b.toNat ∨ b.toNat = 35) := hno 0 (by simp)
    have ih := firstBad_none r (fun j hj => by have := hno (j + 1) (by simpa using hj); simpa using this)
    rw [firstBad, if_neg h0, ih]
    rfl
/-! ### What Target answers -/
structure Tgt where
  path : List UInt8
  query : List PairL
  err : Int
  at' : Nat
def tgt (L : List UInt8) : Tgt :=
  if 1024 < L.length then ⟨[], [], 4, 0⟩ else
  match standsV L with
  | some p => ⟨[], [], 60, p⟩
  | none => match (dec false (cutC 63 L).1).2 with
    | some p => ⟨[], [], 60, p⟩
    | none => match (dec true (cutC 63 L).2.1).2 with
      | some p => ⟨[], [], 60, (cutC 63 L).1.length + 1 + p⟩
      | none => if 32 < (formL (cutC 63 L).2.1).length then ⟨[], [], 2, 0⟩ else ⟨(dec false (cutC 63 L).1).1, formL (cutC 63 L).2.1, 0, 0⟩
end Go.Proofs.YtllhibdjopfcnaaGreatDoor
