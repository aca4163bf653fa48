/-
  Digits as bytes: the plain mathematics; the contracts of strings.IndexByte at the digits and of the document's digit.
-/
import Derived.Test.YtplljpodejpbgaaGreatDoorXRefE
namespace Go.Proofs.YtplljpodejpbgaaGreatDoor
open Go.RowKit
set_option linter.unusedVariables false
set_option maxRecDepth 100000

/-- A digit's number. -/
def dval (b : Nat) : Option Nat := if 48 ≤ b ∧ b ≤ 57 then some (b - 48) else if 97 ≤ b ∧ b ≤ 102 then some (b - 87) else none
def dv (b : Nat) : Int := match dval b with
  | some n => n
  | none => -1
theorem dval_lt {b n : Nat} (h : dval b = some n) : n < 16 := by
  unfold dval at h
  split at h
  · simp at h; omega
  · split at h
    · simp at h; omega
    · cases h
theorem dval_dig : ∀ n, n < 16 → dval (dig n) = some n := by decide
theorem dv_some {b n : Nat} (h : dval b = some n) : dv b = (n : Int) := by unfold dv; rw [h]
theorem dv_none {b : Nat} (h : dval b = none) : dv b = -1 := by unfold dv; rw [h]

/-- The bytes of so many pairs of digits. -/
def unhexTo (l : List Nat) : Nat → Option (List Nat)
  | 0 => some []
  | k + 1 => match unhexTo l k, dval (l.getD (2 * k) 0), dval (l.getD (2 * k + 1) 0) with
    | some out, some a, some b => some (out ++ [16 * a + b])
    | _, _, _ => none
def unhexOf (l : List Nat) : Option (List Nat) := if l.length % 2 = 0 then unhexTo l (l.length / 2) else none

theorem unhexTo_none {l : List Nat} {k : Nat} (h : unhexTo l k = none) : ∀ n, k ≤ n → unhexTo l n = none
  | 0, hk => by
    have : k = 0 := by omega
    subst this; exact h
  | n + 1, hk => by
    by_cases he : k = n + 1
    · subst he; exact h
    · rw [unhexTo, unhexTo_none h n (by omega)]
theorem unhexTo_len {l out : List Nat} : ∀ {k : Nat}, unhexTo l k = some out → out.length = k
  | 0, h => by simp [unhexTo] at h; subst h; rfl
  | k + 1, h => by
    rw [unhexTo] at h
    split at h
    · rename_i o a b ho _ _
      simp at h
      subst h
      simp [unhexTo_len ho]
    · cases h
theorem unhexTo_lt {l out : List Nat} : ∀ {k : Nat}, unhexTo l k = some out → ∀ x ∈ out, x < 256
  | 0, h => by simp [unhexTo] at h; subst h; simp
  | k + 1, h => by
    rw [unhexTo] at h
    split at h
    · rename_i o a b ho ha hb
      simp at h
      subst h
      intro x hx
      rcases List.mem_append.1 hx with h1 | h1
      · exact unhexTo_lt ho x h1
      · simp at h1
        have := dval_lt ha
        have := dval_lt hb
        omega
    · cases h

theorem hexOf_getD (l : List Nat) : ∀ k, k < l.length → (hexOf l).getD (2 * k) 0 = dig (l.getD k 0 / 16) ∧ (hexOf l).getD (2 * k + 1) 0 = dig (l.getD k 0 % 16) := by
  induction l with
  | nil => intro k hk; simp at hk
  | cons a t ih =>
    intro k hk
    have e : hexOf (a :: t) = dig (a / 16) :: dig (a % 16) :: hexOf t := rfl
    rw [e]
    cases k with
    | zero => exact ⟨rfl, rfl⟩
    | succ k =>
      have h := ih k (by simpa using hk)
      exact h
theorem unhex_hexTo (l : List Nat) (h256 : ∀ x ∈ l, x < 256) : ∀ k, k ≤ l.length → unhexTo (hexOf l) k = some (l.take k)
  | 0, _ => by simp [unhexTo]
  | k + 1, hk => by
    have h := hexOf_getD l k (by omega)
    have hlt : l.getD k 0 < 256 := getD_lt (by decide) h256 k
    rw [unhexTo, unhex_hexTo l h256 k (by omega), h.1, h.2, dval_dig _ (by omega), dval_dig _ (by omega)]
    have hl : k < l.length := by omega
    rw [List.take_succ_eq_append_getElem hl]
    simp only [List.getD, List.getElem?_eq_getElem hl, Option.getD_some]
    congr 3
    omega
theorem unhex_hex (l : List Nat) (h256 : ∀ x ∈ l, x < 256) : unhexOf (hexOf l) = some l := by
  unfold unhexOf
  rw [hexOf_len, if_pos (by omega), show 2 * l.length / 2 = l.length by omega, unhex_hexTo l h256 _ (Nat.le_refl _), List.take_of_length_le (Nat.le_refl _)]
theorem dig_lt : ∀ n, n < 16 → dig n < 256 := by decide
theorem hexOf_lt {l : List Nat} (h256 : ∀ x ∈ l, x < 256) : ∀ x ∈ hexOf l, x < 256 := by
  intro x hx
  obtain ⟨y, hy, hx⟩ := List.mem_flatMap.1 hx
  have := h256 y hy
  simp at hx
  rcases hx with rfl | rfl
  · exact dig_lt _ (by omega)
  · exact dig_lt _ (by omega)

theorem index_all : (List.range 256).all (fun n => decide (Lib.indexByte [48, 49, 50, 51, 52, 53, 54, 55, 56, 57, 97, 98, 99, 100, 101, 102] (UInt8.ofNat n) = dv n)) = true := by decide +kernel
theorem idx_any (b : Nat) (w : World) (hb : b < 256) : Calls Tryz.prog 96 #[.string { data := #[48, 49, 50, 51, 52, 53, 54, 55, 56, 57, 97, 98, 99, 100, 101, 102] }, .int .u8 (b : Int)] w fun e w' => e = .returned (.int .i64 (dv b)) ∧ w = w' := by
  have h := Tryz.strings_IndexByte { data := #[48, 49, 50, 51, 52, 53, 54, 55, 56, 57, 97, 98, 99, 100, 101, 102] } (b : Int) w
  have he : Lib.indexByte [48, 49, 50, 51, 52, 53, 54, 55, 56, 57, 97, 98, 99, 100, 101, 102] (UInt8.ofNat b) = dv b := of_decide_eq_true (List.all_eq_true.1 index_all b (List.mem_range.2 hb))
  rw [Int.toNat_natCast] at h
  refine h.mono ?_
  rintro e w' ⟨rfl, hw⟩
  exact ⟨ret_int he, hw.symm⟩

theorem dig_dval : ∀ b, b < 256 → ∀ n, n < 16 → (dig n = b ↔ dval b = some n) := by
  intro b hb n hn
  constructor
  · intro h; rw [← h]; exact dval_dig n hn
  · intro h
    have key : (List.range 256).all (fun b => (List.range 16).all fun n => decide (dval b = some n → dig n = b)) = true := by decide +kernel
    exact of_decide_eq_true (List.all_eq_true.1 (List.all_eq_true.1 key b (List.mem_range.2 hb)) n (List.mem_range.2 hn)) h

set_option maxHeartbeats 1000000 in
theorem digit_any (b : Nat) (w : World) (hb : b < 256) : Calls Tryz.prog 80 #[.int .u8 (b : Int)] w fun e w' => e = .returned (.int .i64 (dv b)) ∧ w = w' := by
  go_enter Tryz.func80, Tryz.ntmps80
  go_wp2_with fail
  go_loop [3] (fun i => ∃ k : Nat, k ≤ 16 ∧ i = .int .i64 k ∧ ∀ j, j < k → dig j ≠ b) (fun i => 16 - (intOf i).toNat)
  case atStart => exact ⟨0, by decide, rfl, fun j hj => by omega⟩
  case round =>
    obtain ⟨k, hk, rfl, hno⟩ := hrel
    have HNo := hid hno
    clear hno
    by_cases hlt : k < 16
    · have i1 := index_dig .i64 (k : Int) k rfl hlt
      obtain ⟨d, hd⟩ : ∃ d, d = dig k := ⟨_, rfl⟩
      rw [← hd] at i1
      have HD := hid hd
      clear hd
      by_cases hyx : d = b
      · have h1 : ((d : Int) == (b : Int)) = true := by rw [beq_iff_eq]; omega
        have HE := hid hyx
        clear hyx
        go_wp2
        go_ret
        refine ⟨ret_int ?_, rfl⟩
        have := (dig_dval b hb k hlt).1 (HD.out.symm.trans HE.out)
        rw [dv_some this]
      · have h1 : ((d : Int) == (b : Int)) = false := by rw [beq_eq_false_iff_ne]; omega
        go_wp2
        go_round
        case rel =>
          refine ⟨k + 1, by omega, by go_num, fun j hj => ?_⟩
          by_cases hjk : j = k
          · subst hjk; rw [← HD.out]; exact hyx
          · exact HNo.out j (by omega)
        case measure => simp [intOf]; omega
    · have hk16 : k = 16 := by omega
      subst hk16
      go_wp2
      go_ret
      refine ⟨ret_int ?_, rfl⟩
      cases h : dval b with
      | none => rw [dv_none h]
      | some n => exact absurd ((dig_dval b hb n (dval_lt h)).2 h) (HNo.out n (dval_lt h))
end Go.Proofs.YtplljpodejpbgaaGreatDoor
