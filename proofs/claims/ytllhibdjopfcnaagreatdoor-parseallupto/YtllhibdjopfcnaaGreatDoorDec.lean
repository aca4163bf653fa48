/-
  Decode: the code's.
-/
import Derived.Test.YtllhibdjopfcnaaGreatDoorLeaf
namespace Go.Proofs.YtllhibdjopfcnaaGreatDoor
open Go.RowKit
set_option linter.unusedVariables false

/-! ### sign -/
/-- What the percent sign tells that a text begins with. -/
def signV (l : List UInt8) : Option UInt8 :=
  match l with
  | _ :: h :: l :: _ => if 0 ≤ hexD h ∧ 0 ≤ hexD l then some (signB h l) else none
  | _ => none

theorem shl4 (a : Nat) (h : a < 16) : ((a : Int) * 16) = ((16 * a : Nat) : Int) := by omega
theorem or_low (a b : Nat) (ha : a < 16) (hb : b < 16) : (16 * a) ||| b = 16 * a + b := by
  have := Nat.two_pow_add_eq_or_of_lt (i := 4) (b := b) hb a
  simpa [Nat.mul_comm] using this.symm
theorem signB_nat {h l : UInt8} (h1 : 0 ≤ hexD h) (h2 : 0 ≤ hexD l) : ((signB h l).toNat : Int) = 16 * hexD h + hexD l := by
  have a1 := (hexD_range h).2
  have a2 := (hexD_range l).2
  unfold signB
  rw [UInt8.toNat_ofNat', Nat.mod_eq_of_lt (by omega)]
  omega
theorem or_sign {x y : Int} (h1 : 0 ≤ x) (h2 : 0 ≤ y) (h3 : x < 16) (h4 : y < 16) : bits .or .i64 (x * 16) y = 16 * x + y := by
  obtain ⟨a, rfl⟩ := Int.eq_ofNat_of_zero_le h1
  obtain ⟨b, rfl⟩ := Int.eq_ofNat_of_zero_le h2
  have k1 : a < 16 := by omega
  have k2 : b < 16 := by omega
  rw [show ((a : Int) * 16) = ((16 * a : Nat) : Int) by omega, i64_or _ _ (by omega) (by omega), or_low a b k1 k2]
  omega

set_option maxHeartbeats 1000000 in
theorem sign_any (s : ByteArray) (w : World) : Calls Tryz.prog 109 #[.string s] w fun e w' =>
    e = .returned (.tuple #[.int .u8 (((signV s.data.toList).getD 0).toNat : Int), .bool (signV s.data.toList).isSome]) ∧ ∃ n, w' = w.drewN n := by
  by_cases h : s.size < 3
  · have h' : (s.size : Int) < 3 := by omega
    have hv : signV s.data.toList = none := by
      have hl := len_str s
      unfold signV
      split
      · rename_i x hd ld r e
        rw [e] at hl
        simp at hl
        omega
      · rfl
    rw [hv]
    clear hv
    go_enter Tryz.func109, Tryz.ntmps109
    go_wp2
    go_ret2
    exact ⟨rfl, 0, rfl⟩
  · have h' : ¬ (s.size : Int) < 3 := by omega
    have k1 : 1 < s.size := by omega
    have k2 : 2 < s.size := by omega
    have hv : signV s.data.toList = if 0 ≤ hexD (s[1]'k1) ∧ 0 ≤ hexD (s[2]'k2) then some (signB (s[1]'k1) (s[2]'k2)) else none := by
      have e0 := drop_byte s 0 (by omega)
      have e1 := drop_byte s 1 k1
      have e2 := drop_byte s 2 k2
      rw [List.drop_zero] at e0
      rw [e0, e1, e2]
      rfl
    obtain ⟨V, hV⟩ : ∃ V, V = signV s.data.toList := ⟨_, rfl⟩
    rw [← hV] at hv ⊢
    clear hV
    have i1 := index_byte s .i64 1 1 rfl k1
    have i2 := index_byte s .i64 2 2 rfl k2
    obtain ⟨a, ha⟩ : ∃ a, a = s[1]'k1 := ⟨_, rfl⟩
    obtain ⟨b, hb⟩ : ∃ b, b = s[2]'k2 := ⟨_, rfl⟩
    rw [← ha] at i1 hv
    rw [← hb] at i2 hv
    have HV := hid hv
    clear hv
    have ra := hexD_range a
    have rb := hexD_range b
    have HS := hid (fun h1 h2 => signB_nat (h := a) (l := b) h1 h2)
    clear ha hb
    go_enter Tryz.func109, Tryz.ntmps109
    go_wp2_with fail
    go_region_held3 (fun _ => True) (trivial)
      (first | (go_at_call 121; refine (digit_any _ _).mono ?_; rintro e' w1 ⟨rfl, rfl⟩))
    all_goals (
      by_cases h1 : hexD a < 0
      · go_wp2
        go_ret2
        rw [HV.out, if_neg (by omega)]
        exact ⟨rfl, 1, rfl⟩
      · by_cases h2 : hexD b < 0
        · go_wp2
          go_ret2
          rw [HV.out, if_neg (by omega)]
          exact ⟨rfl, 1, rfl⟩
        · have hor := or_sign (x := hexD a) (y := hexD b) (by omega) (by omega) (by omega) (by omega)
          have HZ := hid (HS.out (by omega) (by omega))
          go_wp2
          go_ret2
          refine ⟨?_, 1, rfl⟩
          rw [HV.out, if_pos (by omega)]
          simp only [Option.getD_some, Option.isSome_some]
          rw [HZ.out]
          first | rfl | (simp; omega))

end Go.Proofs.YtllhibdjopfcnaaGreatDoor
