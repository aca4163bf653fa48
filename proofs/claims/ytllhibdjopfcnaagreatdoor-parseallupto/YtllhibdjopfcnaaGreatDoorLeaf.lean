/-
  Digits and plain bytes: the code's and the document's.
-/
import Derived.Test.YtllhibdjopfcnaaGreatDoorBase
import Derived.Test.YtllhibdjopfcnaaGreatDoorMathB
namespace Go.Proofs.YtllhibdjopfcnaaGreatDoor
open Go.RowKit
set_option linter.unusedVariables false

theorem ret_int {k : IntKind} {a b : Int} (h : a = b) : (Ending.returned (.int k a) : Ending) = .returned (.int k b) := by rw [h]
theorem ret_bool {a b : Bool} (h : a = b) : (Ending.returned (.bool a) : Ending) = .returned (.bool b) := by rw [h]

set_option maxHeartbeats 1000000 in
theorem digit_any (b : UInt8) (w : World) : Calls Tryz.prog 121 #[.int .u8 (b.toNat : Int)] w fun e w' => e = .returned (.int .i64 (hexD b)) ∧ w = w' := by
  have hb := b.toNat_lt
  unfold hexD
  obtain ⟨n, hn⟩ : ∃ n, n = b.toNat := ⟨_, rfl⟩
  rw [← hn] at hb ⊢
  clear hn
  by_cases h1 : 48 ≤ n
  · have h1' : (48 : Int) ≤ (n : Int) := by omega
    by_cases h2 : n ≤ 57
    · have h2' : (n : Int) ≤ 57 := by omega
      rw [if_pos ⟨h1, h2⟩]
      go_enter Tryz.func121, Tryz.ntmps121
      go_wp2
      go_ret
      exact ⟨ret_int (by omega), rfl⟩
    · have h2' : ¬ (n : Int) ≤ 57 := by omega
      rw [if_neg (by omega)]
      by_cases h3 : 65 ≤ n
      · have h3' : (65 : Int) ≤ (n : Int) := by omega
        by_cases h4 : n ≤ 70
        · have h4' : (n : Int) ≤ 70 := by omega
          rw [if_pos ⟨h3, h4⟩]
          go_enter Tryz.func121, Tryz.ntmps121
          go_wp2
          go_ret
          exact ⟨ret_int (by omega), rfl⟩
        · have h4' : ¬ (n : Int) ≤ 70 := by omega
          rw [if_neg (by omega)]
          by_cases h5 : 97 ≤ n
          · have h5' : (97 : Int) ≤ (n : Int) := by omega
            by_cases h6 : n ≤ 102
            · have h6' : (n : Int) ≤ 102 := by omega
              rw [if_pos ⟨h5, h6⟩]
              go_enter Tryz.func121, Tryz.ntmps121
              go_wp2
              go_ret
              exact ⟨ret_int (by omega), rfl⟩
            · have h6' : ¬ (n : Int) ≤ 102 := by omega
              rw [if_neg (by omega)]
              go_enter Tryz.func121, Tryz.ntmps121
              go_wp2
              go_ret
              exact ⟨rfl, rfl⟩
          · have h5' : ¬ (97 : Int) ≤ (n : Int) := by omega
            rw [if_neg (by omega)]
            go_enter Tryz.func121, Tryz.ntmps121
            go_wp2
            go_ret
            exact ⟨rfl, rfl⟩
      · have h3' : ¬ (65 : Int) ≤ (n : Int) := by omega
        have h5' : ¬ (97 : Int) ≤ (n : Int) := by omega
        rw [if_neg (by omega), if_neg (by omega)]
        go_enter Tryz.func121, Tryz.ntmps121
        go_wp2
        go_ret
        exact ⟨rfl, rfl⟩
  · have h1' : ¬ (48 : Int) ≤ (n : Int) := by omega
    have h3' : ¬ (65 : Int) ≤ (n : Int) := by omega
    have h5' : ¬ (97 : Int) ≤ (n : Int) := by omega
    rw [if_neg (by omega), if_neg (by omega), if_neg (by omega)]
    go_enter Tryz.func121, Tryz.ntmps121
    go_wp2
    go_ret
    exact ⟨rfl, rfl⟩

set_option maxHeartbeats 1000000 in
theorem rdigit_any (b : UInt8) (w : World) : Calls Tryz.prog 67 #[.int .u8 (b.toNat : Int)] w fun e w' => e = .returned (.int .i64 (hexD b)) ∧ w = w' := by
  have hb := b.toNat_lt
  unfold hexD
  obtain ⟨n, hn⟩ : ∃ n, n = b.toNat := ⟨_, rfl⟩
  rw [← hn] at hb ⊢
  clear hn
  by_cases h1 : 48 ≤ n
  · have h1' : (48 : Int) ≤ (n : Int) := by omega
    by_cases h2 : n ≤ 57
    · have h2' : (n : Int) ≤ 57 := by omega
      rw [if_pos ⟨h1, h2⟩]
      go_enter Tryz.func67, Tryz.ntmps67
      go_wp2
      go_ret
      exact ⟨ret_int (by omega), rfl⟩
    · have h2' : ¬ (n : Int) ≤ 57 := by omega
      rw [if_neg (by omega)]
      by_cases h3 : 65 ≤ n
      · have h3' : (65 : Int) ≤ (n : Int) := by omega
        by_cases h4 : n ≤ 70
        · have h4' : (n : Int) ≤ 70 := by omega
          have h5' : ¬ (97 : Int) ≤ (n : Int) := by omega
          rw [if_pos ⟨h3, h4⟩]
          go_enter Tryz.func67, Tryz.ntmps67
          go_wp2
          go_ret
          exact ⟨ret_int (by omega), rfl⟩
        · have h4' : ¬ (n : Int) ≤ 70 := by omega
          rw [if_neg (by omega)]
          by_cases h5 : 97 ≤ n
          · have h5' : (97 : Int) ≤ (n : Int) := by omega
            by_cases h6 : n ≤ 102
            · have h6' : (n : Int) ≤ 102 := by omega
              rw [if_pos ⟨h5, h6⟩]
              go_enter Tryz.func67, Tryz.ntmps67
              go_wp2
              go_ret
              exact ⟨ret_int (by omega), rfl⟩
            · have h6' : ¬ (n : Int) ≤ 102 := by omega
              rw [if_neg (by omega)]
              go_enter Tryz.func67, Tryz.ntmps67
              go_wp2
              go_ret
              exact ⟨rfl, rfl⟩
          · have h5' : ¬ (97 : Int) ≤ (n : Int) := by omega
            rw [if_neg (by omega)]
            go_enter Tryz.func67, Tryz.ntmps67
            go_wp2
            go_ret
            exact ⟨rfl, rfl⟩
      · have h3' : ¬ (65 : Int) ≤ (n : Int) := by omega
        have h5' : ¬ (97 : Int) ≤ (n : Int) := by omega
        rw [if_neg (by omega), if_neg (by omega)]
        go_enter Tryz.func67, Tryz.ntmps67
        go_wp2
        go_ret
        exact ⟨rfl, rfl⟩
  · have h1' : ¬ (48 : Int) ≤ (n : Int) := by omega
    have h3' : ¬ (65 : Int) ≤ (n : Int) := by omega
    have h5' : ¬ (97 : Int) ≤ (n : Int) := by omega
    rw [if_neg (by omega), if_neg (by omega), if_neg (by omega)]
    go_enter Tryz.func67, Tryz.ntmps67
    go_wp2
    go_ret
    exact ⟨rfl, rfl⟩

/-- What tells a byte's kind, in the walk's words. -/
theorem plain_split (n : Nat) (p : Prop)
    (k1 : 97 ≤ n → n ≤ 122 → p) (k2 : 65 ≤ n → n ≤ 90 → p) (k3 : 48 ≤ n → n ≤ 57 → p) (k4 : n = 45 → p) (k5 : n = 46 → p) (k6 : n = 95 → p) (k7 : n = 126 → p)
    (k8 : (n < 45 ∨ n = 47 ∨ (57 < n ∧ n < 65) ∨ (90 < n ∧ n < 95) ∨ n = 96 ∨ (122 < n ∧ n < 126) ∨ 126 < n) → p) : p := by
  by_cases a1 : 97 ≤ n ∧ n ≤ 122
  · exact k1 a1.1 a1.2
  by_cases a2 : 65 ≤ n ∧ n ≤ 90
  · exact k2 a2.1 a2.2
  by_cases a3 : 48 ≤ n ∧ n ≤ 57
  · exact k3 a3.1 a3.2
  by_cases a4 : n = 45
  · exact k4 a4
  by_cases a5 : n = 46
  · exact k5 a5
  by_cases a6 : n = 95
  · exact k6 a6
  by_cases a7 : n = 126
  · exact k7 a7
  exact k8 (by omega)


theorem index_byte (s : ByteArray) (q : IntKind) (i : Int) (n : Nat) (hi : i = (n : Int)) (hn : n < s.size) (w : World) : (Instr.index 9 (.string s) (.int q i)).run Tryz.prog w = .ok (.int .u8 ((s[n].toNat : Nat) : Int)) w := by
  subst hi
  rw [run_index_string w 9 s q n Tryz.underlying9]
  simp [hn]
theorem ownsB_len {w : World} {B : Nat} {u : Value} {l : List UInt8} (h : OwnsB w B u l) : OwnsN .u8 5 w B u (l.map UInt8.toNat) := h

end Go.Proofs.YtllhibdjopfcnaaGreatDoor
