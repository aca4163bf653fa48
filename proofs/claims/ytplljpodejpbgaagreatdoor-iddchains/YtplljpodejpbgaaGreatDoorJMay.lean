/-
  Which users may be.
-/
import Derived.Test.YtplljpodejpbgaaGreatDoorJState
import Derived.Test.YtplljpodejpbgaaGreatDoorXUnhex
namespace Go.Proofs.YtplljpodejpbgaaGreatDoor
open Go.RowKit
set_option linter.unusedVariables false
set_option linter.unusedSimpArgs false

structure UsL where
  name : ByteArray
  salt : ByteArray
  digest : ByteArray
  op : Bool
def visN (b : Nat) : Bool := decide (33 ≤ b) && decide (b ≤ 126)
def visB (s : ByteArray) : Bool := (bytesOf s).all visN
def oneB (u : UsL) : Bool := decide (1 ≤ u.name.size) && decide (u.name.size ≤ 32) && visB u.name && decide (u.salt.size ≤ 32) && decide (u.digest.size = 64) && (unhexOf (bytesOf u.digest)).isSome

set_option maxHeartbeats 1000000 in
theorem visible_any (s : ByteArray) (w : World) (hl : s.size ≤ 4611686018427387904) : Calls Tryz.prog 82 #[.string s] w fun e w' => e = .returned (.bool (visB s)) ∧ w = w' := by
  have hall : visB s = true ↔ ∀ j, j < s.size → visN ((bytesOf s).getD j 0) = true := by
    unfold visB
    rw [List.all_eq_true]
    constructor
    · intro h j hj
      have hj' : j < (bytesOf s).length := by rw [bytesOf_len]; exact hj
      rw [List.getD_eq_getElem?_getD, List.getElem?_eq_getElem hj']
      exact h _ (List.getElem_mem hj')
    · intro h x hx
      obtain ⟨j, hj, rfl⟩ := List.mem_iff_getElem.1 hx
      have := h j (by rw [← bytesOf_len]; exact hj)
      rw [List.getD_eq_getElem?_getD, List.getElem?_eq_getElem hj] at this
      exact this
  have HA := hid hall
  clear hall
  go_enter Tryz.func82, Tryz.ntmps82
  go_wp2
  go_loop [3, 6] (fun _ i => ∃ k : Nat, k ≤ s.size ∧ i = .int .i64 k ∧ Hid (∀ j, j < k → visN ((bytesOf s).getD j 0) = true)) (fun _ i => s.size - (intOf i).toNat)
  case atStart => exact ⟨0, Nat.zero_le _, rfl, fun j hj => absurd hj (by omega)⟩
  case round =>
    obtain ⟨k, hk, rfl, HK⟩ := hrel
    by_cases hlt : k < s.size
    · have hi := index_str s .i64 (k : Int) k rfl hlt w
      have hc : (k : Int) < (s.size : Int) := by omega
      have hb : (bytesOf s).getD k 0 < 256 := getD_lt (by decide) (bytesOf_lt s) _
      obtain ⟨b, hbb⟩ : ∃ b, b = (bytesOf s).getD k 0 := ⟨_, rfl⟩
      rw [← hbb] at hi hb
      have HBB := hid hbb
      clear hbb
      by_cases h1 : b < 33
      · have h1' : (b : Int) < 33 := by omega
        have hv : visB s = false := by
          by_cases hv : visB s = true
          · have := HA.out.1 hv k hlt
            rw [← HBB.out] at this
            simp [visN] at this
            omega
          · simpa using hv
        have HV := hid hv
        clear hv h1
        go_wp2
        go_ret
        exact ⟨ret_bool HV.out.symm, rfl⟩
      · by_cases h2 : 126 < b
        · have h1' : ¬ (b : Int) < 33 := by omega
          have h2' : (126 : Int) < (b : Int) := by omega
          have hv : visB s = false := by
            by_cases hv : visB s = true
            · have := HA.out.1 hv k hlt
              rw [← HBB.out] at this
              simp [visN] at this
              omega
            · simpa using hv
          have HV := hid hv
          clear hv h1 h2
          go_wp2
          go_ret
          exact ⟨ret_bool HV.out.symm, rfl⟩
        · have h1' : ¬ (b : Int) < 33 := by omega
          have h2' : ¬ (126 : Int) < (b : Int) := by omega
          have hn : Hid (∀ j, j < k + 1 → visN ((bytesOf s).getD j 0) = true) := fun j hj => by
            by_cases e : j = k
            · subst e
              rw [← HBB.out]
              simp [visN]
              omega
            · exact HK.out j (by omega)
          clear h1 h2 hb
          go_wp2
          go_round
          case rel => exact ⟨k + 1, by omega, by go_num, hn⟩
          case measure => simp [intOf]; omega
    · have hk' : k = s.size := by omega
      subst hk'
      have hv : visB s = true := HA.out.2 HK.out
      have HV := hid hv
      clear hv
      go_wp2
      go_ret
      exact ⟨ret_bool HV.out.symm, rfl⟩
end Go.Proofs.YtplljpodejpbgaaGreatDoor
