/-
  Whether two rows of texts are the same: the document's.
-/
import Derived.Test.YtfdjnkjiffdbfaaGreatDoorRPrint
import Derived.Test.YtfdjnkjiffdbfaaGreatDoorPow
import Derived.Test.YtfdjnkjiffdbfaaGreatDoorRVals
namespace Go.Proofs.YtfdjnkjiffdbfaaGreatDoor
open Go.RowKit
set_option linter.unusedVariables false

set_option maxRecDepth 20000 in
set_option maxHeartbeats 4000000 in
theorem texts_any (v1 v2 : Value) (l : List (List UInt8)) (w : World) (h1 : SeesS w v1 l) (h2 : SeesS w v2 l) (hbig : l.length ≤ 140737488355328) :
    Calls Tryz.prog 9 #[v1, v2] w fun e w' => e = .returned (.bool true) ∧ ∃ n, w' = w.drewN n := by
  obtain ⟨b1, o1, a1, c1, rfl, g1, _, ha1, hc1⟩ := h1
  obtain ⟨b2, o2, a2, c2, rfl, g2, _, ha2, hc2⟩ := h2
  have HC1 := hid hc1
  have HC2 := hid hc2
  clear hc1 hc2
  go_enter Tryz.func9, Tryz.ntmps9
  go_wp2_with fail
  go_loopw [5] (fun i wr => ∃ (k : Nat), k ≤ l.length ∧ i = .int .i64 (k : Int) ∧ ∃ n, wr = w.drewN n) (fun i _ => l.length - (intOf i).toNat)
  case atStart => exact ⟨0, Nat.zero_le _, rfl, 0, rfl⟩
  case round =>
    obtain ⟨k, hk, rfl, n, rfl⟩ := hrel
    by_cases hlt : k < l.length
    · have hlt' : (k : Int) < (l.length : Int) := by omega
      obtain rfl := ha1 (by intro h; rw [h] at hlt; simp at hlt)
      obtain rfl := ha2 (by intro h; rw [h] at hlt; simp at hlt)
      have d1 := HC1.out k hlt
      have d2 := HC2.out k hlt
      unfold strV at d1 d2
      obtain ⟨p, hp⟩ : ∃ p, p = l[k] := ⟨_, rfl⟩
      rw [← hp] at d1 d2
      clear hp
      go_wp2_with fail
      go_quiet (fail)
      go_wp2
      go_roundw
      case rel => exact ⟨k + 1, by omega, by go_num, _, rfl⟩
      case measure => simp [intOf]; omega
    · have hlt' : ¬ (k : Int) < (l.length : Int) := by omega
      go_wp2
      go_ret
      exact ⟨rfl, n, rfl⟩
end Go.Proofs.YtfdjnkjiffdbfaaGreatDoor
