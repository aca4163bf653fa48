/-
  The document's had, first, Check.
-/
import Derived.Test.YtciphhfaoljndaaUBase
namespace Go.Proofs.Ytciphhfaoljndaa
open Go.RowKit
set_option linter.unusedVariables false
set_option linter.unusedSimpArgs false

theorem ret_int {a b : Int} (h : a = b) : Ending.returned (.int .i64 a) = .returned (.int .i64 b) := by rw [h]
set_option maxHeartbeats 1000000 in
theorem had_any (v : Value) (gs : List GrL) (who cat step : Int) (n : Nat) (w : World) (hS : SeesG w v gs) (hn : n ≤ gs.length) (hlen : gs.length ≤ 4611686018427387904) :
    Calls Try.prog 19 #[v, .int .i64 who, .int .i64 cat, .int .i64 step, .int .i64 (n : Int)] w fun e w' => e = .returned (.bool (hadB gs who cat step n)) ∧ w' = w := by
  obtain ⟨b, off, ao, cap, rfl, hcap, _, hao, hcell⟩ := hS
  go_enter Try.func19, Try.ntmps19
  go_wp2
  go_loop [11] (fun i => ∃ k : Nat, k ≤ n ∧ i = .int .i64 k ∧ hadB gs who cat step k = false) (fun i => n - (intOf i).toNat)
  case atStart => exact ⟨0, Nat.zero_le _, rfl, rfl⟩
  case round =>
    obtain ⟨k, hk, rfl, hnot⟩ := hrel
    by_cases hlt : k < n
    · have hlg : k < gs.length := by omega
      have hne : gs ≠ [] := by intro h; rw [h] at hlg; simp at hlg
      obtain rfl := hao hne
      obtain ⟨c1, c2, c3, c4⟩ := hcell k hlg
      have HC : Hid (∀ j, (h : j < gs.length) → w.cell? ⟨b, off + j * 4, none⟩ = some (.int .i64 gs[j].1) ∧ w.cell? ⟨b, off + j * 4 + 1, none⟩ = some (.int .i64 gs[j].2.1) ∧ w.cell? ⟨b, off + j * 4 + 2, none⟩ = some (.int .i64 gs[j].2.2.1) ∧ w.cell? ⟨b, off + j * 4 + 3, none⟩ = some (.int .i64 gs[j].2.2.2)) := hcell
      have HN := hid hnot
      have hno := hadB_none (who := who) (cat := cat) (step := step) hlg hnot
      have hye := hadB_some (who := who) (cat := cat) (step := step) (n := n) hlg hlt
      obtain ⟨x1, x2, x3, x4, hg⟩ : ∃ x1 x2 x3 x4 : Int, gs[k] = (x1, x2, x3, x4) := ⟨_, _, _, _, rfl⟩
      rw [hg] at hno hye c1 c3 c4
      simp only at hno hye c1 c3 c4
      have HNO := hid hno
      have HYE := hid hye
      clear hno hye
      have hlt' : (k : Int) < (n : Int) := by omega
      have hlg' : (k : Int) < (gs.length : Int) := by omega
      clear hcell hnot hne hao c2 hg
      by_cases e1 : x3 = who
      · have d1 : (x3 == who) = true := by simpa using e1
        by_cases e2 : x4 = cat
        · have d2 : (x4 == cat) = true := by simpa using e2
          by_cases e3 : x1 ≤ step
          · have HY := hid (HYE.out e1 e2 e3)
            clear e1 e2 HNO HYE
            go_wp2
            go_ret
            exact ⟨ret_bool HY.out.symm, rfl⟩
          · have HY := hid (HNO.out (fun h => e3 h.2.2))
            clear e1 e2 HNO HYE
            go_wp2
            go_round
            case rel => exact ⟨k + 1, by omega, by go_num, HY.out⟩
            case measure => simp [intOf]; omega
        · have d2 : (x4 == cat) = false := by simpa using e2
          have HY := hid (HNO.out (fun h => e2 h.2.1))
          clear e1 e2 HNO HYE
          go_wp2
          go_round
          case rel => exact ⟨k + 1, by omega, by go_num, HY.out⟩
          case measure => simp [intOf]; omega
      · have d1 : (x3 == who) = false := by simpa using e1
        have HY := hid (HNO.out (fun h => e1 h.1))
        clear e1 HNO HYE
        go_wp2
        go_round
        case rel => exact ⟨k + 1, by omega, by go_num, HY.out⟩
        case measure => simp [intOf]; omega
    · have hk' : k = n := by omega
      subst hk'
      have HN := hid hnot
      clear hnot hcell
      go_wp2
      go_ret
      exact ⟨ret_bool HN.out.symm, rfl⟩
end Go.Proofs.Ytciphhfaoljndaa
