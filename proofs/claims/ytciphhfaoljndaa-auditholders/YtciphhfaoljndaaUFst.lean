/-
  The document's first.
-/
import Derived.Test.YtciphhfaoljndaaUHad
namespace Go.Proofs.Ytciphhfaoljndaa
open Go.RowKit
set_option linter.unusedVariables false
set_option linter.unusedSimpArgs false

theorem got_none {gs : List GrL} {who cat : Int} {k : Nat} (h : k < gs.length) (h0 : gotB gs who cat k = false) (h1 : ¬ (gs[k].2.2.1 = who ∧ gs[k].2.2.2 = cat)) : gotB gs who cat (k + 1) = false := by
  rw [gotB_succ h, h0, toB, Bool.false_or, decide_eq_false h1]
set_option maxHeartbeats 1000000 in
theorem rfirst_any (v : Value) (gs : List GrL) (who cat : Int) (w : World) (hS : SeesG w v gs) (hlen : gs.length ≤ 4611686018427387904) :
    Calls Try.prog 18 #[v, .int .i64 who, .int .i64 cat] w fun e w' => e = .returned (.int .i64 (fstI gs who cat)) ∧ w' = w := by
  obtain ⟨b, off, ao, cap, rfl, hcap, _, hao, hcell⟩ := hS
  go_enter Try.func18, Try.ntmps18
  go_wp2
  go_loop [7] (fun i => ∃ k : Nat, k ≤ gs.length ∧ i = .int .i64 k ∧ gotB gs who cat k = false) (fun i => gs.length - (intOf i).toNat)
  case atStart => exact ⟨0, Nat.zero_le _, rfl, rfl⟩
  case round =>
    obtain ⟨k, hk, rfl, hnot⟩ := hrel
    by_cases hlg : k < gs.length
    · have hne : gs ≠ [] := by intro h; rw [h] at hlg; simp at hlg
      obtain rfl := hao hne
      obtain ⟨c1, c2, c3, c4⟩ := hcell k hlg
      have hno := got_none (who := who) (cat := cat) hlg hnot
      have hye := fun a b => fstG_some (who := who) (cat := cat) hlg a b hnot
      obtain ⟨x1, x2, x3, x4, hg⟩ : ∃ x1 x2 x3 x4 : Int, gs[k] = (x1, x2, x3, x4) := ⟨_, _, _, _, rfl⟩
      rw [hg] at hno c1 c3 c4
      simp only [hg] at hye
      simp only at hno hye c1 c3 c4
      have HNO := hid hno
      have HYE := hid hye
      have HC := hid hcell
      have hlg' : (k : Int) < (gs.length : Int) := by omega
      clear hcell hnot hne hao c2 hg hno hye
      by_cases e1 : x3 = who
      · have d1 : (x3 == who) = true := by simpa using e1
        by_cases e2 : x4 = cat
        · have d2 : (x4 == cat) = true := by simpa using e2
          have HY := hid (HYE.out e1 e2)
          clear e1 e2 HNO HYE
          go_wp2
          go_ret
          exact ⟨ret_int (by unfold fstI; rw [HY.out]), rfl⟩
        · have d2 : (x4 == cat) = false := by simpa using e2
          have HY := hid (HNO.out (fun h => e2 h.2))
          clear e1 e2 HNO HYE
          go_wp2
          go_round
          case rel => exact ⟨k + 1, by omega, by go_num, HY.out⟩
          case measure => simp [intOf]; omega
      · have d1 : (x3 == who) = false := by simpa using e1
        have HY := hid (HNO.out (fun h => e1 h.1))
        clear e1 HNO HYE
        go_wp2
        go_round
        case rel => exact ⟨k + 1, by omega, by go_num, HY.out⟩
        case measure => simp [intOf]; omega
    · have hk' : k = gs.length := by omega
      subst hk'
      have HN := hid hnot
      clear hnot hcell
      go_wp2
      go_ret
      exact ⟨ret_int (by unfold fstI; rw [fstG_none HN.out]), rfl⟩
end Go.Proofs.Ytciphhfaoljndaa
