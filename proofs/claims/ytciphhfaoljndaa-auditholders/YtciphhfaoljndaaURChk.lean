/-
  The document's Check.
-/
import Derived.Test.YtciphhfaoljndaaUHad
import Derived.Deep.RegionHeld3
namespace Go.Proofs.Ytciphhfaoljndaa
open Go.RowKit
set_option linter.unusedVariables false
set_option linter.unusedSimpArgs false

theorem bad_no {gs : List GrL} {k : Nat} (h : k < gs.length) (h1 : gs[k].2.1 = -1 ∨ gotB gs gs[k].2.1 gs[k].2.2.2 k = true) : badG gs k = false := by
  rw [badG_at h]
  rcases h1 with h1 | h1
  · simp [h1]
  · simp [h1]
theorem bad_yes {gs : List GrL} {k : Nat} (h : k < gs.length) (h1 : gs[k].2.1 ≠ -1) (h2 : gotB gs gs[k].2.1 gs[k].2.2.2 k = false) : badG gs k = true := by
  rw [badG_at h]
  simp [h1, h2]
theorem ret_two {a b c d : Int} (h : a = c) (h' : b = d) : (Ending.returned (.tuple #[.int .i64 a, .int .i64 b]) : Ending) = .returned (.tuple #[.int .i64 c, .int .i64 d]) := by rw [h, h']
set_option maxHeartbeats 2000000 in
theorem rcheck_any (v : Value) (gs : List GrL) (w : World) (hS : SeesG w v gs) (hI : InG gs) (hlen : gs.length ≤ 4611686018427387904) :
    Calls Try.prog 9 #[v] w fun e w' => e = .returned (.tuple #[.int .i64 (chkG gs).1, .int .i64 (chkG gs).2]) ∧ Below w.heap.size w w' := by
  have hS0 := hS
  have HE := hid (fun (who cat : Int) (n : Nat) => hadB_ever (gs := gs) (who := who) (cat := cat) (n := n) (fun g hg => (hI g hg).1.2))
  obtain ⟨R, hR⟩ : ∃ R, R = chkG gs := ⟨_, rfl⟩
  have HR := hid hR
  rw [← hR]
  clear hR
  obtain ⟨b, off, ao, cap, rfl, hcap, _, hao, hcell⟩ := hS
  have HS := hid hS0
  have HC := hid hcell
  clear hS0 hI hcell
  go_enter Try.func9, Try.ntmps9
  go_wp2
  go_loopw [4] (fun i wr => ∃ k : Nat, k ≤ gs.length ∧ i = .int .i64 k ∧ Hid (∀ j, j < k → badG gs j = false) ∧ Below w.heap.size w wr) (fun i _ => gs.length - (intOf i).toNat)
  case atStart => exact ⟨0, Nat.zero_le _, rfl, hid (fun j h => absurd h (Nat.not_lt_zero _)), Below.refl _ _⟩
  case round =>
    obtain ⟨k, hk, rfl, HN, hb⟩ := hrel
    by_cases hlg : k < gs.length
    · have hne : gs ≠ [] := by intro h; rw [h] at hlg; simp at hlg
      obtain rfl := hao hne
      obtain ⟨c1, c2, c3, c4⟩ := HC.out k hlg
      obtain ⟨V, hV⟩ : ∃ V, V = wr.drew := ⟨_, rfl⟩
      have hbV : Below w.heap.size w V := by rw [hV]; exact hb.drew
      have HV := hid hV
      have HB0 := hid hb
      have d2 := (hbV.cell (World.block_lt_of_cell? w _ c2)).trans c2
      have d4 := (hbV.cell (World.block_lt_of_cell? w _ c4)).trans c4
      have hno := bad_no hlg
      have hye := bad_yes hlg
      obtain ⟨x1, x2, x3, x4, hg⟩ : ∃ x1 x2 x3 x4 : Int, gs[k] = (x1, x2, x3, x4) := ⟨_, _, _, _, rfl⟩
      rw [hg] at d2 d4
      simp only [hg] at hno hye
      simp only at d2 d4
      have HNO := hid hno
      have HYE := hid hye
      have HB := hid hbV
      have hlg' : (k : Int) < (gs.length : Int) := by omega
      have hhad := hid (fun w' (hb' : Below w.heap.size w w') => had_any _ gs x2 x4 9223372036854775807 k w' (HS.out.below hb') hk hlen)
      clear hne hao c1 c2 c3 c4 hno hye hV hb hbV
      by_cases e1 : x2 = -1
      · have d2 := (HB0.out.cell (World.block_lt_of_cell? w _ (HC.out k hlg).2.1)).trans (HC.out k hlg).2.1
        rw [hg] at d2
        simp only at d2
        have f1 : (x2 != -1) = false := by simp [e1]
        have HY := hid (HNO.out (Or.inl e1))
        clear e1 HNO HYE hhad
        go_wp2
        go_quiet (fail)
        go_wp2
        go_roundw
        case rel => exact ⟨k + 1, by omega, by go_num, hid (fun j hj => by
          by_cases e : j = k
          · subst e; exact HY.out
          · exact HN.out j (by omega)), below_drewN HB0.out nq⟩
        case measure => simp [intOf]; omega
      · have f1 : (x2 != -1) = true := by simpa using e1
        cases hh : gotB gs x2 x4 k with
        | true =>
          have HY := hid (HNO.out (Or.inr hh))
          have HH := hid ((HE.out x2 x4 k).trans hh)
          clear e1 HNO HYE hh
          go_wp2_with fail
          go_region_held3 (fun X => X = V) (first | (exact HV.out.symm) | rfl | trace_state)
            (first | (go_at_call 19; refine (hhad.out _ HB.out).mono ?_; rintro e w7 ⟨rfl, hw7⟩; rw [HH.out]; subst hw7))
          all_goals
            go_wp2
            go_roundw
            case rel => exact ⟨k + 1, by omega, by go_num, hid (fun j hj => by
              by_cases e : j = k
              · subst e; exact HY.out
              · exact HN.out j (by omega)), HB.out⟩
            case measure => simp [intOf]; omega
        | false =>
          have HY := hid (HYE.out e1 hh)
          have HH := hid ((HE.out x2 x4 k).trans hh)
          clear e1 HNO HYE hh
          go_wp2_with fail
          go_region_held3 (fun X => X = V) (first | (exact HV.out.symm) | rfl | trace_state)
            (first | (go_at_call 19; refine (hhad.out _ HB.out).mono ?_; rintro e w7 ⟨rfl, hw7⟩; rw [HH.out]; subst hw7))
          all_goals
            go_wp2
            go_ret2
            have hc := chkG_bad hlg HY.out HN.out
            refine ⟨ret_two ?_ ?_, HB.out⟩
            · rw [HR.out, hc]
            · rw [HR.out, hc]
    · have hk' : k = gs.length := by omega
      subst hk'
      have HB := hid hb
      clear hb
      go_wp2
      go_ret2
      have hc := chkG_ok HN.out
      refine ⟨ret_two ?_ ?_, HB.out⟩
      · rw [HR.out, hc]
      · rw [HR.out, hc]
end Go.Proofs.Ytciphhfaoljndaa
