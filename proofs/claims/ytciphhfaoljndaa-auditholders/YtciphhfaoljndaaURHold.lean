/-
  The document's Holders.
-/
import Derived.Test.YtciphhfaoljndaaUHold
import Derived.Test.YtciphhfaoljndaaLRefOfWalk
namespace Go.Proofs.Ytciphhfaoljndaa
open Go.RowKit
set_option linter.unusedVariables false
set_option linter.unusedSimpArgs false

theorem hol_y {gs : List GrL} {cat step : Int} {k : Nat} (hk : k < gs.length) (h1 : gs[k].2.2.2 = cat) (h2 : gs[k].1 ≤ step) : holL gs cat step (k + 1) = holL gs cat step k ++ [gs[k].2.2.1] := by
  rw [holL_succ hk, if_pos ⟨h1, h2⟩]
theorem hol_n {gs : List GrL} {cat step : Int} {k : Nat} (hk : k < gs.length) (h1 : ¬ (gs[k].2.2.2 = cat ∧ gs[k].1 ≤ step)) : holL gs cat step (k + 1) = holL gs cat step k := by
  rw [holL_succ hk, if_neg h1]
set_option maxHeartbeats 4000000 in
theorem rholders_any (v : Value) (gs : List GrL) (cat step : Int) (w : World) (hS : SeesG w v gs) (hlen : gs.length ≤ 4398046511104) :
    Calls Try.prog 5 #[v, .int .i64 cat, .int .i64 step] w fun e w' => ∃ v', e = .returned (.tuple #[v', .int .i64 (holG gs cat step).2]) ∧ Owns w' w.heap.size v' (holG gs cat step).1 ∧ Below w.heap.size w w' := by
  obtain ⟨b, off, ao, cap, rfl, hcap, _, hao, hcell⟩ := hS
  have HC := hid hcell
  clear hcell
  by_cases a1 : cat < 1
  · have HV := hid (show holG gs cat step = ([], 1) by unfold holG; rw [if_pos (Or.inl a1)])
    go_enter Try.func5, Try.ntmps5
    go_wp2
    go_ret2
    rw [HV.out]
    exact ⟨_, rfl, World.ownsRow_nil _ _ _ _, Below.refl _ _⟩
  by_cases a2 : 2147483647 < cat
  · have HV := hid (show holG gs cat step = ([], 1) by unfold holG; rw [if_pos (Or.inr a2)])
    go_enter Try.func5, Try.ntmps5
    go_wp2
    go_ret2
    rw [HV.out]
    exact ⟨_, rfl, World.ownsRow_nil _ _ _ _, Below.refl _ _⟩
  have HV := hid (show holG gs cat step = (sd (holL gs cat step gs.length), 0) by unfold holG; rw [if_neg (by omega)])
  go_enter Try.func5, Try.ntmps5
  go_wp2
  go_loopw [8, 9] (fun o i wr => ∃ (k : Nat), k ≤ gs.length ∧ i = .int .i64 k ∧ Owns wr w.heap.size o (holL gs cat step k) ∧ Below w.heap.size w wr) (fun _ i _ => gs.length - (RowKit.intOf i).toNat)
  case atStart => exact ⟨0, Nat.zero_le _, rfl, World.ownsRow_nil _ _ _ _, Below.refl _ _⟩
  case round =>
    obtain ⟨k, hk, rfl, hown, hb⟩ := hrel
    by_cases hlg : k < gs.length
    · have hne : gs ≠ [] := by intro h; rw [h] at hlg; simp at hlg
      obtain rfl := hao hne
      obtain ⟨c1, c2, c3, c4⟩ := HC.out k hlg
      have d1 := (hb.cell (World.block_lt_of_cell? w _ c1)).trans c1
      have d2 := (hb.cell (World.block_lt_of_cell? w _ c2)).trans c2
      have d3 := (hb.cell (World.block_lt_of_cell? w _ c3)).trans c3
      have d4 := (hb.cell (World.block_lt_of_cell? w _ c4)).trans c4
      have hput := hol_y (cat := cat) (step := step) hlg
      have hskip := hol_n (cat := cat) (step := step) hlg
      obtain ⟨x1, x2, x3, x4, hg⟩ : ∃ x1 x2 x3 x4 : Int, gs[k] = (x1, x2, x3, x4) := ⟨_, _, _, _, rfl⟩
      rw [hg] at d1 d2 d3 d4 hput hskip
      simp only at d1 d2 d3 d4 hput hskip
      have HP := hid hput
      have HSK := hid hskip
      have hlg' : (k : Int) < (gs.length : Int) := by omega
      have hol := holL_len (gs := gs) (cat := cat) (step := step) (n := k)
      have hsz := hb.size
      have HB := hid hb
      clear hne hao c1 c2 c3 c4 hput hskip hb
      by_cases e1 : x4 = cat
      · have f1 : (x4 == cat) = true := by simpa using e1
        by_cases e2 : x1 ≤ step
        · have HY := hid (HP.out e1 e2)
          clear e1 HSK HP
          go_wp2_with (at_builtin; refine wpList_app rfl _ _ rfl w.heap.size _ _ rfl (Owns.below hown ((Below.refl _ _).alloc (Nat.le_refl _) _)) _ [x3] rfl (sees_one _ _) (by simp only [List.length_singleton]; omega) (by simp; omega) ?_; intro v4 w4 hO4 hG4)
          go_roundw
          case rel => exact ⟨k + 1, by omega, by go_num, by rw [HY.out]; exact hO4, (HB.out.alloc hsz _).grown hG4 (by simp; omega) (fun j hj => (hown.lt j hj).1)⟩
          case measure => simp [RowKit.intOf]; omega
        · have HY := hid (HSK.out (fun h => e2 h.2))
          clear e1 HSK HP
          go_wp2
          go_roundw
          case rel => exact ⟨k + 1, by omega, by go_num, by rw [HY.out]; exact hown, HB.out⟩
          case measure => simp [RowKit.intOf]; omega
      · have f1 : (x4 == cat) = false := by simpa using e1
        have HY := hid (HSK.out (fun h => e1 h.1))
        clear e1 HSK HP
        go_wp2
        go_roundw
        case rel => exact ⟨k + 1, by omega, by go_num, by rw [HY.out]; exact hown, HB.out⟩
        case measure => simp [RowKit.intOf]; omega
    · have hk' : k = gs.length := by omega
      subst hk'
      have hol := holL_len (gs := gs) (cat := cat) (step := step) (n := gs.length)
      have hof := hid (refOf_any _ _ wr hown.sees (by omega))
      have HB := hid hb
      have hsz := hb.size
      clear hb hown
      go_wp2_with fail
      refine hof.out.mono ?_
      rintro e w2 ⟨v2, rfl, hO2, hb2⟩
      go_wp2
      go_ret2
      rw [HV.out]
      exact ⟨_, rfl, ownsRow_base_a hO2 (by omega), HB.out.trans (hb2.mono (by omega))⟩
end Go.Proofs.Ytciphhfaoljndaa
