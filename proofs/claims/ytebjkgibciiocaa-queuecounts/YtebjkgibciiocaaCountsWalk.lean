/-
  The walk of QueueCounts.
-/
import Derived.Test.YtebjkgibciiocaaAwake
import Derived.Deep.DeepCutAuto
import Derived.Deep.CutBlock
import Derived.Deep.LoopGhost
namespace Go.Proofs.Ytebjkgibciiocaa
open Go.RowKit
set_option linter.unusedVariables false

set_option maxRecDepth 20000 in
set_option maxHeartbeats 4000000 in
theorem counts_good (room : Int) (v : Value) (zs : List Int) (w : World) (h1 : 1 ≤ room) (h2 : room ≤ 65536) (hV : Sees w v zs) (hn : zs.length ≤ 1152921504606846976) :
    Calls Try.prog 5 #[.int .i64 room, v] w fun e w' => e = .returned (.bool true) ∧ Below w.heap.size w w' := by
  obtain ⟨b, off, ao, cap, rfl, hcap, hnil, hao, hcell⟩ := hV
  have HC := hid hcell
  clear hcell
  go_enter Try.func5, Try.ntmps5
  go_wp2_with fail
  refine (new_B room _ h1 h2).mono ?_
  rintro e w1 ⟨rfl, hP⟩
  have HP0 := hid hP
  clear hP
  go_wp2_with fail
  go_loopg [7, 8, 9] zs.length (fun g pu ou i wr => ∃ (k pd ot d : Nat) (xs : List Int), k ≤ zs.length ∧ zs.length - k ≤ g ∧ pu = .int .i64 pd ∧ ou = .int .i64 ot ∧ i = .int .i64 k ∧ pd = d + ot + xs.length ∧ pd ≤ k ∧ QB w wr w.heap.size room d xs)
  case atStart => exact ⟨0, 0, 0, 0, [], Nat.zero_le _, by omega, rfl, rfl, rfl, rfl, Nat.le_refl _, HP0.out⟩
  case round =>
    clear HP0
    obtain ⟨k, pd, ot, d, xs, hk, hg, rfl, rfl, rfl, hsum, hpk, hP⟩ := hrel
    have hle := hP.le
    have hot : ot ≤ pd := by omega
    by_cases hlt : k < zs.length
    · obtain rfl := hao (by intro h; rw [h] at hlt; simp at hlt)
      obtain ⟨z, hz⟩ : ∃ z, z = zs.getD k 0 := ⟨_, rfl⟩
      have hc := HC.out k hlt
      rw [← hz] at hc
      have hc1 := (hP.bel.cell (World.block_lt_of_cell? w _ hc)).trans hc
      have HP := hid hP
      have HS := hid hsum
      clear hz hc hP hsum
      by_cases hneg : z < 0
      · cases xs with
        | nil =>
          go_wp2_with fail
          refine (popno_B _ _ _ _ _ HP.out).mono ?_
          rintro e w2 ⟨rfl, hw⟩
          subst hw
          go_wp2
          go_roundg (zs.length - (k + 1))
          case measure => omega
          case rel => exact ⟨k + 1, pd, ot, d, [], by omega, Nat.le_refl _, rfl, rfl, by go_num, HS.out, by omega, HP.out⟩
        | cons x t =>
          go_wp2_with fail
          refine (pop_B _ _ _ _ _ _ _ HP.out).mono ?_
          rintro e w2 ⟨rfl, h2⟩
          have H2 := hid h2
          clear h2 hc1
          go_wp2
          go_roundg (zs.length - (k + 1))
          case measure => omega
          case rel => exact ⟨k + 1, pd, ot + 1, d, t, by omega, Nat.le_refl _, rfl, by go_num, by go_num, by have := HS.out; rw [List.length_cons] at this; omega, by omega, H2.out⟩
      · by_cases hroom : (xs.length : Int) < room
        · go_wp2_with fail
          refine (push_B _ _ _ _ _ _ _ HP.out hroom).mono ?_
          rintro e w2 ⟨rfl, h3⟩
          have hb : ¬ room < (((xs ++ [z]).length : Nat) : Int) := by rw [List.length_append, List.length_singleton]; omega
          have hL := len_B _ _ _ _ _ _ h3
          have H2 := hid h3
          obtain ⟨nn, hnn⟩ : ∃ nn, nn = (xs ++ [z]).length := ⟨_, rfl⟩
          rw [← hnn] at hL hb
          have HN := hid hnn
          clear h3 hc1 hnn
          go_wp2_with fail
          refine hL.mono ?_
          clear hL
          rintro e w3 ⟨rfl, hw⟩
          subst hw
          go_wp2
          go_roundg (zs.length - (k + 1))
          case measure => omega
          case rel => exact ⟨k + 1, pd + 1, ot, d, xs ++ [z], by omega, Nat.le_refl _, by go_num, rfl, by go_num, by have := HS.out; rw [List.length_append, List.length_singleton]; omega, by omega, H2.out⟩
        · go_wp2_with fail
          have hsm := HS.out
          refine (full_B _ _ _ _ _ _ _ HP.out (by omega) (by omega) (by omega)).mono ?_
          rintro e w2 ⟨rfl, h3⟩
          have hb : ¬ room < (xs.length : Int) := by omega
          have hL := len_B _ _ _ _ _ _ h3
          have H2 := hid h3
          clear h3 hc1 hsm
          go_wp2_with fail
          refine hL.mono ?_
          clear hL
          rintro e w3 ⟨rfl, hw⟩
          subst hw
          go_wp2
          go_roundg (zs.length - (k + 1))
          case measure => omega
          case rel => exact ⟨k + 1, pd + 1, ot, d + 1, xs, by omega, Nat.le_refl _, by go_num, rfl, by go_num, by have := HS.out; omega, by omega, H2.out⟩
    · have hb : ((pd : Int) == (d : Int) + (ot : Int) + (xs.length : Int)) = true := by simp; omega
      have hw1 : IntKind.i64.wrap ((d : Int) + ot) = d + ot := by rw [IntKind.wrap_i64]; omega
      have hw2 : IntKind.i64.wrap ((d : Int) + ot + xs.length) = d + ot + xs.length := by rw [IntKind.wrap_i64]; omega
      have HP := hid hP
      clear hP hsum
      go_wp2_with fail
      refine (drops_B _ _ _ _ _ _ HP.out).mono ?_
      rintro e w2 ⟨rfl, hw⟩
      subst hw
      go_wp2_with fail
      refine (len_B _ _ _ _ _ _ HP.out).mono ?_
      rintro e w2 ⟨rfl, hw⟩
      subst hw
      go_wp2_with fail
      refine (items_B _ _ _ _ _ _ HP.out).mono ?_
      rintro e w3 ⟨v3, rfl, hO3, hB3⟩
      have hP3 := HP.out.below hB3
      obtain ⟨b3, off3, ao3, cap3, hv3, _⟩ := hO3.sees
      subst hv3
      have HP3 := hid hP3
      clear hP3 hO3 hB3 HP
      go_wp2_with fail
      refine (len_B _ _ _ _ _ _ HP3.out).mono ?_
      rintro e w4 ⟨rfl, hw⟩
      subst hw
      go_wp2_with fail
      refine (awake_any _).mono ?_
      rintro e w7 ⟨rfl, hB7⟩
      have hfin := (HP3.out.below hB7).bel
      clear hB7
      go_wp2
      go_ret
      exact ⟨rfl, hfin⟩

set_option maxRecDepth 20000 in
set_option maxHeartbeats 1000000 in
theorem counts_bad (room : Int) (v : Value) (w : World) (h : room < 1 ∨ 65536 < room) :
    Calls Try.prog 5 #[.int .i64 room, v] w fun e w' => e = .returned (.bool true) ∧ Below w.heap.size w w' := by
  have hN := new_bad room w h
  rcases h with h | h
  · go_enter Try.func5, Try.ntmps5
    go_wp2_with fail
    refine hN.mono ?_
    rintro e w1 ⟨rfl, hw1⟩
    subst hw1
    go_wp2_with fail
    refine (awake_any _).mono ?_
    rintro e w2 ⟨rfl, hB⟩
    go_wp2
    go_ret
    exact ⟨rfl, hB⟩
  · have h' : ¬ room < 1 := by omega
    go_enter Try.func5, Try.ntmps5
    go_wp2_with fail
    refine hN.mono ?_
    rintro e w1 ⟨rfl, hw1⟩
    subst hw1
    go_wp2_with fail
    refine (awake_any _).mono ?_
    rintro e w2 ⟨rfl, hB⟩
    go_wp2
    go_ret
    exact ⟨rfl, hB⟩

theorem counts_walk (room : Int) (v : Value) (zs : List Int) (w : World) (hV : Sees w v zs) (hn : zs.length ≤ 1152921504606846976) :
    Calls Try.prog 5 #[.int .i64 room, v] w fun e w' => e = .returned (.bool true) ∧ Below w.heap.size w w' := by
  by_cases h : 1 ≤ room ∧ room ≤ 65536
  · exact counts_good room v zs w h.1 h.2 hV hn
  · exact counts_bad room v w (by omega)

end Go.Proofs.Ytebjkgibciiocaa
