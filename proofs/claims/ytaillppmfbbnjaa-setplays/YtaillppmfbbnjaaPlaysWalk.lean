/-
  The walk of SetPlays.
-/
import Derived.Test.YtaillppmfbbnjaaPlaysState
import Derived.Deep.DeepCutAuto
import Derived.Deep.CutBlock
import Derived.Deep.LoopGhost
namespace Go.Proofs.Ytaillppmfbbnjaa
open Go.RowKit Go.Deep
set_option linter.unusedVariables false

/-- The script's calls, as the memory holds them. -/
def Script (w : World) (v : Value) (ks qs : Nat → Int) (n : Nat) : Prop :=
  ∃ b off ao cap, v = .slice ao n cap ∧ n ≤ cap ∧ (0 < n → ao = some ⟨b, off, none⟩) ∧ ∀ j, j < n → w.cell? ⟨b, off + j * 2, none⟩ = some (.int .i64 (ks j)) ∧ w.cell? ⟨b, off + j * 2 + 1, none⟩ = some (.int .i64 (qs j))

set_option maxRecDepth 20000 in
set_option maxHeartbeats 8000000 in
theorem plays_good (room : Int) (v : Value) (ks qs : Nat → Int) (n : Nat) (w : World) (h1 : 1 ≤ room) (h2 : room ≤ 64) (hV : Script w v ks qs n) (hn : n ≤ 9223372036854775807) :
    Calls Try.prog 5 #[.int .i64 room, v] w fun e w' => e = .returned (.bool true) ∧ Below w.heap.size w w' := by
  obtain ⟨b, off, ao, cap, rfl, hcap, hao, hcell⟩ := hV
  have HC := hid hcell
  clear hcell
  go_enter Try.func5, Try.ntmps5
  go_wp2_with fail
  refine (new_any room _ h1 h2).mono ?_
  rintro e w1 ⟨rfl, hL, hB⟩
  have hP0 : PlayS w w.heap.size room (.slice none 0 0) (.slice none 0 0) (.pointer none) (.slice none 0 0) [] w1 :=
    ⟨⟨hL, World.ownsRow_nil _ _ _ _, by simp, by simp; omega, h1, h2⟩, World.ownsRow_nil _ _ _ _, Or.inl rfl, ⟨Or.inl rfl, hB, Nat.le_refl _, fun j hj => by simp [Value.ownBlock] at hj⟩⟩
  have HP0 := hid hP0
  clear hP0 hL hB
  go_wp2_with fail
  go_loopg [7, 8, 9, 10] n (fun g l o c i wr => ∃ (k : Nat) (lv : Value) (xs : List Int), k ≤ n ∧ n - k ≤ g ∧ i = .int .i64 k ∧ PlayS w w.heap.size room l o c lv xs wr)
  case atStart => exact ⟨0, _, _, Nat.zero_le _, by omega, rfl, HP0.out⟩
  case round =>
    clear HP0
    obtain ⟨k, lv, xs, hk, hg, rfl, hP⟩ := hrel
    by_cases hlt : k < n
    · obtain rfl := hao (by omega)
      obtain ⟨kk, hkk⟩ : ∃ kk, kk = ks k := ⟨_, rfl⟩
      obtain ⟨x, hx⟩ : ∃ x, x = qs k := ⟨_, rfl⟩
      have hc := HC.out k hlt
      have hbw : b < w.heap.size := World.block_lt_of_cell? w _ hc.1
      rw [← hkk, ← hx] at hc
      have hc1 := (hP.rest.bel.cell (by exact hbw)).trans hc.1
      have hc2 := (hP.rest.bel.cell (by exact hbw)).trans hc.2
      clear hkk hx hc
      have HP := hid hP
      have hlen := hP.len
      clear hP
      go_upto_block 2 with fail
      go_cut [7, 8, 9] (fun l o c wq => ∃ (lv : Value) (xs : List Int), PlayS w w.heap.size room l o c lv xs wq)
      case first =>
        by_cases hk1 : kk = 1
        · have k1 : (kk == 1) = true := by simpa using hk1
          clear hk1
          obtain ⟨ao7, cap7, hv7⟩ := HP.out.shape
          subst hv7
          by_cases hin : x ∈ xs
          · go_wp2_with fail
            refine (has_any _ xs x _ (HP.out.list.sees) (by omega)).mono ?_
            rintro e w2 ⟨rfl, hw2⟩
            subst hw2
            go_wp2_with fail
            refine (add_same _ room x lv xs _ HP.out.set hin).mono ?_
            rintro e w3 ⟨rfl, hB3⟩
            have hP3 := HP.out.below hB3
            have hl3 := hP3.list
            go_wp2_with fail
            have hJ := refJoin_any _ _ xs [x] _ (hl3.sees.below ((Below.refl _ _).alloc (Nat.le_refl _) _)) (sees_one w3 x) (by simp only [List.length_singleton]; omega)
            refine hJ.mono ?_
            clear hJ
            rintro e w4 ⟨v4, rfl, hO4, hB4⟩
            have hB5 : Below w3.heap.size w3 w4 := ((Below.refl _ _).alloc (Nat.le_refl _) _).trans (hB4.mono (by simp))
            have hfin := PlayC.list hP3.rest hP3.set (by rw [← sd_in hP3.set.rises hin]; exact hO4) (by simp) hB5
            clear hO4 hB4 hB5 hP3 hl3 hB3 HP hc1 hc2
            go_wp2_with fail
            go_meet
            exact ⟨_, _, hfin⟩
          · by_cases hfull : (xs.length : Int) = room
            · have hfb : ((xs.length : Int) == room) = true := by simpa using hfull
              have HFU := hid hfull
              clear hfull
              go_wp2_with fail
              refine (has_any _ xs x _ (HP.out.list.sees) (by omega)).mono ?_
              rintro e w2 ⟨rfl, hw2⟩
              subst hw2
              go_wp2_with fail
              refine (add_over _ room x lv xs _ HP.out.set hin HFU.out).mono ?_
              rintro e w3 ⟨rfl, hB3⟩
              have hfin := HP.out.below hB3
              clear hB3 HP hc1 hc2
              go_wp2_with fail
              go_meet
              exact ⟨_, _, hfin⟩
            · have hfb : ((xs.length : Int) == room) = false := by simpa using hfull
              go_wp2_with fail
              refine (has_any _ xs x _ (HP.out.list.sees) (by omega)).mono ?_
              rintro e w2 ⟨rfl, hw2⟩
              subst hw2
              go_wp2_with fail
              have hles := HP.out.set.le
              refine (add_put _ room x lv xs _ HP.out.set hin (by omega)).mono ?_
              rintro e w3 ⟨rfl, lv3, hS3, hT3, hF3⟩
              obtain ⟨hl3, ha3, hc3⟩ := HP.out.turn hT3 hF3
              go_wp2_with fail
              have hJ := refJoin_any _ _ xs [x] _ (hl3.sees.below ((Below.refl _ _).alloc (Nat.le_refl _) _)) (sees_one w3 x) (by simp only [List.length_singleton]; omega)
              refine hJ.mono ?_
              clear hJ
              rintro e w4 ⟨v4, rfl, hO4, hB4⟩
              have hB5 : Below w3.heap.size w3 w4 := ((Below.refl _ _).alloc (Nat.le_refl _) _).trans (hB4.mono (by simp))
              have hfin := PlayC.list hc3 hS3 hO4 (by simp) hB5
              clear hO4 hB4 hB5 hS3 hT3 hF3 hl3 ha3 hc3 HP hc1 hc2
              go_wp2_with fail
              go_meet
              exact ⟨_, _, hfin⟩
        · by_cases hk2 : kk = 2
          · have k1 : (kk == 1) = false := by simpa using hk1
            have k2 : (kk == 2) = true := by simpa using hk2
            clear hk2
            obtain ⟨ao7, cap7, hv7⟩ := HP.out.shape
            subst hv7
            by_cases hin : x ∈ xs
            · go_wp2_with fail
              refine (del_put _ room x lv xs _ HP.out.set hin).mono ?_
              rintro e w3 ⟨rfl, lv3, hS3, hT3, hF3⟩
              obtain ⟨hl3, ha3, hc3⟩ := HP.out.turn hT3 hF3
              go_wp2_with fail
              refine (has_any _ xs x _ (hl3.sees) (by omega)).mono ?_
              rintro e w2 ⟨rfl, hw2⟩
              subst hw2
              go_wp2_with fail
              have hJ := refLess_any _ _ xs [x] _ (hl3.sees.below ((Below.refl _ _).alloc (Nat.le_refl _) _)) (sees_one w2 x) (by simp only [List.length_singleton]; omega)
              refine hJ.mono ?_
              clear hJ
              rintro e w4 ⟨v4, rfl, hO4, hB4⟩
              have hB5 : Below w2.heap.size w2 w4 := ((Below.refl _ _).alloc (Nat.le_refl _) _).trans (hB4.mono (by simp))
              have hfin := PlayC.list hc3 hS3 hO4 (by simp) hB5
              clear hO4 hB4 hB5 hS3 hT3 hF3 hl3 ha3 hc3 HP hc1 hc2
              go_wp2_with fail
              go_meet
              exact ⟨_, _, hfin⟩
            · go_wp2_with fail
              refine (del_not _ room x lv xs _ HP.out.set hin).mono ?_
              rintro e w3 ⟨rfl, hB3⟩
              have hP3 := HP.out.below hB3
              have hl3 := hP3.list
              go_wp2_with fail
              refine (has_any _ xs x _ (hl3.sees) (by omega)).mono ?_
              rintro e w2 ⟨rfl, hw2⟩
              subst hw2
              go_wp2_with fail
              have hJ := refLess_any _ _ xs [x] _ (hl3.sees.below ((Below.refl _ _).alloc (Nat.le_refl _) _)) (sees_one w2 x) (by simp only [List.length_singleton]; omega)
              refine hJ.mono ?_
              clear hJ
              rintro e w4 ⟨v4, rfl, hO4, hB4⟩
              have hB5 : Below w2.heap.size w2 w4 := ((Below.refl _ _).alloc (Nat.le_refl _) _).trans (hB4.mono (by simp))
              have hfin := PlayC.list hP3.rest hP3.set (by rw [← less_out hP3.set.rises hin]; exact hO4) (by simp) hB5
              clear hO4 hB4 hB5 hP3 hl3 hB3 HP hc1 hc2
              go_wp2_with fail
              go_meet
              exact ⟨_, _, hfin⟩
          · by_cases hk4 : kk = 4
            · have k1 : (kk == 1) = false := by simpa using hk1
              have k2 : (kk == 2) = false := by simpa using hk2
              have k4 : (kk == 4) = true := by simpa using hk4
              clear hk4
              go_wp2_with fail
              refine (copyO_any _ room lv xs _ HP.out.set).mono ?_
              rintro e w3 ⟨p3, lv3, rfl, hp3, hS3, hF3, hB3⟩
              have hfin := HP.out.copied hS3 hp3 hF3 hB3
              clear hS3 hF3 hB3 HP hc1 hc2
              go_wp2_with fail
              go_meet
              exact ⟨_, _, hfin⟩
            · have k1 : (kk == 1) = false := by simpa using hk1
              have k2 : (kk == 2) = false := by simpa using hk2
              have k4 : (kk == 4) = false := by simpa using hk4
              have hfin := HP.out
              clear HP hc1 hc2
              go_wp2_with fail
              go_meet
              exact ⟨_, _, hfin⟩
      case rest =>
        obtain ⟨lv2, ys, hP2⟩ := hcut
        clear HP hc1 hc2 hlen
        have hlen := hP2.len
        obtain ⟨ao7, cap7, hv7⟩ := hP2.shape
        subst hv7
        have HP := hid hP2
        clear hP2
        go_wp2_with fail
        refine (listO_any _ room lv2 ys _ HP.out.set).mono ?_
        rintro e w3 ⟨got, rfl, hO3, hB3⟩
        have hP3 := HP.out.below hB3
        go_wp2_with fail
        have hM := same_any _ _ ys ys _ hO3.sees hP3.list.sees (by omega) (by omega)
        rw [decide_eq_true (rfl : ys = ys)] at hM
        refine hM.mono ?_
        clear hM
        rintro e w4 ⟨rfl, hB4⟩
        have hZ4 : Below wc.heap.size wc w4 := hB3.trans (hB4.mono hB3.size)
        have hO4 := hO3.below hB4
        have hP4 := HP.out.below hZ4
        clear hO3 hP3 hB3 hB4
        go_wp2_with fail
        refine (lenO_any _ room lv2 ys _ hP4.set).mono ?_
        rintro e w5 ⟨rfl, hw5⟩
        subst hw5
        obtain ⟨bb, hbb⟩ : ∃ bb, bb = decide (x ∈ ys) := ⟨_, rfl⟩
        have hH := hasO_any _ room x lv2 ys _ hP4.set
        rw [← hbb] at hH
        have HBB := hid hbb
        clear hbb
        go_wp2_with fail
        refine hH.mono ?_
        clear hH
        rintro e w6 ⟨rfl, hB6⟩
        have hZ6 := hZ4.trans (hB6.mono hZ4.size)
        have hO6 := hO4.below hB6
        have hP6 := HP.out.below hZ6
        clear hO4 hP4 hB6 hZ4
        have hH := has_any _ ys x _ hP6.list.sees (by omega)
        rw [← HBB.out] at hH
        go_wp2_with fail
        refine hH.mono ?_
        clear hH
        rintro e w7 ⟨rfl, hw7⟩
        subst hw7
        have hbb2 : (bb != bb) = false := by simp
        have hcs := hP6.rest.copy
        rcases hcs with rfl | ⟨pc, lvc, zs, rfl, hpc, hSc, hac, hoc, hao2⟩
        · go_wp2_with fail
          refine (spoil_any got ys _ _ hO6 (by omega) hZ6.size).mono ?_
          rintro e w8 ⟨rfl, hG8⟩
          have hZ8 : Below wc.heap.size wc w8 := hZ6.grown hG8 hZ6.size (fun jj hj => (hO6.lt jj hj).1)
          have hfin := HP.out.below hZ8
          clear hO6 hP6 hZ6 hG8 hZ8 HP
          go_wp2
          go_roundg (n - (k + 1))
          case measure => omega
          case rel => exact ⟨k + 1, _, _, by omega, Nat.le_refl _, by go_num, hfin⟩
        · have hzl : zs.length ≤ 64 := by
            have q1 := hSc.le
            have q2 := hSc.r64
            omega
          go_wp2_with fail
          refine (listO_any _ room lvc zs _ hSc).mono ?_
          rintro e wa ⟨ga, rfl, hOa, hBa⟩
          have hZa := hZ6.trans (hBa.mono hZ6.size)
          have hO6a := hO6.below hBa
          have hoca := hoc.below hBa
          clear hO6 hP6 hZ6 hBa hoc hSc hac hao2
          go_wp2_with fail
          have hM := same_any _ _ zs zs _ hOa.sees hoca.sees (by omega) (by omega)
          rw [decide_eq_true (rfl : zs = zs)] at hM
          refine hM.mono ?_
          clear hM
          rintro e wb ⟨rfl, hBb⟩
          have hZb := hZa.trans (hBb.mono hZa.size)
          have hO6b := hO6a.below hBb
          clear hZa hO6a hBb hOa hoca
          go_wp2_with fail
          refine (spoil_any got ys _ _ hO6b (by omega) hZb.size).mono ?_
          rintro e w8 ⟨rfl, hG8⟩
          have hZ8 : Below wc.heap.size wc w8 := hZb.grown hG8 hZb.size (fun jj hj => (hO6b.lt jj hj).1)
          have hfin := HP.out.below hZ8
          clear hO6b hZb hG8 hZ8 HP
          go_wp2
          go_roundg (n - (k + 1))
          case measure => omega
          case rel => exact ⟨k + 1, _, _, by omega, Nat.le_refl _, by go_num, hfin⟩
    · have hlen := hP.len
      obtain ⟨ao7, cap7, hv7⟩ := hP.shape
      subst hv7
      have HP := hid hP
      clear hP
      go_wp2_with fail
      refine (listO_any _ room lv xs _ HP.out.set).mono ?_
      rintro e w3 ⟨got, rfl, hO3, hB3⟩
      have hP3 := HP.out.below hB3
      go_wp2_with fail
      have hM := same_any _ _ xs xs _ hO3.sees hP3.list.sees (by omega) (by omega)
      rw [decide_eq_true (rfl : xs = xs)] at hM
      refine hM.mono ?_
      clear hM
      rintro e w4 ⟨rfl, hB4⟩
      have hZ4 : Below wr.heap.size wr w4 := hB3.trans (hB4.mono hB3.size)
      have hP4 := HP.out.below hZ4
      clear hO3 hP3 hB3 hB4 hZ4
      obtain ⟨bg, hbg⟩ : ∃ bg : Int, bg = 1152921504606846976 := ⟨_, rfl⟩
      by_cases hin : bg ∈ xs
      · go_wp2_with fail
        have hD := del_put _ room bg lv xs _ hP4.set hin
        rw [hbg] at hD
        refine hD.mono ?_
        clear hD
        rintro e w5 ⟨rfl, lv5, hS5, hT5, hF5⟩
        obtain ⟨hl5, ha5, hc5⟩ := hP4.turn hT5 hF5
        go_wp2_with fail
        have hH := has_any _ xs bg _ hl5.sees (by omega)
        rw [decide_eq_true hin, hbg] at hH
        refine hH.mono ?_
        clear hH
        rintro e w6 ⟨rfl, hw6⟩
        subst hw6
        go_wp2_with fail
        refine (awake_any _).mono ?_
        rintro e w7 ⟨rfl, hB7⟩
        have hfin := (hc5.below hB7).bel
        clear hS5 hT5 hF5 hl5 ha5 hc5 hP4 HP hB7
        go_wp2
        go_ret
        exact ⟨rfl, hfin⟩
      · go_wp2_with fail
        have hD := del_not _ room bg lv xs _ hP4.set hin
        rw [hbg] at hD
        refine hD.mono ?_
        clear hD
        rintro e w5 ⟨rfl, hB5⟩
        have hP5 := hP4.below hB5
        go_wp2_with fail
        have hH := has_any _ xs bg _ hP5.list.sees (by omega)
        rw [decide_eq_false hin, hbg] at hH
        refine hH.mono ?_
        clear hH
        rintro e w6 ⟨rfl, hw6⟩
        subst hw6
        go_wp2_with fail
        refine (awake_any _).mono ?_
        rintro e w7 ⟨rfl, hB7⟩
        have hfin := (hP5.below hB7).rest.bel
        clear hP5 hB5 hP4 HP hB7
        go_wp2
        go_ret
        exact ⟨rfl, hfin⟩

end Go.Proofs.Ytaillppmfbbnjaa
