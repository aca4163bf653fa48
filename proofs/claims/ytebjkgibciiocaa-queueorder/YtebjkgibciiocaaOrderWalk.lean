/-
  The walk of QueueOrder.
-/
import Derived.Test.YtebjkgibciiocaaTxtC
import Derived.Deep.DeepCutAuto
import Derived.Deep.CutBlock
import Derived.Deep.LoopGhost
namespace Go.Proofs.Ytebjkgibciiocaa
open Go.RowKit
set_option linter.unusedVariables false

theorem take_step {zs : List ByteArray} {m : Nat} {s : ByteArray} (hm : m < zs.length) (hs : s = zs.getD m ByteArray.empty) : zs.take m ++ [s] = zs.take (m + 1) := by
  rw [List.take_succ_eq_append_getElem hm, hs]
  simp [List.getD, hm]

theorem drop_step {zs : List ByteArray} {m i : Nat} {s : ByteArray} (hi : i < m) (hm : m ≤ zs.length) (hs : s = zs.getD i ByteArray.empty) : (zs.take m).drop i = s :: (zs.take m).drop (i + 1) := by
  have hl : i < (zs.take m).length := by rw [List.length_take]; omega
  rw [List.drop_eq_getElem_cons hl, hs]
  simp [List.getD, show i < zs.length by omega]

set_option maxRecDepth 20000 in
set_option maxHeartbeats 4000000 in
theorem order_good (r : Nat) (v : Value) (zs : List ByteArray) (w : World) (h1 : 1 ≤ r) (h2 : r ≤ 65536) (hV : Txt.Sees w v zs) (hn : zs.length ≤ 1152921504606846976) :
    Calls Try.prog 4 #[.int .i64 r, v] w fun e w' => e = .returned (.bool true) ∧ Below w.heap.size w w' := by
  obtain ⟨b, off, ao, cap, rfl, hcap, hnil, hao, hcell⟩ := hV
  have HC := hid hcell
  clear hcell
  go_enter Try.func4, Try.ntmps4
  go_wp2_with fail
  refine (Txt.new_B r _ (by omega) (by omega)).mono ?_
  rintro e w1 ⟨rfl, hP⟩
  have HP0 := hid hP
  clear hP
  go_wp2_with fail
  go_loopg [7] zs.length (fun g i wr => ∃ (k d m : Nat), k ≤ zs.length ∧ zs.length - k ≤ g ∧ i = .int .i64 k ∧ k = d + m ∧ m ≤ r ∧ (m < r → d = 0) ∧ Txt.QB w wr w.heap.size r d (zs.take m))
  case atStart => exact ⟨0, 0, 0, Nat.zero_le _, by omega, rfl, rfl, by omega, fun _ => rfl, HP0.out⟩
  case round =>
    clear HP0
    obtain ⟨k, d, m, hk, hg, rfl, hkd, hmr, hmd, hP⟩ := hrel
    have hml : (zs.take m).length = m := by rw [List.length_take]; omega
    by_cases hlt : k < zs.length
    · obtain rfl := hao (by intro h; rw [h] at hlt; simp at hlt)
      obtain ⟨s, hs⟩ : ∃ s, s = zs.getD k ByteArray.empty := ⟨_, rfl⟩
      have hc := HC.out k hlt
      rw [← hs] at hc
      have hc1 := (hP.bel.cell (World.block_lt_of_cell? w _ hc)).trans hc
      by_cases hroom : m < r
      · have hd0 := hmd hroom
        have hpu := Txt.push_B _ _ _ _ s _ _ hP (by rw [hml]; omega)
        rw [take_step (by omega) (by rw [show m = k by omega]; exact hs)] at hpu
        have HPU := hid hpu
        have hkr : (k : Int) < (r : Int) := by omega
        have HK := hid (And.intro hkd (And.intro hmr hd0))
        clear hpu hP hc hs hkd hmr hmd hd0 hml hroom
        go_wp2_with fail
        refine HPU.out.mono ?_
        clear HPU
        rintro e w2 ⟨rfl, h3⟩
        have H3 := hid h3
        clear h3 hc1
        go_wp2
        go_roundg (zs.length - (k + 1))
        case measure => omega
        case rel =>
          obtain ⟨q1, q2, q3⟩ := HK.out
          exact ⟨k + 1, d, m + 1, by omega, Nat.le_refl _, by go_num, by omega, by omega, fun _ => q3, H3.out⟩
      · have hpu := Txt.full_B _ _ _ _ s _ _ hP (by rw [hml]; omega) (by omega) (by omega)
        have HPU := hid hpu
        have hkr : ¬ (k : Int) < (r : Int) := by omega
        have HK := hid (And.intro hkd (And.intro hmr hroom))
        clear hpu hP hc hs hkd hmr hmd hml hroom
        go_wp2_with fail
        refine HPU.out.mono ?_
        clear HPU
        rintro e w2 ⟨rfl, h3⟩
        have H3 := hid h3
        clear h3 hc1
        go_wp2
        go_roundg (zs.length - (k + 1))
        case measure => omega
        case rel =>
          obtain ⟨q1, q2, q3⟩ := HK.out
          exact ⟨k + 1, d + 1, m, by omega, Nat.le_refl _, by go_num, by omega, by omega, fun q => absurd q q3, H3.out⟩
    · by_cases hq : r < zs.length
      · have hm : m = r := by
          by_cases hq2 : m < r
          · have := hmd hq2
            omega
          · omega
        subst hm
        have HP := hid hP
        have hmz : m ≤ zs.length := by omega
        have hdm : zs.length = d + m := by omega
        have HK := hid (And.intro hdm hml)
        clear hP hkd hmd hml hdm
        go_wp2_with fail
        try rw [decide_eq_false (show ¬ (k : Int) < (zs.length : Int) by omega)]
        have HLT := hid hlt
        clear hlt
        go_loopg [9] m (fun g i wq => ∃ (j : Nat), j ≤ m ∧ m - j ≤ g ∧ i = .int .i64 j ∧ Txt.QB w wq w.heap.size m d ((zs.take m).drop j))
        case atStart => exact ⟨0, Nat.zero_le _, by omega, rfl, by rw [List.drop_zero]; exact HP.out⟩
        case round =>
          clear HP
          obtain ⟨j, hj, hgj, rfl, hP⟩ := hrel
          by_cases hjm : j < m
          · obtain rfl := hao (by intro h; have h0 : zs.length = 0 := (by rw [h]; rfl); omega)
            obtain ⟨s, hs⟩ : ∃ s, s = zs.getD j ByteArray.empty := ⟨_, rfl⟩
            have hc := HC.out j (by omega)
            rw [← hs] at hc
            have hjz : (j : Int) < (zs.length : Int) := by omega
            rw [drop_step hjm hmz hs] at hP
            have hpo := Txt.pop_B _ _ _ _ _ _ _ hP
            have hbw : b < w.heap.size := World.block_lt_of_cell? w _ hc
            have HPO := hid hpo
            clear hpo hP hs
            go_wp2_with fail
            refine HPO.out.mono ?_
            clear HPO
            rintro e w2 ⟨rfl, h3⟩
            have hc2 := (h3.bel.cell (by exact hbw)).trans hc
            have H3 := hid h3
            clear h3 hc
            go_wp2
            go_roundg (m - (j + 1))
            case measure => omega
            case rel => exact ⟨j + 1, by omega, Nat.le_refl _, by go_num, H3.out⟩
          · have hje : (zs.take m).drop j = [] := by rw [List.drop_eq_nil_iff, List.length_take]; omega
            rw [hje] at hP
            have HP := hid hP
            have hb1 : ((d : Int) == (zs.length : Int) - (m : Int)) = true := by have := HK.out.1; simp; omega
            have hw1 : IntKind.i64.wrap ((zs.length : Int) - (m : Int)) = (zs.length : Int) - (m : Int) := by rw [IntKind.wrap_i64]; omega
            clear hP hje
            go_wp2_with fail
            refine (Txt.popno_B _ _ _ _ _ HP.out).mono ?_
            rintro e w2 ⟨rfl, hw⟩
            subst hw
            go_wp2_with fail
            refine (Txt.len_B _ _ _ _ _ _ HP.out).mono ?_
            rintro e w2 ⟨rfl, hw⟩
            subst hw
            go_wp2_with fail
            refine (Txt.drops_B _ _ _ _ _ _ HP.out).mono ?_
            rintro e w2 ⟨rfl, hw⟩
            subst hw
            have HB := hid HP.out.bel
            clear HP
            go_wp2_with fail
            refine (awake_any _).mono ?_
            rintro e w7 ⟨rfl, hB7⟩
            have hfin := HB.out.trans (hB7.mono HB.out.size)
            clear hB7
            go_wp2
            go_ret
            exact ⟨rfl, hfin⟩
      · have hm : m = zs.length := by
          by_cases hq2 : m < r
          · have := hmd hq2
            omega
          · omega
        subst hm
        have HP := hid hP
        have hmz : zs.length ≤ zs.length := by omega
        have hdm : zs.length = d + zs.length := by omega
        have HK := hid (And.intro hdm hml)
        clear hP hkd hmd hml hdm
        go_wp2_with fail
        try rw [decide_eq_false (show ¬ (k : Int) < (zs.length : Int) by omega)]
        have HLT := hid hlt
        clear hlt
        go_loopg [9] zs.length (fun g i wq => ∃ (j : Nat), j ≤ zs.length ∧ zs.length - j ≤ g ∧ i = .int .i64 j ∧ Txt.QB w wq w.heap.size r d ((zs.take zs.length).drop j))
        case atStart => exact ⟨0, Nat.zero_le _, by omega, rfl, by rw [List.drop_zero]; exact HP.out⟩
        case round =>
          clear HP
          obtain ⟨j, hj, hgj, rfl, hP⟩ := hrel
          by_cases hjm : j < zs.length
          · obtain rfl := hao (by intro h; have h0 : zs.length = 0 := (by rw [h]; rfl); omega)
            obtain ⟨s, hs⟩ : ∃ s, s = zs.getD j ByteArray.empty := ⟨_, rfl⟩
            have hc := HC.out j (by omega)
            rw [← hs] at hc
            have hjz : (j : Int) < (zs.length : Int) := by omega
            rw [drop_step hjm hmz hs] at hP
            have hpo := Txt.pop_B _ _ _ _ _ _ _ hP
            have hbw : b < w.heap.size := World.block_lt_of_cell? w _ hc
            have HPO := hid hpo
            clear hpo hP hs
            go_wp2_with fail
            refine HPO.out.mono ?_
            clear HPO
            rintro e w2 ⟨rfl, h3⟩
            have hc2 := (h3.bel.cell (by exact hbw)).trans hc
            have H3 := hid h3
            clear h3 hc
            go_wp2
            go_roundg (zs.length - (j + 1))
            case measure => omega
            case rel => exact ⟨j + 1, by omega, Nat.le_refl _, by go_num, H3.out⟩
          · have hje : (zs.take zs.length).drop j = [] := by rw [List.drop_eq_nil_iff, List.length_take]; omega
            rw [hje] at hP
            have HP := hid hP
            have hb1 : ((d : Int) == (zs.length : Int) - (zs.length : Int)) = true := by have := HK.out.1; simp; omega
            have hb2 : ((d : Int) == 0) = true := by have := HK.out.1; simp; omega
            have hw1 : IntKind.i64.wrap ((zs.length : Int) - (zs.length : Int)) = (zs.length : Int) - (zs.length : Int) := by rw [IntKind.wrap_i64]; omega
            clear hP hje
            go_wp2_with fail
            refine (Txt.popno_B _ _ _ _ _ HP.out).mono ?_
            rintro e w2 ⟨rfl, hw⟩
            subst hw
            go_wp2_with fail
            refine (Txt.len_B _ _ _ _ _ _ HP.out).mono ?_
            rintro e w2 ⟨rfl, hw⟩
            subst hw
            go_wp2_with fail
            refine (Txt.drops_B _ _ _ _ _ _ HP.out).mono ?_
            rintro e w2 ⟨rfl, hw⟩
            subst hw
            have HB := hid HP.out.bel
            clear HP
            go_wp2_with fail
            refine (awake_any _).mono ?_
            rintro e w7 ⟨rfl, hB7⟩
            have hfin := HB.out.trans (hB7.mono HB.out.size)
            clear hB7
            go_wp2
            go_ret
            exact ⟨rfl, hfin⟩

set_option maxRecDepth 20000 in
set_option maxHeartbeats 1000000 in
theorem order_bad (room : Int) (v : Value) (w : World) (h : room < 1 ∨ 65536 < room) :
    Calls Try.prog 4 #[.int .i64 room, v] w fun e w' => e = .returned (.bool true) ∧ Below w.heap.size w w' := by
  have hN := Txt.new_bad room w h
  rcases h with h | h
  · go_enter Try.func4, Try.ntmps4
    go_wp2_with fail
    refine hN.mono ?_
    rintro e w1 ⟨rfl, hw1⟩
    subst hw1
    go_wp2_with fail
    refine (awake_any _).mono ?_
    rintro e w2 ⟨rfl, hB⟩
    go_wp2
    go_ret
    exact ⟨rfl, hB⟩
  · have h' : ¬ room < 1 := by omega
    go_enter Try.func4, Try.ntmps4
    go_wp2_with fail
    refine hN.mono ?_
    rintro e w1 ⟨rfl, hw1⟩
    subst hw1
    go_wp2_with fail
    refine (awake_any _).mono ?_
    rintro e w2 ⟨rfl, hB⟩
    go_wp2
    go_ret
    exact ⟨rfl, hB⟩

theorem order_walk (room : Int) (v : Value) (zs : List ByteArray) (w : World) (hV : Txt.Sees w v zs) (hn : zs.length ≤ 1152921504606846976) :
    Calls Try.prog 4 #[.int .i64 room, v] w fun e w' => e = .returned (.bool true) ∧ Below w.heap.size w w' := by
  by_cases h : 1 ≤ room ∧ room ≤ 65536
  · obtain ⟨r, rfl⟩ : ∃ r : Nat, room = (r : Int) := ⟨room.toNat, by omega⟩
    exact order_good r v zs w (by omega) (by omega) hV hn
  · exact order_bad room v w (by omega)

end Go.Proofs.Ytebjkgibciiocaa
