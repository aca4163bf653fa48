/-
  The walks of the laws CodeParses, CodeAgain.
-/
import Derived.Test.YtkidcoolcjmcfaaDoorCRParse
import Derived.Test.YtkidcoolcjmcfaaDoorCSame
namespace Go.Proofs.YtkidcoolcjmcfaaDoor
open Go.RowKit
set_option linter.unusedVariables false
set_option linter.unusedSimpArgs false
set_option maxRecDepth 100000

theorem par_few (s : List UInt8) : (parC s).1.length ≤ 1024 := by
  by_cases h : (parC s).2.1 = 0
  · have hc := par_ok h
    rcases check_cases (parC s).1 with e | ⟨e, _⟩ | ⟨_, _, _, e⟩
    · rw [e] at hc; cases hc
    · rw [e] at hc; cases hc
    · exact e
  · rw [par_no h]; simp
set_option maxHeartbeats 4000000 in
theorem parses_walk (s : List UInt8) (w : World) (hM : Met w) (hP : PowA w) (hsl : s.length ≤ 140737488355328) :
    Calls Tryd.prog 4 #[.string ⟨s.toArray⟩] w fun e w' => e = .returned (.bool true) ∧ Below w.heap.size w w' := by
  have H1 := hid (parse_any s w hM hsl)
  have H2 : Hid (∀ W, Below w.heap.size w W → _) := hid fun W (hb : Below w.heap.size w W) => rparse_any s W (hM.below hb) hsl
  have H3 : Hid (∀ W, Below w.heap.size w W → _) := hid fun W (hb : Below w.heap.size w W) => awake_any W (hM.below hb) (hP.below hb)
  have hlen := par_few s
  obtain ⟨⟨l, ce, ck⟩, hR⟩ : ∃ R, R = parC s := ⟨_, rfl⟩
  rw [← hR] at H1 H2 hlen
  simp only at hlen
  clear hR hM hP
  go_enter Tryd.func4, Tryd.ntmps4
  go_wp2_with fail
  refine H1.out.mono ?_
  clear H1
  rintro e w1 ⟨v1, rfl, hO1, hb1⟩
  obtain ⟨ao1, cap1, rfl⟩ := hO1.shape
  have HB1 := hid hb1
  have HS1 := hid hO1.sees
  have h2 := H2.out w1 hb1
  clear hb1 H2 hO1
  go_wp2_with fail
  refine h2.mono ?_
  clear h2
  rintro e w2 ⟨v2, rfl, hO2, hb2⟩
  obtain ⟨ao2, cap2, rfl⟩ := hO2.shape
  have HB2 := hid (HB1.out.trans (hb2.mono HB1.out.size))
  have hSm := same_any (.slice ao1 l.length cap1) (.slice ao2 l.length cap2) l l w2 (HS1.out.below hb2) hO2.sees (by omega) (by omega)
  rw [decide_eq_true (rfl : l = l)] at hSm
  clear hO2 hb2
  go_wp2_with fail
  refine hSm.mono ?_
  clear hSm
  rintro e w3 ⟨rfl, hb3⟩
  have HB3 := hid (HB2.out.trans (hb3.mono HB2.out.size))
  have hAw := H3.out w3 HB3.out
  clear hb3
  go_wp2_with fail
  refine hAw.mono ?_
  clear hAw
  rintro e w4 ⟨rfl, hb4⟩
  have HB4 := hid (HB3.out.trans (hb4.mono HB3.out.size))
  clear hb4
  go_wp2
  go_ret
  exact ⟨rfl, HB4.out⟩
set_option maxHeartbeats 4000000 in
theorem again_walk (s : List UInt8) (w : World) (hM : Met w) (hP : PowA w) (hsl : s.length ≤ 140737488355328) :
    Calls Tryd.prog 6 #[.string ⟨s.toArray⟩] w fun e w' => e = .returned (.bool true) ∧ Below w.heap.size w w' := by
  have H1 := hid (parse_any s w hM hsl)
  have H2 : Hid (∀ W, Below w.heap.size w W → _) := hid fun W (hb : Below w.heap.size w W) => rparse_any s W (hM.below hb) hsl
  have H3 : Hid (∀ W, Below w.heap.size w W → _) := hid fun W (hb : Below w.heap.size w W) => awake_any W (hM.below hb) (hP.below hb)
  have hlen := par_few s
  have hok := @par_ok s
  have hno := @par_no s
  have hin : ∀ i ∈ (parC s).1, in64 i.2 := par_in rfl
  obtain ⟨⟨l, ce, ck⟩, hR⟩ : ∃ R, R = parC s := ⟨_, rfl⟩
  rw [← hR] at H1 H2 hlen hok hno hin
  simp only at hlen hok hno hin
  have HM := hid hM
  have HP := hid hP
  clear hR hM hP
  by_cases hz : ce = 0
  · subst hz
    have hck := hok rfl
    have hpt := par_text hck hin
    have hpr : prnC l = (textC l, 0) := by unfold prnC; rw [if_pos hck]
    have H64 := hid hin
    have hbad : badAt l.length l = l.length := by
      rcases check_cases l with h | ⟨h, _⟩ | ⟨_, h, _⟩
      · rw [h] at hck; cases hck
      · rw [h] at hck; cases hck
      · exact h
    have htl : (textC l).length ≤ 140737488355328 := by
      have := text_few hin hbad l.length (Nat.le_refl _)
      rw [List.take_length] at this
      omega
    have HPa : Hid (∀ W, Below w.heap.size w W → Calls Tryd.prog 15 #[.string ⟨(textC l).toArray⟩] W (ParR W (l, 0, 0))) := hid fun W hb => by
      have h := parse_any (textC l) W (HM.out.below hb) htl
      rw [hpt] at h
      exact h
    have HPr : Hid (∀ W v, SeesI W v l → Below w.heap.size w W → Calls Tryd.prog 10 #[v] W fun e w' => e = .returned (.tuple #[.string ⟨(textC l).toArray⟩, .int .i64 0]) ∧ Below W.heap.size W w') := hid fun W v hs hb => by
      have h := print_any v l W hs (HM.out.below hb) (HP.out.below hb) (by omega) H64.out
      rw [hpr] at h
      exact h
    obtain ⟨tx, htx⟩ : ∃ tx, tx = textC l := ⟨_, rfl⟩
    rw [← htx] at HPa HPr
    clear hck hpt hpr hin hbad htl hok hno H2 htx
    go_enter Tryd.func6, Tryd.ntmps6
    go_wp2_with fail
    refine H1.out.mono ?_
    clear H1
    rintro e w1 ⟨v1, rfl, hO1, hb1⟩
    obtain ⟨ao1, cap1, rfl⟩ := hO1.shape
    have HB1 := hid hb1
    have HS1 := hid hO1.sees
    have h2 := HPr.out w1 _ hO1.sees hb1
    clear hb1 HPr hO1
    go_wp2_with fail
    refine h2.mono ?_
    clear h2
    rintro e w2 ⟨rfl, hb2⟩
    have HB2 := hid (HB1.out.trans (hb2.mono HB1.out.size))
    have HS2 := hid (HS1.out.below hb2)
    have h3 := HPa.out w2 HB2.out
    clear hb2 HPa HS1
    go_wp2_with fail
    refine h3.mono ?_
    clear h3
    rintro e w3 ⟨v3, rfl, hO3, hb3⟩
    obtain ⟨ao3, cap3, rfl⟩ := hO3.shape
    have HB3 := hid (HB2.out.trans (hb3.mono HB2.out.size))
    have hSm := same_any (.slice ao3 l.length cap3) (.slice ao1 l.length cap1) l l w3 hO3.sees (HS2.out.below hb3) (by omega) (by omega)
    rw [decide_eq_true (rfl : l = l)] at hSm
    clear hO3 hb3
    go_wp2_with fail
    refine hSm.mono ?_
    clear hSm
    rintro e w4 ⟨rfl, hb4⟩
    have HB4 := hid (HB3.out.trans (hb4.mono HB3.out.size))
    have hAw := H3.out w4 HB4.out
    clear hb4
    go_wp2_with fail
    refine hAw.mono ?_
    clear hAw
    rintro e w5 ⟨rfl, hb5⟩
    have HB5 := hid (HB4.out.trans (hb5.mono HB4.out.size))
    clear hb5
    go_wp2
    go_ret
    exact ⟨rfl, HB5.out⟩
  · have hz' : (ce != 0) = true := by simpa using hz
    have hle : l = [] := hno hz
    subst hle
    clear hok hno hin hz
    go_enter Tryd.func6, Tryd.ntmps6
    go_wp2_with fail
    refine H1.out.mono ?_
    clear H1
    rintro e w1 ⟨v1, rfl, hO1, hb1⟩
    obtain ⟨ao1, cap1, rfl⟩ := hO1.shape
    have HB1 := hid hb1
    have h2 := H2.out w1 hb1
    clear hb1 H2 hO1
    go_wp2_with fail
    refine h2.mono ?_
    clear h2
    rintro e w2 ⟨v2, rfl, hO2, hb2⟩
    obtain ⟨ao2, cap2, rfl⟩ := hO2.shape
    have HB2 := hid (HB1.out.trans (hb2.mono HB1.out.size))
    have hAw := H3.out w2 HB2.out
    clear hO2 hb2
    go_wp2_with fail
    refine hAw.mono ?_
    clear hAw
    rintro e w4 ⟨rfl, hb4⟩
    have HB4 := hid (HB2.out.trans (hb4.mono HB2.out.size))
    clear hb4
    go_wp2
    go_ret
    exact ⟨rfl, HB4.out⟩
end Go.Proofs.YtkidcoolcjmcfaaDoor
