/-
  The walk of the law CodeBack.
-/
import Derived.Test.YtkidcoolcjmcfaaDoorCAwake
import Derived.Test.YtkidcoolcjmcfaaDoorCSame
namespace Go.Proofs.YtkidcoolcjmcfaaDoor
open Go.RowKit
set_option linter.unusedVariables false
set_option linter.unusedSimpArgs false
set_option maxRecDepth 100000

set_option maxHeartbeats 2000000 in
theorem back_walk (v : Value) (l : List InsL) (w : World) (hS : SeesI w v l) (hM : Met w) (hP : PowA w) (hlen : l.length ≤ 140737488355328) (h64 : ∀ i ∈ l, in64 i.2) :
    Calls Tryd.prog 5 #[v] w fun e w' => e = .returned (.bool true) ∧ Below w.heap.size w w' := by
  have hPr := print_any v l w hS hM hP hlen h64
  have HS := hid hS
  have HM := hid hM
  have HP := hid hP
  have H64 := hid h64
  obtain ⟨⟨tx, ce⟩, hpr⟩ : ∃ P, P = prnC l := ⟨_, rfl⟩
  rw [← hpr] at hPr
  simp only at hPr
  have hshape : ∃ ao cap, v = .slice ao l.length cap := by
    obtain ⟨b, off, ao, cap, rfl, _⟩ := hS
    exact ⟨ao, cap, rfl⟩
  obtain ⟨vo, vc, rfl⟩ := hshape
  clear hS hM hP h64
  by_cases hz : ce = 0
  · subst hz
    have hck : (checkL l).1 = 0 := by
      unfold prnC at hpr
      split at hpr
      · assumption
      · simp only [Prod.mk.injEq] at hpr
        exact hpr.2.symm
    have htx : tx = textC l := by
      unfold prnC at hpr
      rw [if_pos hck] at hpr
      exact (Prod.mk.inj hpr).1
    have hpt := par_text hck H64.out
    have hlt : l.length ≤ 1024 := by
      rcases check_cases l with h | ⟨h, _⟩ | ⟨_, _, _, h⟩
      · rw [h] at hck; cases hck
      · rw [h] at hck; cases hck
      · exact h
    have hbad : badAt l.length l = l.length := by
      rcases check_cases l with h | ⟨h, _⟩ | ⟨_, h, _⟩
      · rw [h] at hck; cases hck
      · rw [h] at hck; cases hck
      · exact h
    have htl : tx.length ≤ 140737488355328 := by
      have := text_few H64.out hbad l.length (Nat.le_refl _)
      rw [List.take_length] at this
      rw [htx]; omega
    have HPa : Hid (∀ W, Below w.heap.size w W → Calls Tryd.prog 15 #[.string ⟨tx.toArray⟩] W (ParR W (l, 0, 0))) := hid fun W hb => by
      have h := parse_any tx W (HM.out.below hb) htl
      rw [htx, hpt] at h
      rw [htx]
      exact h
    clear hpr hck htx hpt hbad htl
    go_enter Tryd.func5, Tryd.ntmps5
    go_wp2_with fail
    refine hPr.mono ?_
    clear hPr
    rintro e w1 ⟨rfl, hb1⟩
    have HB1 := hid hb1
    have hPa := HPa.out w1 hb1
    clear hb1 HPa
    go_wp2_with fail
    refine hPa.mono ?_
    clear hPa
    rintro e w2 ⟨v2, rfl, hO2, hb2⟩
    obtain ⟨ao2, cap2, rfl⟩ := hO2.shape
    have HB2 := hid (HB1.out.trans (hb2.mono HB1.out.size))
    have hSm := same_any (.slice ao2 l.length cap2) (.slice vo l.length vc) l l w2 hO2.sees (HS.out.below HB2.out) hlen hlen
    rw [decide_eq_true (rfl : l = l)] at hSm
    clear hO2 hb2
    go_wp2_with fail
    refine hSm.mono ?_
    clear hSm
    rintro e w3 ⟨rfl, hb3⟩
    have HB3 := hid (HB2.out.trans (hb3.mono HB2.out.size))
    have hAw := awake_any w3 (HM.out.below HB3.out) (HP.out.below HB3.out)
    clear hb3
    go_wp2_with fail
    refine hAw.mono ?_
    clear hAw
    rintro e w4 ⟨rfl, hb4⟩
    have HB4 := hid (HB3.out.trans (hb4.mono HB3.out.size))
    clear hb4
    go_wp2
    go_ret
    exact ⟨rfl, HB4.out⟩
  · have hck : tx = [] ∧ ce = (checkL l).1 := by
      unfold prnC at hpr
      split at hpr
      · exact absurd (Prod.mk.inj hpr).2 hz
      · exact ⟨(Prod.mk.inj hpr).1, (Prod.mk.inj hpr).2⟩
    obtain ⟨rfl, hce⟩ := hck
    have hz' : (ce != 0) = true := by simpa using hz
    have hRC := fun W (hb : Below w.heap.size w W) => rcheck_any (.slice vo l.length vc) l W (HS.out.below hb) hlen
    rw [← hce] at hRC
    have HRC := hid hRC
    obtain ⟨ci, hci⟩ : ∃ ci, ci = (checkL l).2 := ⟨_, rfl⟩
    rw [← hci] at HRC
    clear hpr hce hRC hz hci
    go_enter Tryd.func5, Tryd.ntmps5
    go_wp2_with fail
    refine hPr.mono ?_
    clear hPr
    rintro e w1 ⟨rfl, hb1⟩
    have HB1 := hid hb1
    have hR := HRC.out w1 hb1
    clear hb1 HRC
    go_wp2_with fail
    refine hR.mono ?_
    clear hR
    rintro e w2 ⟨rfl, hb2⟩
    have HB2 := hid (HB1.out.trans (hb2.mono HB1.out.size))
    have hAw := awake_any w2 (HM.out.below HB2.out) (HP.out.below HB2.out)
    clear hb2
    go_wp2_with fail
    refine hAw.mono ?_
    clear hAw
    rintro e w4 ⟨rfl, hb4⟩
    have HB4 := hid (HB2.out.trans (hb4.mono HB2.out.size))
    clear hb4
    go_wp2
    go_ret
    exact ⟨rfl, HB4.out⟩
end Go.Proofs.YtkidcoolcjmcfaaDoor
