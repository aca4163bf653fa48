/-
  The document's Of.
-/
import Derived.Test.YtkbceaofijngoaaLRSet
import Derived.Test.YtkbceaofijngoaaLOf
namespace Go.Proofs.Ytkbceaofijngoaa
open Go.RowKit
set_option linter.unusedVariables false

set_option maxRecDepth 20000 in
set_option maxHeartbeats 2000000 in
theorem rOf_any (s : ByteArray) (w : World) (hs : s.size ≤ 4611686018427387904) :
    Calls Try.prog 42 #[.string s] w fun e w' => ∃ v1 v2, e = .returned (.tuple #[.agg #[v1, v2], .int .i64 ((ofN (ofL (bytesOf s)) : Nat) : Int), .int .i64 (errOf (ofL (bytesOf s)).isSome)]) ∧ Owns w' w.heap.size v1 (ofS (ofL (bytesOf s))) ∧ Owns w' w.heap.size v2 (ofI (ofL (bytesOf s))) ∧ Below w.heap.size w w' := by
  obtain ⟨W, hW⟩ : ∃ W, W = w.alloc (.cells #[.slice none 0 0, .slice none 0 0] 25) := ⟨_, rfl⟩
  have hL0 : LabAt W w.heap.size (.slice none 0 0) (.slice none 0 0) := by rw [hW]; exact LabAt.new _ _ _
  have hB0 : Below w.heap.size w W := by rw [hW]; exact below_alloc w _
  have hWsz := hL0.lt
  have hR := setOf_any s 0 W hs (by omega)
  unfold SetOfed at hR
  rw [List.drop_zero] at hR
  have HL0 := hid hL0
  have HB0 := hid hB0
  have HR := hid hR
  have HW := hid hW
  have HO : Hid (ofL (bytesOf s) = match readS (bytesOf s) with | none => none | some (a, p) => match readS ((bytesOf s).drop p) with | none => none | some (i, q) => some (a, i, p + q)) := rfl
  have HSZ := hid (fun a p (h : readS (bytesOf s) = some (a, p)) => readS_size h)
  have HBL := hid (bytesOf_len s)
  generalize ofL (bytesOf s) = o at *
  clear hL0 hB0 hR hW
  go_enter Try.func42, Try.ntmps42
  go_wp2_with fail
  rw [← HW.out]
  clear HW
  refine HR.out.mono ?_
  clear HR
  rintro e w1 ⟨v1, xs1, rfl, hO1, hx1, hB1⟩
  have HL1 := hid (HL0.out.below hB1 HL0.out.lt)
  have HB1 := hid (HB0.out.trans (hB1.mono (by omega)))
  have hw1s := hB1.size
  have HO1 := hid hO1
  clear HL0 HB0 hO1 hB1
  cases hr : readS (bytesOf s) with
  | none =>
    have HE : Hid (o = none) := by unfold Hid; rw [HO.out, hr]
    simp only [show behindS 0 none = -1 from rfl]
    have HLF := hid ((HL1.out.store0 (u' := (.slice none 0 0))).store1 (v' := (.slice none 0 0)))
    have HBF := hid ((HB1.out.setCell (p := ⟨w.heap.size, 0, none⟩) (by simp) (.slice none 0 0)).setCell (p := ⟨w.heap.size, 1, none⟩) (by simp) (.slice none 0 0))
    obtain ⟨q1, q2, q3, q4⟩ := HL1.out.cells
    go_wp2
    obtain ⟨y1, y2, _, _⟩ := HLF.out.cells
    refine bodyPost_ret (v := .tuple #[.agg #[(.slice none 0 0), (.slice none 0 0)], .int .i64 0, .int .i64 20]) (by simp [results, Try.results42, go_sem, y1, y2]) rfl ?_
    exact ⟨_, _, by rw [HE.out]; rfl, by rw [HE.out]; exact World.ownsRow_nil _ _ _ _, by rw [HE.out]; exact World.ownsRow_nil _ _ _ _, HBF.out⟩
  | some ap =>
    obtain ⟨a, p⟩ := ap
    obtain rfl : xs1 = a := hx1 a p hr
    have hsz := HSZ.out xs1 p hr
    rw [HBL.out] at hsz
    have hR2 := setOf_any s p w1 hs hsz.2
    unfold SetOfed at hR2
    have HR2 := hid hR2
    have HO2 : Hid (o = match readS ((bytesOf s).drop p) with | none => none | some (i, q) => some (xs1, i, p + q)) := by unfold Hid; rw [HO.out, hr]
    have hp0 : ¬ (p : Int) < 0 := by omega
    clear hR2 HO hr hx1 HSZ
    simp only [show behindS 0 (some (xs1, p)) = (p : Int) by simp [behindS]]
    go_wp2_with fail
    refine HR2.out.mono ?_
    clear HR2
    rintro e w2 ⟨v2, xs2, rfl, hO2, hx2, hB2⟩
    have HL2 := hid (HL1.out.below hB2 HL1.out.lt)
    have HB2 := hid (HB1.out.trans (hB2.mono (by omega)))
    have HOa2 := hid (HO1.out.below hB2)
    have hw2s := hB2.size
    have HOb := hid hO2
    clear HL1 HB1 hO2 hB2 HO1
    cases hr : readS ((bytesOf s).drop p) with
    | none =>
      have HE : Hid (o = none) := by unfold Hid; rw [HO2.out, hr]
      simp only [show behindS p none = -1 from rfl]
      have HLF := hid ((HL2.out.store0 (u' := (.slice none 0 0))).store1 (v' := (.slice none 0 0)))
      have HBF := hid ((HB2.out.setCell (p := ⟨w.heap.size, 0, none⟩) (by simp) (.slice none 0 0)).setCell (p := ⟨w.heap.size, 1, none⟩) (by simp) (.slice none 0 0))
      obtain ⟨q1, q2, q3, q4⟩ := HL2.out.cells
      go_wp2
      obtain ⟨y1, y2, _, _⟩ := HLF.out.cells
      refine bodyPost_ret (v := .tuple #[.agg #[(.slice none 0 0), (.slice none 0 0)], .int .i64 0, .int .i64 20]) (by simp [results, Try.results42, go_sem, y1, y2]) rfl ?_
      exact ⟨_, _, by rw [HE.out]; rfl, by rw [HE.out]; exact World.ownsRow_nil _ _ _ _, by rw [HE.out]; exact World.ownsRow_nil _ _ _ _, HBF.out⟩
    | some iq =>
      obtain ⟨i, q⟩ := iq
      obtain rfl : xs2 = i := hx2 i q hr
      have HE : Hid (o = some (xs1, xs2, p + q)) := by unfold Hid; rw [HO2.out, hr]
      have hq0 : ¬ (p : Int) + q < 0 := by omega
      clear hx2 hr HO2
      simp only [show behindS p (some (xs2, q)) = ((p + q : Nat) : Int) from rfl]
      obtain ⟨ao1, cap1, rfl⟩ := HOa2.out.form
      obtain ⟨ao2, cap2, rfl⟩ := HOb.out.form
      obtain ⟨q1, q2, q3, q4⟩ := HL2.out.cells
      have HLF := hid ((HL2.out.store0 (u' := (.slice ao1 xs1.length cap1))).store1 (v' := (.slice ao2 xs2.length cap2)))
      have HBF := hid ((HB2.out.setCell (p := ⟨w.heap.size, 0, none⟩) (by simp) (.slice ao1 xs1.length cap1)).setCell (p := ⟨w.heap.size, 1, none⟩) (by simp) (.slice ao2 xs2.length cap2))
      go_wp2
      obtain ⟨y1, y2, _, _⟩ := HLF.out.cells
      refine bodyPost_ret (v := .tuple #[.agg #[(.slice ao1 xs1.length cap1), (.slice ao2 xs2.length cap2)], .int .i64 ((p : Int) + q), .int .i64 0]) (by simp [results, Try.results42, go_sem, y1, y2]) rfl ?_
      refine ⟨.slice ao1 xs1.length cap1, .slice ao2 xs2.length cap2, by rw [HE.out]; simp [ofN, errOf], ?_, ?_, HBF.out⟩
      · rw [HE.out]
        exact owns_le (ownsRow_setCell_below (ownsRow_setCell_below HOa2.out (by simp; omega) _) (by simp; omega) _) (by omega)
      · rw [HE.out]
        exact owns_le (ownsRow_setCell_below (ownsRow_setCell_below HOb.out (by simp; omega) _) (by simp; omega) _) (by omega)
end Go.Proofs.Ytkbceaofijngoaa
