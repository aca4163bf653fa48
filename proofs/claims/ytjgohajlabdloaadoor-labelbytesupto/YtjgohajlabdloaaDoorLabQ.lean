/-
  The contract of label's Parse, and of the law's 'awake'.
-/
import Derived.Test.YtjgohajlabdloaaDoorLabP
import Derived.Test.YtjgohajlabdloaaDoorLabE
namespace Go.Proofs.YtjgohajlabdloaaDoor
open Go.RowKit
set_option linter.unusedVariables false

def labS (o : Option (List Int × List Int)) : List Int := (o.getD ([], [])).1
def labI (o : Option (List Int × List Int)) : List Int := (o.getD ([], [])).2

set_option maxHeartbeats 1000000 in
theorem parse_any (l : List UInt8) (w : World) (hs : l.length ≤ 4611686018427387904) :
    Calls Tryd.prog 11 #[.string ⟨l.toArray⟩] w fun e w' => ∃ v1 v2, e = .returned (.tuple #[.agg #[v1, v2], .int .i64 (errP (parseL l))]) ∧ Owns w' w.heap.size v1 (labS (parseL l)) ∧ Owns w' w.heap.size v2 (labI (parseL l)) ∧ Below w.heap.size w w' := by
  have hP : parseL l = if Lib.hasPrefix l [123] && Lib.hasSuffix (Lib.trimPrefix l [123]) [125] && (cutL (Lib.trimSuffix (Lib.trimPrefix l [123]) [125]) 124).2.2 && (listedL (cutL (Lib.trimSuffix (Lib.trimPrefix l [123]) [125]) 124).1).2 && (listedL (cutL (Lib.trimSuffix (Lib.trimPrefix l [123]) [125]) 124).2.1).2 then some ((listedL (cutL (Lib.trimSuffix (Lib.trimPrefix l [123]) [125]) 124).1).1, (listedL (cutL (Lib.trimSuffix (Lib.trimPrefix l [123]) [125]) 124).2.1).1) else none := rfl
  have n1 := trimPrefix_len l [123]
  have n2 := trimSuffix_len (Lib.trimPrefix l [123]) [125]
  obtain ⟨n3, _, n4⟩ := cutL_len (Lib.trimSuffix (Lib.trimPrefix l [123]) [125]) 124
  have hC1 : ∀ w1, Calls Tryd.prog 26 #[.string ⟨l.toArray⟩, .string ⟨#[123]⟩] w1 fun e w' => e = .returned (.tuple #[.string ⟨(Lib.trimPrefix l [123]).toArray⟩, .bool (Lib.hasPrefix l [123])]) ∧ w' = w1 := fun w1 => Tryd.strings_CutPrefix ⟨l.toArray⟩ ⟨#[123]⟩ w1
  have hC2 : ∀ w1, Calls Tryd.prog 27 #[.string ⟨(Lib.trimPrefix l [123]).toArray⟩, .string ⟨#[125]⟩] w1 fun e w' => e = .returned (.tuple #[.string ⟨(Lib.trimSuffix (Lib.trimPrefix l [123]) [125]).toArray⟩, .bool (Lib.hasSuffix (Lib.trimPrefix l [123]) [125])]) ∧ w' = w1 := fun w1 => Tryd.strings_CutSuffix ⟨(Lib.trimPrefix l [123]).toArray⟩ ⟨#[125]⟩ w1 (by rw [Lib.size_eq]; show (Lib.trimPrefix l [123]).length ≤ _; omega)
  have hC3 := fun w1 => cut_any (Lib.trimSuffix (Lib.trimPrefix l [123]) [125]) 124 w1 (by omega)
  have hL1 := fun w1 => listed_any (cutL (Lib.trimSuffix (Lib.trimPrefix l [123]) [125]) 124).1 w1 (by omega)
  have hL2 := fun w1 => listed_any (cutL (Lib.trimSuffix (Lib.trimPrefix l [123]) [125]) 124).2.1 w1 (by omega)
  generalize cutL (Lib.trimSuffix (Lib.trimPrefix l [123]) [125]) 124 = cc at *
  obtain ⟨c1, c2, c3⟩ := cc
  generalize Lib.hasSuffix (Lib.trimPrefix l [123]) [125] = bcl at *
  generalize Lib.trimSuffix (Lib.trimPrefix l [123]) [125] = r2 at *
  generalize Lib.hasPrefix l [123] = bo at *
  generalize Lib.trimPrefix l [123] = r1 at *
  simp only at hP hC3 hL1 hL2
  generalize listedL c1 = L1 at *
  generalize listedL c2 = L2 at *
  obtain ⟨s1, o1⟩ := L1
  obtain ⟨s2, o2⟩ := L2
  generalize parseL l = PL at *
  simp only at hP hL1 hL2
  have HP := hid hP
  have HL0 := hid (LabAt.new w (.slice none 0 0) (.slice none 0 0))
  have HB0 := hid (below_alloc w (.cells #[.slice none 0 0, .slice none 0 0] 24))
  have HC2 := hid hC2
  have HC3 := hid hC3
  have HL1 := hid hL1
  have HL2 := hid hL2
  clear hP hC2 hC3 hL1 hL2 n1 n2 n3 n4
  go_enter Tryd.func11, Tryd.ntmps11
  go_wp2_with fail
  refine (hC1 _).mono ?_
  clear hC1
  rintro e w1 ⟨rfl, hw1⟩
  have HL1' : Hid (LabAt w1 w.heap.size (.slice none 0 0) (.slice none 0 0)) := by rw [hw1]; exact HL0
  have HB1 : Hid (Below w.heap.size w w1) := by rw [hw1]; exact HB0
  clear hw1 HL0 HB0
  go_wp2_with fail
  refine (HC2.out _).mono ?_
  clear HC2
  rintro e w2 ⟨rfl, hw2⟩
  subst hw2
  go_wp2_with fail
  refine (HC3.out _).mono ?_
  clear HC3
  rintro e w3 ⟨rfl, n, hw3⟩
  have HL : Hid (LabAt w3 w.heap.size (.slice none 0 0) (.slice none 0 0)) := by rw [hw3]; exact HL1'.out.below (below_drewN' _ _ _) HL1'.out.lt
  have HB : Hid (Below w.heap.size w w3) := by rw [hw3]; exact below_drewN HB1.out n
  clear hw3 HL1' HB1
  have hlt := HL.out.lt
  cases bo
  · have HE : Hid (PL = none) := by unfold Hid; rw [HP.out]; simp
    obtain ⟨q1, q2, q3, q4⟩ := HL.out.cells
    have HLF := hid ((HL.out.store0 (u' := (.slice none 0 0))).store1 (v' := (.slice none 0 0)))
    have HBF := hid ((HB.out.setCell (p := ⟨w.heap.size, 0, none⟩) (by simp) (.slice none 0 0)).setCell (p := ⟨w.heap.size, 1, none⟩) (by simp) (.slice none 0 0))
    go_wp2
    obtain ⟨y1, y2, _, _⟩ := HLF.out.cells
    refine bodyPost_ret (v := .tuple #[.agg #[(.slice none 0 0), (.slice none 0 0)], .int .i64 20]) (by simp [results, Tryd.results11, go_sem, y1, y2]) rfl ?_
    exact ⟨_, _, by rw [HE.out]; rfl, by rw [HE.out]; exact World.ownsRow_nil _ _ _ _, by rw [HE.out]; exact World.ownsRow_nil _ _ _ _, HBF.out⟩
  cases bcl
  · have HE : Hid (PL = none) := by unfold Hid; rw [HP.out]; simp
    obtain ⟨q1, q2, q3, q4⟩ := HL.out.cells
    have HLF := hid ((HL.out.store0 (u' := (.slice none 0 0))).store1 (v' := (.slice none 0 0)))
    have HBF := hid ((HB.out.setCell (p := ⟨w.heap.size, 0, none⟩) (by simp) (.slice none 0 0)).setCell (p := ⟨w.heap.size, 1, none⟩) (by simp) (.slice none 0 0))
    go_wp2
    obtain ⟨y1, y2, _, _⟩ := HLF.out.cells
    refine bodyPost_ret (v := .tuple #[.agg #[(.slice none 0 0), (.slice none 0 0)], .int .i64 20]) (by simp [results, Tryd.results11, go_sem, y1, y2]) rfl ?_
    exact ⟨_, _, by rw [HE.out]; rfl, by rw [HE.out]; exact World.ownsRow_nil _ _ _ _, by rw [HE.out]; exact World.ownsRow_nil _ _ _ _, HBF.out⟩
  cases c3
  · have HE : Hid (PL = none) := by unfold Hid; rw [HP.out]; simp
    obtain ⟨q1, q2, q3, q4⟩ := HL.out.cells
    have HLF := hid ((HL.out.store0 (u' := (.slice none 0 0))).store1 (v' := (.slice none 0 0)))
    have HBF := hid ((HB.out.setCell (p := ⟨w.heap.size, 0, none⟩) (by simp) (.slice none 0 0)).setCell (p := ⟨w.heap.size, 1, none⟩) (by simp) (.slice none 0 0))
    go_wp2
    obtain ⟨y1, y2, _, _⟩ := HLF.out.cells
    refine bodyPost_ret (v := .tuple #[.agg #[(.slice none 0 0), (.slice none 0 0)], .int .i64 20]) (by simp [results, Tryd.results11, go_sem, y1, y2]) rfl ?_
    exact ⟨_, _, by rw [HE.out]; rfl, by rw [HE.out]; exact World.ownsRow_nil _ _ _ _, by rw [HE.out]; exact World.ownsRow_nil _ _ _ _, HBF.out⟩
  go_wp2_with fail
  refine (HL1.out _).mono ?_
  clear HL1
  rintro e w4 ⟨v1, rfl, hO1, hB1⟩
  have HO1 := hid hO1
  have HL4 := hid (HL.out.below hB1 hlt)
  have HB4 := hid (HB.out.trans (hB1.mono (by omega)))
  have hsz := hB1.size
  clear HL HB hB1 hO1
  have HL := HL4
  have HB := HB4
  clear HL4 HB4
  cases o1
  · have HE : Hid (PL = none) := by unfold Hid; rw [HP.out]; simp
    obtain ⟨q1, q2, q3, q4⟩ := HL.out.cells
    have HLF := hid ((HL.out.store0 (u' := (.slice none 0 0))).store1 (v' := (.slice none 0 0)))
    have HBF := hid ((HB.out.setCell (p := ⟨w.heap.size, 0, none⟩) (by simp) (.slice none 0 0)).setCell (p := ⟨w.heap.size, 1, none⟩) (by simp) (.slice none 0 0))
    go_wp2
    obtain ⟨y1, y2, _, _⟩ := HLF.out.cells
    refine bodyPost_ret (v := .tuple #[.agg #[(.slice none 0 0), (.slice none 0 0)], .int .i64 20]) (by simp [results, Tryd.results11, go_sem, y1, y2]) rfl ?_
    exact ⟨_, _, by rw [HE.out]; rfl, by rw [HE.out]; exact World.ownsRow_nil _ _ _ _, by rw [HE.out]; exact World.ownsRow_nil _ _ _ _, HBF.out⟩
  go_wp2_with fail
  refine (HL2.out _).mono ?_
  clear HL2
  rintro e w5 ⟨v2, rfl, hO2, hB2⟩
  have HO1' := hid (HO1.out.below hB2)
  have HO2 := hid hO2
  have HL4 := hid (HL.out.below hB2 HL.out.lt)
  have HB4 := hid (HB.out.trans (hB2.mono (by omega)))
  have hsz2 := hB2.size
  clear HL HB hB2 hO2 HO1
  have HL := HL4
  have HB := HB4
  clear HL4 HB4
  cases o2
  · have HE : Hid (PL = none) := by unfold Hid; rw [HP.out]; simp
    obtain ⟨q1, q2, q3, q4⟩ := HL.out.cells
    have HLF := hid ((HL.out.store0 (u' := (.slice none 0 0))).store1 (v' := (.slice none 0 0)))
    have HBF := hid ((HB.out.setCell (p := ⟨w.heap.size, 0, none⟩) (by simp) (.slice none 0 0)).setCell (p := ⟨w.heap.size, 1, none⟩) (by simp) (.slice none 0 0))
    go_wp2
    obtain ⟨y1, y2, _, _⟩ := HLF.out.cells
    refine bodyPost_ret (v := .tuple #[.agg #[(.slice none 0 0), (.slice none 0 0)], .int .i64 20]) (by simp [results, Tryd.results11, go_sem, y1, y2]) rfl ?_
    exact ⟨_, _, by rw [HE.out]; rfl, by rw [HE.out]; exact World.ownsRow_nil _ _ _ _, by rw [HE.out]; exact World.ownsRow_nil _ _ _ _, HBF.out⟩
  have HE : Hid (PL = some (s1, s2)) := by unfold Hid; rw [HP.out]; simp
  obtain ⟨ao1, cap1, rfl⟩ := HO1'.out.form
  obtain ⟨ao2, cap2, rfl⟩ := HO2.out.form
  obtain ⟨q1, q2, q3, q4⟩ := HL.out.cells
  have HLF := hid ((HL.out.store0 (u' := (.slice ao1 s1.length cap1))).store1 (v' := (.slice ao2 s2.length cap2)))
  have HBF := hid ((HB.out.setCell (p := ⟨w.heap.size, 0, none⟩) (by simp) (.slice ao1 s1.length cap1)).setCell (p := ⟨w.heap.size, 1, none⟩) (by simp) (.slice ao2 s2.length cap2))
  go_wp2
  obtain ⟨y1, y2, _, _⟩ := HLF.out.cells
  refine bodyPost_ret (v := .tuple #[.agg #[(.slice ao1 s1.length cap1), (.slice ao2 s2.length cap2)], .int .i64 0]) (by simp [results, Tryd.results11, go_sem, y1, y2]) rfl ?_
  exact ⟨_, _, by rw [HE.out]; rfl, by rw [HE.out]; exact owns_le (ownsRow_setCell_below (ownsRow_setCell_below HO1'.out (by simp; omega) _) (by simp; omega) _) (by omega), by rw [HE.out]; exact owns_le (ownsRow_setCell_below (ownsRow_setCell_below HO2.out (by simp; omega) _) (by simp; omega) _) (by omega), HBF.out⟩

end Go.Proofs.YtjgohajlabdloaaDoor
