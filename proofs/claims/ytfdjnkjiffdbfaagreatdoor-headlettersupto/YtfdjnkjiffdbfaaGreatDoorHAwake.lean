/-
  What must come, whatever the arguments are.
-/
import Derived.Test.YtfdjnkjiffdbfaaGreatDoorHParse
namespace Go.Proofs.YtfdjnkjiffdbfaaGreatDoor
open Go.RowKit
set_option linter.unusedVariables false

theorem eql41 (a b c d : ByteArray) (w : World) : (binOp .eql 42 (.agg #[.string a, .string b]) (.agg #[.string c, .string d])).run Tryz.prog w = .ok (.bool (a.toList == c.toList && b.toList == d.toList)) w := by
  rw [run_eql_struct, run_equalIn_agg w 9999 42 _ _ Tryz.under46 Tryz.stood46]
  have h := Tryz.fields46
  match hfs : (Tryz.prog.fieldsOf 42).toList with
  | [] => rw [hfs] at h; simp at h
  | [_] => rw [hfs] at h; simp at h
  | f1 :: f2 :: f3 :: r => rw [hfs] at h; simp at h
  | [f1, f2] =>
    rw [hfs] at h
    simp at h
    obtain ⟨⟨n1, t1, o1⟩, n2, t2, o2⟩ := h
    simp [Op.eqFields, n1, t1, o1, n2, t2, o2, go_sem]
    by_cases h1 : a.toList = c.toList
    · by_cases h2 : b.toList = d.toList
      · simp [h1, h2]
      · simp [h1, h2]
    · simp [h1]
theorem guard41 (x y : Operand) (xs ys : Array Value) (w : World) : (eqGuard .eql 42 x y (.agg xs) (.agg ys)).run Tryz.prog w = .ok () w := run_eqGuard_agg w .eql 42 x y xs ys Tryz.guard46
/-- "GET /x HTTP/1.1", "Host:  a ". -/
def litA : List UInt8 := [71, 69, 84, 32, 47, 120, 32, 72, 84, 84, 80, 47, 49, 46, 49, 13, 10, 72, 111, 115, 116, 58, 32, 32, 97, 32, 13, 10, 13, 10]
def litB : List UInt8 := [71, 69, 84, 32, 47, 120, 32, 72, 84, 84, 80, 47, 49, 46, 49, 13, 10, 13, 10]
theorem parse_litA : parseL litA = (([71, 69, 84], [47, 120], 1, [(hostS, [97])]), 0, 0) := by kernel_rfl
theorem parse_litB : parseL litB = (hz, 400, 0) := by kernel_rfl

set_option maxRecDepth 20000 in
set_option maxHeartbeats 4000000 in
theorem awake_any (w : World) (hM : ML w) : Calls Tryz.prog 12 #[] w fun e w' => e = .returned (.bool true) ∧ Below w.heap.size w w' := by
  have hA := parse_any litA w hM (by decide)
  rw [parse_litA] at hA
  have hBB := fun w hM => parse_any litB w hM (by decide)
  rw [parse_litB] at hBB
  have HA : Hid (Calls Tryz.prog 13 #[.string { data := #[71, 69, 84, 32, 47, 120, 32, 72, 84, 84, 80, 47, 49, 46, 49, 13, 10, 72, 111, 115, 116, 58, 32, 32, 97, 32, 13, 10, 13, 10] }] w fun e w' => ∃ v, e = .returned (.tuple #[.agg #[.string ⟨#[71, 69, 84]⟩, .string ⟨#[47, 120]⟩, .int .i64 1, v], .int .i64 0, .int .i64 0]) ∧ OwnsP w' w.heap.size v [(hostS, [97])] ∧ Below w.heap.size w w') := hid hA
  have HBB : Hid (∀ w, ML w → Calls Tryz.prog 13 #[.string { data := #[71, 69, 84, 32, 47, 120, 32, 72, 84, 84, 80, 47, 49, 46, 49, 13, 10, 13, 10] }] w fun e w' => ∃ v, e = .returned (.tuple #[.agg #[.string ⟨#[]⟩, .string ⟨#[]⟩, .int .i64 0, v], .int .i64 400, .int .i64 0]) ∧ OwnsP w' w.heap.size v [] ∧ Below w.heap.size w w') := hid hBB
  have HM := hid hM
  clear hA hBB hM
  go_enter Tryz.func12, Tryz.ntmps12
  go_wp2_with fail
  refine HA.out.mono ?_
  clear HA
  rintro e w1 ⟨v1, rfl, hO1, hB1⟩
  obtain ⟨ao1, cap1, rfl⟩ := hO1.shape
  have hH1 := HeadAt.new w1 (.string ⟨#[71, 69, 84]⟩) (.string ⟨#[47, 120]⟩) (.int .i64 1) (.slice ao1 1 cap1)
  have hBx := below_alloc w1 (.cells #[.string ⟨#[71, 69, 84]⟩, .string ⟨#[47, 120]⟩, .int .i64 1, .slice ao1 1 cap1] 24)
  have hM1 := (HM.out.below hB1 HM.out.lt)
  have hM2 := hM1.below hBx hM1.lt
  have hS2 := hO1.sees.below hBx
  have HB2 := hid (hB1.trans (hBx.mono hB1.size))
  have hB := HBB.out _ hM2
  clear HBB HM hM1 hM2 hO1 hB1 hBx
  go_wp2_with fail
  refine hB.mono ?_
  clear hB
  rintro e w3 ⟨v3, rfl, hO3, hB3⟩
  obtain ⟨ao3, cap3, rfl⟩ := hO3.shape
  have hH3 := hH1.below hB3 hH1.lt
  have hS3 := hS2.below hB3
  have HB3 := hid (HB2.out.trans (hB3.mono HB2.out.size))
  have hBy := below_alloc w3 (.cells #[.string ⟨#[]⟩, .string ⟨#[]⟩, .int .i64 0, .slice ao3 0 cap3] 24)
  have hH4 := hH3.below hBy hH3.lt
  have hS4 := hS3.below hBy
  have HB4 := hid (HB3.out.trans (hBy.mono HB3.out.size))
  obtain ⟨_, x1, _, x3, _, _, _, _⟩ := hH4.cells
  obtain ⟨bb, off, ao, cap, hsl, _, _, hao, hcell⟩ := hS4
  obtain ⟨rfl, rfl⟩ : ao1 = ao ∧ cap1 = cap := by injection hsl with h1 h2 h3; exact ⟨h1, h3⟩
  obtain rfl := hao (by simp)
  obtain ⟨d1, d2⟩ := hcell 0 (by simp)
  unfold strV at d1 d2
  simp only [Nat.zero_mul, Nat.add_zero, List.getElem_cons_zero] at d1 d2
  rw [show (⟨hostS.toArray⟩ : ByteArray) = ⟨#[104, 111, 115, 116]⟩ from rfl] at d1
  have g1 := eql41
  have g2 := guard41
  clear hsl hao hcell hH1 hH3 hH4 hS2 hS3 hO3 hB3 hBy HB2 HB3
  go_wp2
  go_ret
  exact ⟨rfl, HB4.out⟩
end Go.Proofs.YtfdjnkjiffdbfaaGreatDoor
