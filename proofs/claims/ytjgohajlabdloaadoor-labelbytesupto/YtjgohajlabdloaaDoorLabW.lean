/-
  The contract of the law's 'awake'.
-/
import Derived.Test.YtjgohajlabdloaaDoorLabQ
namespace Go.Proofs.YtjgohajlabdloaaDoor
open Go.RowKit
set_option linter.unusedVariables false

theorem sees_lit (w : World) (xs : List Int) : Sees (w.alloc (.cells (xs.map (Value.int .i64)).toArray 3)) (.slice (some ⟨w.heap.size, 0, none⟩) xs.length xs.length) xs := by
  refine ⟨w.heap.size, 0, _, xs.length, rfl, Nat.le_refl _, (fun h => by cases h), fun _ => rfl, fun j hj => ?_⟩
  simp [hj]
theorem owns_nil (w : World) (b : Nat) : Owns w b (.slice none 0 0) [] := World.ownsRow_nil w b 3 1
theorem sees_nil (w : World) : Sees w (.slice none 0 0) [] := (owns_nil w 0).sees
theorem sees_lit1 (w : World) (A : Obj) (x : Int) : Sees ((w.alloc A).alloc (.cells #[.int .i64 x] 3)) (.slice (some ⟨w.heap.size + 1, 0, none⟩) 1 1) [x] := by
  have h := sees_lit (w.alloc A) [x]
  simpa using h
theorem sees_lit2 (w : World) (A B : Obj) (x : Int) : Sees (((w.alloc A).alloc B).alloc (.cells #[.int .i64 x] 3)) (.slice (some ⟨w.heap.size + 1 + 1, 0, none⟩) 1 1) [x] := by
  have h := sees_lit ((w.alloc A).alloc B) [x]
  simpa using h
theorem sees_lit0 (w : World) (x : Int) : Sees (w.alloc (.cells #[.int .i64 x] 3)) (.slice (some ⟨w.heap.size, 0, none⟩) 1 1) [x] := sees_lit w [x]

theorem awake_parse : parseL [123, 49, 44, 51, 124, 50, 125] = some ([1, 3], [2]) := by decide +kernel

theorem awake_lacks : lacksL [1, 3] [2] [1] [] = [3] := by
  unfold lacksL lessL
  rw [sd_self (xs := [1, 3]) (by decide), sd_nil]
  exact sd_self (by decide)

theorem withinB_iff (xs ys : List Int) : withinB xs ys = true ↔ ∀ x, x ∈ xs → x ∈ ys := by
  unfold withinB
  rw [decide_eq_true_eq, lessL_nil]

theorem awake_flows : flowsE [1, 3] [2] [1] [] [3] = 0 ∧ flowsL [1, 3] [2] [1] [] [3] = [3] ∧ flowsE [1, 3] [2] [1] [] [] = 21 := by
  have h1 : (mayB [1, 3] [2] && mayB [1] []) = true := by decide
  have h2 : catsB [3] = true := by decide
  have h3 : withinB [3] [3] = true := by rw [withinB_iff]; simp
  have h4 : catsB [] = true := by decide
  have h5 : withinB [3] [] = false := by
    rw [← Bool.not_eq_true, withinB_iff]
    simp
  unfold flowsE flowsL
  rw [awake_lacks, h1, h2, h3, h4, h5]
  exact ⟨rfl, rfl, rfl⟩

set_option maxHeartbeats 1000000 in
theorem awake_any (w : World) : Calls Tryd.prog 14 #[] w fun e w' => e = .returned (.bool true) ∧ Below w.heap.size w w' := by
  have hP := parse_any [123, 49, 44, 51, 124, 50, 125] w (by simp)
  rw [awake_parse, show errP (some ([1, 3], [2])) = 0 from rfl, show labS (some ([1, 3], [2])) = [1, 3] from rfl, show labI (some ([1, 3], [2])) = [2] from rfl] at hP
  obtain ⟨e1, e2, e3⟩ := awake_flows
  have E1 := hid e1
  have E2 := hid e2
  have E3 := hid e3
  clear e1 e2 e3
  go_enter Tryd.func14, Tryd.ntmps14
  go_wp2_with fail
  refine hP.mono ?_
  clear hP
  rintro e w1 ⟨v1, v2, rfl, hO1, hO2, hB⟩
  obtain ⟨ao1, cap1, rfl⟩ : ∃ ao cap, v1 = .slice ao 2 cap := hO1.form
  obtain ⟨ao2, cap2, rfl⟩ : ∃ ao cap, v2 = .slice ao 1 cap := hO2.form
  have HB := hid hB
  obtain ⟨W, hW⟩ : ∃ W, W = ((w1.alloc (.cells #[.slice ao1 2 cap1, .slice ao2 1 cap2] 24)).alloc (.cells #[.int .i64 1] 3)).alloc (.cells #[.int .i64 3] 3) := ⟨_, rfl⟩
  have s1 : SeesL W (.agg #[.slice ao1 2 cap1, .slice ao2 1 cap2]) [1, 3] [2] := by
    rw [hW]
    exact ⟨_, _, rfl, ((hO1.sees.box _).box _).box _, ((hO2.sees.box _).box _).box _, by simp, by simp⟩
  have s2 : SeesL W (.agg #[.slice (some ⟨w1.heap.size + 1, 0, none⟩) 1 1, .slice none 0 0]) [1] [] := by
    rw [hW]
    exact ⟨_, _, rfl, (sees_lit1 _ _ _).box _, sees_nil _, by simp, by simp⟩
  have s3 : Sees W (.slice (some ⟨w1.heap.size + 1 + 1, 0, none⟩) 1 1) [3] := by
    rw [hW]
    exact sees_lit2 _ _ _ _
  have s4 : LabAt W w1.heap.size (.slice ao1 2 cap1) (.slice ao2 1 cap2) := by
    rw [hW]
    exact ((LabAt.new _ _ _).box _).box _
  have s5 : Below w1.heap.size w1 W := by rw [hW]; exact ((below_alloc _ _).alloc (by simp) _).alloc (by simp; omega) _
  have hsz0 := hB.size
  have hszW := s5.size
  have hF := flows_any _ _ _ [1, 3] [2] [1] [] [3] W s1 s2 s3 (by simp)
  rw [E1.out, E2.out] at hF
  have HF := hid hF
  have HS1 := hid s1
  have HL := hid s4
  have HBW := hid (hB.trans (s5.mono hsz0))
  have HW := hid hW
  clear hO1 hO2 hB hF s1 s2 s3 s4 s5 hW
  go_wp2_with fail
  rw [← HW.out]
  clear HW
  refine HF.out.mono ?_
  clear HF
  rintro e w2 ⟨u, rfl, hO, hB⟩
  have HL2 := hid (HL.out.below hB HL.out.lt)
  have hz2 := HBW.out.size
  have HB2 := hid (HBW.out.trans (hB.mono hz2))
  have HS2 := hid (HS1.out.below hB)
  have HO := hid hO
  clear HS1 hO hB HBW HL
  obtain ⟨k1, k2, _, _⟩ := HL2.out.cells
  have hF := flows_any _ _ _ [1, 3] [2] [1] [] [] _ (HS2.out.box (.cells #[.int .i64 1] 3)) ⟨_, _, rfl, sees_lit0 _ _, sees_nil _, by simp, by simp⟩ (sees_nil _) (by simp)
  rw [E3.out] at hF
  have HF := hid hF
  clear hF
  go_wp2_with fail
  refine HF.out.mono ?_
  clear HF
  rintro e w3 ⟨u', rfl, _, hB⟩
  have hz3 := HB2.out.size
  have HB3 := hid ((HB2.out.alloc hz3 (.cells #[.int .i64 1] 3)).trans (hB.mono (by simp; omega)))
  have HO3 := hid ((HO.out.below (below_alloc w2 (.cells #[.int .i64 1] 3))).below hB)
  have HL3 := hid (((HL2.out.box (.cells #[.int .i64 1] 3)).below hB (HL2.out.box (.cells #[.int .i64 1] 3)).lt))
  clear hB HO k1 k2 HS2
  obtain ⟨k1, k2, _, _⟩ := HL3.out.cells
  have hM := same_any u _ [3] [3] _ (HO3.out.sees.box (.cells #[.int .i64 3] 3)) (sees_lit0 _ _) (by simp) (by simp)
  have HM := hid hM
  clear hM
  go_wp2_with fail
  refine HM.out.mono ?_
  clear HM
  rintro e w4 ⟨rfl, hB⟩
  have hz4 := HB3.out.size
  have HB4 := hid ((HB3.out.alloc hz4 (.cells #[.int .i64 3] 3)).trans (hB.mono (by simp; omega)))
  clear hB
  go_wp2
  go_ret
  exact ⟨rfl, HB4.out⟩

end Go.Proofs.YtjgohajlabdloaaDoor
