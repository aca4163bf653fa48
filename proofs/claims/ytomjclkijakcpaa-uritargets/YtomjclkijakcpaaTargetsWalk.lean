/-
  The walk of UriTargets.
-/
import Derived.Test.YtomjclkijakcpaaAwake
import Derived.Test.YtomjclkijakcpaaRTarg
import Derived.Test.YtomjclkijakcpaaSame
namespace Go.Proofs.Ytomjclkijakcpaa
open Go.RowKit
set_option linter.unusedVariables false

theorem tgt_query (L : List UInt8) : (tgt L).query.length ≤ 32 := by
  unfold tgt
  split
  · simp
  · split
    · simp
    · split
      · simp
      · split
        · simp
        · split
          · simp
          · rename_i h
            simpa using h

set_option maxRecDepth 20000 in
set_option maxHeartbeats 1000000 in
theorem targets_walk (s : ByteArray) (w : World) (hs : s.size ≤ maxLen) :
    Calls Try.prog 5 #[.string s] w fun e w' => e = .returned (.bool true) ∧ Below w.heap.size w w' := by
  have hs' : s.data.toList.length ≤ 9223372036854775807 := by rw [len_str]; simp only [maxLen] at hs; omega
  have hF1 := fun w => target_any s.data.toList w hs'
  have hF2 := fun w => rtarget_any s.data.toList w hs'
  rw [str_list] at hF1 hF2
  have hol := tgt_query s.data.toList
  have HA := hid awake_any
  obtain ⟨T, hT⟩ : ∃ x, x = tgt s.data.toList := ⟨_, rfl⟩
  rw [← hT] at hF1 hF2 hol
  obtain ⟨P, O, E, D⟩ := T
  simp only at hF1 hF2 hol
  obtain ⟨A, hA⟩ : ∃ x, x = (⟨P.toArray⟩ : ByteArray) := ⟨_, rfl⟩
  rw [← hA] at hF1 hF2
  have HF1 := hid hF1
  have HF2 := hid hF2
  clear hT hF1 hF2 hA hs hs'
  go_enter Try.func5, Try.ntmps5
  go_wp2_with fail
  refine (HF1.out _).mono ?_
  clear HF1
  rintro e w1 ⟨v1, rfl, hO1, hB1⟩
  have HO1 := hid hO1
  have HB1 := hid hB1
  obtain ⟨ao1, cap1, rfl⟩ := hO1.shape
  clear hO1 hB1
  go_wp2_with fail
  refine (HF2.out _).mono ?_
  clear HF2
  rintro e w2 ⟨v2, rfl, hO2, hB2⟩
  have HO2 := hid hO2
  have HO1' := hid (HO1.out.below hB2)
  have HB2 := hid (HB1.out.trans (hB2.mono HB1.out.size))
  obtain ⟨ao2, cap2, rfl⟩ := hO2.shape
  clear hO2 hB2 HB1 HO1
  have hS1 := same_any _ _ O O w2 HO1'.out.sees HO2.out.sees (by omega)
  rw [decide_eq_true rfl] at hS1
  go_wp2_with fail
  refine hS1.mono ?_
  clear hS1
  rintro e w3 ⟨rfl, n, hw3⟩
  have HB3 : Hid (Below w.heap.size w w3) := by unfold Hid; rw [hw3]; exact below_drewN HB2.out n
  clear hw3 HB2 HO1' HO2
  go_wp2_with fail
  refine (HA.out _).mono ?_
  clear HA
  rintro e w7 ⟨rfl, hB⟩
  have HB7 := hid (HB3.out.trans (hB.mono HB3.out.size))
  clear hB HB3
  go_wp2
  go_ret
  exact ⟨rfl, HB7.out⟩

end Go.Proofs.Ytomjclkijakcpaa
