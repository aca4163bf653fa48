/-
  The walk of UriForms.
-/
import Derived.Test.YtomjclkijakcpaaAwake
import Derived.Test.YtomjclkijakcpaaRFormB
import Derived.Test.YtomjclkijakcpaaSame
import Derived.Test.YtomjclkijakcpaaSpoil
namespace Go.Proofs.Ytomjclkijakcpaa
open Go.RowKit
set_option linter.unusedVariables false

theorem pairsOf_len : ∀ ps : List (List UInt8), (pairsOf ps).length ≤ ps.length := by
  intro ps
  rw [pairsOf, List.length_map]
  exact List.length_filter_le _ _
theorem splitC_len (c : UInt8) : ∀ l : List UInt8, (splitC c l).length ≤ l.length + 1
  | [] => by simp [splitC]
  | b :: r => by
    have := splitC_len c r
    unfold splitC
    split <;> simp <;> omega
theorem formO_len (L : List UInt8) : (formO L).length ≤ L.length + 1 := by
  have h1 := pairsOf_len (splitC 38 L)
  have h2 := splitC_len 38 L
  unfold formO
  split
  · split
    · simp
    · unfold formL; omega
  · simp

set_option maxRecDepth 20000 in
set_option maxHeartbeats 1000000 in
theorem forms_walk (s : ByteArray) (w : World) (hs : s.size ≤ 1048576) :
    Calls Try.prog 4 #[.string s] w fun e w' => e = .returned (.bool true) ∧ Below w.heap.size w w' := by
  have hF1 := fun w => form_any s.data.toList w (by rw [len_str]; omega)
  have hF2 := fun w => rform_any s.data.toList w (by rw [len_str]; omega)
  have hol := formO_len s.data.toList
  rw [len_str] at hol
  rw [str_list] at hF1 hF2
  have HA := hid awake_any
  obtain ⟨E, hE⟩ : ∃ x, x = formE s.data.toList := ⟨_, rfl⟩
  obtain ⟨O, hO⟩ : ∃ x, x = formO s.data.toList := ⟨_, rfl⟩
  obtain ⟨D, hD⟩ : ∃ x, x = decPl s.data.toList := ⟨_, rfl⟩
  rw [← hE, ← hO, ← hD] at hF1 hF2
  rw [← hO] at hol
  have HF1 := hid hF1
  have HF2 := hid hF2
  clear hE hO hD hF1 hF2
  go_enter Try.func4, Try.ntmps4
  go_wp2_with fail
  refine (HF1.out _).mono ?_
  rintro e w1 ⟨v1, rfl, hO1, hB1⟩
  have HO1 := hid hO1
  have HB1 := hid hB1
  obtain ⟨ao1, cap1, rfl⟩ := hO1.shape
  clear hO1 hB1
  go_wp2_with fail
  refine (HF2.out _).mono ?_
  clear HF2
  rintro e w2 ⟨v2, rfl, hO2, hB2⟩
  have HO2 := hid hO2
  have HO1' := hid (HO1.out.below hB2)
  have hsz2 := hB2.size
  have HB2 := hid (HB1.out.trans (hB2.mono HB1.out.size))
  have hlt1 := hid (fun k hk => (HO1.out.lt k hk).2)
  obtain ⟨ao2, cap2, rfl⟩ := hO2.shape
  clear hO2 hB2 HB1 HO1
  have hS1 := same_any _ _ O O w2 HO1'.out.sees HO2.out.sees (by omega)
  rw [decide_eq_true rfl] at hS1
  go_wp2_with fail
  refine hS1.mono ?_
  clear hS1
  rintro e w3 ⟨rfl, n, hw3⟩
  have hd3 : Below w2.heap.size w2 w3 := by rw [hw3]; exact below_drewN' _ _ _
  have hz3 : w3.heap.size = w2.heap.size := by rw [hw3]; rfl
  have HO13 := hid (HO1'.out.below hd3)
  have HO23 := hid (HO2.out.below hd3)
  have HB3 := hid (HB2.out.trans (hd3.mono HB2.out.size))
  clear hw3 hd3 HO1' HO2 HB2
  have hSp := spoil_any _ _ O w3 HO13.out (by omega)
  go_wp2_with fail
  refine hSp.mono ?_
  clear hSp
  rintro e w4 ⟨rfl, hG⟩
  have HB4 := hid (below_grownBy HB3.out hG (fun j hj => HO13.out.block j hj) HB3.out.size)
  have HO24 : Hid (OwnsP w4 w1.heap.size (.slice ao2 O.length cap2) O) := by
    refine hid (World.ownsRow.kept HO23.out hG ?_)
    cases hv : (Value.slice ao2 O.length cap2).ownBlock with
    | none => exact Or.inl rfl
    | some k =>
      refine Or.inr ?_
      intro e
      have h1 := HO23.out.block k hv
      have h2 := hlt1.out k e.symm
      omega
  clear hG HO13 HO23 HB3 hlt1
  go_wp2_with fail
  refine (HF1.out _).mono ?_
  clear HF1
  rintro e w5 ⟨v5, rfl, hO5, hB5⟩
  have HO25 := hid (HO24.out.below hB5)
  have HB5 := hid (HB4.out.trans (hB5.mono HB4.out.size))
  have HO5 := hid hO5
  obtain ⟨ao5, cap5, rfl⟩ := hO5.shape
  clear hO5 hB5 HO24 HB4
  have hS2 := same_any _ _ O O w5 HO5.out.sees HO25.out.sees (by omega)
  rw [decide_eq_true rfl] at hS2
  go_wp2_with fail
  refine hS2.mono ?_
  clear hS2
  rintro e w6 ⟨rfl, n6, hw6⟩
  have HB6 : Hid (Below w.heap.size w w6) := by unfold Hid; rw [hw6]; exact below_drewN HB5.out n6
  clear hw6 HB5 HO5 HO25
  go_wp2_with fail
  refine (HA.out _).mono ?_
  clear HA
  rintro e w7 ⟨rfl, hB⟩
  have HB7 := hid (HB6.out.trans (hB.mono HB6.out.size))
  clear hB HB6
  go_wp2
  go_ret
  exact ⟨rfl, HB7.out⟩

end Go.Proofs.Ytomjclkijakcpaa
