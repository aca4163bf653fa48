/-
  strings.Cut at one byte.
-/
import Derived.Test.YtllhibdjopfcnaaGreatDoorWalk
import Derived.Test.YtllhibdjopfcnaaGreatDoorShelf
namespace Go.Proofs.YtllhibdjopfcnaaGreatDoor
open Go.RowKit
set_option linter.unusedVariables false

theorem indexByte_cut (c : UInt8) : ∀ (l : List UInt8), (Lib.indexByte l c = -1 ∧ cutC c l = (l, [], false)) ∨ ∃ k : Nat, Lib.indexByte l c = k ∧ k < l.length ∧ cutC c l = (l.take k, l.drop (k + 1), true)
  | [] => Or.inl ⟨rfl, rfl⟩
  | b :: l => by
    unfold Lib.indexByte
    by_cases h : (b == c) = true
    · rw [if_pos h]
      have hb : b = c := by simpa using h
      exact Or.inr ⟨0, rfl, by simp, by rw [cutC, if_pos hb]; rfl⟩
    · rw [if_neg h]
      have hb : ¬ b = c := by simpa using h
      rcases indexByte_cut c l with ⟨h1, h2⟩ | ⟨k, h1, h2, h3⟩
      · rw [h1]
        exact Or.inl ⟨rfl, by rw [cutC, if_neg hb, h2]⟩
      · rw [h1, if_neg (by simp)]
        exact Or.inr ⟨k + 1, by omega, by simp; omega, by rw [cutC, if_neg hb, h3]; rfl⟩

theorem extract_list (l : List UInt8) (a b : Nat) : (⟨l.toArray⟩ : ByteArray).extract a b = ⟨((l.drop a).take (b - a)).toArray⟩ := by
  rw [ByteArray.extract_mk]
theorem size_list (l : List UInt8) : (⟨l.toArray⟩ : ByteArray).size = l.length := by
  show l.toArray.size = l.length
  simp
theorem str_list (s : ByteArray) : (⟨s.data.toList.toArray⟩ : ByteArray) = s := by
  simp

set_option maxHeartbeats 400000 in
theorem cut36_any (l : List UInt8) (c : UInt8) (w : World) (hs : l.length ≤ 4611686018427387904) :
    Calls Tryz.prog 84 #[.string ⟨l.toArray⟩, .string ⟨#[c]⟩] w fun e w' => e = .returned (.tuple #[.string ⟨(cutC c l).1.toArray⟩, .string ⟨(cutC c l).2.1.toArray⟩, .bool (cutC c l).2.2]) ∧ ∃ n, w' = w.drewN n := by
  obtain ⟨s, hs'⟩ : ∃ s : ByteArray, s = ⟨l.toArray⟩ := ⟨_, rfl⟩
  have hsz : s.size = l.length := by rw [hs', size_list]
  have hI := Tryz.stringslite_Index_one s c w
  rw [show s.data.toList = l by rw [hs']] at hI
  rw [← hs']
  have HS := hid hs'
  clear hs'
  rcases indexByte_cut c l with ⟨h, h3⟩ | ⟨k, h, h2, h3⟩
  · rw [h] at hI
    have HE := hid h3
    clear h3
    go_enter Tryz.func84, Tryz.ntmps84
    go_wp2_with fail
    refine hI.mono ?_
    rintro e w' ⟨rfl, rfl⟩
    go_wp2
    go_ret3
    refine ⟨?_, 0, rfl⟩
    rw [HE.out, HS.out]
    rfl
  · rw [h] at hI
    have HE := hid h3
    have h1 : (k : Int) + 1 ≤ (s.size : Int) := by omega
    have h2' : (k : Int) ≤ (s.size : Int) := by omega
    clear h3
    go_enter Tryz.func84, Tryz.ntmps84
    go_wp2_with fail
    refine hI.mono ?_
    rintro e w' ⟨rfl, rfl⟩
    go_wp2
    go_quiet (fail)
    go_wp2
    go_ret3
    refine ⟨?_, _, rfl⟩
    rw [HE.out, HS.out, extract_list, extract_list]
    simp
    rw [List.take_of_length_le (by simp)]

set_option maxHeartbeats 400000 in
theorem cut_any (l : List UInt8) (c : UInt8) (w : World) (hs : l.length ≤ 4611686018427387904) :
    Calls Tryz.prog 55 #[.string ⟨l.toArray⟩, .string ⟨#[c]⟩] w fun e w' => e = .returned (.tuple #[.string ⟨(cutC c l).1.toArray⟩, .string ⟨(cutC c l).2.1.toArray⟩, .bool (cutC c l).2.2]) ∧ ∃ n, w' = w.drewN n := by
  have hI := cut36_any l c w hs
  go_enter Tryz.func55, Tryz.ntmps55
  go_wp2_with fail
  refine hI.mono ?_
  rintro e w' ⟨rfl, n, rfl⟩
  go_wp2
  go_ret3
  exact ⟨rfl, n, rfl⟩

theorem cutC_len (c : UInt8) (l : List UInt8) : (cutC c l).1.length ≤ l.length ∧ ((cutC c l).2.2 = true → (cutC c l).2.1.length < l.length) ∧ (cutC c l).2.1.length ≤ l.length := by
  rcases cutC_spec c l with ⟨_, h⟩ | ⟨a, b, rfl, _, h⟩
  · rw [h]
    exact ⟨Nat.le_refl _, (fun h => by cases h), by simp⟩
  · rw [h]
    exact ⟨by simp, (fun _ => by simp; omega), by simp; omega⟩

end Go.Proofs.YtllhibdjopfcnaaGreatDoor
