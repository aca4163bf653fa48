/-
  Pieces of texts, as lists.
-/
import Derived.Test.YtllhibdjopfcnaaGreatDoorFormB
namespace Go.Proofs.YtllhibdjopfcnaaGreatDoor
open Go.RowKit
set_option linter.unusedVariables false

theorem take_cut {c : UInt8} {l : List UInt8} {k : Nat} (hk : k ≤ l.length) (hno : ∀ j, j < k → l.getD j 0 ≠ c) : c ∉ l.take k := by
  intro h
  obtain ⟨i, hi, he⟩ := List.getElem_of_mem h
  rw [List.length_take] at hi
  have hil : i < l.length := by omega
  refine hno i (by omega) ?_
  rw [List.getElem_take] at he
  simp [List.getD, hil, he]
theorem getD_str (s : ByteArray) (k : Nat) (h : k < s.size) : s.data.toList.getD k 0 = s[k] := by
  have hl : k < s.data.toList.length := by rw [len_str]; exact h
  simp only [List.getD, List.getElem?_eq_getElem hl, Option.getD_some]
  rfl
theorem extract_take (l : List UInt8) (k : Nat) : (⟨l.toArray⟩ : ByteArray).extract 0 k = ⟨(l.take k).toArray⟩ := by
  rw [extract_list]; simp
theorem extract_from (l : List UInt8) (k n : Nat) (hn : n = l.length) : (⟨l.toArray⟩ : ByteArray).extract k n = ⟨(l.drop k).toArray⟩ := by
  rw [extract_list, hn, List.take_of_length_le (by simp)]

end Go.Proofs.YtllhibdjopfcnaaGreatDoor
