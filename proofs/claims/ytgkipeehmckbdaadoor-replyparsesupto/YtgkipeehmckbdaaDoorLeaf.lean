/-
  Bytes of a text, at a place.
-/
import Derived.Test.YtgkipeehmckbdaaDoorBase
import Derived.Test.YtgkipeehmckbdaaDoorYMath
namespace Go.Proofs.YtgkipeehmckbdaaDoor
open Go.RowKit
set_option linter.unusedVariables false

theorem ret_int {k : IntKind} {a b : Int} (h : a = b) : (Ending.returned (.int k a) : Ending) = .returned (.int k b) := by rw [h]
theorem ret_bool {a b : Bool} (h : a = b) : (Ending.returned (.bool a) : Ending) = .returned (.bool b) := by rw [h]

theorem index_byte (s : ByteArray) (q : IntKind) (i : Int) (n : Nat) (hi : i = (n : Int)) (hn : n < s.size) (w : World) : (Instr.index 9 (.string s) (.int q i)).run Tryd.prog w = .ok (.int .u8 ((s[n].toNat : Nat) : Int)) w := by
  subst hi
  rw [run_index_string w 9 s q n Tryd.underlying9]
  simp [hn]
theorem ownsB_len {w : World} {B : Nat} {u : Value} {l : List UInt8} (h : OwnsB w B u l) : OwnsN .u8 5 w B u (l.map UInt8.toNat) := h

theorem extract_list (l : List UInt8) (a b : Nat) : (⟨l.toArray⟩ : ByteArray).extract a b = ⟨((l.drop a).take (b - a)).toArray⟩ := by
  rw [ByteArray.extract_mk]
theorem size_list (l : List UInt8) : (⟨l.toArray⟩ : ByteArray).size = l.length := by
  show l.toArray.size = l.length
  simp
theorem str_list (s : ByteArray) : (⟨s.data.toList.toArray⟩ : ByteArray) = s := by
  simp

theorem all_take_succ (p : UInt8 → Bool) (l : List UInt8) (k : Nat) (h : k < l.length) : (l.take (k + 1)).all p = ((l.take k).all p && p l[k]) := by
  rw [List.take_succ_eq_append_getElem h, List.all_append]
  simp
theorem all_take_false {p : UInt8 → Bool} {l : List UInt8} {k : Nat} (h : k < l.length) (hp : p l[k] = false) : l.all p = false := by
  rw [List.all_eq_false]
  exact ⟨l[k], List.getElem_mem h, by rw [hp]; simp⟩

end Go.Proofs.YtgkipeehmckbdaaDoor
