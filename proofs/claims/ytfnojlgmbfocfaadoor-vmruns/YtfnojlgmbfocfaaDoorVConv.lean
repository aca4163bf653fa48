/-
  Bytes that are seen, as a text.
-/
import Derived.Test.YtfnojlgmbfocfaaDoorVReg
namespace Go.Proofs.YtfnojlgmbfocfaaDoor
open Go.RowKit
set_option linter.unusedVariables false

theorem conv_sees {w : World} {v : Value} {xs : List Nat} (h : SeesN .u8 w v xs) : (convert 37 9 v).run Tryd.prog w = .ok (.string (strOf xs)) w := by
  obtain ⟨b, off, ao, cap, rfl, hcap, hnil, hao, hcell⟩ := h
  cases ao with
  | none =>
    have hx : xs = [] := by
      by_cases e : xs = []
      · exact e
      · have := hao e
        cases this
    subst hx
    obtain rfl := hnil rfl
    exact run_convert_bytes_nil w 37 5 Tryd.underlying37 Tryd.underlying5 0 0 9 Tryd.underlying9
  | some ad =>
    by_cases e : xs = []
    · subst e
      have hl : (loadCells ad 0).run Tryd.prog w = .ok (([] : List Int).map (Value.int .u8)).toArray w := by
        have := run_loadCells_list (P := Tryd.prog) w ad ([] : List Value) (fun j v hj => by simp at hj)
        simpa using this
      simp only [List.length_nil]
      rw [run_convert_bytes_string w 37 9 5 _ 0 cap Tryd.underlying37 Tryd.underlying5 Tryd.underlying9, run_bytesToString w _ 0 cap [] hl]
      rfl
    · obtain rfl := (Option.some.inj (hao e))
      rw [← strOfNums_cast]
      refine run_convert_bytes_arg w 37 5 Tryd.underlying37 Tryd.underlying5 b off _ cap _ (by simp) (fun i hi => ?_) 9 Tryd.underlying9
      have hi' : i < xs.length := by simpa using hi
      rw [hcell i hi']
      simp [List.getD, hi']
end Go.Proofs.YtfnojlgmbfocfaaDoor
