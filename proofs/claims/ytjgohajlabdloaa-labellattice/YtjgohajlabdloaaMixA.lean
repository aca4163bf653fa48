/-
  The contract of the document's own 'both'.
-/
import Derived.Test.YtjgohajlabdloaaTwo
namespace Go.Proofs.Ytjgohajlabdloaa
open Go.RowKit
set_option linter.unusedVariables false

/-- What a mix answers, and the lists that it has. -/
def mixE (ok : Bool) (p q : List Int) : Int := if ok then (if p.length ≤ 64 ∧ q.length ≤ 64 then 0 else 2) else 20
def mixL (ok : Bool) (p q : List Int) (r : List Int) : List Int := if ok then (if p.length ≤ 64 ∧ q.length ≤ 64 then r else []) else []

theorem owns_sl {w : World} {base : Nat} {v : Value} {xs : List Int} (h : Owns w base v xs) : ∃ ao n c, v = .slice ao n c := by
  obtain ⟨b, off, ao, cap, hv, _⟩ := h.sees
  exact ⟨ao, _, cap, hv⟩

theorem cells_two (w : World) (u x : Value) : (w.alloc (.cells #[u, x] 24)).cell? ⟨w.heap.size, 0, none⟩ = some u ∧ (w.alloc (.cells #[u, x] 24)).cell? ⟨w.heap.size, 1, none⟩ = some x := by
  constructor <;> simp

set_option maxHeartbeats 1000000 in
theorem both_ok (u x : Value) (ps qs : List Int) (w : World) (hU : Sees w u ps) (hX : Sees w x qs) (h1 : ps.length ≤ 64) (h2 : qs.length ≤ 64) :
    Calls Try.prog 39 #[u, x] w fun e w' => e = .returned (.tuple #[.agg #[u, x], .int .i64 0]) ∧ Below w.heap.size w w' := by
  obtain ⟨b1, o1, a1, k1, rfl, _⟩ := hU
  obtain ⟨b2, o2, a2, k2, rfl, _⟩ := hX
  have g1 : ¬ (64 : Int) < (ps.length : Int) := by omega
  have g2 : ¬ (64 : Int) < (qs.length : Int) := by omega
  obtain ⟨y1, y2⟩ := cells_two w (.slice a1 ps.length k1) (.slice a2 qs.length k2)
  go_enter Try.func39, Try.ntmps39
  go_wp2
  refine bodyPost_ret (v := .tuple #[.agg #[.slice a1 ps.length k1, .slice a2 qs.length k2], .int .i64 0]) (by simp [results, Try.results39, go_sem, y1, y2]) rfl ?_
  exact ⟨rfl, below_alloc _ _⟩

set_option maxHeartbeats 1000000 in
theorem both_full (u x : Value) (ps qs : List Int) (w : World) (hU : Sees w u ps) (hX : Sees w x qs) (h : 64 < ps.length ∨ 64 < qs.length) :
    Calls Try.prog 39 #[u, x] w fun e w' => e = .returned (.tuple #[.agg #[.slice none 0 0, .slice none 0 0], .int .i64 2]) ∧ Below w.heap.size w w' := by
  obtain ⟨b1, o1, a1, k1, rfl, _⟩ := hU
  obtain ⟨b2, o2, a2, k2, rfl, _⟩ := hX
  obtain ⟨y1, y2⟩ := cells_two w (.slice none 0 0) (.slice none 0 0)
  by_cases hp : 64 < ps.length
  · have g1 : (64 : Int) < (ps.length : Int) := by omega
    go_enter Try.func39, Try.ntmps39
    go_wp2
    refine bodyPost_ret (v := .tuple #[.agg #[.slice none 0 0, .slice none 0 0], .int .i64 2]) (by simp [results, Try.results39, go_sem, y1, y2]) rfl ?_
    exact ⟨rfl, below_alloc _ _⟩
  · have g1 : ¬ (64 : Int) < (ps.length : Int) := by omega
    have g2 : (64 : Int) < (qs.length : Int) := by omega
    go_enter Try.func39, Try.ntmps39
    go_wp2
    refine bodyPost_ret (v := .tuple #[.agg #[.slice none 0 0, .slice none 0 0], .int .i64 2]) (by simp [results, Try.results39, go_sem, y1, y2]) rfl ?_
    exact ⟨rfl, below_alloc _ _⟩

end Go.Proofs.Ytjgohajlabdloaa
