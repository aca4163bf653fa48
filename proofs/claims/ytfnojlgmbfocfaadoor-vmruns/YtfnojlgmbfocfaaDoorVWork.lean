/-
  A code, a state and a memory that are handed on.
-/
import Derived.Test.YtfnojlgmbfocfaaDoorVAwake
import Derived.Test.YtfnojlgmbfocfaaDoorVRef13
namespace Go.Proofs.YtfnojlgmbfocfaaDoor
open Go.RowKit
set_option linter.unusedVariables false

/-- A code, a state, a memory that are handed on. -/
structure SeesW (w : World) (v : Value) (l : List InsL) (c : Value) (s : StL) (vs vk : Value) (m : ByteArray) : Prop where
  val : v = .agg #[c, .int .i64 s.pc, vs, vk, .string m]
  code : SeesI w c l
  st : SeesS w (.agg #[.int .i64 s.pc, vs, vk]) s vs vk
  cl : l.length ≤ 140737488355328
  ml : m.size ≤ 140737488355328
theorem SeesW.below {w w' : World} {v : Value} {l : List InsL} {c : Value} {s : StL} {vs vk : Value} {m : ByteArray} (h : SeesW w v l c s vs vk m) (hb : Below w.heap.size w w') : SeesW w' v l c s vs vk m := ⟨h.val, h.code.below hb, h.st.below hb, h.cl, h.ml⟩
/-- At z lies what was handed on. -/
structure WorkAt (w : World) (z : Nat) (c : Value) (pc : Int) (vs vk : Value) (m : ByteArray) : Prop where
  blk : w.heap[z]? = some (.cells #[c, .int .i64 pc, vs, vk, .string m] 27 (0, 0))
theorem WorkAt.lt {w : World} {z : Nat} {c : Value} {pc : Int} {vs vk : Value} {m : ByteArray} (h : WorkAt w z c pc vs vk m) : z < w.heap.size := (Array.getElem?_eq_some_iff.1 h.blk).1
theorem WorkAt.below {w w' : World} {z : Nat} {c : Value} {pc : Int} {vs vk : Value} {m : ByteArray} (h : WorkAt w z c pc vs vk m) (hb : Below w.heap.size w w') : WorkAt w' z c pc vs vk m := ⟨by rw [hb.block _ h.lt]; exact h.blk⟩
theorem WorkAt.cells {w : World} {z : Nat} {c : Value} {pc : Int} {vs vk : Value} {m : ByteArray} (h : WorkAt w z c pc vs vk m) : w.cell? ⟨z, 0, none⟩ = some c ∧ w.cell? ⟨z, 1, none⟩ = some (.int .i64 pc) ∧ w.cell? ⟨z, 2, none⟩ = some vs ∧ w.cell? ⟨z, 3, none⟩ = some vk ∧ w.cell? ⟨z, 4, none⟩ = some (.string m) := by
  have hb := h.blk
  refine ⟨?_, ?_, ?_, ?_, ?_⟩ <;> simp [World.cell?, hb]
/-- Why a run may not be, whatever else is right. -/
def refF (l : List InsL) : Int := if (checkL l).1 = 0 then 1 else (checkL l).1
theorem refF_ne (l : List InsL) : refF l ≠ 0 := by unfold refF; split <;> simp_all
theorem refL_nil (l : List InsL) (s : StL) (fuel : Int) : refL l s false fuel = refF l := by
  unfold refL refF
  split
  · simp
  · rfl
theorem refL_fuel (l : List InsL) (s : StL) (b : Bool) (fuel : Int) (h : fuel < 0 ∨ 1048576 < fuel) : refL l s b fuel = refF l := by
  unfold refL refF
  split
  · rw [if_neg (by omega)]
  · rfl
end Go.Proofs.YtfnojlgmbfocfaaDoor
