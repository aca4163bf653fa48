/-
  What both machines tell of any work: one word for a run that may be and for one that may not.
-/
import Derived.Test.YtfnojlgmbfocfaaDoorVRunM
import Derived.Test.YtfnojlgmbfocfaaDoorVRunRB
import Derived.Test.YtfnojlgmbfocfaaDoorVAwake
import Derived.Test.YtfnojlgmbfocfaaDoorVWork
namespace Go.Proofs.YtfnojlgmbfocfaaDoor
open Go.RowKit
set_option linter.unusedVariables false
set_option linter.unusedSimpArgs false
set_option maxRecDepth 100000

/-- The error, and what a run makes of a state and a memory. -/
def outc (l : List InsL) (s : StL) (b : List Nat) (fuel : Int) : Int × ((Int × Int × Nat) × StL × List Nat) :=
  if refL l s true fuel = 0 then (0, runL l fuel.toNat 0 s b) else (refL l s true fuel, ((0, 0, 0), ⟨0, [], []⟩, b))
/-- What the code's machine leaves. -/
def CodeR (W : World) (q r : Nat) (vb : Value) (E : Int) (R : (Int × Int × Nat) × StL × List Nat) (e : Ending) (w' : World) : Prop :=
  ∃ us uk, e = .returned (.tuple #[.agg #[.int .i64 R.2.1.pc, us, uk], .agg #[.int .i64 R.1.1, .int .i64 R.1.2.1, .int .i64 (R.1.2.2 : Nat)], .int .i64 E]) ∧ OwnC w' W.heap.size us R.2.1.st ∧ OwnC w' W.heap.size uk R.2.1.ca ∧
    ∃ ld' st', MemAt w' q r R.2.2 ld' st' vb ∧ Kp W.heap.size q r W w'
theorem refL_fuel0 {l : List InsL} {s : StL} {fuel : Int} (h : refL l s true fuel = 0) : 0 ≤ fuel := by
  unfold refL at h
  by_cases h1 : (checkL l).1 = 0
  · rw [if_pos h1] at h
    by_cases h2 : okS l.length s = true ∧ true = true ∧ 0 ≤ fuel ∧ fuel ≤ 1048576
    · exact h2.2.2.1
    · rw [if_neg h2] at h; simp at h
  · rw [if_neg h1] at h; exact absurd h h1
theorem code_any (v : Value) (l : List InsL) (s : StL) (vs vk vb : Value) (fuel : Int) (q r : Nat) (b : List Nat) (w : World) (hV : SeesI w v l) (hT : Tabs w) (hS : SeesS w (.agg #[.int .i64 s.pc, vs, vk]) s vs vk) (hlen : l.length ≤ 140737488355328)
    (hM : MemAt w q r b 0 0 vb) (hr : r < w.heap.size) (hq2 : 2 ≤ q) (hr2 : 2 ≤ r) (hbl : b.length ≤ 4611686018427387904) :
    Calls Tryd.prog 13 #[v, .agg #[.int .i64 s.pc, vs, vk], memV q, .int .i64 fuel] w (CodeR w q r vb (outc l s b fuel).1 (outc l s b fuel).2) := by
  unfold outc
  by_cases hE : refL l s true fuel = 0
  · rw [if_pos hE]
    obtain ⟨n, rfl⟩ := Int.eq_ofNat_of_zero_le (refL_fuel0 hE)
    rw [Int.toNat_natCast]
    refine (run_good v l _ s vs vk vb n q r b 0 0 w hV hT hS hlen hE hM hr hq2 hr2 hbl (by decide)).mono ?_
    rintro e w' ⟨us, uk, rfl, o1, o2, _, ld, st, hm, _, hk⟩
    exact ⟨us, uk, rfl, o1, o2, ld, st, hm, hk⟩
  · rw [if_neg hE]
    refine (run_bad v l _ s vs vk fuel (memV q) true (Or.inl ⟨rfl, q, rfl⟩) w hV hT hS hlen hE).mono ?_
    rintro e w' ⟨rfl, hb⟩
    exact ⟨_, _, rfl, Or.inl ⟨rfl, rfl⟩, Or.inl ⟨rfl, rfl⟩, 0, 0, hM.below hb, Kp.of hb⟩
theorem doc_any (v : Value) (l : List InsL) (s : StL) (vs vk vb : Value) (b : List Nat) (fuel : Int) (w : World) (hV : SeesI w v l) (hS : SeesS w (.agg #[.int .i64 s.pc, vs, vk]) s vs vk) (hbs : SeesN .u8 w vb b) (hlen : l.length ≤ 140737488355328) (hby : ∀ y ∈ b, y < 256) (hbm : b.length ≤ 140737488355328) :
    Calls Tryd.prog 14 #[v, .agg #[.int .i64 s.pc, vs, vk], .agg #[vb], .int .i64 fuel] w (RunQ w vb (outc l s b fuel).1 (outc l s b fuel).2) := by
  unfold outc
  by_cases hE : refL l s true fuel = 0
  · rw [if_pos hE]
    obtain ⟨n, rfl⟩ := Int.eq_ofNat_of_zero_le (refL_fuel0 hE)
    rw [Int.toNat_natCast]
    exact rrun_good v l s vs vk vb b n w hV hS hbs hlen hE hby hbm
  · rw [if_neg hE]
    exact rrun_bad v l s vs vk vb b fuel w hV hS hbs hlen hE
end Go.Proofs.YtfnojlgmbfocfaaDoor
