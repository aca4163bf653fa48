/-
  Runs of the codes that the laws VmCounts and VmDepths name.
-/
import Derived.Test.YtfnojlgmbfocfaaDoorVMath
namespace Go.Proofs.YtfnojlgmbfocfaaDoor
open Go.RowKit
set_option linter.unusedVariables false
set_option linter.unusedSimpArgs false

def cntL (k : Int) : List InsL := [(1, k), (1, 1), (6, 0), (3, 0), (21, 1), (25, 0)]
theorem cnt0 (k : Int) (b : List Nat) : stepL (cntL k) ⟨0, [], []⟩ b = ((0, 0), ⟨1, [k], []⟩, b) := by
  simp [stepL, cntL, fitsL, tkI, lvI, effO, effT, doL, putL, kindO]
theorem cnt1 (k x : Int) (b : List Nat) : stepL (cntL k) ⟨1, [x], []⟩ b = ((0, 0), ⟨2, [x, 1], []⟩, b) := by
  simp [stepL, cntL, fitsL, tkI, lvI, effO, effT, doL, putL, kindO]
theorem cnt2 (k x : Int) (b : List Nat) (h : wrap64 (x - 1) = x - 1) : stepL (cntL k) ⟨2, [x, 1], []⟩ b = ((0, 0), ⟨3, [x - 1], []⟩, b) := by
  simp [stepL, cntL, fitsL, tkI, lvI, effO, effT, doL, putL, kindO, twoL, topL, h]
theorem cnt3 (k x : Int) (b : List Nat) : stepL (cntL k) ⟨3, [x], []⟩ b = ((0, 0), ⟨4, [x, x], []⟩, b) := by
  simp [stepL, cntL, fitsL, tkI, lvI, effO, effT, doL, putL, kindO, topL]
theorem cnt4 (k x : Int) (b : List Nat) : stepL (cntL k) ⟨4, [x, x], []⟩ b = ((0, 0), ⟨if x = 0 then 5 else 1, [x], []⟩, b) := by
  simp [stepL, cntL, fitsL, tkI, lvI, effO, effT, doL, putL, kindO, topL]
theorem cnt5 (k : Int) (b : List Nat) : stepL (cntL k) ⟨5, [0], []⟩ b = ((3, 0), ⟨5, [0], []⟩, b) := by
  simp [stepL, cntL, fitsL, tkI, lvI, effO, effT, doL, putL, kindO]
theorem run_on {code : List InsL} {s s' : StL} {b b' : List Nat} (h : stepL code s b = ((0, 0), s', b')) (f u : Nat) : runL code (f + 1) u s b = runL code f (u + 1) s' b' := by
  rw [run_step, h]
  simp
theorem cnt_turn (k : Int) (j : Nat) (hj : j < 1000) (b : List Nat) (f u : Nat) : runL (cntL k) (f + 4) u ⟨1, [((j : Int) + 1)], []⟩ b = runL (cntL k) f (u + 4) ⟨if j = 0 then 5 else 1, [(j : Int)], []⟩ b := by
  have hw : wrap64 ((j : Int) + 1 - 1) = (j : Int) + 1 - 1 := by unfold wrap64; omega
  have e : (j : Int) + 1 - 1 = (j : Int) := by omega
  rw [show f + 4 = (f + 3) + 1 by omega, run_on (cnt1 _ _ _), show f + 3 = (f + 2) + 1 by omega, run_on (cnt2 _ _ _ hw), show f + 2 = (f + 1) + 1 by omega, run_on (cnt3 _ _ _), e, run_on (cnt4 _ _ _)]
  by_cases h0 : j = 0
  · subst h0; simp
  · have : ¬ ((j : Int) = 0) := by omega
    rw [if_neg h0, if_neg this]
theorem cnt_loop (k : Int) (b : List Nat) : ∀ (j : Nat), j < 1000 → ∀ (f u : Nat), runL (cntL k) (f + 4 * (j + 1)) u ⟨1, [((j : Int) + 1)], []⟩ b = runL (cntL k) f (u + 4 * (j + 1)) ⟨5, [0], []⟩ b
  | 0, h, f, u => cnt_turn k 0 h b f u
  | j + 1, h, f, u => by
    have ih := cnt_loop k b j (by omega) f (u + 4)
    have e := cnt_turn k (j + 1) h b (f + 4 * (j + 1)) u
    rw [if_neg (by omega)] at e
    rw [show f + 4 * (j + 1 + 1) = f + 4 * (j + 1) + 4 by omega, e]
    have e2 : ((j + 1 : Nat) : Int) = (j : Int) + 1 := by omega
    rw [e2, ih, show u + 4 + 4 * (j + 1) = u + 4 * (j + 1 + 1) by omega]
theorem cnt_all (j : Nat) (hj : j < 1000) (b : List Nat) (f : Nat) : runL (cntL ((j : Int) + 1)) (f + 4 * (j + 1) + 1) 0 ⟨0, [], []⟩ b = runL (cntL ((j : Int) + 1)) f (1 + 4 * (j + 1)) ⟨5, [0], []⟩ b := by
  rw [run_on (cnt0 _ _), cnt_loop _ _ j hj]
theorem cnt_need (j : Nat) (hj : j < 1000) (b : List Nat) : runL (cntL ((j : Int) + 1)) (1 + 4 * (j + 1) + 1) 0 ⟨0, [], []⟩ b = ((3, 0, 1 + 4 * (j + 1) + 1), ⟨5, [0], []⟩, b) := by
  rw [show 1 + 4 * (j + 1) + 1 = 1 + 4 * (j + 1) + 1 from rfl, show runL (cntL ((j : Int) + 1)) (1 + 4 * (j + 1) + 1) 0 ⟨0, [], []⟩ b = runL (cntL ((j : Int) + 1)) 1 (1 + 4 * (j + 1)) ⟨5, [0], []⟩ b from cnt_all j hj b 1, run_step, cnt5]
  simp
theorem cnt_less (j : Nat) (hj : j < 1000) (b : List Nat) : runL (cntL ((j : Int) + 1)) (1 + 4 * (j + 1)) 0 ⟨0, [], []⟩ b = ((1, 0, 1 + 4 * (j + 1)), ⟨5, [0], []⟩, b) := by
  have := cnt_all j hj b 0
  rw [show 1 + 4 * (j + 1) = 0 + 4 * (j + 1) + 1 by omega, this]
  simp [runL]
  omega

/-! ### Calls, one inside the other -/
def calL : List InsL := [(22, 0)]
theorem cal_step (i : Nat) (h : i < 32) (b : List Nat) : stepL calL ⟨0, [], List.replicate i 1⟩ b = ((0, 0), ⟨0, [], List.replicate (i + 1) 1⟩, b) := by
  have h' : ¬ i = 32 := by omega
  simp [stepL, calL, fitsL, tkI, lvI, effO, effT, doL, putL, kindO, h', List.replicate_succ']
theorem cal_full (b : List Nat) : stepL calL ⟨0, [], List.replicate 32 1⟩ b = ((4, 0), ⟨0, [], List.replicate 32 1⟩, b) := by
  simp [stepL, calL, fitsL, tkI, lvI, effO, effT, doL, putL, kindO]
theorem cal_run (b : List Nat) : ∀ (f i u : Nat), i ≤ 32 → (runL calL f u ⟨0, [], List.replicate i 1⟩ b).1.1 = (if i + f ≤ 32 then 1 else 4) ∧ (runL calL f u ⟨0, [], List.replicate i 1⟩ b).2.1 = ⟨0, [], List.replicate (min (i + f) 32) 1⟩
  | 0, i, u, h => by
    rw [if_pos (by omega), show min (i + 0) 32 = i by omega]
    exact ⟨rfl, rfl⟩
  | f + 1, i, u, h => by
    by_cases hi : i < 32
    · rw [run_on (cal_step i hi b)]
      have ih := cal_run b f (i + 1) (u + 1) (by omega)
      rw [show i + (f + 1) = i + 1 + f by omega]
      exact ih
    · have : i = 32 := by omega
      subst this
      rw [run_step, cal_full, if_neg (show ¬ ((4 : Int) = 0) by decide), if_neg (by omega), show min (32 + (f + 1)) 32 = 32 by omega]
      exact ⟨rfl, rfl⟩

/-! ### Numbers, one upon the other -/
def pshL (n : Int) : List InsL := [(1, n), (20, 0)]
theorem psh0 (n : Int) (i : Nat) (h : i < 64) (b : List Nat) : stepL (pshL n) ⟨0, List.replicate i n, []⟩ b = ((0, 0), ⟨1, List.replicate (i + 1) n, []⟩, b) := by
  have h1 : (i : Int) + 1 ≤ 64 := by omega
  simp [stepL, pshL, fitsL, tkI, lvI, effO, effT, doL, putL, kindO, h1, List.replicate_succ']
theorem psh1 (n : Int) (i : Nat) (h : i ≤ 64) (b : List Nat) : stepL (pshL n) ⟨1, List.replicate i n, []⟩ b = ((0, 0), ⟨0, List.replicate i n, []⟩, b) := by
  have h1 : (i : Int) ≤ 64 := by omega
  simp [stepL, pshL, fitsL, tkI, lvI, effO, effT, doL, putL, kindO, h, h1]
theorem psh_full (n : Int) (b : List Nat) : stepL (pshL n) ⟨0, List.replicate 64 n, []⟩ b = ((4, 0), ⟨0, List.replicate 64 n, []⟩, b) := by
  simp [stepL, pshL, fitsL, tkI, lvI, effO, effT, doL, putL, kindO]
theorem psh_run (n : Int) (b : List Nat) : ∀ (f i u : Nat), i ≤ 64 → (runL (pshL n) (2 * f) u ⟨0, List.replicate i n, []⟩ b).1.1 = (if i + f ≤ 64 then 1 else 4) ∧ (runL (pshL n) (2 * f) u ⟨0, List.replicate i n, []⟩ b).2.1 = ⟨0, List.replicate (min (i + f) 64) n, []⟩
  | 0, i, u, h => by
    rw [if_pos (by omega), show min (i + 0) 64 = i by omega]
    exact ⟨rfl, rfl⟩
  | f + 1, i, u, h => by
    by_cases hi : i < 64
    · rw [show 2 * (f + 1) = (2 * f + 1) + 1 by omega, run_on (psh0 n i hi b), run_on (psh1 n (i + 1) (by omega) b)]
      have ih := psh_run n b f (i + 1) (u + 1 + 1) (by omega)
      rw [show i + (f + 1) = i + 1 + f by omega]
      exact ih
    · have : i = 64 := by omega
      subst this
      rw [show 2 * (f + 1) = (2 * f + 1) + 1 by omega, run_step, psh_full, if_neg (show ¬ ((4 : Int) = 0) by decide), if_neg (by omega), show min (64 + (f + 1)) 64 = 64 by omega]
      exact ⟨rfl, rfl⟩
end Go.Proofs.YtfnojlgmbfocfaaDoor
