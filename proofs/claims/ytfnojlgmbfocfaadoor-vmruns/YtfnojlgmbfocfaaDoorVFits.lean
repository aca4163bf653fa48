/-
  The tables; fits.
-/
import Derived.Test.YtfnojlgmbfocfaaDoorVTurnB
namespace Go.Proofs.YtfnojlgmbfocfaaDoor
open Go.RowKit
set_option linter.unusedVariables false
set_option linter.unusedSimpArgs false

def effC : List Value := effT.flatMap fun p => [.int .i64 p.1, .int .i64 p.2]
def opC : List Value := opT.flatMap fun p => [.string ⟨p.1.toArray⟩, .int .i64 p.2]
/-- The tables lie where the program lays them. -/
structure Tabs (w : World) : Prop where
  e : ∀ k, (h : k < 25) → w.cell? ⟨0, k * 2, none⟩ = some (.int .i64 (effT.getD k (0, 0)).1) ∧ w.cell? ⟨0, k * 2 + 1, none⟩ = some (.int .i64 (effT.getD k (0, 0)).2)
  o : ∀ k, (h : k < 25) → w.cell? ⟨1, k * 2, none⟩ = some (.string ⟨(opT.getD k ([], 0)).1.toArray⟩) ∧ w.cell? ⟨1, k * 2 + 1, none⟩ = some (.int .i64 (opT.getD k ([], 0)).2)
theorem Tabs.same {w w' : World} (h : Tabs w) (h0 : w'.heap[0]? = w.heap[0]?) (h1 : w'.heap[1]? = w.heap[1]?) : Tabs w' :=
  ⟨fun k hk => ⟨(World.cell?_of_block (a := ⟨_, k * 2, none⟩) h0).trans (h.e k hk).1, (World.cell?_of_block (a := ⟨_, k * 2 + 1, none⟩) h0).trans (h.e k hk).2⟩, fun k hk => ⟨(World.cell?_of_block (a := ⟨_, k * 2, none⟩) h1).trans (h.o k hk).1, (World.cell?_of_block (a := ⟨_, k * 2 + 1, none⟩) h1).trans (h.o k hk).2⟩⟩
theorem Tabs.lt {w : World} (h : Tabs w) : 0 < w.heap.size ∧ 1 < w.heap.size := ⟨World.block_lt_of_cell? w _ (h.e 0 (by decide)).1, World.block_lt_of_cell? w _ (h.o 0 (by decide)).1⟩
theorem Tabs.below {w w' : World} (h : Tabs w) (hb : Below w.heap.size w w') : Tabs w' := h.same (hb.block _ h.lt.1) (hb.block _ h.lt.2)
theorem Tabs.kp {w w' : World} {B q r : Nat} (h : Tabs w) (hb : Kp B q r w w') (hB : 2 ≤ B) (hq : 2 ≤ q) (hr : 2 ≤ r) : Tabs w' := h.same (hb.block _ (by omega) (by omega) (by omega)) (hb.block _ (by omega) (by omega) (by omega))
theorem eff_small : ∀ k, (h : k < 25) → 0 ≤ (effT.getD k (0, 0)).1 ∧ (effT.getD k (0, 0)).1 ≤ 2 ∧ 0 ≤ (effT.getD k (0, 0)).2 ∧ (effT.getD k (0, 0)).2 ≤ 2 := by decide
theorem effO_at (k : Nat) : effO ((k : Int) + 1) = effT.getD k (0, 0) := by
  unfold effO
  rw [show ((k : Int) + 1 - 1).toNat = k by omega]

set_option maxRecDepth 20000 in
set_option maxHeartbeats 4000000 in
theorem fits_any (w : World) (B p : Nat) (m vc vs vk : Value) (code : List InsL) (s : StL) (h : Mach w B p m vc vs vk code s) (hT : Tabs w) (hl : s.st.length ≤ 64) (op a : Int) (h1 : 1 ≤ op) (h2 : op ≤ 25) (ha : op = 3 → 0 ≤ a ∧ a < 64) :
    Calls Tryd.prog 40 #[.pointer (some ⟨p, 0, none⟩), .agg #[.int .i64 op, .int .i64 a]] w fun e w' => e = .returned (.bool (fitsL (op, a) s.st.length)) ∧ Below w.heap.size w w' := by
  obtain ⟨k, rfl⟩ : ∃ k : Nat, op = (k : Int) + 1 := ⟨(op - 1).toNat, by omega⟩
  have hk : k < 25 := by omega
  have hlt := h.lt
  have ht0 := hT.lt.1
  obtain ⟨x1, x2⟩ := hT.e k hk
  obtain ⟨t0, t1, l0, l1⟩ := eff_small k hk
  have he := effO_at k
  obtain ⟨c0, c1, c2, c3, c4, f2, f3, f4⟩ := h.cells
  obtain ⟨ao, cap, hv, _⟩ := h.os.shape
  subst hv
  obtain ⟨FT, hFT⟩ : ∃ FT, FT = fitsL ((k : Int) + 1, a) s.st.length := ⟨_, rfl⟩
  rw [← hFT]
  unfold fitsL tkI lvI at hFT
  simp only [he] at hFT
  generalize (effT.getD k (0, 0)).1 = T at *
  generalize (effT.getD k (0, 0)).2 = L at *
  generalize s.st.length = n at *
  clear h hT he c0 c1 c2 c4 f2 f3 f4
  have hk' : (k : Int) < 25 := by omega
  have ex : (k : Int) + 1 - 1 = (k : Int) := by omega
  by_cases h3 : k = 2
  · obtain ⟨a0, a1⟩ := ha (by omega)
    subst h3
    rw [if_pos (by decide)] at hFT
    by_cases q1 : T + a ≤ (n : Int)
    · rw [decide_eq_true q1, Bool.true_and] at hFT
      have q2 : 0 ≤ (n : Int) - (T + a) := by omega
      have HFT := hid hFT
      clear hFT ha
      go_enter Tryd.func40, Tryd.ntmps40
      go_wp2
      go_quiet (fail)
      go_wp2
      go_ret
      exact ⟨by rw [HFT.out]; rfl, below_drewN (below_alloc2 w _ _) nq⟩
    · rw [decide_eq_false q1, Bool.false_and] at hFT
      have q2 : decide (0 ≤ (n : Int) - (T + a)) = false := decide_eq_false (by omega)
      have HFT := hid hFT
      clear hFT ha
      go_enter Tryd.func40, Tryd.ntmps40
      go_wp2
      go_quiet (fail)
      go_wp2
      go_ret
      exact ⟨by rw [HFT.out]; rfl, below_drewN (below_alloc2 w _ _) nq⟩
  · have h3' : ¬ ((k : Int) + 1 = 3) := by omega
    rw [if_neg h3'] at hFT
    by_cases q1 : T ≤ (n : Int)
    · have q1' : T + 0 ≤ (n : Int) := by omega
      rw [decide_eq_true q1', Bool.true_and, Int.add_zero, Int.add_zero] at hFT
      have q2 : 0 ≤ (n : Int) - T := by omega
      have HFT := hid hFT
      clear hFT ha q1'
      go_enter Tryd.func40, Tryd.ntmps40
      go_wp2
      go_quiet (fail)
      go_wp2
      go_ret
      exact ⟨by rw [HFT.out]; rfl, below_drewN (below_alloc2 w _ _) nq⟩
    · have q1' : ¬ T + 0 ≤ (n : Int) := by omega
      rw [decide_eq_false q1', Bool.false_and] at hFT
      have q2 : decide (0 ≤ (n : Int) - T) = false := decide_eq_false (by omega)
      have HFT := hid hFT
      clear hFT ha q1'
      go_enter Tryd.func40, Tryd.ntmps40
      go_wp2
      go_quiet (fail)
      go_wp2
      go_ret
      exact ⟨by rw [HFT.out]; rfl, below_drewN (below_alloc2 w _ _) nq⟩
end Go.Proofs.YtfnojlgmbfocfaaDoor
