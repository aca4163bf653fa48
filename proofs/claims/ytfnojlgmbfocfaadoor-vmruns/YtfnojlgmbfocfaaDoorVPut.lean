/-
  put: numbers taken off the stack, others put on it.
-/
import Derived.Test.YtfnojlgmbfocfaaDoorVLeaf
namespace Go.Proofs.YtfnojlgmbfocfaaDoor
open Go.RowKit
set_option linter.unusedVariables false
set_option linter.unusedSimpArgs false

set_option maxHeartbeats 4000000 in
theorem put_any (w : World) (B p : Nat) (m vc vs vk vn : Value) (code : List InsL) (s : StL) (h : Mach w B p m vc vs vk code s) (k : Nat) (hk : k ≤ s.st.length) (hl : s.st.length ≤ 64) (xs : List Int) (hS : Sees w vn xs) (hx : xs.length ≤ 2) :
    Calls Tryd.prog 46 #[.pointer (some ⟨p, 0, none⟩), .int .i64 (k : Int), vn] w fun e w' => e = .returned (.tuple #[]) ∧ ∃ vs', Mach w' B p m vc vs' vk code ⟨s.pc, putL s.st k xs, s.ca⟩ ∧ Below B w w' ∧ Fr B p vs vk w vs' vk w' := by
  obtain ⟨c0, c1, c2, c3, c4, f2, f3, f4⟩ := h.cells
  obtain ⟨ao, cap, rfl, hcap⟩ := h.os.shape
  have hlt := h.lt
  have hbase := h.base
  have e1 : (s.st.length : Int) - (k : Int) = ((s.st.length - k : Nat) : Int) := by omega
  have hO : Owns w.drew B (.slice ao (s.st.length - k) cap) (s.st.take (s.st.length - k)) := (h.os.cut (s.st.length - k) (by omega)).below (Below.drew (Below.refl _ _))
  have hlen : (s.st.take (s.st.length - k)).length = s.st.length - k := by rw [List.length_take]; omega
  obtain ⟨v', w', hr, ho, hg, hv⟩ := run_app w.drew 23 B _ _ hO vn xs (hS.below (Below.drew (Below.refl _ _))) (by rw [hlen]; omega) (by show B ≤ w.heap.size; omega)
  have hob : (Value.slice ao (s.st.length - k) cap).ownBlock = (Value.slice ao s.st.length cap).ownBlock := by cases ao <;> rfl
  rw [hob] at hg hv
  have hM := h.below (Below.drew (Below.refl _ w))
  have hM2 := hM.setSt hg ho hv
  have d3 : w'.cell? ⟨p, 3, none⟩ = some (.slice ao s.st.length cap) := (World.cell?_of_block (a := ⟨p, 3, none⟩) (hg.block p hlt (fun e => h.ps e.symm))).trans c3
  have df : w'.frozen? ⟨p, 3, none⟩ = false := (World.frozen?_of_block (a := ⟨p, 3, none⟩) (hg.block p hlt (fun e => h.ps e.symm))).trans f3
  have hbel : Below B w w' := by
    have h0 : Below B w w.drew := Below.drew (Below.refl _ _)
    exact h0.grown hg (by show B ≤ w.heap.size; omega) (fun j hj => (h.os.lt j hj).1)
  have HF : Hid (Fr B p (.slice ao s.st.length cap) vk w v' vk (w'.setCell ⟨p, 3, none⟩ v')) := fun z hB hz hzp h1 h2 => by
    refine ⟨?_, ?_, h2⟩
    · rw [far_set hzp]
      exact hg.block z hz (fun e => h1 e.symm)
    · rcases hv with e | e
      · rw [e]; exact h1
      · rw [e]; intro e2; simp at e2; have : w.drew.heap.size = w.heap.size := rfl; omega
  obtain ⟨ao', cap', hv', _⟩ := ho.shape
  have HM2 := hid hM2
  have HB := hid hbel
  have HR := hid hr
  have e2 : IntKind.i64.wrap ((s.st.length - k : Nat) : Int) = ((s.st.length - k : Nat) : Int) := wrap_i64_nat _ (by omega)
  have hcut : (((s.st.length - k : Nat) : Int)) ≤ (cap : Int) := by omega
  subst hv'
  clear h hO ho hg hv hM hM2 hbel hS hr hob hlen c0 c1 c2 c4 f2 f4
  unfold putL
  generalize (s.st.take (s.st.length - k) ++ xs).length = LL at *
  generalize s.st.take (s.st.length - k) ++ xs = l at *
  go_enter Tryd.func46, Tryd.ntmps46
  go_wp2
  go_region_law (refine step_append_run rfl (.tmp 18) (.tmp 19) 23 23 rfl _ _ (by simp [Act.eval, Act.put]) (by simp [Act.eval, Act.put]) HR.out ?_)
  all_goals
    go_wp2
    go_end0
    exact ⟨rfl, _, HM2.out, HB.out.setCell (p := ⟨p, 3, none⟩) hbase _, HF.out⟩
end Go.Proofs.YtfnojlgmbfocfaaDoor
