/-
  slices.Delete and slices.Clone of a row ([]api.Item[int]).
-/
import Derived.Test.YtkjmilcocnjjoaaTRowB
import Derived.Test.YtkjmilcocnjjoaaTInsII
namespace Go.Proofs.Ytkjmilcocnjjoaa.I.I
open Go.RowKit Tm Go.Lib
set_option linter.unusedVariables false

theorem zero (w : World) : (zeroValue 47).run Try.prog w = .ok (.agg #[.string ⟨#[]⟩, .int .i64 0]) w := Try.zeroValue47 w

set_option maxHeartbeats 4000000 in
set_option maxRecDepth 100000 in
theorem del_any (v : Value) (n i j : Nat) (xs : List Value) (w : World) (hrow : w.ownsRow 0 47 2 v n xs) (hij : i < j) (hj : j ≤ n) (hn : n ≤ 4096) (hx1 : ∀ u ∈ xs, u.oneCell' = true) :
    Calls Try.prog 51 #[v, .int .i64 i, .int .i64 j] w fun e w' =>
      ∃ v', e = .returned v' ∧ w'.ownsRow 0 47 2 v' (i + (n - j)) (xs.take (i * 2) ++ xs.drop (j * 2)) ∧ w.grownBy w' v.ownBlock ∧ v'.ownBlock = v.ownBlock := by
  obtain ⟨i0, hi0, hz0, hzs, hzb⟩ := info_parts info
  rcases hrow.2 with ⟨_, h0⟩ | ⟨g, cap, cur, rfl, hb, hg, hcap, hcm, hcs, htake⟩
  · omega
  · have hc63 : cap ≤ 9223372036854775807 := by simp only [maxLen] at hcm; omega
    have hdl : (xs.drop (j * 2)).length = (n - j) * 2 := by rw [List.length_drop, hrow.1]; omega
    have hcut := ownsRow_cut hrow i (by omega)
    have hz2 : ¬ ((i : Int) = (j : Int)) := by omega
    have hb1 : ¬ (cap = i) := by omega
    have hle : i ≤ j := by omega
    have hle3 : j ≤ cap := by omega
    have hle2 : i ≤ cap := by omega
    by_cases hjc : j = cap
    · -- THE WHOLE TAIL GOES, AND NO ROOM IS BEHIND IT
      have hjn : n = cap := by omega
      subst hjn
      subst hjc
      have hnil : xs.drop (j * 2) = [] := List.drop_eq_nil_of_le (by rw [hrow.1]; exact Nat.le_refl _)
      obtain ⟨w2, hr2, ho2, hg2⟩ := run_clearR (P := Try.prog) w.drew 28 47 0 _ 2 g j j i _ Try.underlying28 zero (by rfl) (by simp [Value.cells, Value.oneCell']) hcut.drew (by omega) (Nat.le_refl _)
      have HRES : Hid (w2.ownsRow 0 47 2 (.slice (some ⟨g, 0, none⟩) i j) (i + (j - j)) (xs.take (i * 2) ++ xs.drop (j * 2)) ∧ w.grownBy w2 (some g)) :=
        hid ⟨by rw [hnil, List.append_nil, Nat.sub_self, Nat.add_zero]; exact ho2, ⟨hg2.os, hg2.tape, hg2.output, hg2.size, hg2.block⟩⟩
      (try simp only [Nat.mul_one] at hr2)
      clear ho2 hg2 hcut hdl hrow hb hg hcm hcs htake hx1 hi0 hz0 hzs hzb hnil
      go_enter Try.func51, Try.ntmps51
      go_wp2
      go_region
      go_wp2_with (simp only [hr2])
      go_ret
      exact ⟨_, rfl, HRES.out.1, HRES.out.2, rfl⟩
    · have hjc2 : ¬ (cap = j) := fun e => hjc e.symm
      obtain ⟨w1, hr1, ho1, hg1⟩ := run_appR (P := Try.prog) w.drew 28 47 i0 2 Try.underlying28 hi0 hzs g i cap (xs.take (i * 2)) hcut.drew ⟨g, j * 2, none⟩ (n - j) (xs.drop (j * 2)) hdl
        (fun t u hj => by
          have := hrow.cells (g := g) rfl (j * 2 + t) u (by rwa [List.getElem?_drop] at hj)
          rw [addr_add] at this ⊢
          rw [Nat.zero_add] at this
          exact this) (fun u hu => hx1 u (List.mem_of_mem_drop hu)) (by omega)
      obtain ⟨w2, hr2, ho2, hg2⟩ := run_clearR (P := Try.prog) w1 28 47 0 _ 2 g n cap (i + (n - j)) _ Try.underlying28 zero (by rfl) (by simp [Value.cells, Value.oneCell']) ho1 (by omega) hcap
      have HRES : Hid (w2.ownsRow 0 47 2 (.slice (some ⟨g, 0, none⟩) (i + (n - j)) cap) (i + (n - j)) (xs.take (i * 2) ++ xs.drop (j * 2)) ∧ w.grownBy w2 (some g)) :=
        hid ⟨ho2, ⟨hg2.os.trans hg1.os, hg2.tape.trans hg1.tape, hg2.output.trans hg1.output, Nat.le_trans hg1.size hg2.size, fun k hk hne => (hg2.block k (Nat.lt_of_lt_of_le hk hg1.size) hne).trans (hg1.block k hk hne)⟩⟩
      obtain ⟨m, hm⟩ : ∃ m, m = i + (n - j) := ⟨_, rfl⟩
      rw [← hm] at hr1 hr2 HRES ⊢
      have hm1 : m < n := by omega
      have hm2 : ¬ (cap = m) := by omega
      have HM := hid hm
      (try simp only [Nat.mul_one] at hr1 hr2)
      clear ho1 ho2 hg1 hg2 hcut hdl hrow hb hg hcm hcs htake hx1 hi0 hz0 hzs hzb hm
      go_enter Try.func51, Try.ntmps51
      go_wp2
      go_region_law (refine step_append_runI rfl _ _ 28 28 rfl _ _ (by simp [Act.eval, Act.put]) (by simp [Act.eval, Act.put]) (hr1 _ (cap - j)) ?_)
      go_wp2_with (simp only [hr2])
      go_ret
      exact ⟨_, rfl, HRES.out.1, HRES.out.2, rfl⟩

end Go.Proofs.Ytkjmilcocnjjoaa.I.I
