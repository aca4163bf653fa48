/-
  Flowing by itself, as lists: when it does; that it is an order.
-/
import Derived.Test.YtjgohajlabdloaaLabW
namespace Go.Proofs.Ytjgohajlabdloaa
open Go.RowKit
set_option linter.unusedVariables false

/-- Does something flow by itself? -/
def flB (s i t j : List Int) : Bool := flowsE s i t j [] == 0

theorem mem_lacksL (s i t j : List Int) (x : Int) : x ∈ lacksL s i t j ↔ (x ∈ s ∧ x ∉ t) ∨ (x ∈ j ∧ x ∉ i) := by
  unfold lacksL
  rw [mem_sd, List.mem_append, mem_lessL, mem_lessL]

theorem lacksL_rises (s i t j : List Int) : (lacksL s i t j).Pairwise (· < ·) := sd_rises _

theorem flowsE_iff {s i t j own : List Int} (h1 : mayB s i = true) (h2 : mayB t j = true) (h3 : catsB own = true) : flowsE s i t j own = (if withinB (lacksL s i t j) own then 0 else 21) := by
  unfold flowsE
  rw [h1, h2, h3]
  rfl

theorem flB_iff {s i t j : List Int} (h1 : mayB s i = true) (h2 : mayB t j = true) : flB s i t j = true ↔ (∀ x, x ∈ s → x ∈ t) ∧ (∀ x, x ∈ j → x ∈ i) := by
  unfold flB
  rw [flowsE_iff h1 h2 catsB_nil]
  cases hw : withinB (lacksL s i t j) []
  · have hn : ¬ withinB (lacksL s i t j) [] = true := by rw [hw]; simp
    rw [withinB_iff] at hn
    constructor
    · intro h
      exact absurd h (by decide)
    · rintro ⟨k1, k2⟩
      exfalso
      apply hn
      intro x hx
      rw [mem_lacksL] at hx
      rcases hx with ⟨a, b⟩ | ⟨a, b⟩
      · exact absurd (k1 x a) b
      · exact absurd (k2 x a) b
  · rw [withinB_iff] at hw
    refine ⟨fun _ => ⟨fun x hx => ?_, fun x hx => ?_⟩, fun _ => rfl⟩
    · refine Decidable.byContradiction fun hn => ?_
      have := hw x ((mem_lacksL s i t j x).2 (Or.inl ⟨hx, hn⟩))
      simp at this
    · refine Decidable.byContradiction fun hn => ?_
      have := hw x ((mem_lacksL s i t j x).2 (Or.inr ⟨hx, hn⟩))
      simp at this

theorem may_rises {s i : List Int} (h : mayB s i = true) : s.Pairwise (· < ·) ∧ i.Pairwise (· < ·) := by
  rw [mayB_iff] at h
  exact ⟨h.1.2.1, h.2.2.1⟩

theorem order_refl {s i : List Int} (h : mayB s i = true) : flB s i s i = true := (flB_iff h h).2 ⟨fun _ h => h, fun _ h => h⟩
theorem order_trans {s i t j k l : List Int} (h1 : mayB s i = true) (h2 : mayB t j = true) (h3 : mayB k l = true) (a : flB s i t j = true) (b : flB t j k l = true) : flB s i k l = true := by
  rw [flB_iff h1 h2] at a
  rw [flB_iff h2 h3] at b
  exact (flB_iff h1 h3).2 ⟨fun x hx => b.1 x (a.1 x hx), fun x hx => a.2 x (b.2 x hx)⟩
theorem order_anti {s i t j : List Int} (h1 : mayB s i = true) (h2 : mayB t j = true) : (flB s i t j && flB t j s i) = alikeB s i t j := by
  rw [Bool.eq_iff_iff, Bool.and_eq_true, flB_iff h1 h2, flB_iff h2 h1]
  unfold alikeB
  rw [Bool.and_eq_true, decide_eq_true_eq, decide_eq_true_eq]
  have r1 := may_rises h1
  have r2 := may_rises h2
  constructor
  · rintro ⟨⟨a, b⟩, c, d⟩
    exact ⟨ordI.uniq r1.1 r2.1 (fun x => ⟨a x, c x⟩), ordI.uniq r1.2 r2.2 (fun x => ⟨d x, b x⟩)⟩
  · rintro ⟨rfl, rfl⟩
    exact ⟨⟨fun _ h => h, fun _ h => h⟩, fun _ h => h, fun _ h => h⟩

set_option maxHeartbeats 400000 in
theorem flowsl_any (a b : Value) (s i t j : List Int) (w : World) (hA : SeesL w a s i) (hB : SeesL w b t j) :
    Calls Try.prog 23 #[a, b] w fun e w' => e = .returned (.bool (flB s i t j)) ∧ Below w.heap.size w w' := by
  have hA0 := hA
  have hB0 := hB
  obtain ⟨u1, x1, rfl, _⟩ := hA
  obtain ⟨u2, x2, rfl, _⟩ := hB
  have hR := flows_any _ _ (.slice none 0 0) s i t j [] _ ((hA0.box (.cells #[u1, x1] 24)).box (.cells #[u2, x2] 24)) ((hB0.box (.cells #[u1, x1] 24)).box (.cells #[u2, x2] 24)) (sees_nil _) (by simp)
  have HZ : Hid (Below w.heap.size w ((w.alloc (.cells #[u1, x1] 24)).alloc (.cells #[u2, x2] 24))) := hid ((below_alloc w _).alloc (by simp) _)
  have hsz := HZ.out.size
  unfold flB
  generalize flowsE s i t j [] = fe at *
  go_enter Try.func23, Try.ntmps23
  go_wp2_with fail
  refine hR.mono ?_
  clear hR
  rintro e w1 ⟨v, rfl, _, h1⟩
  have HB := hid (HZ.out.trans (h1.mono hsz))
  clear h1 HZ
  go_wp2
  go_ret
  exact ⟨rfl, HB.out⟩

end Go.Proofs.Ytjgohajlabdloaa
