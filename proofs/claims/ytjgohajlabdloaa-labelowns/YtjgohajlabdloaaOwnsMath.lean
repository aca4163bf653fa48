/-
  What a flow takes, as lists: it is enough, and nothing less is.
-/
import Derived.Test.YtjgohajlabdloaaOrderMath
namespace Go.Proofs.Ytjgohajlabdloaa
open Go.RowKit
set_option linter.unusedVariables false

theorem catsB_iff {xs : List Int} : catsB xs = true ↔ catsP xs := by simp [catsB]

theorem flowsE_ok {s i t j own : List Int} (h : flowsE s i t j own = 0) : mayB s i = true ∧ mayB t j = true ∧ catsB own = true ∧ withinB (lacksL s i t j) own = true := by
  unfold flowsE at h
  cases h1 : mayB s i <;> cases h2 : mayB t j <;> cases h3 : catsB own <;> cases h4 : withinB (lacksL s i t j) own <;> rw [h1, h2, h3, h4] at h <;> first | exact ⟨rfl, rfl, rfl, rfl⟩ | exact absurd h (by decide)

theorem flowsL_ok {s i t j own : List Int} (h : flowsE s i t j own = 0) : flowsL s i t j own = lacksL s i t j := by
  obtain ⟨h1, h2, h3, h4⟩ := flowsE_ok h
  unfold flowsL
  rw [h1, h2, h3, h4]
  rfl

theorem owns_facts {s i t j own : List Int} (h : flowsE s i t j own = 0) :
    (flowsE s i t j (lacksL s i t j) = 0) ∧ (flowsE s i t j (sd (own ++ [1, 5, 9])) = 0) ∧ (∀ x, x ∈ lacksL s i t j → flowsE s i t j (lessL (lacksL s i t j) [x]) = 21) ∧ own.length ≤ 2147483647 ∧ (lacksL s i t j).length ≤ 128 := by
  obtain ⟨h1, h2, h3, h4⟩ := flowsE_ok h
  rw [withinB_iff] at h4
  have hc := catsB_iff.1 h3
  have hU : catsP (lacksL s i t j) := ⟨lacksL_rises s i t j, fun x hx => hc.2 x (h4 x hx)⟩
  refine ⟨?_, ?_, fun x hx => ?_, cats_len hc, ?_⟩
  · rw [flowsE_iff h1 h2 (catsB_iff.2 hU), (withinB_iff _ _).2 (fun x h => h)]
    rfl
  · have hJ : catsP (sd (own ++ [1, 5, 9])) := by
      refine ⟨sd_rises _, fun x hx => ?_⟩
      rw [mem_sd, List.mem_append] at hx
      rcases hx with hx | hx
      · exact hc.2 x hx
      · simp at hx
        omega
    rw [flowsE_iff h1 h2 (catsB_iff.2 hJ), (withinB_iff _ _).2 (fun x h => by rw [mem_sd, List.mem_append]; exact Or.inl (h4 x h))]
    rfl
  · have hL : catsP (lessL (lacksL s i t j) [x]) := ⟨lessL_rises _ _, fun y hy => hU.2 y ((mem_lessL _ _ y).1 hy).1⟩
    have hw : withinB (lacksL s i t j) (lessL (lacksL s i t j) [x]) = false := by
      rw [← Bool.not_eq_true, withinB_iff]
      intro hn
      have := hn x hx
      rw [mem_lessL] at this
      simp at this
    rw [flowsE_iff h1 h2 (catsB_iff.2 hL), hw]
    rfl
  · have h5 := length_lacksL s i t j
    have h6 := may2 (s := s) (i := i) (t := t) (j := j) (by rw [h1, h2]; rfl)
    omega

theorem sees_cut {w : World} {b off cap k : Nat} {xs : List Int} (h : Sees w (.slice (some ⟨b, off, none⟩) xs.length cap) xs) (hk : k < xs.length) : Sees w (.slice (some ⟨b, off + k, none⟩) 1 (cap - k)) [xs.getD k 0] := by
  obtain ⟨b', off', ao, cap', hv, hcap, hn, ha, hc⟩ := h
  have hne : xs ≠ [] := by intro h; rw [h] at hk; simp at hk
  obtain rfl := ha hne
  cases hv
  refine ⟨b, off + k, _, cap - k, rfl, ?_, (fun h => by cases h), fun _ => rfl, fun j hj => ?_⟩
  · simp
    omega
  · have : j = 0 := by simp at hj; omega
    subst this
    rw [Nat.add_zero, hc k hk]
    simp

theorem sees_lit3 (w : World) (a b c : Int) : Sees (w.alloc (.cells #[.int .i64 a, .int .i64 b, .int .i64 c] 3)) (.slice (some ⟨w.heap.size, 0, none⟩) 3 3) [a, b, c] := sees_lit w [a, b, c]

end Go.Proofs.Ytjgohajlabdloaa
