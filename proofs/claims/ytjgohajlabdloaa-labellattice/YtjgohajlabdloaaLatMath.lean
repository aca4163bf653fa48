/-
  The least label above two and the greatest below: what flows to them and from them.
-/
import Derived.Test.YtjgohajlabdloaaMixE
import Derived.Test.YtjgohajlabdloaaOrderMath
namespace Go.Proofs.Ytjgohajlabdloaa
open Go.RowKit
set_option linter.unusedVariables false

theorem cats_sd {s t : List Int} (h1 : catsP s) (h2 : catsP t) : catsP (sd (s ++ t)) :=
  ⟨sd_rises _, fun x hx => by
    rw [mem_sd, List.mem_append] at hx
    rcases hx with hx | hx
    · exact h1.2 x hx
    · exact h2.2 x hx⟩
theorem cats_meet {s t : List Int} (h1 : catsP s) : catsP (meetL s t) :=
  ⟨meetL_rises _ _, fun x hx => h1.2 x ((mem_meetL s t x).1 hx).1⟩

theorem lat_join {s i t j k l : List Int} (h1 : mayB s i = true) (h2 : mayB t j = true) (h3 : mayB k l = true) :
    (mixE true (sd (s ++ t)) (meetL i j) = 0 ∧ flB s i (mixL true (sd (s ++ t)) (meetL i j) (sd (s ++ t))) (mixL true (sd (s ++ t)) (meetL i j) (meetL i j)) = true ∧
      flB t j (mixL true (sd (s ++ t)) (meetL i j) (sd (s ++ t))) (mixL true (sd (s ++ t)) (meetL i j) (meetL i j)) = true ∧
      (flB s i k l && flB t j k l) = flB (mixL true (sd (s ++ t)) (meetL i j) (sd (s ++ t))) (mixL true (sd (s ++ t)) (meetL i j) (meetL i j)) k l) ∨ mixE true (sd (s ++ t)) (meetL i j) = 2 := by
  by_cases hc : (sd (s ++ t)).length ≤ 64 ∧ (meetL i j).length ≤ 64
  · left
    have e1 : mixE true (sd (s ++ t)) (meetL i j) = 0 := by simp [mixE, hc]
    have e2 : ∀ r, mixL true (sd (s ++ t)) (meetL i j) r = r := fun r => by simp [mixL, hc]
    rw [e1, e2, e2]
    have m1 := mayB_iff.1 h1
    have m2 := mayB_iff.1 h2
    have hm : mayB (sd (s ++ t)) (meetL i j) = true := mayB_iff.2 ⟨⟨hc.1, cats_sd m1.1.2 m2.1.2⟩, ⟨hc.2, cats_meet m1.2.2⟩⟩
    refine ⟨rfl, ?_, ?_, ?_⟩
    · rw [flB_iff h1 hm]
      exact ⟨fun x hx => by rw [mem_sd, List.mem_append]; exact Or.inl hx, fun x hx => ((mem_meetL i j x).1 hx).1⟩
    · rw [flB_iff h2 hm]
      exact ⟨fun x hx => by rw [mem_sd, List.mem_append]; exact Or.inr hx, fun x hx => ((mem_meetL i j x).1 hx).2⟩
    · rw [Bool.eq_iff_iff, Bool.and_eq_true, flB_iff h1 h3, flB_iff h2 h3, flB_iff hm h3]
      constructor
      · rintro ⟨⟨a, b⟩, c, d⟩
        refine ⟨fun x hx => ?_, fun x hx => (mem_meetL i j x).2 ⟨b x hx, d x hx⟩⟩
        rw [mem_sd, List.mem_append] at hx
        rcases hx with hx | hx
        · exact a x hx
        · exact c x hx
      · rintro ⟨a, b⟩
        exact ⟨⟨fun x hx => a x (by rw [mem_sd, List.mem_append]; exact Or.inl hx), fun x hx => ((mem_meetL i j x).1 (b x hx)).1⟩, fun x hx => a x (by rw [mem_sd, List.mem_append]; exact Or.inr hx), fun x hx => ((mem_meetL i j x).1 (b x hx)).2⟩
  · right
    simp [mixE, hc]

theorem lat_meet {s i t j k l : List Int} (h1 : mayB s i = true) (h2 : mayB t j = true) (h3 : mayB k l = true) :
    (mixE true (meetL s t) (sd (i ++ j)) = 0 ∧ flB (mixL true (meetL s t) (sd (i ++ j)) (meetL s t)) (mixL true (meetL s t) (sd (i ++ j)) (sd (i ++ j))) s i = true ∧
      flB (mixL true (meetL s t) (sd (i ++ j)) (meetL s t)) (mixL true (meetL s t) (sd (i ++ j)) (sd (i ++ j))) t j = true ∧
      (flB k l s i && flB k l t j) = flB k l (mixL true (meetL s t) (sd (i ++ j)) (meetL s t)) (mixL true (meetL s t) (sd (i ++ j)) (sd (i ++ j)))) ∨ mixE true (meetL s t) (sd (i ++ j)) = 2 := by
  by_cases hc : (meetL s t).length ≤ 64 ∧ (sd (i ++ j)).length ≤ 64
  · left
    have e1 : mixE true (meetL s t) (sd (i ++ j)) = 0 := by simp [mixE, hc]
    have e2 : ∀ r, mixL true (meetL s t) (sd (i ++ j)) r = r := fun r => by simp [mixL, hc]
    rw [e1, e2, e2]
    have m1 := mayB_iff.1 h1
    have m2 := mayB_iff.1 h2
    have hm : mayB (meetL s t) (sd (i ++ j)) = true := mayB_iff.2 ⟨⟨hc.1, cats_meet m1.1.2⟩, ⟨hc.2, cats_sd m1.2.2 m2.2.2⟩⟩
    refine ⟨rfl, ?_, ?_, ?_⟩
    · rw [flB_iff hm h1]
      exact ⟨fun x hx => ((mem_meetL s t x).1 hx).1, fun x hx => by rw [mem_sd, List.mem_append]; exact Or.inl hx⟩
    · rw [flB_iff hm h2]
      exact ⟨fun x hx => ((mem_meetL s t x).1 hx).2, fun x hx => by rw [mem_sd, List.mem_append]; exact Or.inr hx⟩
    · rw [Bool.eq_iff_iff, Bool.and_eq_true, flB_iff h3 h1, flB_iff h3 h2, flB_iff h3 hm]
      constructor
      · rintro ⟨⟨a, b⟩, c, d⟩
        refine ⟨fun x hx => (mem_meetL s t x).2 ⟨a x hx, c x hx⟩, fun x hx => ?_⟩
        rw [mem_sd, List.mem_append] at hx
        rcases hx with hx | hx
        · exact b x hx
        · exact d x hx
      · rintro ⟨a, b⟩
        exact ⟨⟨fun x hx => ((mem_meetL s t x).1 (a x hx)).1, fun x hx => b x (by rw [mem_sd, List.mem_append]; exact Or.inl hx)⟩, fun x hx => ((mem_meetL s t x).1 (a x hx)).2, fun x hx => b x (by rw [mem_sd, List.mem_append]; exact Or.inr hx)⟩
  · right
    simp [mixE, hc]
end Go.Proofs.Ytjgohajlabdloaa
