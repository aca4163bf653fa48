/-
  Labels as lists: which may be, what a flow lacks, bounds.
-/
import Derived.Test.YtahibklmcooanaaLRef
namespace Go.Proofs.Ytahibklmcooanaa
open Go.RowKit
set_option linter.unusedVariables false

theorem rises_snoc {l : List Int} {z : Int} (h : l.Pairwise (· < ·)) (hz : ∀ a, a ∈ l → a < z) : (l ++ [z]).Pairwise (· < ·) := by
  rw [List.pairwise_append]
  exact ⟨h, by simp, fun a ha b hb => by simp at hb; subst hb; exact hz a ha⟩

/-- A set of categories. -/
def catsP (xs : List Int) : Prop := xs.Pairwise (· < ·) ∧ ∀ x, x ∈ xs → 1 ≤ x ∧ x ≤ 2147483647
def catsDec (xs : List Int) : Decidable (catsP xs) := inferInstanceAs (Decidable (xs.Pairwise (· < ·) ∧ ∀ x, x ∈ xs → 1 ≤ x ∧ x ≤ 2147483647))
def catsB (xs : List Int) : Bool := @decide (catsP xs) (catsDec xs)
def okB (xs : List Int) : Bool := decide (xs.length ≤ 64) && catsB xs
def mayB (s i : List Int) : Bool := okB s && okB i
/-- The last one, 0 where there is none. -/
def lastI (xs : List Int) : Int := xs.getLast?.getD 0

theorem catsP_nil : catsP [] := ⟨by simp, by simp⟩
theorem catsB_nil : catsB [] = true := by simp [catsB, catsP_nil]
theorem lastI_snoc (xs : List Int) (y : Int) : lastI (xs ++ [y]) = y := by simp [lastI]

theorem le_lastI {xs : List Int} (h : catsP xs) (x : Int) (hx : x ∈ xs) : x ≤ lastI xs := by
  rcases List.eq_nil_or_concat xs with rfl | ⟨ys, y, rfl⟩
  · simp at hx
  · rw [List.concat_eq_append] at *
    rw [lastI_snoc]
    rcases List.mem_append.1 hx with h1 | h1
    · have := (List.pairwise_append.1 h.1).2.2 x h1 y (by simp)
      omega
    · simp at h1
      omega

theorem lastI_nonneg {xs : List Int} (h : catsP xs) : 0 ≤ lastI xs ∧ lastI xs ≤ 2147483647 := by
  rcases List.eq_nil_or_concat xs with rfl | ⟨ys, y, rfl⟩
  · simp [lastI]
  · rw [List.concat_eq_append] at *
    rw [lastI_snoc]
    have := h.2 y (by simp)
    omega

theorem catsP_snoc (xs : List Int) (y : Int) : catsP (xs ++ [y]) ↔ catsP xs ∧ lastI xs < y ∧ y ≤ 2147483647 := by
  constructor
  · intro h
    have hx : catsP xs := ⟨(List.pairwise_append.1 h.1).1, fun x hx => h.2 x (List.mem_append_left _ hx)⟩
    refine ⟨hx, ?_, (h.2 y (by simp)).2⟩
    rcases List.eq_nil_or_concat xs with rfl | ⟨ys, z, rfl⟩
    · have := (h.2 y (by simp)).1
      simp [lastI]
      omega
    · rw [List.concat_eq_append] at *
      rw [lastI_snoc]
      exact (List.pairwise_append.1 h.1).2.2 z (by simp) y (by simp)
  · rintro ⟨h, h1, h2⟩
    have h0 := lastI_nonneg h
    refine ⟨rises_snoc h.1 (fun a ha => by have := le_lastI h a ha; omega), fun x hx => ?_⟩
    rcases List.mem_append.1 hx with hx | hx
    · exact h.2 x hx
    · simp at hx
      omega

theorem catsP_take {xs : List Int} (h : catsP xs) (k : Nat) : catsP (xs.take k) := ⟨h.1.sublist (List.take_sublist k xs), fun x hx => h.2 x (List.mem_of_mem_take hx)⟩

theorem take_snoc {xs : List Int} {k : Nat} {y : Int} (hk : k < xs.length) (hy : y = xs.getD k 0) : xs.take (k + 1) = xs.take k ++ [y] := by
  have e : y = xs[k] := by rw [hy]; simp [List.getD, hk]
  rw [List.take_succ_eq_append_getElem hk, e]

theorem cats_lenB : ∀ {xs : List Int}, catsP xs → (xs.length : Int) ≤ lastI xs := by
  intro xs
  induction hn : xs.length generalizing xs with
  | zero =>
    intro h
    have : xs = [] := List.eq_nil_of_length_eq_zero hn
    subst this
    simp [lastI]
  | succ n ih =>
    intro h
    rcases List.eq_nil_or_concat xs with rfl | ⟨ys, y, rfl⟩
    · simp at hn
    · rw [List.concat_eq_append] at *
      have hs := (catsP_snoc ys y).1 h
      have := ih (xs := ys) (by simpa using hn) hs.1
      rw [lastI_snoc]
      omega

theorem cats_len {xs : List Int} (h : catsP xs) : xs.length ≤ 2147483647 := by
  have h1 := cats_lenB h
  have h2 := lastI_nonneg h
  omega

theorem okB_iff {xs : List Int} : okB xs = true ↔ xs.length ≤ 64 ∧ catsP xs := by simp [okB, catsB]
theorem mayB_iff {s i : List Int} : mayB s i = true ↔ (s.length ≤ 64 ∧ catsP s) ∧ (i.length ≤ 64 ∧ catsP i) := by simp [mayB, okB_iff]

end Go.Proofs.Ytahibklmcooanaa
