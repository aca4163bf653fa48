/-
  The contract of the document's own Of: the set of a list.
-/
import Derived.Test.YtciphhfaoljndaaLRef
import Derived.Test.YtciphhfaoljndaaLSets
namespace Go.Proofs.Ytciphhfaoljndaa
open Go.RowKit
set_option linter.unusedVariables false

/-- THE INNER LOOP's RELATION on lists: k of 'out' have been gone over; 'next' is what was gathered; 'done': x stands in it. -/
structure Ins (out : List Int) (x : Int) (k : Nat) (done : Bool) (next : List Int) : Prop where
  rises : next.Pairwise (· < ·)
  mem : ∀ y, y ∈ next ↔ (done = true ∧ y = x) ∨ y ∈ out.take k
  above : done = true → ∀ y, y ∈ out.drop k → x < y
  under : done = false → ∀ y, y ∈ out.take k → y < x
  len : next.length ≤ k + 1
  len0 : done = false → next.length ≤ k

theorem Ins.start (out : List Int) (x : Int) : Ins out x 0 false [] := ⟨by simp, by simp, by simp, by simp, by simp, by simp⟩

theorem mem_take_succ {out : List Int} {y : Int} {k : Nat} (hk : k < out.length) (hy : y = out.getD k 0) (z : Int) : z ∈ out.take (k + 1) ↔ z ∈ out.take k ∨ z = y := by
  rw [List.take_succ_eq_append_getElem hk, List.mem_append, List.mem_singleton, hy]
  simp [List.getD, hk]

theorem take_lt {out : List Int} {y : Int} {k : Nat} (ho : out.Pairwise (· < ·)) (hk : k < out.length) (hy : y = out.getD k 0) (z : Int) (hz : z ∈ out.take k) : z < y := by
  obtain ⟨j, hj, e⟩ := List.mem_iff_getElem.1 hz
  have hj' : j < k := by simp at hj; omega
  have := List.pairwise_iff_getElem.1 ho j k (by omega) hk hj'
  simp only [List.getElem_take] at e
  rw [← e, hy]
  simpa [List.getD, hk] using this

theorem drop_ge {out : List Int} {y : Int} {k : Nat} (ho : out.Pairwise (· < ·)) (hk : k < out.length) (hy : y = out.getD k 0) (z : Int) (hz : z ∈ out.drop k) : y ≤ z := by
  obtain ⟨j, hj, e⟩ := List.mem_iff_getElem.1 hz
  simp only [List.getElem_drop] at e
  simp only [List.length_drop] at hj
  by_cases hj0 : j = 0
  · subst hj0
    rw [← e, hy]
    simp [List.getD, hk]
  · have := List.pairwise_iff_getElem.1 ho k (k + j) hk (by omega) (by omega)
    rw [← e, hy]
    simp only [List.getD, List.getElem?_eq_getElem hk, Option.getD_some]
    omega

theorem drop_succ_mem {out : List Int} {k : Nat} (hk : k < out.length) (z : Int) (hz : z ∈ out.drop (k + 1)) : z ∈ out.drop k := by
  rw [List.drop_eq_getElem_cons hk]
  exact List.mem_cons_of_mem _ hz

theorem mem_drop_self {out : List Int} {y : Int} {k : Nat} (hk : k < out.length) (hy : y = out.getD k 0) : y ∈ out.drop k := by
  have e : y = out[k] := by rw [hy]; simp [List.getD, hk]
  rw [e, List.drop_eq_getElem_cons hk]
  exact List.mem_cons_self

theorem rises_snoc {l : List Int} {z : Int} (h : l.Pairwise (· < ·)) (hz : ∀ a, a ∈ l → a < z) : (l ++ [z]).Pairwise (· < ·) := by
  rw [List.pairwise_append]
  exact ⟨h, by simp, fun a ha b hb => by simp at hb; subst hb; exact hz a ha⟩

/-- x is put in ahead of y. -/
theorem Ins.put {out : List Int} {x y : Int} {k : Nat} {next : List Int} (h : Ins out x k false next) (ho : out.Pairwise (· < ·)) (hk : k < out.length) (hy : y = out.getD k 0) (hxy : x < y) :
    Ins out x (k + 1) true (next ++ [x] ++ [y]) := by
  have hm := h.mem
  have hu := h.under rfl
  refine ⟨rises_snoc (rises_snoc h.rises ?_) ?_, ?_, ?_, by simp, ?_, by simp⟩
  · intro a ha
    rw [hm] at ha
    simp at ha
    exact hu a ha
  · intro a ha
    rw [List.mem_append, List.mem_singleton, hm] at ha
    rcases ha with ha | rfl
    · simp at ha
      exact take_lt ho hk hy a ha
    · exact hxy
  · intro z
    rw [List.mem_append, List.mem_append, List.mem_singleton, List.mem_singleton, hm, mem_take_succ hk hy]
    constructor
    · rintro ((h1 | h1) | h1)
      · simp at h1
        exact Or.inr (Or.inl h1)
      · exact Or.inl ⟨rfl, h1⟩
      · exact Or.inr (Or.inr h1)
    · rintro (⟨_, h1⟩ | h1 | h1)
      · exact Or.inl (Or.inr h1)
      · exact Or.inl (Or.inl (Or.inr h1))
      · exact Or.inr h1
  · intro _ z hz
    have := drop_ge ho hk hy z (drop_succ_mem hk z hz)
    omega
  · have := h.len0 rfl
    simp
    omega

/-- y goes over, x not yet. -/
theorem Ins.pass {out : List Int} {x y : Int} {k : Nat} {next : List Int} (h : Ins out x k false next) (ho : out.Pairwise (· < ·)) (hk : k < out.length) (hy : y = out.getD k 0) (hxy : ¬ x < y) (hx : x ∉ out) :
    Ins out x (k + 1) false (next ++ [y]) := by
  have hm := h.mem
  have hyx : y < x := by
    have : y ≠ x := by
      intro e
      apply hx
      rw [← e]
      exact List.mem_of_mem_drop (mem_drop_self hk hy)
    omega
  refine ⟨rises_snoc h.rises ?_, ?_, by simp, ?_, ?_, ?_⟩
  · intro a ha
    rw [hm] at ha
    simp at ha
    exact take_lt ho hk hy a ha
  · intro z
    rw [List.mem_append, List.mem_singleton, hm, mem_take_succ hk hy]
    simp
  · intro _ z hz
    rw [mem_take_succ hk hy] at hz
    rcases hz with hz | rfl
    · exact h.under rfl z hz
    · exact hyx
  · have := h.len0 rfl
    simp
    omega
  · intro _
    have := h.len0 rfl
    simp
    omega

/-- y goes over behind x. -/
theorem Ins.after {out : List Int} {x y : Int} {k : Nat} {next : List Int} (h : Ins out x k true next) (ho : out.Pairwise (· < ·)) (hk : k < out.length) (hy : y = out.getD k 0) :
    Ins out x (k + 1) true (next ++ [y]) := by
  have hm := h.mem
  refine ⟨rises_snoc h.rises ?_, ?_, ?_, by simp, ?_, by simp⟩
  · intro a ha
    rw [hm] at ha
    rcases ha with ⟨_, rfl⟩ | ha
    · exact h.above rfl y (mem_drop_self hk hy)
    · exact take_lt ho hk hy a ha
  · intro z
    rw [List.mem_append, List.mem_singleton, hm, mem_take_succ hk hy]
    constructor
    · rintro ((h1 | h1) | h1)
      · exact Or.inl h1
      · exact Or.inr (Or.inl h1)
      · exact Or.inr (Or.inr h1)
    · rintro (h1 | h1 | h1)
      · exact Or.inl (Or.inl h1)
      · exact Or.inl (Or.inr h1)
      · exact Or.inr h1
  · intro _ z hz
    exact h.above rfl z (drop_succ_mem hk z hz)
  · have := h.len
    simp
    omega

/-- The end: x stands in it. -/
theorem Ins.fin {l out : List Int} {x : Int} {next : List Int} (h : Ins out x out.length true next) (hl : out = sd l) : next = sd (l ++ [x]) := by
  refine (sd_of h.rises fun z => ?_).symm
  rw [h.mem, List.take_of_length_le (Nat.le_refl _), hl, mem_sd]
  simp [or_comm]

/-- The end: x stands behind all. -/
theorem Ins.fin0 {l out : List Int} {x : Int} {next : List Int} (h : Ins out x out.length false next) (hl : out = sd l) : next ++ [x] = sd (l ++ [x]) := by
  have hm := h.mem
  rw [List.take_of_length_le (Nat.le_refl _)] at hm
  refine (sd_of (rises_snoc h.rises ?_) fun z => ?_).symm
  · intro a ha
    rw [hm] at ha
    simp at ha
    exact h.under rfl a (by rw [List.take_of_length_le (Nat.le_refl _)]; exact ha)
  · rw [List.mem_append, List.mem_singleton, hm, hl, mem_sd]
    simp

theorem sd_has {l : List Int} {x : Int} (h : x ∈ sd l) : sd (l ++ [x]) = sd l := by
  refine sd_congr fun z => ?_
  rw [mem_sd] at h
  simp only [List.mem_append, List.mem_singleton]
  constructor
  · rintro (h1 | rfl)
    · exact h1
    · exact h
  · exact Or.inl

end Go.Proofs.Ytciphhfaoljndaa
