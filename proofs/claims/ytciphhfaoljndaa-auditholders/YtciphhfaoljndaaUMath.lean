/-
  Grants as lists: who had what, the first one to somebody, what is wrong, chains.
-/
import Derived.RowKit
import Derived.Below
namespace Go.Proofs.Ytciphhfaoljndaa
set_option linter.unusedVariables false

/-- When, by whom, to whom, what. -/
abbrev GrL := Int × Int × Int × Int
def toB (who cat : Int) (g : GrL) : Bool := decide (g.2.2.1 = who ∧ g.2.2.2 = cat)
/-- Was a category given to somebody by the first n of some grants? -/
def gotB (gs : List GrL) (who cat : Int) (n : Nat) : Bool := (gs.take n).any (toB who cat)
def hadB (gs : List GrL) (who cat step : Int) (n : Nat) : Bool := (gs.take n).any fun g => toB who cat g && decide (g.1 ≤ step)
theorem gotB_iff {gs : List GrL} {who cat : Int} {n : Nat} : gotB gs who cat n = true ↔ ∃ j, ∃ h : j < gs.length, j < n ∧ (gs[j]).2.2.1 = who ∧ (gs[j]).2.2.2 = cat := by
  unfold gotB
  rw [List.any_eq_true]
  constructor
  · rintro ⟨g, hg, hp⟩
    obtain ⟨j, hj, rfl⟩ := List.getElem_of_mem hg
    have h1 : j < n ∧ j < gs.length := by rw [List.length_take] at hj; omega
    simp only [List.getElem_take, toB, decide_eq_true_eq] at hp
    exact ⟨j, h1.2, h1.1, hp.1, hp.2⟩
  · rintro ⟨j, hj, hn, h1, h2⟩
    refine ⟨gs[j], ?_, by simp [toB, h1, h2]⟩
    rw [List.mem_take_iff_getElem]
    exact ⟨j, by omega, rfl⟩
theorem gotB_zero {gs : List GrL} {who cat : Int} : gotB gs who cat 0 = false := rfl
theorem gotB_succ {gs : List GrL} {who cat : Int} {n : Nat} (h : n < gs.length) : gotB gs who cat (n + 1) = (gotB gs who cat n || toB who cat gs[n]) := by
  unfold gotB
  rw [List.take_succ_eq_append_getElem h, List.any_append]
  simp
theorem hadB_succ {gs : List GrL} {who cat step : Int} {n : Nat} (h : n < gs.length) : hadB gs who cat step (n + 1) = (hadB gs who cat step n || (toB who cat gs[n] && decide (gs[n].1 ≤ step))) := by
  unfold hadB
  rw [List.take_succ_eq_append_getElem h, List.any_append]
  simp
theorem hadB_none {gs : List GrL} {who cat step : Int} {n : Nat} (h : n < gs.length) (h0 : hadB gs who cat step n = false) (h1 : ¬ (gs[n].2.2.1 = who ∧ gs[n].2.2.2 = cat ∧ gs[n].1 ≤ step)) : hadB gs who cat step (n + 1) = false := by
  rw [hadB_succ h, h0, toB, Bool.false_or, ← Bool.not_eq_true, Bool.and_eq_true, decide_eq_true_eq, decide_eq_true_eq]
  rintro ⟨⟨a, b⟩, c⟩
  exact h1 ⟨a, b, c⟩
theorem hadB_mono {gs : List GrL} {who cat step : Int} {n m : Nat} (hnm : n ≤ m) (h0 : hadB gs who cat step n = true) : hadB gs who cat step m = true := by
  unfold hadB at *
  rw [List.any_eq_true] at *
  obtain ⟨g, hg, hp⟩ := h0
  exact ⟨g, (List.take_prefix_take_left hnm).subset hg, hp⟩
theorem hadB_some {gs : List GrL} {who cat step : Int} {k n : Nat} (h : k < gs.length) (hk : k < n) (h1 : gs[k].2.2.1 = who) (h2 : gs[k].2.2.2 = cat) (h3 : gs[k].1 ≤ step) : hadB gs who cat step n = true := by
  refine hadB_mono (n := k + 1) (by omega) ?_
  rw [hadB_succ h]
  simp [toB, h1, h2, h3]
/-- Any step: what is within an int's kind is not above the greatest. -/
theorem hadB_ever {gs : List GrL} {who cat : Int} {n : Nat} (hw : ∀ g ∈ gs, g.1 ≤ 9223372036854775807) : hadB gs who cat 9223372036854775807 n = gotB gs who cat n := by
  unfold hadB gotB
  rw [Bool.eq_iff_iff, List.any_eq_true, List.any_eq_true]
  constructor
  · rintro ⟨g, hg, hp⟩
    simp only [Bool.and_eq_true] at hp
    exact ⟨g, hg, hp.1⟩
  · rintro ⟨g, hg, hp⟩
    refine ⟨g, hg, ?_⟩
    simp [hp, hw g (List.mem_of_mem_take hg)]

/-! ### What is wrong -/
def badG (gs : List GrL) (i : Nat) : Bool :=
  match gs[i]? with
  | none => false
  | some g => decide (g.2.1 ≠ -1) && !(gotB gs g.2.1 g.2.2.2 i)
theorem badG_at {gs : List GrL} {i : Nat} (h : i < gs.length) : badG gs i = (decide (gs[i].2.1 ≠ -1) && !(gotB gs gs[i].2.1 gs[i].2.2.2 i)) := by
  unfold badG
  rw [List.getElem?_eq_getElem h]
def chkG (gs : List GrL) : Int × Int :=
  match (List.range gs.length).find? (badG gs) with
  | none => (0, 0)
  | some i => (21, (i : Int))
theorem chkG_ok {gs : List GrL} (h : ∀ i, i < gs.length → badG gs i = false) : chkG gs = (0, 0) := by
  unfold chkG
  rw [List.find?_eq_none.2 (fun x hx => by rw [h x (List.mem_range.1 hx)]; simp)]
theorem chkG_bad {gs : List GrL} {k : Nat} (hk : k < gs.length) (hb : badG gs k = true) (h : ∀ i, i < k → badG gs i = false) : chkG gs = (21, (k : Int)) := by
  unfold chkG
  have : (List.range gs.length).find? (badG gs) = some k := by
    rw [List.find?_range_eq_some]
    exact ⟨hb, List.mem_range.2 hk, fun j hj => by rw [h j hj]; rfl⟩
  rw [this]
theorem chkG_inv {gs : List GrL} (h : (chkG gs).1 = 0) : ∀ i, i < gs.length → badG gs i = false := by
  unfold chkG at h
  split at h
  · rename_i hf
    intro i hi
    have := (List.find?_eq_none.1 hf) i (List.mem_range.2 hi)
    simpa using this
  · simp at h
theorem chkG_one (gs : List GrL) : (chkG gs).1 = 0 ∨ (chkG gs).1 = 21 := by
  unfold chkG
  split <;> simp

/-! ### The first one to somebody -/
def fstG (gs : List GrL) (who cat : Int) : Option Nat := gs.findIdx? (toB who cat)
def fstI (gs : List GrL) (who cat : Int) : Int :=
  match fstG gs who cat with
  | none => -1
  | some i => (i : Int)
theorem fstG_none {gs : List GrL} {who cat : Int} (h : gotB gs who cat gs.length = false) : fstG gs who cat = none := by
  unfold fstG
  rw [List.findIdx?_eq_none_iff]
  intro x hx
  unfold gotB at h
  rw [List.take_length, List.any_eq_false] at h
  have := h x hx
  simpa using this
theorem fstG_some {gs : List GrL} {who cat : Int} {k : Nat} (hk : k < gs.length) (h1 : gs[k].2.2.1 = who) (h2 : gs[k].2.2.2 = cat) (h : gotB gs who cat k = false) : fstG gs who cat = some k := by
  unfold fstG
  rw [List.findIdx?_eq_some_iff_getElem]
  refine ⟨hk, by simp [toB, h1, h2], fun j hj => ?_⟩
  rw [Bool.not_eq_true]
  cases hb : toB who cat gs[j] with
  | false => rfl
  | true =>
    have h3 : gotB gs who cat k = true := by
      refine gotB_iff.2 ⟨j, by omega, hj, ?_⟩
      simpa [toB] using hb
    rw [h] at h3
    cases h3
theorem fstG_inv {gs : List GrL} {who cat : Int} {k : Nat} (h : fstG gs who cat = some k) : ∃ hk : k < gs.length, gs[k].2.2.1 = who ∧ gs[k].2.2.2 = cat ∧ gotB gs who cat k = false := by
  unfold fstG at h
  obtain ⟨hk, h1, h2⟩ := List.findIdx?_eq_some_iff_getElem.1 h
  simp only [toB, decide_eq_true_eq] at h1
  refine ⟨hk, h1.1, h1.2, ?_⟩
  rw [← Bool.not_eq_true, gotB_iff]
  rintro ⟨j, hj, hjk, ha, hb⟩
  have := h2 j hjk
  simp [toB, ha, hb] at this
/-- The first one of those ahead is the first one of all. -/
theorem fstG_got {gs : List GrL} {who cat : Int} {n : Nat} (h : gotB gs who cat n = true) : ∃ k, fstG gs who cat = some k ∧ k < n := by
  obtain ⟨j, hj, hjn, h1, h2⟩ := gotB_iff.1 h
  cases hf : fstG gs who cat with
  | none =>
    exfalso
    unfold fstG at hf
    rw [List.findIdx?_eq_none_iff] at hf
    have := hf gs[j] (List.getElem_mem hj)
    simp [toB, h1, h2] at this
  | some k =>
    refine ⟨k, rfl, ?_⟩
    obtain ⟨hk, _, _, hn⟩ := fstG_inv hf
    by_cases hlt : k ≤ j
    · omega
    · exfalso
      rw [gotB_iff.2 ⟨j, hj, by omega, h1, h2⟩] at hn
      cases hn
theorem fst_take {gs : List GrL} {who cat : Int} {n : Nat} : fstG (gs.take n) who cat = (fstG gs who cat).filter (fun k => decide (k < n)) := by
  unfold fstG
  cases hf : gs.findIdx? (toB who cat) with
  | none =>
    rw [List.findIdx?_eq_none_iff] at hf
    simp only [Option.filter_none]
    rw [List.findIdx?_eq_none_iff]
    exact fun x hx => hf x (List.mem_of_mem_take hx)
  | some k =>
    obtain ⟨hk, h1, h2⟩ := List.findIdx?_eq_some_iff_getElem.1 hf
    by_cases hkn : k < n
    · simp only [Option.filter_some, hkn, decide_true, if_true]
      rw [List.findIdx?_eq_some_iff_getElem]
      exact ⟨by rw [List.length_take]; omega, by rw [List.getElem_take]; exact h1, fun j hj => by rw [List.getElem_take]; exact h2 j hj⟩
    · simp only [Option.filter_some, hkn, decide_false]
      rw [if_neg (by simp), List.findIdx?_eq_none_iff]
      intro x hx
      obtain ⟨j, hj, rfl⟩ := List.getElem_of_mem hx
      rw [List.length_take] at hj
      rw [List.getElem_take]
      have := h2 j (by omega)
      simpa using this

/-! ### Chains -/
def chn (gs : List GrL) (cat : Int) : Nat → Nat → List GrL
  | 0, _ => []
  | f + 1, k =>
    match gs[k]? with
    | none => []
    | some g => if g.2.1 = -1 then [g] else g :: chn gs cat f ((fstG gs g.2.1 cat).getD 0)
theorem chn_end {gs : List GrL} {cat : Int} {f k : Nat} (hk : k < gs.length) (h : gs[k].2.1 = -1) : chn gs cat (f + 1) k = [gs[k]] := by
  rw [chn, List.getElem?_eq_getElem hk]
  simp [h]
theorem chn_next {gs : List GrL} {cat : Int} {f k j : Nat} (hk : k < gs.length) (h : gs[k].2.1 ≠ -1) (hj : fstG gs gs[k].2.1 cat = some j) : chn gs cat (f + 1) k = gs[k] :: chn gs cat f j := by
  rw [chn, List.getElem?_eq_getElem hk]
  simp only
  rw [if_neg h, hj]
  rfl
/-- Where nothing is wrong a giver has its own first grant further ahead. -/
theorem giver {gs : List GrL} {cat : Int} {k : Nat} (hk : k < gs.length) (hc : gs[k].2.2.2 = cat) (hok : (chkG gs).1 = 0) (h : gs[k].2.1 ≠ -1) : ∃ j, fstG gs gs[k].2.1 cat = some j ∧ j < k := by
  have hb := chkG_inv hok k hk
  rw [badG_at hk] at hb
  simp only [ne_eq, Bool.and_eq_false_iff, decide_eq_false_iff_not, Decidable.not_not, Bool.not_eq_false'] at hb
  rcases hb with hb | hb
  · exact absurd hb h
  · rw [hc] at hb
    exact fstG_got hb
theorem chn_len {gs : List GrL} {cat : Int} : ∀ f k, (chn gs cat f k).length ≤ f
  | 0, _ => Nat.le_refl _
  | f + 1, k => by
    rw [chn]
    split
    · simp
    · split
      · simp
      · simp only [List.length_cons]
        exact Nat.succ_le_succ (chn_len f _)
/-- What Chain tells: the grants and the error. -/
def chainG (gs : List GrL) (who cat : Int) : List GrL × Int :=
  match fstG gs who cat with
  | none => ([], 3)
  | some k => if (chkG gs).1 = 0 then ((chn gs cat gs.length k).reverse, 0) else ([], (chkG gs).1)
/-- To whom a category was given at a step that is not above one, by the first n. -/
def holL (gs : List GrL) (cat step : Int) (n : Nat) : List Int := ((gs.take n).filter fun g => decide (g.2.2.2 = cat ∧ g.1 ≤ step)).map (·.2.2.1)
theorem holL_succ {gs : List GrL} {cat step : Int} {n : Nat} (h : n < gs.length) : holL gs cat step (n + 1) = if gs[n].2.2.2 = cat ∧ gs[n].1 ≤ step then holL gs cat step n ++ [gs[n].2.2.1] else holL gs cat step n := by
  unfold holL
  rw [List.take_succ_eq_append_getElem h, List.filter_append, List.map_append]
  by_cases h1 : gs[n].2.2.2 = cat ∧ gs[n].1 ≤ step
  · rw [if_pos h1]
    simp [h1]
  · rw [if_neg h1]
    simp only [List.filter_cons, List.filter_nil]
    rw [if_neg (by simpa using h1)]
    simp
theorem holL_len {gs : List GrL} {cat step : Int} {n : Nat} : (holL gs cat step n).length ≤ n := by
  unfold holL
  rw [List.length_map]
  refine Nat.le_trans (List.length_filter_le _ _) ?_
  rw [List.length_take]
  omega
theorem holL_len2 {gs : List GrL} {cat step : Int} {n : Nat} : (holL gs cat step n).length ≤ gs.length := by
  unfold holL
  rw [List.length_map]
  refine Nat.le_trans (List.length_filter_le _ _) ?_
  rw [List.length_take]
  omega
end Go.Proofs.Ytciphhfaoljndaa
