/-
  Texts of digits and of sets, as the document reads them, and as the code does.
-/
import Derived.Test.YtjgohajlabdloaaDoorTxt
namespace Go.Proofs.YtjgohajlabdloaaDoor
open Go.RowKit
set_option linter.unusedVariables false

def digRun : Int → List UInt8 → Option Int
  | m, [] => some m
  | m, c :: r => if c.toNat < 48 ∨ 57 < c.toNat then none else digRun (10 * m + ((c.toNat : Int) - 48)) r
/-- The number of a text of digits, -1 where it is none. -/
def digV (l : List UInt8) : Int := if l.length < 1 ∨ 18 < l.length ∨ (1 < l.length ∧ (l.getD 0 0).toNat = 48) then -1 else (digRun 0 l).getD (-1)

theorem digRun_mono : ∀ (l : List UInt8) (m r : Int), 0 ≤ m → digRun m l = some r → m ≤ r
  | [], m, r, _, h => by simp [digRun] at h; omega
  | c :: l, m, r, h0, h => by
    rw [digRun] at h
    split at h
    · cases h
    · have := digRun_mono l _ r (by omega) h
      omega

theorem cat_dig : ∀ (l : List UInt8) (m r : Int), 0 ≤ m → m ≤ 2147483647 → catRun m l = some r → digRun m l = some r ∧ r ≤ 2147483647
  | [], m, r, _, h1, h => by
    simp [catRun] at h
    subst h
    exact ⟨rfl, h1⟩
  | c :: l, m, r, h0, h1, h => by
    rw [catRun, catStep] at h
    split at h
    · simp at h
    · rename_i hc
      simp only [Option.bind_some] at h
      have hd := cat_dig l _ r (by omega) (by omega) h
      rw [digRun, if_neg (by omega)]
      rw [show 10 * m + ((c.toNat : Int) - 48) = m * 10 + ((c.toNat : Int) - 48) by omega]
      exact hd

theorem dig_cat : ∀ (l : List UInt8) (m r : Int), 1 ≤ m → digRun m l = some r → r ≤ 2147483647 → catRun m l = some r
  | [], m, r, _, h, _ => by simpa [digRun, catRun] using h
  | c :: l, m, r, h0, h, hr => by
    rw [digRun] at h
    split at h
    · cases h
    · rename_i hc
      have hm := digRun_mono l _ r (by omega) h
      rw [catRun, catStep, if_neg (by omega)]
      simp only [Option.bind_some]
      rw [show 10 * m + ((c.toNat : Int) - 48) = m * 10 + ((c.toNat : Int) - 48) by omega] at h
      exact dig_cat l _ r (by omega) h hr

theorem cat_grow : ∀ (l : List UInt8) (m r : Int), 1 ≤ m → catRun m l = some r → (10 : Int) ^ l.length ≤ r
  | [], m, r, h0, h => by
    simp [catRun] at h
    simp
    omega
  | c :: l, m, r, h0, h => by
    have hg : ∀ (l : List UInt8) (m r : Int), 1 ≤ m → catRun m l = some r → m * (10 : Int) ^ l.length ≤ r := by
      intro l
      induction l with
      | nil =>
        intro m r _ h
        simp [catRun] at h
        simp
        omega
      | cons c l ih =>
        intro m r h0 h
        rw [catRun, catStep] at h
        split at h
        · simp at h
        · simp only [Option.bind_some] at h
          have := ih _ r (by omega) h
          rw [List.length_cons, Int.pow_succ]
          have hp : (0 : Int) ≤ 10 ^ l.length := Int.pow_nonneg (by decide)
          refine Int.le_trans ?_ this
          rw [Int.mul_comm (10 ^ l.length) 10, ← Int.mul_assoc]
          exact Int.mul_le_mul_of_nonneg_right (by omega) hp
    have h1 := hg (c :: l) m r h0 h
    have hp : (0 : Int) ≤ 10 ^ (c :: l).length := Int.pow_nonneg (by decide)
    refine Int.le_trans ?_ h1
    have := Int.mul_le_mul_of_nonneg_right h0 hp
    simpa using this

theorem pow_small {k : Nat} (h : (10 : Int) ^ k ≤ 2147483647) : k ≤ 9 := by
  by_cases hk : k ≤ 9
  · exact hk
  · exfalso
    have h1 : (10 : Nat) ^ 10 ≤ 10 ^ k := Nat.pow_le_pow_right (by decide) (by omega)
    have h2 : ((10 ^ k : Nat) : Int) ≤ 2147483647 := by simpa using h
    have h3 : (10 : Nat) ^ 10 = 10000000000 := by decide
    omega

/-- A category's digits are the document's. -/
theorem dig_of_cat {l : List UInt8} (h : 0 < catV l) : digV l = catV l ∧ catV l ≤ 2147483647 := by
  cases l with
  | nil => simp [catV, catRun] at h
  | cons c l =>
    obtain ⟨r, hr⟩ : ∃ r, catRun 0 (c :: l) = some r := by
      cases hc : catRun 0 (c :: l) with
      | none => simp [catV, hc] at h
      | some r => exact ⟨r, rfl⟩
    have hv : catV (c :: l) = r := by simp [catV, hr]
    have hd := cat_dig (c :: l) 0 r (by omega) (by omega) hr
    rw [hv]
    refine ⟨?_, hd.2⟩
    have hr2 := hr
    rw [catRun, catStep] at hr2
    split at hr2
    · simp at hr2
    · rename_i hc
      simp only [Option.bind_some] at hr2
      have hg := cat_grow l _ r (by omega) hr2
      have hl := pow_small (Int.le_trans hg hd.2)
      rw [digV, if_neg, hd.1]
      · rfl
      · simp
        omega

theorem cat_of_dig {l : List UInt8} (h : 1 ≤ digV l) (h2 : digV l ≤ 2147483647) : catV l = digV l := by
  rw [digV] at h h2 ⊢
  split at h
  · omega
  · rename_i hn
    rw [if_neg hn] at h2 ⊢
    cases l with
    | nil => simp at hn
    | cons c l =>
      cases hd : digRun 0 (c :: l) with
      | none => rw [hd] at h; simp at h
      | some r =>
        rw [hd] at h h2
        simp only [Option.getD_some] at h h2 ⊢
        have hd2 := hd
        rw [digRun] at hd2
        split at hd2
        · cases hd2
        · rename_i hc
          have hc0 : c.toNat ≠ 48 := by
            intro hz
            cases l with
            | nil =>
              simp [digRun, hz] at hd2
              omega
            | cons c2 l2 =>
              apply hn
              simp [hz]
          have hr : catRun 0 (c :: l) = some r := by
            rw [catRun, catStep, if_neg (by omega)]
            simp only [Option.bind_some]
            rw [show 10 * (0 : Int) + ((c.toNat : Int) - 48) = 0 * 10 + ((c.toNat : Int) - 48) by omega] at hd2
            exact dig_cat l _ r (by omega) hd2 h2
          simp [catV, hr]

/-- The document's reading of a list: what it has, and whether all parts are numbers. -/
def fromR : Nat → List Int → List UInt8 → List Int × Bool
  | 0, out, _ => (out, false)
  | f + 1, out, l =>
    if digV (cutL l 44).1 < 0 then (out, false)
    else (if (cutL l 44).2.2 then fromR f (out ++ [digV (cutL l 44).1]) (cutL l 44).2.1 else (out ++ [digV (cutL l 44).1], true))
def fromL (l : List UInt8) : List Int × Bool := if l = [] then ([], true) else fromR (l.length + 1) [] l
def fromOK (R : List Int × Bool) : Bool := R.2 && okB R.1

theorem fromR_ext : ∀ (f : Nat) (out : List Int) (l : List UInt8), ∃ t, (fromR f out l).1 = out ++ t
  | 0, out, l => ⟨[], by simp [fromR]⟩
  | f + 1, out, l => by
    rw [fromR]
    split
    · exact ⟨[], by simp⟩
    · split
      · obtain ⟨t, ht⟩ := fromR_ext f (out ++ [digV (cutL l 44).1]) (cutL l 44).2.1
        exact ⟨digV (cutL l 44).1 :: t, by rw [ht]; simp⟩
      · exact ⟨[digV (cutL l 44).1], rfl⟩

theorem from_run : ∀ (f : Nat) (out : List Int) (l : List UInt8), l.length < f → ((runL f out l).2 = true → fromR f out l = runL f out l ∧ okB (runL f out l).1 = true) ∧ ((runL f out l).2 = false → fromOK (fromR f out l) = false)
  | 0, out, l, h => by omega
  | f + 1, out, l, h => by
    obtain ⟨_, hc2, _⟩ := cutL_len l 44
    by_cases hgo : (decide (0 < catV (cutL l 44).1) && okB (out ++ [catV (cutL l 44).1])) = true
    · have hgo2 := hgo
      simp only [Bool.and_eq_true, decide_eq_true_eq] at hgo2
      have hd := dig_of_cat hgo2.1
      have hneg : ¬ catV (cutL l 44).1 < 0 := by omega
      rw [runL, fromR, hd.1, if_pos hgo, if_neg hneg]
      cases hm : (cutL l 44).2.2
      · simp only [Bool.false_eq_true, if_false]
        exact ⟨fun _ => ⟨trivial, hgo2.2⟩, fun h => by cases h⟩
      · simp only [if_true]
        exact from_run f _ _ (by have := hc2 hm; omega)
    · rw [runL, if_neg hgo]
      refine ⟨(fun h => by cases h), fun _ => ?_⟩
      rw [fromR]
      split
      · simp [fromOK]
      · rename_i hneg
        have key : okB (out ++ [digV (cutL l 44).1]) = false := by
          cases hk : okB (out ++ [digV (cutL l 44).1]) with
          | false => rfl
          | true =>
            exfalso
            have hm := (okB_iff.1 hk).2.2 (digV (cutL l 44).1) (by simp)
            have hc := cat_of_dig hm.1 hm.2
            apply hgo
            rw [hc, hk]
            simp
            omega
        split
        · obtain ⟨t, ht⟩ := fromR_ext f (out ++ [digV (cutL l 44).1]) (cutL l 44).2.1
          rw [fromOK, ht]
          cases hk : okB (out ++ [digV (cutL l 44).1] ++ t) with
          | false => simp
          | true =>
            have := okB_take hk
            rw [key] at this
            cases this
        · rw [fromOK]
          simp [key]

theorem from_listed (l : List UInt8) : fromOK (fromL l) = (listedL l).2 ∧ ((listedL l).2 = true → (fromL l).1 = (listedL l).1) := by
  rw [fromL, listedL]
  by_cases hl : l = []
  · rw [if_pos hl, if_pos hl]
    exact ⟨by decide, fun _ => rfl⟩
  · rw [if_neg hl, if_neg hl]
    have h := from_run (l.length + 1) [] l (by omega)
    cases hr : (runL (l.length + 1) [] l).2 with
    | true =>
      obtain ⟨h1, h2⟩ := h.1 hr
      rw [h1]
      exact ⟨by simp [fromOK, hr, h2], fun _ => rfl⟩
    | false => exact ⟨h.2 hr, fun h => by cases h⟩

end Go.Proofs.YtjgohajlabdloaaDoor
