/-
  Numbers of texts, as the code and as the document reads them.
-/
import Derived.Lib.AtoiAll
import Derived.Lib.ItoaNum
import Derived.Lib.ItoaMem
import Derived.Lib.SlTrimSet
namespace Go.Proofs.YtkidcoolcjmcfaaDoor
set_option linter.unusedVariables false

def isDg (c : UInt8) : Bool := decide (48 ≤ c.toNat ∧ c.toNat ≤ 57)
/-- What digits spell behind a number. -/
def numF (N : Nat) (l : List UInt8) : Nat := l.foldl (fun a c => a * 10 + (c.toNat - 48)) N
theorem numF_nil (N : Nat) : numF N [] = N := rfl
theorem numF_cons (N : Nat) (c : UInt8) (r : List UInt8) : numF N (c :: r) = numF (N * 10 + (c.toNat - 48)) r := by
  unfold numF
  rw [List.foldl_cons]
theorem numF_ge (l : List UInt8) : ∀ N : Nat, N ≤ numF N l := by
  induction l with
  | nil => intro N; exact Nat.le_refl _
  | cons c r ih =>
    intro N
    rw [numF_cons]
    have := ih (N * 10 + (c.toNat - 48))
    omega
theorem numF_app (l r : List UInt8) : ∀ N : Nat, numF N (l ++ r) = numF (numF N l) r := by
  intro N
  unfold numF
  rw [List.foldl_append]
theorem dec_step (n : Nat) : Lib.decDigits n = if n < 10 then [UInt8.ofNat (48 + n)] else Lib.decDigits (n / 10) ++ [UInt8.ofNat (48 + n % 10)] := by
  rw [Lib.decDigits]
  split <;> rfl
theorem dec_dg (n : Nat) : (Lib.decDigits n).all isDg = true := by
  induction n using Nat.strongRecOn with
  | ind n ih =>
    have hdig : ∀ k, k < 10 → isDg (UInt8.ofNat (48 + k)) = true := by decide
    rw [dec_step]
    split
    · rename_i h
      rw [List.all_cons, hdig n h]
      rfl
    · rename_i h
      rw [List.all_append, ih (n / 10) (by omega), List.all_cons, hdig (n % 10) (by omega)]
      rfl
theorem dec_num (n : Nat) : numF 0 (Lib.decDigits n) = n := by
  induction n using Nat.strongRecOn with
  | ind n ih =>
    have hdig : ∀ k, k < 10 → (UInt8.ofNat (48 + k)).toNat - 48 = k := by decide
    rw [dec_step]
    split
    · rename_i h
      rw [numF_cons, numF_nil]
      rw [hdig n h]
      omega
    · rename_i h
      rw [numF_app, ih (n / 10) (by omega)]
      rw [numF_cons, numF_nil]
      rw [hdig (n % 10) (by omega)]
      omega
theorem dec_ne (n : Nat) : Lib.decDigits n ≠ [] := by
  rw [dec_step]
  split <;> simp
theorem decd_len : ∀ (k n : Nat), n < 10 ^ (k + 1) → (Lib.decDigits n).length ≤ k + 1
  | 0, n, h => by rw [dec_step, if_pos (by simpa using h)]; simp
  | k + 1, n, h => by
    rw [dec_step]
    split
    · simp
    · rw [List.length_append]
      have : n / 10 < 10 ^ (k + 1) := by rw [Nat.div_lt_iff_lt_mul (by decide)]; rw [Nat.pow_succ] at h; exact h
      have := decd_len k (n / 10) this
      simp; omega
theorem itoa_len {m : Int} (h0 : -9223372036854775808 ≤ m) (h1 : m ≤ 9223372036854775807) : (Lib.itoa m).length ≤ 20 := by
  unfold Lib.itoa
  split
  · have := decd_len 18 m.natAbs (by omega)
    simp; omega
  · have := decd_len 18 m.toNat (by omega)
    omega
theorem head_app {a b : List UInt8} (h : a ≠ []) : (a ++ b).head? = a.head? := by
  cases a with
  | nil => exact absurd rfl h
  | cons c r => rfl
theorem dec_head (n : Nat) : (Lib.decDigits n).head? = some 48 → n = 0 := by
  induction n using Nat.strongRecOn with
  | ind n ih =>
    rw [dec_step]
    split
    · rename_i h
      intro e
      have hd : ∀ k, k < 10 → UInt8.ofNat (48 + k) = 48 → k = 0 := by decide
      exact hd n h (by simpa using e)
    · rename_i h
      intro e
      have hne := dec_ne (n / 10)
      rw [head_app hne] at e
      have := ih (n / 10) (by omega) e
      omega
theorem dg_range {c : UInt8} (h : isDg c = true) : 48 ≤ c.toNat ∧ c.toNat ≤ 57 := by simpa [isDg] using h
theorem dg_ofNat {c : UInt8} (h : isDg c = true) : UInt8.ofNat (48 + (c.toNat - 48)) = c := by
  have := dg_range h
  rw [show 48 + (c.toNat - 48) = c.toNat by omega]
  simp
/-- Digits without a nought ahead are those of what they spell. -/
theorem dec_back (r : List UInt8) : ∀ t : List UInt8, t = r.reverse → t ≠ [] → t.all isDg = true → (t.length = 1 ∨ t.head? ≠ some 48) → Lib.decDigits (numF 0 t) = t := by
  induction r with
  | nil => intro t ht hne; simp at ht; exact absurd ht hne
  | cons c r ih =>
    intro t ht hne hall hz
    rw [List.reverse_cons] at ht
    subst ht
    rw [List.all_append] at hall
    simp only [Bool.and_eq_true, List.all_cons, List.all_nil, and_true] at hall
    obtain ⟨h1, h2⟩ := hall
    have hr := dg_range h2
    rw [numF_app, numF_cons, numF_nil]
    by_cases hn : r.reverse = []
    · rw [hn, List.nil_append, numF_nil]
      rw [dec_step, if_pos (by omega), show 48 + (0 * 10 + (c.toNat - 48)) = 48 + (c.toNat - 48) by omega, dg_ofNat h2]
    · have hz' : r.reverse.head? ≠ some 48 := by
        rcases hz with h | h
        · exfalso
          have := List.length_pos_iff.2 hn
          simp at h
          simp [h] at hn
        · rw [head_app hn] at h
          exact h
      have ihh := ih r.reverse rfl hn h1 (Or.inr hz')
      have hpos : 1 ≤ numF 0 r.reverse := by
        by_cases h0 : numF 0 r.reverse = 0
        · exfalso
          rw [h0] at ihh
          apply hz'
          rw [← ihh]
          rw [dec_step]; rfl
        · omega
      rw [dec_step, if_neg (by omega), show (numF 0 r.reverse * 10 + (c.toNat - 48)) / 10 = numF 0 r.reverse by omega, ihh, show 48 + (numF 0 r.reverse * 10 + (c.toNat - 48)) % 10 = 48 + (c.toNat - 48) by omega, dg_ofNat h2]

/-! ### The document's -/
/-- The number's negative, as the document reckons it. -/
def negL (n : Int) : List UInt8 → Option Int
  | [] => some n
  | c :: r => if isDg c = false ∨ n < -922337203685477580 ∨ (n = -922337203685477580 ∧ 56 < c.toNat) then none else negL (10 * n - ((c.toNat : Int) - 48)) r
theorem negL_num : ∀ (t : List UInt8) (N : Nat), N ≤ 9223372036854775808 → negL (-(N : Int)) t = if t.all isDg = true ∧ numF N t ≤ 9223372036854775808 then some (-(numF N t : Int)) else none
  | [], N, h => by simp [negL, numF_nil, h]
  | c :: r, N, h => by
    unfold negL
    by_cases hd : isDg c = true
    · have hr := dg_range hd
      by_cases hb : N * 10 + (c.toNat - 48) ≤ 9223372036854775808
      · rw [if_neg (by rw [hd]; simp; omega)]
        rw [show (10 * (-(N : Int)) - ((c.toNat : Int) - 48)) = -((N * 10 + (c.toNat - 48) : Nat) : Int) by omega, negL_num r _ hb]
        simp [hd, numF_cons]
      · rw [if_pos (by right; omega), if_neg]
        intro ⟨_, h2⟩
        have := numF_ge r (N * 10 + (c.toNat - 48))
        rw [numF_cons] at h2
        omega
    · rw [if_pos (Or.inl (by simpa using hd)), if_neg]
      intro ⟨h1, _⟩
      rw [List.all_cons, Bool.and_eq_true] at h1
      exact hd h1.1
def belowB (s : List UInt8) : Bool := decide (1 < s.length) && (s.head? == some 45)
def magT (s : List UInt8) : List UInt8 := if belowB s = true then s.drop 1 else s
/-- A text that is refused at once. -/
def badT (s : List UInt8) : Bool := (magT s).isEmpty || (decide (1 < (magT s).length) && ((magT s).head? == some 48)) || (belowB s && ((magT s).head? == some 48))
/-- The number of a text, as the document reads it. -/
def docNum (s : List UInt8) : Option Int :=
  if badT s = true then none
  else match negL 0 (magT s) with
    | none => none
    | some n => if belowB s = true then some n else if n = -9223372036854775808 then none else some (-n)
/-- .. as the code reads it. -/
def codeNum (s : List UInt8) : Option Int :=
  match Lib.atoiAll s with
  | .ok v => if Lib.itoa v = s then some v else none
  | _ => none
def in64 (v : Int) : Prop := -9223372036854775808 ≤ v ∧ v ≤ 9223372036854775807

theorem parse_num : ∀ (l : List UInt8) (acc : Nat), l.all isDg = true → numF acc l < 18446744073709551616 → Lib.parseUint10 acc l = .ok (numF acc l)
  | [], acc, _, _ => rfl
  | c :: l, acc, h, hb => by
    rw [List.all_cons, Bool.and_eq_true] at h
    have hd := dg_range h.1
    rw [numF_cons] at hb ⊢
    have := numF_ge l (acc * 10 + (c.toNat - 48))
    rw [Lib.parseUint10, if_pos hd, if_neg (by omega), if_neg (by omega)]
    exact parse_num l _ h.2 hb
theorem mag_dec {n : Nat} (h : n < 18446744073709551616) : Lib.parseMag (Lib.decDigits n) = .ok n := by
  unfold Lib.parseMag
  rw [if_neg (dec_ne n), parse_num _ _ (dec_dg n) (by rw [dec_num]; exact h), dec_num]
theorem atoi_itoa {v : Int} (h : in64 v) : Lib.atoiAll (Lib.itoa v) = .ok v := by
  obtain ⟨h0, h1⟩ := h
  unfold Lib.itoa
  split
  · rename_i hv
    simp only [Lib.atoiAll]
    have e45 : (45 : UInt8).toNat = 45 := rfl
    simp only [e45, or_true, if_true]
    rw [mag_dec (by omega)]
    simp only [not_true, false_and, if_false, true_and]
    rw [if_neg (by omega)]
    congr 1
    omega
  · rename_i hv
    cases hl : Lib.decDigits v.toNat with
    | nil => exact absurd hl (dec_ne _)
    | cons c r =>
      have hd := dec_dg v.toNat
      rw [hl, List.all_cons, Bool.and_eq_true] at hd
      have hc := dg_range hd.1
      have e43 : ¬ c.toNat = 43 := by omega
      have e45 : ¬ c.toNat = 45 := by omega
      simp only [Lib.atoiAll, e43, e45, false_or, if_false]
      rw [← hl, mag_dec (by omega)]
      simp only [not_false_iff, true_and, false_and, if_false]
      rw [if_neg (by omega)]
      congr 1
      omega
theorem atoi_in {s : List UInt8} {v : Int} (h : Lib.atoiAll s = .ok v) : in64 v := by
  unfold Lib.atoiAll at h
  split at h
  · cases h
  · rename_i c r
    simp only at h
    split at h
    · cases h
    · cases h
    · rename_i u hu
      split at h
      · cases h
      · split at h
        · cases h
        · injection h with h
          rename_i n1 n2
          unfold in64
          by_cases hn : c.toNat = 45
          · simp only [hn, if_true] at h
            have : u ≤ 9223372036854775808 := by
              by_cases k : 9223372036854775808 < u
              · exact absurd ⟨hn, k⟩ n2
              · omega
            omega
          · simp only [hn, if_false] at h
            have : u < 9223372036854775808 := by
              by_cases k : 9223372036854775808 ≤ u
              · exact absurd ⟨hn, k⟩ n1
              · omega
            omega
theorem codeNum_iff (s : List UInt8) (v : Int) : codeNum s = some v ↔ in64 v ∧ s = Lib.itoa v := by
  constructor
  · intro h
    unfold codeNum at h
    split at h
    · rename_i u hu
      split at h
      · rename_i e
        injection h with h
        subst h
        exact ⟨atoi_in hu, e.symm⟩
      · cases h
    · cases h
  · rintro ⟨h, rfl⟩
    unfold codeNum
    rw [atoi_itoa h]
    simp
theorem docNum_iff (s : List UInt8) (v : Int) : docNum s = some v ↔ in64 v ∧ s = Lib.itoa v := by
  constructor
  · intro h
    unfold docNum at h
    split at h
    · cases h
    · rename_i hb
      simp only [badT, Bool.or_eq_true, not_or, Bool.not_eq_true] at hb
      obtain ⟨⟨b1, b2⟩, b3⟩ := hb
      have hne : magT s ≠ [] := by simpa using b1
      rw [show (0 : Int) = -((0 : Nat) : Int) by rfl, negL_num _ _ (by omega)] at h
      split at h
      · cases h
      · rename_i n hn
        split at hn
        · rename_i hc
          obtain ⟨hall, hle⟩ := hc
          injection hn with hn
          have hz : (magT s).length = 1 ∨ (magT s).head? ≠ some 48 := by
            have := List.length_pos_iff.2 hne
            by_cases h1 : 1 < (magT s).length
            · right
              intro e
              rw [e] at b2
              simp [h1] at b2
            · left; omega
          have hback := dec_back (magT s).reverse (magT s) (by simp) hne hall hz
          by_cases hbl : belowB s = true
          · rw [if_pos hbl] at h
            injection h with h
            have hs : s = 45 :: magT s := by
              unfold magT
              rw [if_pos hbl]
              unfold belowB at hbl
              simp at hbl
              cases s with
              | nil => simp at hbl
              | cons a r => simp at hbl; simp [hbl.2]
            have hpos : 1 ≤ numF 0 (magT s) := by
              by_cases h0 : numF 0 (magT s) = 0
              · exfalso
                rw [h0] at hback
                rw [hbl, ← hback] at b3
                rw [dec_step] at b3
                simp at b3
              · omega
            have hv : v = -(numF 0 (magT s) : Int) := by omega
            refine ⟨⟨by omega, by omega⟩, ?_⟩
            rw [hv, Lib.itoa_neg _ hpos, hback]
            exact hs
          · rw [if_neg hbl] at h
            split at h
            · cases h
            · rename_i hm
              injection h with h
              have hs : magT s = s := by unfold magT; rw [if_neg hbl]
              have hv : v = (numF 0 (magT s) : Int) := by omega
              refine ⟨⟨by omega, by omega⟩, ?_⟩
              rw [hv, Lib.itoa_nonneg, hback, hs]
        · cases hn
  · rintro ⟨⟨h0, h1⟩, rfl⟩
    by_cases hv : v < 0
    · obtain ⟨u, hu, rfl⟩ : ∃ u : Nat, 1 ≤ u ∧ v = -(u : Int) := ⟨v.natAbs, by omega, by omega⟩
      rw [Lib.itoa_neg u hu]
      have hl := List.length_pos_iff.2 (dec_ne u)
      have hbl : belowB (45 :: Lib.decDigits u) = true := by
        unfold belowB
        simp
        omega
      have hm : magT (45 :: Lib.decDigits u) = Lib.decDigits u := by
        unfold magT
        rw [if_pos hbl]
        rfl
      have hh : (Lib.decDigits u).head? ≠ some 48 := fun e => by have := dec_head u e; omega
      have hh' : ((Lib.decDigits u).head? == some 48) = false := by rw [beq_eq_false_iff_ne]; exact hh
      have hbad : badT (45 :: Lib.decDigits u) = false := by
        unfold badT
        rw [hm, hh']
        simp [dec_ne u]
      unfold docNum
      rw [hbad, hm, show (0 : Int) = -((0 : Nat) : Int) by rfl, negL_num _ _ (by omega), dec_num, if_pos (show _ ∧ _ from ⟨dec_dg u, by omega⟩), hbl]
      simp
    · obtain ⟨u, rfl⟩ : ∃ u : Nat, v = (u : Int) := ⟨v.toNat, by omega⟩
      rw [Lib.itoa_nonneg]
      have hd := dec_dg u
      have hbl : belowB (Lib.decDigits u) = false := by
        unfold belowB
        cases hl : Lib.decDigits u with
        | nil => rfl
        | cons c r =>
          rw [hl, List.all_cons, Bool.and_eq_true] at hd
          have hc := dg_range hd.1
          have : (c == 45) = false := by
            rw [beq_eq_false_iff_ne]
            rintro rfl
            simp at hc
          simp [this]
      have hm : magT (Lib.decDigits u) = Lib.decDigits u := by
        unfold magT
        rw [hbl]
        rfl
      have hbad : badT (Lib.decDigits u) = false := by
        unfold badT
        rw [hm, hbl]
        have hx : (decide (1 < (Lib.decDigits u).length) && ((Lib.decDigits u).head? == some 48)) = false := by
          cases hq : ((Lib.decDigits u).head? == some 48) with
          | false => simp
          | true =>
            have := dec_head u (by simpa using hq)
            subst this
            rw [dec_step]
            decide
        rw [hx]
        simp [dec_ne u]
      unfold docNum
      rw [hbad, hm, show (0 : Int) = -((0 : Nat) : Int) by rfl, negL_num _ _ (by omega), dec_num, if_pos (show _ ∧ _ from ⟨dec_dg u, by omega⟩), hbl]
      simp
      omega
theorem doc_code (s : List UInt8) : docNum s = codeNum s := by
  cases h : docNum s with
  | some v => exact ((codeNum_iff s v).2 ((docNum_iff s v).1 h)).symm
  | none =>
    cases h2 : codeNum s with
    | none => rfl
    | some v =>
      have := (docNum_iff s v).2 ((codeNum_iff s v).1 h2)
      rw [h] at this
      cases this
end Go.Proofs.YtkidcoolcjmcfaaDoor
