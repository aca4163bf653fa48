/-
  Parts of a text between separators, forms and what they print.
-/
import Derived.Test.YtllhibdjopfcnaaGreatDoorMath
namespace Go.Proofs.YtllhibdjopfcnaaGreatDoor
set_option linter.unusedVariables false

/-- A text around the first c. -/
def cutC (c : UInt8) : List UInt8 → List UInt8 × List UInt8 × Bool
  | [] => ([], [], false)
  | b :: r => if b = c then ([], r, true) else (b :: (cutC c r).1, (cutC c r).2.1, (cutC c r).2.2)
def splitC (c : UInt8) : List UInt8 → List (List UInt8)
  | [] => [[]]
  | b :: r => if b = c then [] :: splitC c r else (b :: (splitC c r).headD []) :: (splitC c r).tail

theorem splitC_ne (c : UInt8) (l : List UInt8) : splitC c l ≠ [] := by
  cases l with
  | nil => simp [splitC]
  | cons b r => unfold splitC; split <;> simp
theorem splitC_cut (c : UInt8) : ∀ l : List UInt8, splitC c l = (cutC c l).1 :: (if (cutC c l).2.2 = true then splitC c (cutC c l).2.1 else [])
  | [] => by simp [splitC, cutC]
  | b :: r => by
    have ih := splitC_cut c r
    by_cases hb : b = c
    · rw [splitC, cutC, if_pos hb, if_pos hb]; simp
    · rw [splitC, cutC, if_neg hb, if_neg hb]
      show (b :: (splitC c r).headD []) :: (splitC c r).tail = (b :: (cutC c r).1) :: (if (cutC c r).2.2 = true then splitC c (cutC c r).2.1 else [])
      rw [ih]
      rfl
theorem cutC_none {c : UInt8} : ∀ {l : List UInt8}, c ∉ l → cutC c l = (l, [], false)
  | [], _ => rfl
  | b :: r, h => by
    have hb : ¬ b = c := fun e => h (by rw [e]; simp)
    have hr : c ∉ r := fun e => h (by simp [e])
    rw [cutC, if_neg hb, cutC_none hr]
theorem cutC_app {c : UInt8} : ∀ {l : List UInt8} (r : List UInt8), c ∉ l → cutC c (l ++ c :: r) = (l, r, true)
  | [], r, _ => by simp [cutC]
  | b :: l, r, h => by
    have hb : ¬ b = c := fun e => h (by rw [e]; simp)
    have hr : c ∉ l := fun e => h (by simp [e])
    rw [List.cons_append, cutC, if_neg hb, cutC_app r hr]
/-- Either c is not there, or the text is what stands ahead, c, and what stands behind. -/
theorem cutC_spec (c : UInt8) : ∀ l : List UInt8, (c ∉ l ∧ cutC c l = (l, [], false)) ∨ ∃ a b, l = a ++ c :: b ∧ c ∉ a ∧ cutC c l = (a, b, true)
  | [] => Or.inl ⟨by simp, rfl⟩
  | x :: r => by
    by_cases hx : x = c
    · subst hx
      exact Or.inr ⟨[], r, rfl, by simp, by simp [cutC]⟩
    · rcases cutC_spec c r with ⟨h1, h2⟩ | ⟨a, b, rfl, h2, h3⟩
      · have : c ∉ x :: r := by simp [h1]; exact fun e => hx e.symm
        exact Or.inl ⟨this, cutC_none this⟩
      · refine Or.inr ⟨x :: a, b, rfl, by simp [h2]; exact fun e => hx e.symm, ?_⟩
        rw [cutC, if_neg hx, h3]
theorem splitC_none {c : UInt8} {l : List UInt8} (h : c ∉ l) : splitC c l = [l] := by
  rw [splitC_cut, cutC_none h]; simp
theorem splitC_app {c : UInt8} {l : List UInt8} (r : List UInt8) (h : c ∉ l) : splitC c (l ++ c :: r) = l :: splitC c r := by
  rw [splitC_cut, cutC_app r h]; simp

abbrev PairL := List UInt8 × List UInt8
/-- The pair of a part. -/
def pairP (p : List UInt8) : PairL := ((dec true (cutC 61 p).1).1, (dec true (cutC 61 p).2.1).1)
def pairsOf (ps : List (List UInt8)) : List PairL := (ps.filter (fun p => !p.isEmpty)).map pairP
/-- The pairs of a form whose signs are right. -/
def formL (l : List UInt8) : List PairL := pairsOf (splitC 38 l)
theorem pairsOf_nil : pairsOf [] = [] := rfl
theorem pairsOf_cons (p : List UInt8) (ps : List (List UInt8)) : pairsOf (p :: ps) = (if p = [] then [] else [pairP p]) ++ pairsOf ps := by
  cases p with
  | nil => simp [pairsOf]
  | cons b r => simp [pairsOf]
theorem formL_nil : formL [] = [] := by simp [formL, splitC, pairsOf]
theorem formL_cut (l : List UInt8) : formL l = (if (cutC 38 l).1 = [] then [] else [pairP (cutC 38 l).1]) ++ (if (cutC 38 l).2.2 = true then formL (cutC 38 l).2.1 else []) := by
  unfold formL
  rw [splitC_cut, pairsOf_cons]
  congr 1
  split <;> rfl
theorem formL_app {l : List UInt8} (r : List UInt8) (h : 38 ∉ l) : formL (l ++ 38 :: r) = (if l = [] then [] else [pairP l]) ++ formL r := by
  rw [formL_cut, cutC_app r h]; simp
theorem formL_one {l : List UInt8} (h : 38 ∉ l) : formL l = if l = [] then [] else [pairP l] := by
  rw [formL_cut, cutC_none h]; simp

theorem hexD_amp : hexD 38 = -1 := by decide
theorem hexD_eq : hexD 61 = -1 := by decide

/-- Where a part's signs are wrong. -/
theorem dec_part_none {p : List UInt8} (h : (dec true p).2 = none) : (dec true (cutC 61 p).1).2 = none ∧ (dec true (cutC 61 p).2.1).2 = none := by
  rcases cutC_spec 61 p with ⟨_, h2⟩ | ⟨a, b, rfl, h2, h3⟩
  · rw [h2]; exact ⟨h, by rw [dec_nil]⟩
  · rw [h3]
    have k := dec_app true 61 (by decide) hexD_eq b a
    cases ha : (dec true a).2 with
    | none =>
      have := k.1 ha
      rw [this] at h
      exact ⟨rfl, by simpa using h⟩
    | some q => rw [k.2 q ha] at h; cases h

/-! ### Print -/
def printL : List PairL → List UInt8
  | [] => []
  | [p] => enc p.1 ++ 61 :: enc p.2
  | p :: q :: r => (enc p.1 ++ 61 :: enc p.2) ++ 38 :: printL (q :: r)
def one (p : PairL) : List UInt8 := enc p.1 ++ 61 :: enc p.2
theorem one_ne (p : PairL) : one p ≠ [] := by simp [one]
theorem one_amp (p : PairL) : (38 : UInt8) ∉ one p := by
  intro h
  rcases List.mem_append.1 h with h | h
  · exact (enc_ok _ _ h).2.2.1 rfl
  · rcases List.mem_cons.1 h with h | h
    · exact absurd h (by decide)
    · exact (enc_ok _ _ h).2.2.1 rfl
theorem one_eq (p : PairL) : (61 : UInt8) ∉ enc p.1 := fun h => (enc_ok _ _ h).2.2.2.1 rfl
theorem pairP_one (p : PairL) : pairP (one p) = p := by
  unfold pairP one
  rw [cutC_app _ (one_eq p), dec_enc, dec_enc]
theorem dec_one (p : PairL) : (dec true (one p)).2 = none := by
  unfold one
  rw [(dec_app true 61 (by decide) hexD_eq _ _).1 (by rw [dec_enc])]
  simp [dec_enc]
theorem printL_one (p : PairL) : printL [p] = one p := rfl
theorem printL_two (p q : PairL) (r : List PairL) : printL (p :: q :: r) = one p ++ 38 :: printL (q :: r) := rfl
theorem form_print : ∀ l : List PairL, formL (printL l) = l
  | [] => formL_nil
  | [p] => by rw [printL_one, formL_one (one_amp p), if_neg (one_ne p), pairP_one]
  | p :: q :: r => by
    rw [printL_two, formL_app _ (one_amp p), if_neg (one_ne p), pairP_one, form_print (q :: r)]; rfl
theorem dec_print : ∀ l : List PairL, (dec true (printL l)).2 = none
  | [] => by rw [printL, dec_nil]
  | [p] => dec_one p
  | p :: q :: r => by
    rw [printL_two, (dec_app true 38 (by decide) hexD_amp _ _).1 (dec_one p)]
    simp [dec_print (q :: r)]
theorem printL_snoc : ∀ (l : List PairL) (p : PairL), printL (l ++ [p]) = if l = [] then one p else printL l ++ 38 :: one p
  | [], p => rfl
  | [x], p => by simp [printL_one, printL_two]
  | x :: y :: r, p => by
    have ih := printL_snoc (y :: r) p
    rw [if_neg (by simp)] at ih ⊢
    rw [show x :: y :: r ++ [p] = x :: y :: (r ++ [p]) from rfl, printL_two, printL_two, show y :: (r ++ [p]) = y :: r ++ [p] from rfl, ih]
    simp
def bulkL (l : List PairL) : Nat := (l.map fun p => p.1.length + p.2.length + 2).sum
theorem printL_len : ∀ l : List PairL, (printL l).length ≤ 3 * bulkL l
  | [] => by simp [printL]
  | [p] => by
    have h1 := enc_len p.1
    have h2 := enc_len p.2
    simp [printL, bulkL]; omega
  | p :: q :: r => by
    have ih := printL_len (q :: r)
    have h1 := enc_len p.1
    have h2 := enc_len p.2
    rw [printL_two]
    simp only [bulkL, List.map_cons, List.sum_cons, one, List.length_append, List.length_cons] at ih ⊢
    omega
end Go.Proofs.YtllhibdjopfcnaaGreatDoor
