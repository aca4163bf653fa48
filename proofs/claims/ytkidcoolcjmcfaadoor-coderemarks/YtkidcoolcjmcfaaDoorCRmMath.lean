/-
  A text of instructions with remarks, blanks and empty lines put in is read as they are.
-/
import Derived.Test.YtkidcoolcjmcfaaDoorCDMath
namespace Go.Proofs.YtkidcoolcjmcfaaDoor
set_option linter.unusedVariables false
set_option linter.unusedSimpArgs false

/-- Each newline with a remark ahead and blanks behind. -/
def remS (rem : List UInt8) : List UInt8 → List UInt8
  | [] => []
  | c :: r => (if c = 10 then [32, 9, 59] ++ rem ++ [10, 32, 9] else [c]) ++ remS rem r
theorem remS_app (rem : List UInt8) : ∀ a b : List UInt8, remS rem (a ++ b) = remS rem a ++ remS rem b
  | [], b => rfl
  | c :: a, b => by
    rw [List.cons_append, remS, remS, remS_app rem a b]
    exact (List.append_assoc _ _ _).symm
theorem remS_plain (rem : List UInt8) : ∀ {a : List UInt8}, (10 : UInt8) ∉ a → remS rem a = a
  | [], _ => rfl
  | c :: a, h => by
    have hc : ¬ c = 10 := fun e => h (by rw [e]; simp)
    rw [remS, if_neg hc, remS_plain rem (a := a) (fun e => h (by simp [e]))]
    rfl
theorem remS_next (rem : List UInt8) {s : List UInt8} {k : Nat} (h : k < s.length) : remS rem (s.take (k + 1)) = remS rem (s.take k) ++ (if s[k] = 10 then [32, 9, 59] ++ rem ++ [10, 32, 9] else [s[k]]) := by
  rw [List.take_succ_eq_append_getElem h, remS_app]
  simp [remS]
def remT (rem s : List UInt8) : List UInt8 := [59] ++ rem ++ [10, 10] ++ remS rem s
theorem remS_line (rem : List UInt8) {n : Nat} {i : InsL} (h : okI n i) (r : List InsL) : remS rem (textC (i :: r)) = lineO i ++ [32, 9, 59] ++ rem ++ 10 :: ([32, 9] ++ remS rem (textC r)) := by
  have hi := line_facts h
  have h10 : (10 : UInt8) ∉ lineO i := fun hm => (hi.2.1 _ hm).1 rfl
  rw [textC, remS_app, remS_app, remS_plain rem h10]
  simp [remS]
/-- Nothing, or the blanks behind a newline. -/
def preB (pre : List UInt8) : Prop := pre = [] ∨ pre = [32, 9]
theorem words_pre {pre : List UInt8} (h : preB pre) : wordsL pre = [] := by
  rcases h with rfl | rfl <;> rfl
theorem words_rem {pre rem : List UInt8} (hp : preB pre) {n : Nat} {i : InsL} (h : okI n i) : wordsL (pre ++ lineO i ++ [32, 9, 59] ++ rem) = lineO i := by
  obtain ⟨_, h2, hne, ⟨a, h4, h4'⟩, ⟨b, h5, h5'⟩, _⟩ := line_facts h
  have h59 : (59 : UInt8) ∉ pre ++ lineO i ++ [32, 9] := by
    intro hm
    rcases List.mem_append.1 hm with hm | hm
    · rcases List.mem_append.1 hm with hm | hm
      · rcases hp with rfl | rfl <;> simp at hm
      · exact (h2 _ hm).2 rfl
    · simp at hm
  have e : pre ++ lineO i ++ [32, 9, 59] ++ rem = (pre ++ lineO i ++ [32, 9]) ++ 59 :: rem := by simp
  have hbl : ∃ x ∈ lineO i, blB x = false := ⟨a, List.mem_of_mem_head? h4, h4'⟩
  have ht : Lib.trimS (lineO i) [32, 9] = lineO i := trim_same h4 h4' h5 h5'
  unfold wordsL
  rw [e, cutC_app _ h59]
  simp only
  rw [show pre ++ lineO i ++ [32, 9] = (pre ++ lineO i ++ [32]) ++ [9] by simp, trim_tail 9 _ (by decide), trim_tail 32 _ (by decide)]
  rcases hp with rfl | rfl
  · simpa using ht
  · rw [show [32, 9] ++ lineO i = 32 :: 9 :: lineO i by simp, trim_lead 32 _ (by decide) (by obtain ⟨x, hx, hb⟩ := hbl; exact ⟨x, by simp [hx], hb⟩), trim_lead 9 _ (by decide) hbl, ht]
theorem read_rem {rem : List UInt8} (h10 : (10 : UInt8) ∉ rem) {n : Nat} : ∀ {l : List InsL} (p : Nat) {pre : List UInt8}, preB pre → (∀ i ∈ l, okI n i) → ∃ q, readL p (splitC 10 (pre ++ remS rem (textC l))) = .ok q ∧ q.map (·.1) = l
  | [], p, pre, hp, _ => by
    have hn : (10 : UInt8) ∉ pre := by rcases hp with rfl | rfl <;> simp
    refine ⟨[], ?_, rfl⟩
    rw [show pre ++ remS rem (textC []) = pre by simp [textC, remS], splitC_none hn, readL, if_pos (words_pre hp), readL]
  | i :: r, p, pre, hp, h => by
    have hi := h i (by simp)
    have hlf := line_facts hi
    have hn : (10 : UInt8) ∉ pre ++ lineO i ++ [32, 9, 59] ++ rem := by
      intro hm
      rcases List.mem_append.1 hm with hm | hm
      · rcases List.mem_append.1 hm with hm | hm
        · rcases List.mem_append.1 hm with hm | hm
          · rcases hp with rfl | rfl <;> simp at hm
          · exact (hlf.2.1 _ hm).1 rfl
        · simp at hm
      · exact h10 hm
    have e : pre ++ remS rem (textC (i :: r)) = (pre ++ lineO i ++ [32, 9, 59] ++ rem) ++ 10 :: ([32, 9] ++ remS rem (textC r)) := by
      rw [remS_line rem hi r]
      simp
    obtain ⟨q, h1, h2⟩ := read_rem h10 (l := r) (p + (pre ++ lineO i ++ [32, 9, 59] ++ rem).length + 1) (pre := [32, 9]) (Or.inr rfl) (fun j hj => h j (List.mem_cons_of_mem _ hj))
    refine ⟨(i, p + leadL (pre ++ lineO i ++ [32, 9, 59] ++ rem)) :: q, ?_, by simp [h2]⟩
    rw [e, splitC_app _ hn, readL, words_rem hp hi, if_neg hlf.2.2.1, hlf.1]
    simp only
    rw [h1]
theorem rem_len {rem : List UInt8} (hr : rem.length ≤ 40) {n : Nat} : ∀ {l : List InsL}, (∀ i ∈ l, okI n i) → (remS rem (textC l)).length ≤ 72 * l.length
  | [], _ => by simp [textC, remS]
  | i :: r, h => by
    have hi := h i (by simp)
    have h1 := (line_facts hi).2.2.2.2.2
    have := rem_len hr (l := r) (fun j hj => h j (List.mem_cons_of_mem _ hj))
    rw [remS_line rem hi r]
    simp
    omega
theorem par_rem {l : List InsL} (hc : (checkL l).1 = 0) (h64 : ∀ i ∈ l, in64 i.2) {rem : List UInt8} (hr : rem.length ≤ 40) (h10 : (10 : UInt8) ∉ rem) : parC (remT rem (textC l)) = (l, 0, 0) := by
  rcases check_cases l with h | ⟨h, _⟩ | ⟨h, hb, _, hl⟩
  · rw [h] at hc; cases hc
  · rw [h] at hc; cases hc
  · have hok : ∀ i ∈ l, okI l.length i := fun i hi => ⟨badAt_all hb i hi, h64 i hi⟩
    have hlen := rem_len hr hok
    have ht : remT rem (textC l) = (59 :: rem) ++ 10 :: ([] ++ 10 :: ([] ++ remS rem (textC l))) := by simp [remT]
    have hn : (10 : UInt8) ∉ 59 :: rem := by
      intro hm
      rcases List.mem_cons.1 hm with hm | hm
      · cases hm
      · exact h10 hm
    have hw : wordsL (59 :: rem) = [] := rfl
    obtain ⟨q, h1, h2⟩ := read_rem h10 (l := l) (0 + (59 :: rem).length + 1 + ([] : List UInt8).length + 1) (pre := []) (Or.inl rfl) hok
    unfold parC
    rw [if_neg (by rw [ht]; simp; omega), ht, splitC_app _ hn, splitC_app _ (by simp), readL, if_pos hw, readL, if_pos (words_pre (Or.inl rfl)), h1]
    simp only [tellC]
    rw [h2, endC, if_pos hc]
end Go.Proofs.YtkidcoolcjmcfaaDoor
