/-
  How the document reads a text: lines, leads, words without blanks around.
-/
import Derived.Test.YtkidcoolcjmcfaaDoorCMathB
namespace Go.Proofs.YtkidcoolcjmcfaaDoor
set_option linter.unusedVariables false
set_option linter.unusedSimpArgs false

/-! ### Blanks around -/
theorem trimR_nil {l : List UInt8} (h : Lib.trimRightS l [32, 9] = []) : ∀ c ∈ l, blB c = true := by
  unfold Lib.trimRightS at h
  have h2 : l.reverse.dropWhile (fun x => [32, 9].contains x) = [] := by simpa using h
  intro c hc
  exact dropW_nil (p := fun x => [32, 9].contains x) h2 c (by simpa using hc)
theorem dropW_head {p : UInt8 → Bool} : ∀ {l : List UInt8} {b : UInt8}, (l.dropWhile p).head? = some b → p b = false
  | [], b, h => by simp at h
  | a :: r, b, h => by
    rw [List.dropWhile_cons] at h
    split at h
    · exact dropW_head h
    · rename_i ha
      simp at h
      subst h
      simpa using ha
theorem trimR_last {l : List UInt8} {b : UInt8} (h : (Lib.trimRightS l [32, 9]).getLast? = some b) : blB b = false := by
  unfold Lib.trimRightS at h
  rw [List.getLast?_reverse] at h
  exact dropW_head (p := fun x => [32, 9].contains x) h
theorem dropW_last {p : UInt8 → Bool} : ∀ {l : List UInt8}, l.dropWhile p ≠ [] → (l.dropWhile p).getLast? = l.getLast?
  | [], h => by simp at h
  | a :: r, h => by
    rw [List.dropWhile_cons] at h ⊢
    split
    · rename_i ha
      rw [if_pos ha] at h
      rw [dropW_last h]
      cases r with
      | nil => simp at h
      | cons x y => simp
    · rfl
theorem trim_last {l : List UInt8} (h : Lib.trimS l [32, 9] ≠ []) : ∃ b, (Lib.trimS l [32, 9]).getLast? = some b ∧ blB b = false := by
  unfold Lib.trimS Lib.trimLeftS at h ⊢
  have e := dropW_last h
  refine ⟨(Lib.trimRightS l [32, 9]).getLast?.getD 0, ?_, ?_⟩
  · rw [e]
    cases hq : (Lib.trimRightS l [32, 9]).getLast? with
    | none =>
      rw [List.getLast?_eq_none_iff] at hq
      rw [hq] at h
      simp at h
    | some b => rfl
  · cases hq : (Lib.trimRightS l [32, 9]).getLast? with
    | none =>
      rw [List.getLast?_eq_none_iff] at hq
      rw [hq] at h
      simp at h
    | some b => exact trimR_last hq
theorem trim_nilall {l : List UInt8} (h : Lib.trimS l [32, 9] = []) : ∀ c ∈ l, blB c = true := by
  by_cases hr : Lib.trimRightS l [32, 9] = []
  · exact trimR_nil hr
  · exfalso
    have hl := trimR_last (List.getLast?_eq_some_getLast hr)
    have h2 := dropW_nil (p := fun x => [32, 9].contains x) (l := Lib.trimRightS l [32, 9]) h _ (List.getLast_mem hr)
    unfold blB at hl
    rw [hl] at h2
    cases h2
/-- Words have no blank at their end. -/
def EndB (s : List UInt8) : Prop := ∀ b, s.getLast? = some b → blB b = false
theorem words_end (line : List UInt8) : EndB (wordsL line) := by
  intro b hb
  by_cases h : wordsL line = []
  · rw [h] at hb; simp at hb
  · obtain ⟨c, hc, hf⟩ := trim_last (l := (cutC 59 line).1) h
    unfold wordsL at hb
    rw [hc] at hb
    cases hb
    exact hf
theorem end_rest {s : List UInt8} (h : EndB s) {k : Nat} (hk : k < s.length) : Lib.trimS (s.drop k) [32, 9] ≠ [] := by
  intro hn
  have hne : s.drop k ≠ [] := by rw [ne_eq, List.drop_eq_nil_iff]; omega
  have hb := trim_nilall hn _ (List.getLast_mem hne)
  have hq : s.getLast? = some ((s.drop k).getLast hne) := by
    rw [← List.getLast?_eq_some_getLast hne, List.getLast?_drop]
    rw [if_neg (by omega)]
  rw [h _ hq] at hb
  cases hb
theorem head_take (s : List UInt8) : s.take (headW s).length = headW s ∧ s.drop (headW s).length = s.dropWhile (fun c => !blB c) ∧ (headW s).length ≤ s.length := by
  have e := List.takeWhile_append_dropWhile (p := fun c => !blB c) (l := s)
  unfold headW
  generalize List.takeWhile (fun c => !blB c) s = a at e
  generalize List.dropWhile (fun c => !blB c) s = b at e
  subst e
  simp
/-- The document's words: what words tell. -/
def docIns (s : List UInt8) : Option InsL :=
  match findO (headW s) opT 0 with
  | none => none
  | some o => if o.2 = 0 then (if (headW s).length = s.length then some (1 + (o.1 : Int), 0) else none) else if (headW s).length < s.length then (docNum (Lib.trimS (s.drop (headW s).length) [32, 9])).map fun a => (1 + (o.1 : Int), a) else none
theorem code_nil : codeNum [] = none := by decide
theorem docIns_eq {s : List UInt8} (h : EndB s) : docIns s = insL s := by
  obtain ⟨e1, e2, e3⟩ := head_take s
  have er : restW s = Lib.trimS (s.drop (headW s).length) [32, 9] := by unfold restW; rw [e2]
  unfold docIns insL
  rw [er]
  cases findO (headW s) opT 0 with
  | none => rfl
  | some o =>
    simp only
    by_cases hk : (headW s).length < s.length
    · have hr := end_rest h hk
      rw [if_neg hr, if_neg (show ¬ (headW s).length = s.length by omega), if_pos hk, doc_code]
    · have hkk : (headW s).length = s.length := by omega
      have : s.drop (headW s).length = [] := List.drop_eq_nil_of_le (by omega)
      rw [this, if_pos hkk, if_neg hk, show Lib.trimS [] [32, 9] = [] from rfl, code_nil]
      rfl

/-! ### Lines -/
theorem lead_cut : ∀ l : List UInt8, leadL (cutC 59 l).1 = leadL l
  | [] => rfl
  | b :: r => by
    rw [cutC]
    by_cases hb : b = 59
    · subst hb
      rw [if_pos rfl]
      rfl
    · rw [if_neg hb]
      have ih := lead_cut r
      unfold leadL at ih ⊢
      simp only [List.takeWhile_cons]
      cases blB b with
      | true => simp [ih]
      | false => simp
/-- A line ends where the next newline, or the text, does. -/
theorem cut_at {s : List UInt8} {p i : Nat} (hpi : p ≤ i) (hi : i ≤ s.length) (hno : ∀ j (hj : j < s.length), p ≤ j → j < i → s[j] ≠ 10) (hend : i = s.length ∨ ∃ h : i < s.length, s[i] = 10) :
    splitC 10 (s.drop p) = (s.drop p).take (i - p) :: (if decide (i + 1 ≤ s.length) = true then splitC 10 (s.drop (i + 1)) else []) := by
  have hn : (10 : UInt8) ∉ (s.drop p).take (i - p) := by
    intro hm
    obtain ⟨j, hj, e⟩ := List.getElem_of_mem hm
    rw [List.length_take, List.length_drop] at hj
    rw [List.getElem_take, List.getElem_drop] at e
    exact hno (p + j) (by omega) (by omega) (by omega) e
  rcases hend with h | ⟨h, he⟩
  · have : (s.drop p).take (i - p) = s.drop p := List.take_of_length_le (by rw [List.length_drop]; omega)
    rw [this] at hn ⊢
    rw [splitC_none hn, if_neg (by simp; omega)]
  · have e : s.drop p = (s.drop p).take (i - p) ++ 10 :: s.drop (i + 1) := by
      conv => lhs; rw [← List.take_append_drop (i - p) (s.drop p)]
      rw [List.drop_drop, show p + (i - p) = i by omega, List.drop_eq_getElem_cons h, he]
    rw [if_pos (by simp; omega)]
    conv => lhs; rw [e]
    rw [splitC_app _ hn]
theorem line_len2 {s : List UInt8} {p i : Nat} (hpi : p ≤ i) (hi : i ≤ s.length) : ((s.drop p).take (i - p)).length = i - p := by
  rw [List.length_take, List.length_drop]; omega
end Go.Proofs.YtkidcoolcjmcfaaDoor
