/-
  Instructions: which may be, their text, how a text is read.
-/
import Derived.Test.YtkidcoolcjmcfaaDoorCMath
import Derived.Test.YtkidcoolcjmcfaaDoorCIns
namespace Go.Proofs.YtkidcoolcjmcfaaDoor
set_option linter.unusedVariables false

/-! ### Parts of a text -/
/-- A text around the first c. -/
def cutC (c : UInt8) : List UInt8 → List UInt8 × List UInt8 × Bool
  | [] => ([], [], false)
  | b :: r => if b = c then ([], r, true) else (b :: (cutC c r).1, (cutC c r).2.1, (cutC c r).2.2)
def splitC (c : UInt8) : List UInt8 → List (List UInt8)
  | [] => [[]]
  | b :: r => if b = c then [] :: splitC c r else (b :: (splitC c r).headD []) :: (splitC c r).tail
theorem splitC_cut (c : UInt8) : ∀ l : List UInt8, splitC c l = (cutC c l).1 :: (if (cutC c l).2.2 = true then splitC c (cutC c l).2.1 else [])
  | [] => by simp [splitC, cutC]
  | b :: r => by
    have ih := splitC_cut c r
    by_cases hb : b = c
    · rw [splitC, cutC, if_pos hb, if_pos hb]; simp
    · rw [splitC, cutC, if_neg hb, if_neg hb]
      show (b :: (splitC c r).headD []) :: (splitC c r).tail = (b :: (cutC c r).1) :: (if (cutC c r).2.2 = true then splitC c (cutC c r).2.1 else [])
      rw [ih]
      rfl
theorem cutC_none {c : UInt8} : ∀ {l : List UInt8}, c ∉ l → cutC c l = (l, [], false)
  | [], _ => rfl
  | b :: r, h => by
    have hb : ¬ b = c := fun e => h (by rw [e]; simp)
    have hr : c ∉ r := fun e => h (by simp [e])
    rw [cutC, if_neg hb, cutC_none hr]
theorem cutC_app {c : UInt8} : ∀ {l : List UInt8} (r : List UInt8), c ∉ l → cutC c (l ++ c :: r) = (l, r, true)
  | [], r, _ => by simp [cutC]
  | b :: l, r, h => by
    have hb : ¬ b = c := fun e => h (by rw [e]; simp)
    have hr : c ∉ l := fun e => h (by simp [e])
    rw [List.cons_append, cutC, if_neg hb, cutC_app r hr]
/-- Either c is not there, or the text is what stands ahead, c, and what stands behind. -/
theorem cutC_spec (c : UInt8) : ∀ l : List UInt8, (c ∉ l ∧ cutC c l = (l, [], false)) ∨ ∃ a b, l = a ++ c :: b ∧ c ∉ a ∧ cutC c l = (a, b, true)
  | [] => Or.inl ⟨by simp, rfl⟩
  | x :: r => by
    by_cases hx : x = c
    · subst hx
      exact Or.inr ⟨[], r, rfl, by simp, by simp [cutC]⟩
    · rcases cutC_spec c r with ⟨h1, h2⟩ | ⟨a, b, rfl, h2, h3⟩
      · have : c ∉ x :: r := by simp [h1]; exact fun e => hx e.symm
        exact Or.inl ⟨this, cutC_none this⟩
      · refine Or.inr ⟨x :: a, b, rfl, by simp [h2]; exact fun e => hx e.symm, ?_⟩
        rw [cutC, if_neg hx, h3]
theorem splitC_none {c : UInt8} {l : List UInt8} (h : c ∉ l) : splitC c l = [l] := by
  rw [splitC_cut, cutC_none h]; simp
theorem splitC_app {c : UInt8} {l : List UInt8} (r : List UInt8) (h : c ∉ l) : splitC c (l ++ c :: r) = l :: splitC c r := by
  rw [splitC_cut, cutC_app r h]; simp

/-! ### Instructions -/
def nameO (n : Int) : List UInt8 := ((opOf n).map (·.1)).getD []
def argL (i : InsL) : List UInt8 := if withO i.1 = 0 then [] else 32 :: Lib.itoa i.2
/-- An instruction's line. -/
def lineO (i : InsL) : List UInt8 := nameO i.1 ++ argL i
def textC : List InsL → List UInt8
  | [] => []
  | i :: r => (lineO i ++ [10]) ++ textC r
theorem textC_app : ∀ (l r : List InsL), textC (l ++ r) = textC l ++ textC r
  | [], r => rfl
  | i :: l, r => by
    have := textC_app l r
    simp [textC, this]
theorem textC_next {l : List InsL} {k : Nat} (h : k < l.length) : textC (l.take (k + 1)) = textC (l.take k) ++ (lineO l[k] ++ [10]) := by
  rw [List.take_succ_eq_append_getElem h, textC_app]
  simp [textC]
def prnC (l : List InsL) : List UInt8 × Int := if (checkL l).1 = 0 then (textC l, 0) else ([], (checkL l).1)

/-! ### How a text is read -/
def blB (c : UInt8) : Bool := [32, 9].contains c
def findO (name : List UInt8) : List (List UInt8 × Int) → Nat → Option (Nat × Int)
  | [], _ => none
  | o :: r, k => if o.1 = name then some (k, o.2) else findO name r (k + 1)
def headW (s : List UInt8) : List UInt8 := s.takeWhile (fun c => !blB c)
def restW (s : List UInt8) : List UInt8 := Lib.trimS (s.dropWhile (fun c => !blB c)) [32, 9]
/-- What words tell. -/
def insL (s : List UInt8) : Option InsL :=
  match findO (headW s) opT 0 with
  | none => none
  | some o => if o.2 = 0 then (if restW s = [] then some (1 + (o.1 : Int), 0) else none) else (codeNum (restW s)).map fun a => (1 + (o.1 : Int), a)
def wordsL (line : List UInt8) : List UInt8 := Lib.trimS (cutC 59 line).1 [32, 9]
def leadL (line : List UInt8) : Nat := (line.takeWhile blB).length
/-- Instructions with their places; .error: the place of the line that is wrong. -/
def readL : Nat → List (List UInt8) → Except Nat (List (InsL × Nat))
  | _, [] => .ok []
  | p, line :: r =>
    if wordsL line = [] then readL (p + line.length + 1) r
    else match insL (wordsL line) with
      | none => .error (p + leadL line)
      | some i => match readL (p + line.length + 1) r with
        | .error q => .error q
        | .ok l => .ok ((i, p + leadL line) :: l)
/-- What is told of instructions that were read. -/
def endC (l : List InsL) (ps : List Nat) : List InsL × Int × Nat :=
  if (checkL l).1 = 0 then (l, 0, 0) else if (checkL l).1 = 130 then ([], 130, ps.getD (checkL l).2 0) else ([], (checkL l).1, 0)
def tellC (t : Except Nat (List (InsL × Nat))) : List InsL × Int × Nat :=
  match t with
  | .error p => ([], 130, p)
  | .ok l => endC (l.map (·.1)) (l.map (·.2))
def parC (s : List UInt8) : List InsL × Int × Nat := if 262144 < s.length then ([], 4, 0) else tellC (readL 0 (splitC 10 s))

/-! ### Blanks -/
theorem blB_iff (c : UInt8) : blB c = true ↔ c = 32 ∨ c = 9 := by
  unfold blB
  simp
theorem trim_left {l : List UInt8} {c : UInt8} (h : l.head? = some c) (hc : blB c = false) : Lib.trimLeftS l [32, 9] = l := by
  cases l with
  | nil => simp at h
  | cons a r =>
    simp at h
    subst h
    unfold Lib.trimLeftS
    rw [List.dropWhile_cons, if_neg]
    unfold blB at hc
    rw [hc]; simp
theorem trim_right {l : List UInt8} {c : UInt8} (h : l.getLast? = some c) (hc : blB c = false) : Lib.trimRightS l [32, 9] = l := by
  unfold Lib.trimRightS
  have hr : l.reverse.head? = some c := by rw [List.head?_reverse]; exact h
  have := trim_left hr hc
  unfold Lib.trimLeftS at this
  rw [this, List.reverse_reverse]
/-- A text that neither begins nor ends with a blank. -/
theorem trim_same {l : List UInt8} {a b : UInt8} (h1 : l.head? = some a) (ha : blB a = false) (h2 : l.getLast? = some b) (hb : blB b = false) : Lib.trimS l [32, 9] = l := by
  unfold Lib.trimS
  rw [trim_right h2 hb, trim_left h1 ha]
theorem dropW_nil {p : UInt8 → Bool} : ∀ {l : List UInt8}, l.dropWhile p = [] → ∀ x ∈ l, p x = true
  | [], _, x, h => by simp at h
  | a :: r, h, x, hx => by
    rw [List.dropWhile_cons] at h
    split at h
    · rename_i ha
      rcases List.mem_cons.1 hx with rfl | hx
      · exact ha
      · exact dropW_nil h x hx
    · cases h
theorem trim_lead (c : UInt8) (l : List UInt8) (hc : blB c = true) (hne : ∃ x ∈ l, blB x = false) : Lib.trimS (c :: l) [32, 9] = Lib.trimS l [32, 9] := by
  have e : Lib.trimRightS (c :: l) [32, 9] = c :: Lib.trimRightS l [32, 9] := by
    unfold Lib.trimRightS
    rw [List.reverse_cons, List.dropWhile_append]
    have : (l.reverse.dropWhile fun x => [32, 9].contains x).isEmpty = false := by
      obtain ⟨x, hx, hxb⟩ := hne
      cases hq : (l.reverse.dropWhile fun x => [32, 9].contains x) with
      | cons a r => rfl
      | nil =>
        have := dropW_nil hq x (by simpa using hx)
        unfold blB at hxb
        rw [this] at hxb
        cases hxb
    rw [this]
    simp
  unfold Lib.trimS
  rw [e]
  unfold Lib.trimLeftS
  rw [List.dropWhile_cons, if_pos]
  exact hc
theorem trim_tail (c : UInt8) (l : List UInt8) (hc : blB c = true) : Lib.trimS (l ++ [c]) [32, 9] = Lib.trimS l [32, 9] := by
  have e : Lib.trimRightS (l ++ [c]) [32, 9] = Lib.trimRightS l [32, 9] := by
    unfold Lib.trimRightS
    rw [List.reverse_append, List.reverse_cons, List.reverse_nil, List.nil_append, List.singleton_append, List.dropWhile_cons, if_pos]
    exact hc
  unfold Lib.trimS
  rw [e]
theorem trim_nil : Lib.trimS [] [32, 9] = [] := rfl

/-! ### There and back -/
theorem op_names : ∀ k : Fin 25, findO (opT[k.val]'k.isLt).1 opT 0 = some (k.val, (opT[k.val]'k.isLt).2) ∧ ((opT[k.val]'k.isLt).1.all fun c => !blB c && c != 10 && c != 59) = true ∧ (opT[k.val]'k.isLt).1 ≠ [] ∧ (opT[k.val]'k.isLt).1.length ≤ 5 := by decide
theorem opOf_some {n : Int} {o : List UInt8 × Int} (h : opOf n = some o) : ∃ k : Nat, ∃ hk : k < 25, n = 1 + (k : Int) ∧ o = opT[k]'hk := by
  unfold opOf at h
  split at h
  · rename_i hn
    have hk : (n - 1).toNat < 25 := by omega
    refine ⟨(n - 1).toNat, hk, by omega, ?_⟩
    rw [List.getElem?_eq_getElem (by rw [opT_len]; exact hk)] at h
    injection h with h
    exact h.symm
  · cases h
theorem opOf_at {k : Nat} (hk : k < 25) : opOf (1 + (k : Int)) = some (opT[k]'hk) := by
  unfold opOf
  rw [if_pos (by omega), show (1 + (k : Int) - 1).toNat = k by omega]
  exact List.getElem?_eq_getElem _
theorem itoa_sign {m : Int} : ∀ c ∈ Lib.itoa m, isDg c = true ∨ c = 45 := by
  intro c hc
  unfold Lib.itoa at hc
  split at hc
  · rcases List.mem_cons.1 hc with h | h
    · exact Or.inr h
    · exact Or.inl (List.all_eq_true.1 (dec_dg _) c h)
  · exact Or.inl (List.all_eq_true.1 (dec_dg _) c hc)
theorem sign_plain {c : UInt8} (h : isDg c = true ∨ c = 45) : blB c = false ∧ c ≠ 10 ∧ c ≠ 59 := by
  have hc : c.toNat = 45 ∨ (48 ≤ c.toNat ∧ c.toNat ≤ 57) := by
    rcases h with h | rfl
    · exact Or.inr (dg_range h)
    · exact Or.inl rfl
  have hne : ∀ d : UInt8, d.toNat ≠ 45 → ¬ (48 ≤ d.toNat ∧ d.toNat ≤ 57) → c ≠ d := by
    rintro d h1 h2 rfl
    rcases hc with h | h
    · exact h1 h
    · exact h2 h
  refine ⟨?_, hne 10 (by decide) (by decide), hne 59 (by decide) (by decide)⟩
  cases hb : blB c with
  | false => rfl
  | true =>
    rcases (blB_iff c).1 hb with e | e
    · exact absurd e (hne 32 (by decide) (by decide))
    · exact absurd e (hne 9 (by decide) (by decide))
theorem itoa_ne (m : Int) : Lib.itoa m ≠ [] := by
  unfold Lib.itoa
  split
  · simp
  · exact dec_ne _
theorem itoa_trim (m : Int) : Lib.trimS (Lib.itoa m) [32, 9] = Lib.itoa m := by
  have hne := itoa_ne m
  refine trim_same (List.head?_eq_some_head hne) (sign_plain (itoa_sign _ (List.head_mem hne))).1 (List.getLast?_eq_some_getLast hne) (sign_plain (itoa_sign _ (List.getLast_mem hne))).1
/-- What may be, with an A of 64 bits. -/
def okI (n : Nat) (i : InsL) : Prop := mayI n i = true ∧ in64 i.2
theorem plain_takeWhile {l r : List UInt8} (hl : ∀ c ∈ l, blB c = false) (hr : ∀ c, r.head? = some c → blB c = true) : (l ++ r).takeWhile (fun c => !blB c) = l ∧ (l ++ r).dropWhile (fun c => !blB c) = r := by
  induction l with
  | nil =>
    cases r with
    | nil => exact ⟨rfl, rfl⟩
    | cons c r =>
      have := hr c rfl
      refine ⟨?_, ?_⟩
      · rw [List.nil_append, List.takeWhile_cons, this]; rfl
      · rw [List.nil_append, List.dropWhile_cons, this]; rfl
  | cons c l ih =>
    have hc := hl c (by simp)
    obtain ⟨h1, h2⟩ := ih (fun c hc => hl c (by simp [hc]))
    refine ⟨?_, ?_⟩
    · rw [List.cons_append, List.takeWhile_cons, hc]
      simp [h1]
    · rw [List.cons_append, List.dropWhile_cons, hc]
      simp [h2]
theorem trim_blank_itoa (m : Int) : Lib.trimS (32 :: Lib.itoa m) [32, 9] = Lib.itoa m := by
  have hne := itoa_ne m
  rw [trim_lead 32 _ (by decide) ⟨(Lib.itoa m).head hne, List.head_mem hne, (sign_plain (itoa_sign _ (List.head_mem hne))).1⟩, itoa_trim]
theorem line_facts {n : Nat} {i : InsL} (h : okI n i) : insL (lineO i) = some i ∧ (∀ c ∈ lineO i, c ≠ 10 ∧ c ≠ 59) ∧ lineO i ≠ [] ∧ (∃ a, (lineO i).head? = some a ∧ blB a = false) ∧ (∃ b, (lineO i).getLast? = some b ∧ blB b = false) ∧ (lineO i).length ≤ 26 := by
  obtain ⟨op, a⟩ := i
  obtain ⟨hm, h64⟩ := h
  unfold mayI at hm
  cases ho : opOf op with
  | none => rw [ho] at hm; cases hm
  | some o =>
    rw [ho] at hm
    obtain ⟨k, hk, rfl, rfl⟩ := opOf_some ho
    obtain ⟨f1, f2, f3, f4⟩ := op_names ⟨k, hk⟩
    simp only at f1 f2 f3 f4 hm
    obtain ⟨O, hO⟩ : ∃ O, O = opT[k]'hk := ⟨_, rfl⟩
    have hnm : nameO (1 + (k : Int)) = O.1 := by unfold nameO; rw [ho, hO]; rfl
    have hwo : withO (1 + (k : Int)) = O.2 := by unfold withO; rw [ho, hO]; rfl
    rw [← hO] at f1 f2 f3 f4 hm
    have hpl : ∀ c ∈ O.1, blB c = false ∧ c ≠ 10 ∧ c ≠ 59 := by
      intro c hc
      have := List.all_eq_true.1 f2 c hc
      simp at this
      exact ⟨this.1.1, this.1.2, this.2⟩
    have hhead : ∃ a, O.1.head? = some a ∧ blB a = false := ⟨_, List.head?_eq_some_head f3, (hpl _ (List.head_mem f3)).1⟩
    by_cases hw : O.2 = 0
    · have hline : lineO (1 + (k : Int), a) = O.1 := by
        unfold lineO argL
        simp only
        rw [hwo, if_pos hw, hnm]
        simp
      have ha : a = 0 := by
        unfold mayW at hm
        simp only [hw] at hm
        simpa using hm
      rw [hline]
      refine ⟨?_, fun c hc => (hpl c hc).2, f3, hhead, ⟨_, List.getLast?_eq_some_getLast f3, (hpl _ (List.getLast_mem f3)).1⟩, by omega⟩
      obtain ⟨e1, e2⟩ := plain_takeWhile (l := O.1) (r := []) (fun c hc => (hpl c hc).1) (by simp)
      rw [List.append_nil] at e1 e2
      unfold insL headW restW
      rw [e1, e2, f1]
      simp only
      rw [if_pos hw, if_pos trim_nil, ha]
    · have hline : lineO (1 + (k : Int), a) = O.1 ++ 32 :: Lib.itoa a := by
        unfold lineO argL
        simp only
        rw [hwo, if_neg hw, hnm]
      rw [hline]
      have hne := itoa_ne a
      refine ⟨?_, ?_, by simp, ?_, ?_, ?_⟩
      · obtain ⟨e1, e2⟩ := plain_takeWhile (l := O.1) (r := 32 :: Lib.itoa a) (fun c hc => (hpl c hc).1) (by intro c hc; simp at hc; subst hc; decide)
        unfold insL headW restW
        rw [e1, e2, f1, trim_blank_itoa]
        simp only
        rw [if_neg hw, (codeNum_iff _ a).2 ⟨h64, rfl⟩]
        rfl
      · intro c hc
        rcases List.mem_append.1 hc with h | h
        · exact (hpl c h).2
        · rcases List.mem_cons.1 h with rfl | h
          · decide
          · exact (sign_plain (itoa_sign c h)).2
      · obtain ⟨b, hb, hb'⟩ := hhead
        exact ⟨b, by rw [head_app f3]; exact hb, hb'⟩
      · refine ⟨(Lib.itoa a).getLast hne, ?_, (sign_plain (itoa_sign _ (List.getLast_mem hne))).1⟩
        rw [List.getLast?_append, List.getLast?_cons, List.getLast?_eq_some_getLast hne]
        rfl
      · have hl : (Lib.itoa a).length ≤ 20 := itoa_len h64.1 h64.2
        rw [List.length_append, List.length_cons]; omega
theorem words_line {n : Nat} {i : InsL} (h : okI n i) : wordsL (lineO i) = lineO i := by
  obtain ⟨_, h2, _, ⟨a, h4, h4'⟩, ⟨b, h5, h5'⟩, _⟩ := line_facts h
  unfold wordsL
  rw [cutC_none (fun hc => (h2 _ hc).2 rfl)]
  exact trim_same h4 h4' h5 h5'
theorem split_text {n : Nat} : ∀ {l : List InsL}, (∀ i ∈ l, okI n i) → splitC 10 (textC l) = l.map lineO ++ [[]]
  | [], _ => by simp [textC, splitC]
  | i :: r, h => by
    have hi := line_facts (h i (by simp))
    rw [textC, List.append_assoc, List.singleton_append, splitC_app _ (fun hc => (hi.2.1 _ hc).1 rfl), split_text (l := r) (fun j hj => h j (List.mem_cons_of_mem _ hj))]
    rfl
theorem read_text {n : Nat} : ∀ {l : List InsL} (p : Nat), (∀ i ∈ l, okI n i) → ∃ q, readL p (l.map lineO ++ [[]]) = .ok q ∧ q.map (·.1) = l
  | [], p, _ => ⟨[], by simp [readL, wordsL, cutC, trim_nil], rfl⟩
  | i :: r, p, h => by
    have hi := line_facts (h i (by simp))
    obtain ⟨q, h1, h2⟩ := read_text (l := r) (p + (lineO i).length + 1) (fun j hj => h j (List.mem_cons_of_mem _ hj))
    refine ⟨(i, p + leadL (lineO i)) :: q, ?_, by simp [h2]⟩
    rw [List.map_cons, List.cons_append, readL, words_line (h i (by simp)), if_neg hi.2.2.1, hi.1]
    simp only
    rw [h1]
theorem text_len {n : Nat} : ∀ {l : List InsL}, (∀ i ∈ l, okI n i) → (textC l).length ≤ 27 * l.length
  | [], _ => by simp [textC]
  | i :: r, h => by
    have h1 := (line_facts (h i (by simp))).2.2.2.2.2
    have := text_len (l := r) (fun j hj => h j (List.mem_cons_of_mem _ hj))
    simp [textC]; omega
/-- Text of instructions that may be is read as they are. -/
theorem par_text {l : List InsL} (hc : (checkL l).1 = 0) (h64 : ∀ i ∈ l, in64 i.2) : parC (textC l) = (l, 0, 0) := by
  rcases check_cases l with h | ⟨h, _⟩ | ⟨h, hb, _, hl⟩
  · rw [h] at hc; cases hc
  · rw [h] at hc; cases hc
  · have hok : ∀ i ∈ l, okI l.length i := fun i hi => ⟨badAt_all hb i hi, h64 i hi⟩
    have := text_len hok
    unfold parC
    rw [if_neg (by omega), split_text hok]
    obtain ⟨q, h1, h2⟩ := read_text 0 hok
    rw [h1]
    unfold tellC endC
    simp only
    rw [h2, hc]
    rfl
/-- What is read has A of 64 bits. -/
theorem ins_in {s : List UInt8} {i : InsL} (h : insL s = some i) : in64 i.2 := by
  unfold insL at h
  split at h
  · cases h
  · rename_i o ho
    split at h
    · split at h
      · injection h with h
        subst h
        show in64 0
        exact ⟨by decide, by decide⟩
      · cases h
    · cases hn : codeNum (restW s) with
      | none => rw [hn] at h; cases h
      | some v =>
        rw [hn] at h
        injection h with h
        subst h
        exact ((codeNum_iff _ v).1 hn).1
theorem read_in : ∀ {ls : List (List UInt8)} {p : Nat} {q : List (InsL × Nat)}, readL p ls = .ok q → ∀ x ∈ q, in64 x.1.2
  | [], p, q, h, x, hx => by
    simp [readL] at h
    subst h
    simp at hx
  | line :: r, p, q, h, x, hx => by
    unfold readL at h
    split at h
    · exact read_in h x hx
    · split at h
      · cases h
      · rename_i i hi
        split at h
        · cases h
        · rename_i l hl
          injection h with h
          subst h
          rcases List.mem_cons.1 hx with rfl | hx
          · exact ins_in hi
          · exact read_in hl x hx
theorem par_in {s : List UInt8} {l : List InsL} (h : (parC s).1 = l) : ∀ i ∈ l, in64 i.2 := by
  intro i hi
  subst h
  unfold parC at hi
  split at hi
  · simp at hi
  · unfold tellC at hi
    split at hi
    · simp at hi
    · rename_i q hq
      unfold endC at hi
      split at hi
      · simp only at hi
        obtain ⟨x, hx, rfl⟩ := List.mem_map.1 hi
        exact read_in hq x hx
      · split at hi <;> simp at hi
theorem end_ok {l : List InsL} {ps : List Nat} (h : (endC l ps).2.1 = 0) : (checkL (endC l ps).1).1 = 0 := by
  unfold endC at h ⊢
  split at h
  · rename_i hc
    rw [if_pos hc]
    exact hc
  · split at h
    · cases h
    · rename_i h1 h2
      exact absurd h h1
theorem end_no {l : List InsL} {ps : List Nat} (h : (endC l ps).2.1 ≠ 0) : (endC l ps).1 = [] := by
  unfold endC at h ⊢
  split at h
  · exact absurd rfl h
  · rename_i hc
    rw [if_neg hc]
    split <;> rfl
theorem par_ok {s : List UInt8} (h : (parC s).2.1 = 0) : (checkL (parC s).1).1 = 0 := by
  by_cases hs : 262144 < s.length
  · unfold parC at h
    rw [if_pos hs] at h
    cases h
  · unfold parC at h ⊢
    rw [if_neg hs] at h ⊢
    cases hr : readL 0 (splitC 10 s) with
    | error p => rw [hr] at h; cases h
    | ok q =>
      rw [hr] at h
      exact end_ok h
theorem par_no {s : List UInt8} (h : (parC s).2.1 ≠ 0) : (parC s).1 = [] := by
  by_cases hs : 262144 < s.length
  · unfold parC
    rw [if_pos hs]
  · unfold parC at h ⊢
    rw [if_neg hs] at h ⊢
    cases hr : readL 0 (splitC 10 s) with
    | error p => rfl
    | ok q =>
      rw [hr] at h
      exact end_no h
end Go.Proofs.YtkidcoolcjmcfaaDoor
