/- Mathematics of trees of keys, told by their depth: what is put, taken out, parted, moved and joined is what a rising list would do. -/
set_option linter.unusedVariables false
namespace Go.Proofs.Ytkjmilcocnjjoaa.Tm

/-- An order of keys. -/
structure Tot {K : Type} (lt : K → K → Bool) : Prop where
  irr : ∀ a, lt a a = false
  tr : ∀ a b c, lt a b = true → lt b c = true → lt a c = true
  tri : ∀ a b, lt a b = false → lt b a = false → a = b

section Lists
variable {K V : Type} (lt : K → K → Bool)

def atL (k : K) : List (K × V) → Nat
  | [] => 0
  | x :: l => if lt x.1 k then atL k l + 1 else 0

def hasL (k : K) : List (K × V) → Bool
  | [] => false
  | x :: l => if lt x.1 k then hasL k l else !lt k x.1

def putL (k : K) (v : V) : List (K × V) → List (K × V)
  | [] => [(k, v)]
  | x :: l => if lt x.1 k then x :: putL k v l else if lt k x.1 then (k, v) :: x :: l else (k, v) :: l

def delL (k : K) : List (K × V) → List (K × V)
  | [] => []
  | x :: l => if lt x.1 k then x :: delL k l else if lt k x.1 then x :: l else l

def getL (k : K) : List (K × V) → Option V
  | [] => none
  | x :: l => if lt x.1 k then getL k l else if lt k x.1 then none else some x.2

def srt (l : List (K × V)) : Prop := l.Pairwise fun a b => lt a.1 b.1 = true
def lowL (k : K) (l : List (K × V)) : Prop := ∀ x ∈ l, lt x.1 k = true
def upL (k : K) (l : List (K × V)) : Prop := ∀ x ∈ l, lt k x.1 = true

variable {lt}

theorem at_le (k : K) (l : List (K × V)) : atL lt k l ≤ l.length := by
  induction l with
  | nil => simp [atL]
  | cons x l ih => simp only [atL]; split <;> simp <;> omega

theorem at_low (k : K) (l : List (K × V)) : lowL lt k (l.take (atL lt k l)) := by
  induction l with
  | nil => simp [lowL]
  | cons x l ih =>
    simp only [atL]
    split
    · rename_i h
      intro y hy
      simp only [List.take_succ_cons, List.mem_cons] at hy
      rcases hy with rfl | hy
      · exact h
      · exact ih y hy
    · simp [lowL]

/-- What stands at the place is not below the key. -/
theorem at_not (k : K) (l : List (K × V)) (h : atL lt k l < l.length) : lt (l[atL lt k l]).1 k = false := by
  induction l with
  | nil => simp at h
  | cons x l ih =>
    simp only [atL] at h ⊢
    split
    · rename_i hx
      rw [if_pos hx] at h
      simp only [List.length_cons] at h
      simp only [List.getElem_cons_succ]
      exact ih (by omega)
    · rename_i hx
      simpa using hx

theorem has_iff (k : K) (l : List (K × V)) : hasL lt k l = true ↔ ∃ h : atL lt k l < l.length, lt k (l[atL lt k l]).1 = false := by
  induction l with
  | nil => simp [hasL]
  | cons x l ih =>
    simp only [hasL, atL]
    split
    · simp only [List.length_cons, List.getElem_cons_succ, Nat.add_lt_add_iff_right]; exact ih
    · simp

/-- A place that parts a list so is the key's. -/
theorem at_mid (k : K) (A B : List (K × V)) (hA : lowL lt k A) (hB : ∀ x, B.head? = some x → lt x.1 k = false) : atL lt k (A ++ B) = A.length := by
  induction A with
  | nil =>
    cases B with
    | nil => simp [atL]
    | cons b B => simp [atL, hB b rfl]
  | cons a A ih =>
    simp only [List.cons_append, atL, hA a (List.mem_cons_self ..), if_true, List.length_cons]
    rw [ih fun x hx => hA x (List.mem_cons_of_mem _ hx)]

theorem put_low (k : K) (v : V) (A M : List (K × V)) (hA : lowL lt k A) : putL lt k v (A ++ M) = A ++ putL lt k v M := by
  induction A with
  | nil => rfl
  | cons a A ih => simp only [List.cons_append, putL, hA a (List.mem_cons_self ..), if_true]; rw [ih fun x hx => hA x (List.mem_cons_of_mem _ hx)]

theorem del_low (k : K) (A M : List (K × V)) (hA : lowL lt k A) : delL lt k (A ++ M) = A ++ delL lt k M := by
  induction A with
  | nil => rfl
  | cons a A ih => simp only [List.cons_append, delL, hA a (List.mem_cons_self ..), if_true]; rw [ih fun x hx => hA x (List.mem_cons_of_mem _ hx)]

theorem has_low (k : K) (A M : List (K × V)) (hA : lowL lt k A) : hasL lt k (A ++ M) = hasL lt k M := by
  induction A with
  | nil => rfl
  | cons a A ih => simp only [List.cons_append, hasL, hA a (List.mem_cons_self ..), if_true]; rw [ih fun x hx => hA x (List.mem_cons_of_mem _ hx)]

theorem get_low (k : K) (A M : List (K × V)) (hA : lowL lt k A) : getL lt k (A ++ M) = getL lt k M := by
  induction A with
  | nil => rfl
  | cons a A ih => simp only [List.cons_append, getL, hA a (List.mem_cons_self ..), if_true]; rw [ih fun x hx => hA x (List.mem_cons_of_mem _ hx)]

theorem not_both (T : Tot lt) {a b : K} (h : lt a b = true) : lt b a = false := by
  cases h2 : lt b a with
  | false => rfl
  | true => have := T.tr _ _ _ h h2; rw [T.irr] at this; simp at this

theorem put_up (T : Tot lt) (k : K) (v : V) (M B : List (K × V)) (hB : upL lt k B) : putL lt k v (M ++ B) = putL lt k v M ++ B := by
  induction M with
  | nil =>
    cases B with
    | nil => simp [putL]
    | cons b B => have h := hB b (List.mem_cons_self ..); simp [putL, h, not_both T h]
  | cons m M ih =>
    simp only [List.cons_append, putL]
    split
    · rw [ih]; rfl
    · split <;> rfl

theorem del_up (T : Tot lt) (k : K) (M B : List (K × V)) (hB : upL lt k B) : delL lt k (M ++ B) = delL lt k M ++ B := by
  induction M with
  | nil =>
    cases B with
    | nil => simp [delL]
    | cons b B => have h := hB b (List.mem_cons_self ..); simp [delL, h, not_both T h]
  | cons m M ih =>
    simp only [List.cons_append, delL]
    split
    · rw [ih]; rfl
    · split <;> rfl

theorem has_up (T : Tot lt) (k : K) (M B : List (K × V)) (hB : upL lt k B) : hasL lt k (M ++ B) = hasL lt k M := by
  induction M with
  | nil =>
    cases B with
    | nil => simp [hasL]
    | cons b B => have h := hB b (List.mem_cons_self ..); simp [hasL, h, not_both T h]
  | cons m M ih =>
    simp only [List.cons_append, hasL]
    split
    · rw [ih]
    · rfl

theorem get_up (T : Tot lt) (k : K) (M B : List (K × V)) (hB : upL lt k B) : getL lt k (M ++ B) = getL lt k M := by
  induction M with
  | nil =>
    cases B with
    | nil => simp [getL]
    | cons b B => have h := hB b (List.mem_cons_self ..); simp [getL, h, not_both T h]
  | cons m M ih =>
    simp only [List.cons_append, getL]
    split
    · rw [ih]
    · rfl

theorem put_keys (T : Tot lt) (k : K) (v : V) (l : List (K × V)) (x : K × V) (h : x ∈ putL lt k v l) : x.1 = k ∨ x ∈ l := by
  induction l with
  | nil => simp [putL] at h; left; rw [h]
  | cons y l ih =>
    simp only [putL] at h
    split at h
    · rcases List.mem_cons.1 h with rfl | h
      · right; exact List.mem_cons_self ..
      · rcases ih h with h | h
        · exact .inl h
        · exact .inr (List.mem_cons_of_mem _ h)
    · split at h
      · rcases List.mem_cons.1 h with rfl | h
        · exact .inl rfl
        · exact .inr h
      · rcases List.mem_cons.1 h with rfl | h
        · exact .inl rfl
        · exact .inr (List.mem_cons_of_mem _ h)

theorem put_srt (T : Tot lt) (k : K) (v : V) (l : List (K × V)) (h : srt lt l) : srt lt (putL lt k v l) := by
  induction l with
  | nil => simp [putL, srt]
  | cons y l ih =>
    have h1 := List.pairwise_cons.1 h
    simp only [putL]
    split
    · rename_i hy
      refine List.pairwise_cons.2 ⟨fun x hx => ?_, ih h1.2⟩
      rcases put_keys T k v l x hx with e | hm
      · rw [e]; exact hy
      · exact h1.1 x hm
    · split
      · rename_i hk
        refine List.pairwise_cons.2 ⟨fun x hx => ?_, h⟩
        rcases List.mem_cons.1 hx with rfl | hx
        · exact hk
        · exact T.tr _ _ _ hk (h1.1 x hx)
      · rename_i hy hk
        have e : y.1 = k := T.tri _ _ (by simpa using hy) (by simpa using hk)
        refine List.pairwise_cons.2 ⟨fun x hx => ?_, h1.2⟩
        have := h1.1 x hx
        rw [e] at this; exact this

theorem del_sub (k : K) (l : List (K × V)) : (delL lt k l).Sublist l := by
  induction l with
  | nil => simp [delL]
  | cons y l ih =>
    simp only [delL]
    split
    · exact ih.cons_cons _
    · split
      · exact List.Sublist.refl _
      · exact List.sublist_cons_self _ _

theorem del_srt (k : K) (l : List (K × V)) (h : srt lt l) : srt lt (delL lt k l) := List.Pairwise.sublist (del_sub k l) h

theorem put_len (k : K) (v : V) (l : List (K × V)) : (putL lt k v l).length = l.length + (if hasL lt k l then 0 else 1) := by
  induction l with
  | nil => simp [putL, hasL]
  | cons y l ih =>
    simp only [putL, hasL]
    split
    · simp only [List.length_cons, ih]; split <;> omega
    · split <;> simp_all

theorem del_len (k : K) (l : List (K × V)) : (delL lt k l).length + (if hasL lt k l then 1 else 0) = l.length := by
  induction l with
  | nil => simp [delL, hasL]
  | cons y l ih =>
    simp only [delL, hasL]
    split
    · simp only [List.length_cons, ← ih]; split <;> omega
    · split <;> simp_all

theorem has_get (k : K) (l : List (K × V)) : hasL lt k l = (getL lt k l).isSome := by
  induction l with
  | nil => rfl
  | cons y l ih =>
    simp only [hasL, getL]
    split
    · exact ih
    · split <;> simp_all

/-- A new key, by its place. -/
theorem put_new (k : K) (v : V) (l : List (K × V)) (h : hasL lt k l = false) : putL lt k v l = l.take (atL lt k l) ++ (k, v) :: l.drop (atL lt k l) := by
  induction l with
  | nil => simp [putL, atL]
  | cons y l ih =>
    simp only [putL, hasL, atL] at h ⊢
    split
    · rename_i hy
      rw [if_pos hy] at h
      rw [ih h]; simp
    · rename_i hy
      rw [if_neg hy] at h
      simp at h
      simp [h]

/-- A key that is there, by its place. -/
theorem put_old (T : Tot lt) (k : K) (v : V) (l : List (K × V)) (h : hasL lt k l = true) : putL lt k v l = l.take (atL lt k l) ++ (k, v) :: l.drop (atL lt k l + 1) := by
  induction l with
  | nil => simp [hasL] at h
  | cons y l ih =>
    simp only [putL, hasL, atL] at h ⊢
    split
    · rename_i hy
      rw [if_pos hy] at h
      rw [ih h]; simp
    · rename_i hy
      rw [if_neg hy] at h
      simp at h
      simp [h]

theorem del_old (k : K) (l : List (K × V)) (h : hasL lt k l = true) : delL lt k l = l.take (atL lt k l) ++ l.drop (atL lt k l + 1) := by
  induction l with
  | nil => simp [hasL] at h
  | cons y l ih =>
    simp only [delL, hasL, atL] at h ⊢
    split
    · rename_i hy
      rw [if_pos hy] at h
      rw [ih h]; simp
    · rename_i hy
      rw [if_neg hy] at h
      simp at h
      simp [h]

theorem del_none (k : K) (l : List (K × V)) (h : hasL lt k l = false) : delL lt k l = l := by
  induction l with
  | nil => rfl
  | cons y l ih =>
    simp only [delL, hasL] at h ⊢
    split
    · rename_i hy
      rw [if_pos hy] at h
      rw [ih h]
    · rename_i hy
      rw [if_neg hy] at h
      simp at h
      simp [h]

theorem get_old (k : K) (l : List (K × V)) (h : hasL lt k l = true) (hi : atL lt k l < l.length) : getL lt k l = some (l[atL lt k l]).2 := by
  induction l with
  | nil => simp [hasL] at h
  | cons y l ih =>
    simp only [getL, hasL, atL] at h hi ⊢
    split
    · rename_i hy
      rw [if_pos hy] at h hi
      rw [ih h (by simpa using hi)]
      simp
    · rename_i hy
      rw [if_neg hy] at h
      simp at h
      simp [h]

theorem key_old (T : Tot lt) (k : K) (l : List (K × V)) (h : hasL lt k l = true) (hi : atL lt k l < l.length) : (l[atL lt k l]).1 = k := by
  obtain ⟨h1, h2⟩ := (has_iff k l).1 h
  exact T.tri _ _ (at_not k l h1) h2

end Lists
end Go.Proofs.Ytkjmilcocnjjoaa.Tm
