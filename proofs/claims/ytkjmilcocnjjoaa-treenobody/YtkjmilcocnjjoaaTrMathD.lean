/- Mathematics of trees of keys: the keys from one on. -/
import Derived.Test.YtkjmilcocnjjoaaTrMathC
set_option linter.unusedVariables false
set_option linter.unusedSimpArgs false
namespace Go.Proofs.Ytkjmilcocnjjoaa.Tm

section Ge
variable {K V : Type} {lt : K → K → Bool}

/-! ## The keys from one on -/

def geL (lt : K → K → Bool) (k : K) (l : List (K × V)) : List (K × V) := l.drop (atL lt k l)

theorem ge_low (k : K) (A M : List (K × V)) (hA : lowL lt k A) : geL lt k (A ++ M) = geL lt k M := by
  induction A with
  | nil => rfl
  | cons a A ih =>
    have e := ih fun x hx => hA x (List.mem_cons_of_mem _ hx)
    simp only [geL, List.cons_append, atL, hA a (List.mem_cons_self ..), if_true, List.drop_succ_cons] at e ⊢
    exact e

theorem ge_all (k : K) (B : List (K × V)) (hB : ∀ x ∈ B, lt x.1 k = false) : geL lt k B = B := by
  cases B with
  | nil => rfl
  | cons b B => simp [geL, atL, hB b (List.mem_cons_self ..)]

theorem ge_up (k : K) (M B : List (K × V)) (hB : ∀ x ∈ B, lt x.1 k = false) : geL lt k (M ++ B) = geL lt k M ++ B := by
  induction M with
  | nil => simpa [geL, atL] using ge_all k B hB
  | cons m M ih =>
    simp only [geL, List.cons_append, atL] at ih ⊢
    split
    · simp only [List.drop_succ_cons]; exact ih
    · simp

theorem post_ge (T : Tot lt) (k : K) (B : List (K × V)) (G : List (List (K × V))) (hs : srt lt (post B G)) (hB : ∀ x, B.head? = some x → lt x.1 k = false) : ∀ x ∈ post B G, lt x.1 k = false := by
  cases B with
  | nil => intro x hx; simp [post] at hx
  | cons i B => cases G with
    | nil => intro x hx; simp [post] at hx
    | cons g G =>
      have hi := hB i rfl
      simp only [post, srt, List.pairwise_cons] at hs
      intro x hx
      simp only [post, List.mem_cons] at hx
      rcases hx with rfl | hx
      · exact hi
      · have h1 := hs.1 x hx
        cases h2 : lt x.1 k with
        | false => rfl
        | true => have := T.tr _ _ _ h1 h2; rw [hi] at this; cases this

/-- The keys from one on, of a node. -/
theorem node_ge {d : Nat} (T : Tot lt) (k : K) (A B : List (K × V)) (C D : List (Tr (K × V) d)) (c : Tr (K × V) d) (hC : A.length = C.length) (hA : A.length = atL lt k (A ++ B)) (hs : srt lt (flat (d + 1) (nodeT (A ++ B) (C ++ c :: D)))) :
    geL lt k (flat (d + 1) (nodeT (A ++ B) (C ++ c :: D))) = geL lt k (flat d c) ++ post B (D.map (flat d)) ∧ srt lt (flat d c) ∧ ∀ x ∈ post B (D.map (flat d)), lt x.1 k = false := by
  rw [flat_cut A B C D c hC] at hs ⊢
  have hl := at_low (lt := lt) k (A ++ B)
  rw [← hA] at hl
  simp only [List.take_left'] at hl
  have hlow := pre_low T k _ _ _ hs hl
  simp only [srt, List.pairwise_append] at hs
  have hpost : ∀ x ∈ post B (D.map (flat d)), lt x.1 k = false := post_ge T k _ _ hs.2.1.2.1 (fun x hx => by
    cases B with
    | nil => simp at hx
    | cons b B =>
      simp at hx; subst hx
      have := at_not (lt := lt) k (A ++ b :: B) (by rw [← hA]; simp)
      simpa [← hA] using this)
  exact ⟨by rw [ge_low k _ _ hlow, ge_up k _ _ hpost], hs.2.1.1, hpost⟩

end Ge
end Go.Proofs.Ytkjmilcocnjjoaa.Tm
