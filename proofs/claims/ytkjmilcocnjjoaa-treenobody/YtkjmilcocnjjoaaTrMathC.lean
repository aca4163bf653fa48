/- Mathematics of trees of keys: a call on a node is the call on the row of all that it holds, by the call on the one below. -/
import Derived.Test.YtkjmilcocnjjoaaTrMathB
set_option linter.unusedVariables false
set_option linter.unusedSimpArgs false
namespace Go.Proofs.Ytkjmilcocnjjoaa.Tm

section Ctx
variable {K V : Type} {lt : K → K → Bool}

theorem pre_low (T : Tot lt) (k : K) (A : List (K × V)) (F : List (List (K × V))) (R : List (K × V)) (hs : srt lt (pre A F ++ R)) (hA : lowL lt k A) : lowL lt k (pre A F) := by
  induction A generalizing F with
  | nil => intro x hx; simp [pre] at hx
  | cons i A ih => cases F with
    | nil => intro x hx; simp [pre] at hx
    | cons f F =>
      have hi := hA i (List.mem_cons_self ..)
      simp only [pre, List.append_assoc, List.cons_append, srt, List.pairwise_append, List.pairwise_cons] at hs
      obtain ⟨s1, ⟨s2, s3⟩, s4⟩ := hs
      have h2 := ih F (by simp only [srt, List.pairwise_append]; exact s3) fun x hx => hA x (List.mem_cons_of_mem _ hx)
      intro x hx
      simp only [pre, List.mem_append, List.mem_cons] at hx
      rcases hx with hx | rfl | hx
      · exact T.tr _ _ _ (s4 x hx i (List.mem_cons_self ..)) hi
      · exact hi
      · exact h2 x hx

theorem post_up (T : Tot lt) (k : K) (B : List (K × V)) (G : List (List (K × V))) (hs : srt lt (post B G)) (hB : ∀ x, B.head? = some x → lt k x.1 = true) : upL lt k (post B G) := by
  cases B with
  | nil => intro x hx; simp [post] at hx
  | cons i B => cases G with
    | nil => intro x hx; simp [post] at hx
    | cons g G =>
      have hi := hB i rfl
      simp only [post, srt, List.pairwise_cons] at hs
      intro x hx
      simp only [post, List.mem_cons] at hx
      rcases hx with rfl | hx
      · exact hi
      · exact T.tr _ _ _ hi (hs.1 x hx)

/-- A node's list at the place of a key. -/
theorem not_has (T : Tot lt) (k : K) (A B : List (K × V)) (hA : A.length = atL lt k (A ++ B)) (h : hasL lt k (A ++ B) = false) : lowL lt k A ∧ ∀ x, B.head? = some x → lt k x.1 = true := by
  have hl := at_low (lt := lt) k (A ++ B)
  rw [← hA] at hl
  simp only [List.take_left'] at hl
  refine ⟨hl, fun x hx => ?_⟩
  rw [has_low k A B hl] at h
  cases B with
  | nil => simp at hx
  | cons b B =>
    simp at hx; subst hx
    simp only [hasL] at h
    have hn : lt b.1 k = false := by
      have := at_not (lt := lt) k (A ++ b :: B) (by rw [← hA]; simp)
      simpa [← hA] using this
    simpa [hn] using h

theorem does_has (T : Tot lt) (k : K) (A B : List (K × V)) (b : K × V) (hA : A.length = atL lt k (A ++ b :: B)) (h : hasL lt k (A ++ b :: B) = true) : lowL lt k A ∧ b.1 = k := by
  have hl := at_low (lt := lt) k (A ++ b :: B)
  rw [← hA] at hl
  simp only [List.take_left'] at hl
  have hi : atL lt k (A ++ b :: B) < (A ++ b :: B).length := by rw [← hA]; simp
  have := key_old T k _ h hi
  refine ⟨hl, ?_⟩
  rw [← this]
  simp [← hA]

section Node

theorem flat_cut {d : Nat} (A B : List (K × V)) (C D : List (Tr (K × V) d)) (c : Tr (K × V) d) (hC : A.length = C.length) : flat (d + 1) (nodeT (A ++ B) (C ++ c :: D)) = pre A (C.map (flat d)) ++ (flat d c ++ post B (D.map (flat d))) := by
  rw [flat_node, List.map_append, List.map_cons, weave_cut _ _ (by simpa using hC)]

theorem flat_pair {d : Nat} (A B : List (K × V)) (C D : List (Tr (K × V) d)) (hC : A.length = C.length) (m : K × V) (l r : Tr (K × V) d) : flat (d + 1) (nodeT (A ++ m :: B) (C ++ l :: r :: D)) = pre A (C.map (flat d)) ++ ((flat d l ++ m :: flat d r) ++ post B (D.map (flat d))) := by
  rw [flat_node, List.map_append, List.map_cons, List.map_cons, weave_two _ _ (by simpa using hC)]

theorem node_ctx {d : Nat} (T : Tot lt) (k : K) (A B : List (K × V)) (C D : List (Tr (K × V) d)) (c : Tr (K × V) d) (hC : A.length = C.length) (hA : A.length = atL lt k (A ++ B)) (hs : srt lt (flat (d + 1) (nodeT (A ++ B) (C ++ c :: D)))) (h : hasL lt k (A ++ B) = false) : lowL lt k (pre A (C.map (flat d))) ∧ upL lt k (post B (D.map (flat d))) ∧ srt lt (flat d c) := by
  rw [flat_cut A B C D c hC] at hs
  obtain ⟨h1, h2⟩ := not_has T k A B hA h
  have hs2 := hs
  simp only [srt, List.pairwise_append] at hs2
  exact ⟨pre_low T k _ _ _ hs h1, post_up T k _ _ hs2.2.1.2.1 h2, hs2.2.1.1⟩

theorem node_put {d : Nat} (T : Tot lt) (k : K) (v : V) (A B : List (K × V)) (C D : List (Tr (K × V) d)) (c : Tr (K × V) d) (c' : Tr (K × V) d) (hC : A.length = C.length) (hA : A.length = atL lt k (A ++ B)) (hs : srt lt (flat (d + 1) (nodeT (A ++ B) (C ++ c :: D)))) (h : hasL lt k (A ++ B) = false) (hc : flat d c' = putL lt k v (flat d c)) :
    flat (d + 1) (nodeT (A ++ B) (C ++ c' :: D)) = putL lt k v (flat (d + 1) (nodeT (A ++ B) (C ++ c :: D))) := by
  obtain ⟨h1, h2, h3⟩ := node_ctx T k A B C D c hC hA hs h
  rw [flat_cut A B C D c hC, flat_cut A B C D c' hC, put_low k v _ _ h1, put_up T k v _ _ h2, hc]

theorem node_has {d : Nat} (T : Tot lt) (k : K) (A B : List (K × V)) (C D : List (Tr (K × V) d)) (c : Tr (K × V) d) (hC : A.length = C.length) (hA : A.length = atL lt k (A ++ B)) (hs : srt lt (flat (d + 1) (nodeT (A ++ B) (C ++ c :: D)))) (h : hasL lt k (A ++ B) = false) : hasL lt k (flat (d + 1) (nodeT (A ++ B) (C ++ c :: D))) = hasL lt k (flat d c) := by
  obtain ⟨h1, h2, h3⟩ := node_ctx T k A B C D c hC hA hs h
  rw [flat_cut A B C D c hC, has_low k _ _ h1, has_up T k _ _ h2]

theorem node_get {d : Nat} (T : Tot lt) (k : K) (A B : List (K × V)) (C D : List (Tr (K × V) d)) (c : Tr (K × V) d) (hC : A.length = C.length) (hA : A.length = atL lt k (A ++ B)) (hs : srt lt (flat (d + 1) (nodeT (A ++ B) (C ++ c :: D)))) (h : hasL lt k (A ++ B) = false) : getL lt k (flat (d + 1) (nodeT (A ++ B) (C ++ c :: D))) = getL lt k (flat d c) := by
  obtain ⟨h1, h2, h3⟩ := node_ctx T k A B C D c hC hA hs h
  rw [flat_cut A B C D c hC, get_low k _ _ h1, get_up T k _ _ h2]

theorem node_del {d : Nat} (T : Tot lt) (k : K) (A B : List (K × V)) (C D : List (Tr (K × V) d)) (c : Tr (K × V) d) (c' : Tr (K × V) d) (hC : A.length = C.length) (hA : A.length = atL lt k (A ++ B)) (hs : srt lt (flat (d + 1) (nodeT (A ++ B) (C ++ c :: D)))) (h : hasL lt k (A ++ B) = false) (hc : flat d c' = delL lt k (flat d c)) :
    flat (d + 1) (nodeT (A ++ B) (C ++ c' :: D)) = delL lt k (flat (d + 1) (nodeT (A ++ B) (C ++ c :: D))) := by
  obtain ⟨h1, h2, h3⟩ := node_ctx T k A B C D c hC hA hs h
  rw [flat_cut A B C D c hC, flat_cut A B C D c' hC, del_low k _ _ h1, del_up T k _ _ h2, hc]

end Node

section Here

theorem here_ctx {d : Nat} (T : Tot lt) (k : K) (A B : List (K × V)) (b : K × V) (C D : List (Tr (K × V) d)) (c : Tr (K × V) d) (e : Tr (K × V) d) (hC : A.length = C.length) (hA : A.length = atL lt k (A ++ b :: B)) (hs : srt lt (flat (d + 1) (nodeT (A ++ b :: B) (C ++ c :: e :: D)))) (h : hasL lt k (A ++ b :: B) = true) : lowL lt k (pre A (C.map (flat d))) ∧ lowL lt k (flat d c) ∧ b.1 = k ∧ srt lt (flat d c) := by
  rw [flat_pair A B C D hC] at hs
  obtain ⟨h1, h2⟩ := does_has T k A B b hA h
  have h3 := pre_low T k _ _ _ hs h1
  simp only [srt, List.pairwise_append, List.pairwise_cons, List.append_assoc, List.cons_append] at hs
  refine ⟨h3, fun x hx => ?_, h2, hs.2.1.1⟩
  rw [← h2]
  exact hs.2.1.2.2 x hx b (List.mem_cons_self ..)

theorem here_put {d : Nat} (T : Tot lt) (k : K) (v : V) (A B : List (K × V)) (b : K × V) (C D : List (Tr (K × V) d)) (c : Tr (K × V) d) (e : Tr (K × V) d) (hC : A.length = C.length) (hA : A.length = atL lt k (A ++ b :: B)) (hs : srt lt (flat (d + 1) (nodeT (A ++ b :: B) (C ++ c :: e :: D)))) (h : hasL lt k (A ++ b :: B) = true) : flat (d + 1) (nodeT (A ++ (k, v) :: B) (C ++ c :: e :: D)) = putL lt k v (flat (d + 1) (nodeT (A ++ b :: B) (C ++ c :: e :: D))) := by
  obtain ⟨h1, h2, h3, h4⟩ := here_ctx T k A B b C D c e hC hA hs h
  rw [flat_pair A B C D hC, flat_pair A B C D hC, put_low k v _ _ h1]
  simp only [List.append_assoc, List.cons_append]
  rw [put_low k v _ _ h2]
  simp [putL, h3, T.irr]

theorem here_has {d : Nat} (T : Tot lt) (k : K) (A B : List (K × V)) (b : K × V) (C D : List (Tr (K × V) d)) (c : Tr (K × V) d) (e : Tr (K × V) d) (hC : A.length = C.length) (hA : A.length = atL lt k (A ++ b :: B)) (hs : srt lt (flat (d + 1) (nodeT (A ++ b :: B) (C ++ c :: e :: D)))) (h : hasL lt k (A ++ b :: B) = true) : hasL lt k (flat (d + 1) (nodeT (A ++ b :: B) (C ++ c :: e :: D))) = true := by
  obtain ⟨h1, h2, h3, h4⟩ := here_ctx T k A B b C D c e hC hA hs h
  rw [flat_pair A B C D hC, has_low k _ _ h1]
  simp only [List.append_assoc, List.cons_append]
  rw [has_low k _ _ h2]
  simp [hasL, h3, T.irr]

theorem here_get {d : Nat} (T : Tot lt) (k : K) (A B : List (K × V)) (b : K × V) (C D : List (Tr (K × V) d)) (c : Tr (K × V) d) (e : Tr (K × V) d) (hC : A.length = C.length) (hA : A.length = atL lt k (A ++ b :: B)) (hs : srt lt (flat (d + 1) (nodeT (A ++ b :: B) (C ++ c :: e :: D)))) (h : hasL lt k (A ++ b :: B) = true) : getL lt k (flat (d + 1) (nodeT (A ++ b :: B) (C ++ c :: e :: D))) = some b.2 := by
  obtain ⟨h1, h2, h3, h4⟩ := here_ctx T k A B b C D c e hC hA hs h
  rw [flat_pair A B C D hC, get_low k _ _ h1]
  simp only [List.append_assoc, List.cons_append]
  rw [get_low k _ _ h2]
  simp [getL, h3, T.irr]

theorem here_del {d : Nat} (T : Tot lt) (k : K) (A B : List (K × V)) (b : K × V) (C D : List (Tr (K × V) d)) (c : Tr (K × V) d) (e : Tr (K × V) d) (hC : A.length = C.length) (hA : A.length = atL lt k (A ++ b :: B)) (hs : srt lt (flat (d + 1) (nodeT (A ++ b :: B) (C ++ c :: e :: D)))) (h : hasL lt k (A ++ b :: B) = true) (c' : Tr (K × V) d) (x : K × V) (hc : flat d c = flat d c' ++ [x]) :
    flat (d + 1) (nodeT (A ++ x :: B) (C ++ c' :: e :: D)) = delL lt k (flat (d + 1) (nodeT (A ++ b :: B) (C ++ c :: e :: D))) := by
  obtain ⟨h1, h2, h3, h4⟩ := here_ctx T k A B b C D c e hC hA hs h
  rw [flat_pair A B C D hC, flat_pair A B C D hC, del_low k _ _ h1]
  simp only [List.append_assoc, List.cons_append]
  rw [del_low k _ _ h2]
  simp [delL, h3, T.irr, hc]

end Here

/-! ## Nodes below that change places -/

theorem swap_pair {X : Type} {d : Nat} (A B : List X) (C D : List (Tr X d)) (hC : A.length = C.length) (m m' : X) (l r l' r' : Tr X d)
    (h : flat d l' ++ m' :: flat d r' = flat d l ++ m :: flat d r) :
    flat (d + 1) (nodeT (A ++ m' :: B) (C ++ l' :: r' :: D)) = flat (d + 1) (nodeT (A ++ m :: B) (C ++ l :: r :: D)) := by
  rw [flat_node, flat_node, List.map_append, List.map_cons, List.map_cons, weave_two _ _ (by simpa using hC), List.map_append, List.map_cons, List.map_cons, weave_two _ _ (by simpa using hC), h]

theorem one_pair {X : Type} {d : Nat} (A B : List X) (C D : List (Tr X d)) (hC : A.length = C.length) (m : X) (l r j : Tr X d)
    (h : flat d j = flat d l ++ m :: flat d r) :
    flat (d + 1) (nodeT (A ++ B) (C ++ j :: D)) = flat (d + 1) (nodeT (A ++ m :: B) (C ++ l :: r :: D)) := by
  rw [flat_node, flat_node, List.map_append, List.map_cons, weave_cut _ _ (by simpa using hC), List.map_append, List.map_cons, List.map_cons, weave_two _ _ (by simpa using hC), h]

theorem flat_last {X : Type} {d : Nat} (is : List X) (C : List (Tr X d)) (c : Tr X d) (hC : is.length = C.length) :
    flat (d + 1) (nodeT is (C ++ [c])) = pre is (C.map (flat d)) ++ flat d c := by
  have := weave_cut is (C.map (flat d)) (by simpa using hC) [] (flat d c) []
  rw [flat_node]; simpa [post] using this

theorem flat_one {X : Type} {d : Nat} (c : Tr X d) : flat (d + 1) (nodeT [] [c]) = flat d c := by
  rw [flat_node]; simp [weave, post]

theorem flat_leaf {X : Type} (l : List X) : flat 0 (leafT l) = l := rfl

/-! ## How many keys there are -/

theorem sum_ge (l : List Nat) (m : Nat) (h : ∀ x ∈ l, m ≤ x) : l.length * m ≤ l.sum := by
  induction l with
  | nil => simp
  | cons x l ih =>
    have h1 := ih fun y hy => h y (List.mem_cons_of_mem _ hy)
    have h2 := h x (List.mem_cons_self ..)
    simp only [List.length_cons, List.sum_cons, Nat.add_mul, Nat.one_mul]
    omega

theorem keys_ge {X : Type} (o hi2 : Nat) (ho : 1 ≤ o) (d : Nat) : ∀ (lo hi : Nat) (t : Tr X d), okT (o - 1) hi2 lo hi d t → (lo + 1) * o ^ d ≤ (flat d t).length + 1 := by
  induction d with
  | zero => intro lo hi t h; simp; exact h.1
  | succ d ih =>
    intro lo hi t h
    obtain ⟨h1, h2, h3, h4⟩ := h
    change (lo + 1) * o ^ (d + 1) ≤ (weave t.1 (t.2.map (flat d))).length + 1
    rw [weave_len _ _ (by simpa using h3)]
    have hk : ∀ x ∈ (t.2.map (flat d)).map List.length, o ^ (d + 1) - 1 ≤ x := by
      intro x hx
      simp only [List.map_map, List.mem_map] at hx
      obtain ⟨c, hc, rfl⟩ := hx
      have := ih _ _ c (h4 c hc)
      rw [Nat.sub_add_cancel ho] at this
      simp only [Function.comp_apply]
      rw [Nat.pow_succ, Nat.mul_comm]; omega
    have h5 := sum_ge _ _ hk
    simp only [List.length_map] at h5
    rw [h3] at h5
    have h6 : 1 ≤ o ^ (d + 1) := Nat.one_le_pow _ _ ho
    generalize o ^ (d + 1) = P at *
    have h7 : (t.1.length + 1) * P = (t.1.length + 1) * (P - 1) + (t.1.length + 1) := by
      rw [← Nat.mul_succ]; congr 1; omega
    have h8 : (lo + 1) * P ≤ (t.1.length + 1) * P := Nat.mul_le_mul_right _ (by omega)
    omega

end Ctx
end Go.Proofs.Ytkjmilcocnjjoaa.Tm
