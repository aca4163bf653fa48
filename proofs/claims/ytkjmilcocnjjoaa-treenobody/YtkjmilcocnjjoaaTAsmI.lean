/-
  Trees out of single nodes; a node below is parted in two.
-/
import Derived.Test.YtkjmilcocnjjoaaTPartI
namespace Go.Proofs.Ytkjmilcocnjjoaa.I
open Go.RowKit Tm
set_option linter.unusedVariables false

theorem asm {w w' : World} {N N' : List Nd} {d d' : Nat} {t : LT d} {t' : LT d'} (S : Nat → Nat) (h1 : ∀ b, cnt b d t ≤ 1) (hc : ∀ b, cnt b d t = sumN N b + S b) (hc' : ∀ b, cnt b d' t' = sumN N' b + S b) (hS : ∀ b, w.heap.size ≤ b → S b = 0)
    (hT : TB w w' N N') (hl : At w' d' t') : Turn w w' d d' t t' := by
  refine ⟨hT.gr.mono (fun b _ hb => by rw [hc]; omega), fun b => ?_, fun b hb => ?_, hl⟩
  · rcases Nat.lt_or_ge b w.heap.size with hb | hb
    · have e1 := hT.old b hb; have e2 := h1 b; rw [hc] at e2; rw [hc']; omega
    · have e1 := hS b hb; have e2 := hT.bun.one b; rw [hc']; omega
  · have e1 := hT.old b hb; rw [hc, hc']; omega

theorem keep {w w' : World} {N N' : List Nd} {d e : Nat} {t : LT d} {x : LT e} (S : Nat → Nat) (h1 : ∀ b, cnt b d t ≤ 1) (hc : ∀ b, cnt b d t = sumN N b + S b) (hT : TB w w' N N') (hx : At w e x) (hs : ∀ b, cnt b e x ≤ S b) : At w' e x :=
  at_gr hT.gr hx fun b hb hn => by have e1 := h1 b; rw [hc] at e1; have := hs b; omega

def sumK {d : Nat} (ks : List (LT d)) (b : Nat) : Nat := (ks.map (cnt b d)).sum
theorem sumK_app {d : Nat} (A B : List (LT d)) (b : Nat) : sumK (A ++ B) b = sumK A b + sumK B b := by simp [sumK]
theorem sumK_cons {d : Nat} (x : LT d) (B : List (LT d)) (b : Nat) : sumK (x :: B) b = cnt b d x + sumK B b := by simp [sumK]
theorem sumK_nil {d : Nat} (b : Nat) : sumK ([] : List (LT d)) b = 0 := rfl
theorem sumK_cut {d : Nat} (l : List (LT d)) (n b : Nat) : sumK (l.take n) b + sumK (l.drop n) b = sumK l b := by rw [← sumK_app, List.take_append_drop]
theorem sumK_mem {d : Nat} {l : List (LT d)} {x : LT d} (h : x ∈ l) (b : Nat) : cnt b d x ≤ sumK l b := sum_mem (cnt b d) l x h
theorem sumK_lt {w : World} {d : Nat} {l : List (LT d)} (h : ∀ k ∈ l, At w d k) {b : Nat} (hb : w.heap.size ≤ b) : sumK l b = 0 := sum_zero _ _ fun k hk => cnt_lt hb (h k hk)
theorem cnt_nd' {d : Nat} (b p : Nat) (vi vk : Value) (is : List It) (qs : List Nat) (ks : List (LT d)) : cnt b (d + 1) (nd p vi vk is ks) = Nd.cnt b ⟨p, vi, vk, is, qs⟩ + sumK ks b := rfl
theorem cnt_lf' (b p : Nat) (vi : Value) (is : List It) (qs : List Nat) : cnt b 0 (lf p vi is) = Nd.cnt b ⟨p, vi, .slice none 0 0, is, qs⟩ := by rw [cnt_lf]; simp only [Nd.cnt, rc_nil]; omega

theorem part_any {d : Nat} (p at' o : Nat) (vi vk : Value) (is : List It) (A D : List (LT d)) (c : LT d) (w : World) (h : At w (d + 1) (nd p vi vk is (A ++ c :: D))) (h1 : ∀ b, cnt b (d + 1) (nd p vi vk is (A ++ c :: D)) ≤ 1)
    {lo2 hi2 lo hi : Nat} (hok : okT lo2 hi2 lo hi d (er d c)) (hA : A.length = at') (hD : is.length = A.length + D.length) (his : is.length ≤ 200) (ho : o + 1 < (isT d c).length) (hc2 : (isT d c).length ≤ 200) :
    Calls Try.prog 36 #[ptr p, .int .i64 at', .int .i64 o] w fun e w' => e = .returned (.tuple #[]) ∧
      ∃ vi' vk' cl cr, Turn w w' (d + 1) (d + 1) (nd p vi vk is (A ++ c :: D)) (nd p vi' vk' (is.take at' ++ (isT d c)[o] :: is.drop at') (A ++ cl :: cr :: D)) ∧ er d cl = partL o d (er d c) ∧ er d cr = partR o d (er d c) := by
  obtain ⟨a1, a2, a3, a4⟩ := at_nd.1 h
  have hqat : ((A ++ c :: D).map (pT d))[at']? = some (pT d c) := by subst hA; simp
  have hql : ((A ++ c :: D).map (pT d)).length = is.length + 1 := by simp; omega
  have hc4 := a4 c (by simp)
  have hA4 : ∀ k ∈ A, At w d k := fun k hk => a4 k (by simp [hk])
  have hD4 : ∀ k ∈ D, At w d k := fun k hk => a4 k (by simp [hk])
  have hqs : ∀ q, ((A ++ c :: D).map (pT d)).take (at' + 1) ++ q :: ((A ++ c :: D).map (pT d)).drop (at' + 1) = A.map (pT d) ++ pT d c :: q :: D.map (pT d) := fun q => by
    have e : (A ++ c :: D).map (pT d) = (A.map (pT d) ++ [pT d c]) ++ D.map (pT d) := by simp
    have e2 : (A.map (pT d) ++ [pT d c]).length = at' + 1 := by simp [hA]
    rw [e, List.take_left' e2, List.drop_left' e2]; simp
  cases d with
  | zero =>
    obtain ⟨pl, vil, il, rfl⟩ := at_leaf hc4
    obtain ⟨b1, b2⟩ := at_lf.1 hc4
    change o + 1 < il.length at ho
    change il.length ≤ 200 at hc2
    have hc : ∀ b, cnt b 1 (nd p vi vk is (A ++ lf pl vil il :: D)) = sumN [⟨p, vi, vk, is, (A ++ lf pl vil il :: D).map (pT 0)⟩, ⟨pl, vil, .slice none 0 0, il, []⟩] b + (sumK A b + sumK D b) := fun b => by
      rw [cnt_nd' (qs := (A ++ lf pl vil il :: D).map (pT 0)), sumK_app, sumK_cons, cnt_lf' (qs := []), sumN_cons, sumN_cons, sumN_nil]; omega
    have hB : Bun w [⟨p, vi, vk, is, (A ++ lf pl vil il :: D).map (pT 0)⟩, ⟨pl, vil, .slice none 0 0, il, []⟩] :=
      ⟨fun x hx => by
        simp only [List.mem_cons, List.mem_nil_iff, or_false] at hx
        rcases hx with rfl | rfl
        · exact ⟨a1, a2, a3⟩
        · exact ⟨b1, b2, World.ownsRow_nil _ _ _ _⟩, fun b => by have := h1 b; rw [hc] at this; omega⟩
    refine (part_raw p pl at' o vi vk vil _ is il _ [] w hB ho hc2 his (by omega) hql hqat (.inl ⟨rfl, rfl⟩)).mono ?_
    rintro e w' ⟨rfl, q, vi', vk', vil', vkl', vir, vkr, hT, hnil⟩
    obtain ⟨rfl, rfl⟩ := hnil rfl
    rw [hqs] at hT
    simp only [List.take_nil, List.drop_nil] at hT
    have lp := hT.bun.lies _ (List.mem_cons_self ..)
    have ll := hT.bun.lies ⟨pl, vil', .slice none 0 0, il.take o, []⟩ (by simp)
    have lr := hT.bun.lies ⟨q, vir, .slice none 0 0, il.drop (o + 1), []⟩ (by simp)
    refine ⟨rfl, vi', vk', lf pl vil' (il.take o), lf q vir (il.drop (o + 1)), asm (fun b => sumK A b + sumK D b) h1 hc (fun b => ?_) (fun b hb => by simp only [sumK_lt hA4 hb, sumK_lt hD4 hb]) hT ?_, rfl, rfl⟩
    · rw [cnt_nd' (qs := A.map (pT 0) ++ pl :: q :: D.map (pT 0)), sumK_app, sumK_cons, sumK_cons, cnt_lf' (qs := []), cnt_lf' (qs := []), sumN_cons, sumN_cons, sumN_cons, sumN_nil]; simp only [Nd.cnt]; omega
    · refine at_nd.2 ⟨lp.blk, lp.ri, ?_, fun k hk => ?_⟩
      · have : (A ++ lf pl vil' (il.take o) :: lf q vir (il.drop (o + 1)) :: D).map (pT 0) = A.map (pT 0) ++ pl :: q :: D.map (pT 0) := by simp; exact ⟨rfl, rfl⟩
        rw [this]; exact lp.rk
      · simp only [List.mem_append, List.mem_cons] at hk
        rcases hk with hk | rfl | rfl | hk
        · exact keep (fun b => sumK A b + sumK D b) h1 hc hT (hA4 k hk) (fun b => by have := sumK_mem hk b; show _ ≤ sumK A b + sumK D b; omega)
        · exact at_lf.2 ⟨ll.blk, ll.ri⟩
        · exact at_lf.2 ⟨lr.blk, lr.ri⟩
        · exact keep (fun b => sumK A b + sumK D b) h1 hc hT (hD4 k hk) (fun b => by have := sumK_mem hk b; show _ ≤ sumK A b + sumK D b; omega)
  | succ d =>
    obtain ⟨pl, vil, vkl, il, kl, rfl⟩ := at_node c
    obtain ⟨b1, b2, b3, b4⟩ := at_nd.1 hc4
    change o + 1 < il.length at ho
    change il.length ≤ 200 at hc2
    have hkl : kl.length = il.length + 1 := by have := hok.2.2.1; simpa [er_nd, nodeT] using this
    have hc : ∀ b, cnt b (d + 1 + 1) (nd p vi vk is (A ++ nd pl vil vkl il kl :: D)) = sumN [⟨p, vi, vk, is, (A ++ nd pl vil vkl il kl :: D).map (pT (d + 1))⟩, ⟨pl, vil, vkl, il, kl.map (pT d)⟩] b + (sumK A b + sumK D b + sumK kl b) := fun b => by
      rw [cnt_nd' (qs := (A ++ nd pl vil vkl il kl :: D).map (pT (d + 1))), sumK_app, sumK_cons, cnt_nd' (qs := kl.map (pT d)), sumN_cons, sumN_cons, sumN_nil]; omega
    have hB : Bun w [⟨p, vi, vk, is, (A ++ nd pl vil vkl il kl :: D).map (pT (d + 1))⟩, ⟨pl, vil, vkl, il, kl.map (pT d)⟩] :=
      ⟨fun x hx => by
        simp only [List.mem_cons, List.mem_nil_iff, or_false] at hx
        rcases hx with rfl | rfl
        · exact ⟨a1, a2, a3⟩
        · exact ⟨b1, b2, b3⟩, fun b => by have := h1 b; rw [hc] at this; omega⟩
    refine (part_raw p pl at' o vi vk vil vkl is il _ (kl.map (pT d)) w hB ho hc2 his (by omega) hql hqat (.inr (by simpa using hkl))).mono ?_
    rintro e w' ⟨rfl, q, vi', vk', vil', vkl', vir, vkr, hT, _⟩
    rw [hqs, ← List.map_take, ← List.map_drop] at hT
    have lp := hT.bun.lies _ (List.mem_cons_self ..)
    have ll := hT.bun.lies ⟨pl, vil', vkl', il.take o, (kl.take (o + 1)).map (pT d)⟩ (by simp)
    have lr := hT.bun.lies ⟨q, vir, vkr, il.drop (o + 1), (kl.drop (o + 1)).map (pT d)⟩ (by simp)
    have hk : ∀ k ∈ kl, At w' d k := fun k hk => keep (fun b => sumK A b + sumK D b + sumK kl b) h1 hc hT (b4 k hk) (fun b => by have := sumK_mem hk b; show _ ≤ sumK A b + sumK D b + sumK kl b; omega)
    refine ⟨rfl, vi', vk', nd pl vil' vkl' (il.take o) (kl.take (o + 1)), nd q vir vkr (il.drop (o + 1)) (kl.drop (o + 1)), asm (fun b => sumK A b + sumK D b + sumK kl b) h1 hc (fun b => ?_) (fun b hb => by simp only [sumK_lt hA4 hb, sumK_lt hD4 hb, sumK_lt b4 hb]) hT ?_, ?_, ?_⟩
    · rw [cnt_nd' (qs := A.map (pT (d + 1)) ++ pl :: q :: D.map (pT (d + 1))), sumK_app, sumK_cons, sumK_cons, cnt_nd' (qs := (kl.take (o + 1)).map (pT d)), cnt_nd' (qs := (kl.drop (o + 1)).map (pT d)), sumN_cons, sumN_cons, sumN_cons, sumN_nil]
      have := sumK_cut kl (o + 1) b
      simp only [Nd.cnt]
      omega
    · refine at_nd.2 ⟨lp.blk, lp.ri, ?_, fun k hk' => ?_⟩
      · have : (A ++ nd pl vil' vkl' (il.take o) (kl.take (o + 1)) :: nd q vir vkr (il.drop (o + 1)) (kl.drop (o + 1)) :: D).map (pT (d + 1)) = A.map (pT (d + 1)) ++ pl :: q :: D.map (pT (d + 1)) := by simp; exact ⟨rfl, rfl⟩
        rw [this]; exact lp.rk
      · simp only [List.mem_append, List.mem_cons] at hk'
        rcases hk' with hk' | rfl | rfl | hk'
        · exact keep (fun b => sumK A b + sumK D b + sumK kl b) h1 hc hT (hA4 k hk') (fun b => by have := sumK_mem hk' b; show _ ≤ sumK A b + sumK D b + sumK kl b; omega)
        · exact at_nd.2 ⟨ll.blk, ll.ri, ll.rk, fun k hk' => hk k (List.mem_of_mem_take hk')⟩
        · exact at_nd.2 ⟨lr.blk, lr.ri, lr.rk, fun k hk' => hk k (List.mem_of_mem_drop hk')⟩
        · exact keep (fun b => sumK A b + sumK D b + sumK kl b) h1 hc hT (hD4 k hk') (fun b => by have := sumK_mem hk' b; show _ ≤ sumK A b + sumK D b + sumK kl b; omega)
    · rw [er_nd, List.map_take]; rfl
    · rw [er_nd, List.map_drop]; rfl

end Go.Proofs.Ytkjmilcocnjjoaa.I
