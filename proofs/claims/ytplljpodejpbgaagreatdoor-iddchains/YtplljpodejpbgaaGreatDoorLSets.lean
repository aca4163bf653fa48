/-
  Plain mathematics of sorted sets: a list that rises strictly is told by what is in it; sorting and dropping neighbours that are the same gives the set of a list; the document's own insertion gives the same.
-/
import Derived.Lib.SlicesCompact
namespace Go.Proofs.YtplljpodejpbgaaGreatDoor

/-- A strict total order. -/
structure SOrd {α : Type} (lt : α → α → Prop) : Prop where
  irr : ∀ a, ¬ lt a a
  tr : ∀ a b c, lt a b → lt b c → lt a c
  tri : ∀ a b, lt a b ∨ a = b ∨ lt b a

section
variable {α : Type} {lt : α → α → Prop}

theorem SOrd.uniq (h : SOrd lt) : ∀ {l1 l2 : List α}, l1.Pairwise lt → l2.Pairwise lt → (∀ x, x ∈ l1 ↔ x ∈ l2) → l1 = l2
  | [], [], _, _, _ => rfl
  | [], b :: t2, _, _, hm => by
    have := (hm b).2 (by simp)
    simp at this
  | a :: t, [], _, _, hm => by
    have := (hm a).1 (by simp)
    simp at this
  | a :: t, b :: t2, p1, p2, hm => by
    have q1 := List.pairwise_cons.1 p1
    have q2 := List.pairwise_cons.1 p2
    have hab : a = b := by
      rcases h.tri a b with hl | he | hg
      · have ha := (hm a).1 (by simp)
        rcases List.mem_cons.1 ha with e | e
        · exact e
        · exact absurd (h.tr _ _ _ hl (q2.1 a e)) (h.irr a)
      · exact he
      · have hb := (hm b).2 (by simp)
        rcases List.mem_cons.1 hb with e | e
        · exact e.symm
        · exact absurd (h.tr _ _ _ hg (q1.1 b e)) (h.irr b)
    subst hab
    have ht : t = t2 := h.uniq q1.2 q2.2 (fun x => by
      constructor
      · intro hx
        rcases List.mem_cons.1 ((hm x).1 (List.mem_cons_of_mem _ hx)) with e | e
        · subst e
          exact absurd (q1.1 x hx) (h.irr x)
        · exact e
      · intro hx
        rcases List.mem_cons.1 ((hm x).2 (List.mem_cons_of_mem _ hx)) with e | e
        · subst e
          exact absurd (q2.1 x hx) (h.irr x)
        · exact e)
    rw [ht]

variable [Inhabited α] [DecidableEq α]

theorem SOrd.compactUpTo (h : SOrd lt) (d : Array α) (hs : ∀ i j, i < j → j < d.size → ¬ lt d[j]! d[i]!) :
    ∀ m, m ≤ d.size → (Lib.compactUpTo d m).Pairwise lt ∧ ∀ x, x ∈ Lib.compactUpTo d m ↔ ∃ j, j < m ∧ d[j]! = x
  | 0, _ => by simp [Lib.compactUpTo]
  | m + 1, hm => by
    obtain ⟨ih1, ih2⟩ := SOrd.compactUpTo h d hs m (by omega)
    rw [Lib.compactUpTo_succ]
    by_cases hk : Lib.keeps d m = true
    · rw [if_pos hk]
      constructor
      · rw [List.pairwise_append]
        refine ⟨ih1, by simp, ?_⟩
        intro x hx y hy
        simp only [List.mem_singleton] at hy
        subst hy
        obtain ⟨j, hj, rfl⟩ := (ih2 x).1 hx
        have hne : d[m]! ≠ d[m - 1]! := by
          simp only [Lib.keeps, decide_eq_true_eq] at hk
          rcases hk with e | e
          · omega
          · exact e
        have h1 : ¬ lt d[m]! d[m - 1]! := hs (m - 1) m (by omega) (by omega)
        have h2 : lt d[m - 1]! d[m]! := by
          rcases h.tri d[m - 1]! d[m]! with a | a | a
          · exact a
          · exact absurd a.symm hne
          · exact absurd a h1
        by_cases ej : j = m - 1
        · rw [ej]; exact h2
        · have h3 : ¬ lt d[m - 1]! d[j]! := hs j (m - 1) (by omega) (by omega)
          rcases h.tri d[j]! d[m - 1]! with a | a | a
          · exact h.tr _ _ _ a h2
          · rw [a]; exact h2
          · exact absurd a h3
      · intro x
        rw [List.mem_append, ih2, List.mem_singleton]
        constructor
        · rintro (⟨j, hj, e⟩ | e)
          · exact ⟨j, by omega, e⟩
          · exact ⟨m, by omega, e.symm⟩
        · rintro ⟨j, hj, e⟩
          by_cases ej : j = m
          · subst ej
            exact Or.inr e.symm
          · exact Or.inl ⟨j, by omega, e⟩
    · rw [if_neg hk, List.append_nil]
      refine ⟨ih1, fun x => ?_⟩
      rw [ih2]
      have hk' : ¬ (m = 0 ∨ d[m]! ≠ d[m - 1]!) := by simpa [Lib.keeps] using hk
      have hm0 : m ≠ 0 := fun e => hk' (Or.inl e)
      have hm1 : d[m]! = d[m - 1]! := Decidable.byContradiction fun e => hk' (Or.inr e)
      constructor
      · rintro ⟨j, hj, e⟩
        exact ⟨j, by omega, e⟩
      · rintro ⟨j, hj, e⟩
        by_cases ej : j = m
        · subst ej
          exact ⟨j - 1, by omega, by rw [← hm1]; exact e⟩
        · exact ⟨j, by omega, e⟩

theorem SOrd.compact (h : SOrd lt) (zs : List α) (hs : zs.Pairwise (fun a b => ¬ lt b a)) : (Lib.compact zs).Pairwise lt ∧ ∀ x, x ∈ Lib.compact zs ↔ x ∈ zs := by
  have hh := SOrd.compactUpTo h zs.toArray (fun i j hij hj => by
    have hj' : j < zs.length := by simpa using hj
    have := List.pairwise_iff_getElem.1 hs i j (by omega) hj' hij
    simpa [getElem!_pos, hj', show i < zs.length by omega] using this) zs.length (by simp)
  refine ⟨hh.1, fun x => ?_⟩
  show x ∈ Lib.compactUpTo zs.toArray zs.length ↔ _
  rw [hh.2]
  constructor
  · rintro ⟨j, hj, e⟩
    rw [← e]
    simp [getElem!_pos, hj]
  · intro hx
    obtain ⟨j, hj, e⟩ := List.mem_iff_getElem.1 hx
    exact ⟨j, hj, by simp [getElem!_pos, hj, e]⟩

/-- The set of a list, as the program makes it. -/
def sdBy (le : α → α → Bool) (xs : List α) : List α := Lib.compact (xs.mergeSort le)

theorem SOrd.sd (h : SOrd lt) (le : α → α → Bool) (hle : ∀ a b, le a b = true ↔ ¬ lt b a) (xs : List α) : (sdBy le xs).Pairwise lt ∧ ∀ x, x ∈ sdBy le xs ↔ x ∈ xs := by
  have hp : (xs.mergeSort le).Pairwise (fun a b => le a b = true) := List.pairwise_mergeSort
    (fun a b c h1 h2 => by
      rw [hle] at *
      intro hca
      rcases h.tri a b with e | e | e
      · exact h2 (h.tr _ _ _ hca e)
      · subst e; exact h2 hca
      · exact h1 e)
    (fun a b => by
      rw [Bool.or_eq_true, hle, hle]
      rcases h.tri a b with e | e | e
      · left; intro e2; exact h.irr _ (h.tr _ _ _ e e2)
      · subst e; left; exact h.irr _
      · right; intro e2; exact h.irr _ (h.tr _ _ _ e e2)) xs
  have hc := h.compact (xs.mergeSort le) (List.pairwise_iff_getElem.2 (fun i j hi hj hij => (hle _ _).1 (List.pairwise_iff_getElem.1 hp i j hi hj hij)))
  exact ⟨hc.1, fun x => by rw [sdBy, hc.2, List.mem_mergeSort]⟩

/-- What is kept of a list that rises strictly rises strictly. -/
theorem SOrd.sd_of (h : SOrd lt) (le : α → α → Bool) (hle : ∀ a b, le a b = true ↔ ¬ lt b a) {xs ys : List α} (hy : ys.Pairwise lt) (hm : ∀ x, x ∈ ys ↔ x ∈ xs) : sdBy le xs = ys :=
  h.uniq (h.sd le hle xs).1 hy (fun x => by rw [(h.sd le hle xs).2, hm])
end

theorem ordI : SOrd (fun a b : Int => a < b) := ⟨fun a => by omega, fun a b c => by omega, fun a b => by omega⟩
theorem leI (a b : Int) : decide (a ≤ b) = true ↔ ¬ b < a := by rw [decide_eq_true_eq]; omega

/-- The set of a list of numbers. -/
def sd (xs : List Int) : List Int := sdBy (fun x y => decide (x ≤ y)) xs
theorem sd_rises (xs : List Int) : (sd xs).Pairwise (· < ·) := (ordI.sd _ leI xs).1
theorem mem_sd (xs : List Int) (x : Int) : x ∈ sd xs ↔ x ∈ xs := (ordI.sd _ leI xs).2 x
theorem sd_of {xs ys : List Int} (hy : ys.Pairwise (· < ·)) (hm : ∀ x, x ∈ ys ↔ x ∈ xs) : sd xs = ys := ordI.sd_of _ leI hy hm
theorem sd_congr {xs ys : List Int} (hm : ∀ x, x ∈ xs ↔ x ∈ ys) : sd xs = sd ys := sd_of (sd_rises ys) (fun x => by rw [mem_sd, hm])
theorem sd_self {xs : List Int} (h : xs.Pairwise (· < ·)) : sd xs = xs := sd_of h (fun _ => Iff.rfl)
theorem sd_nil : sd [] = [] := sd_self (by simp)
theorem sd_filter (xs : List Int) (p : Int → Bool) : (sd xs).filter p = sd (xs.filter p) :=
  (sd_of ((sd_rises xs).filter p) (fun x => by simp [mem_sd])).symm
theorem length_compact_le {α : Type} [Inhabited α] [DecidableEq α] (zs : List α) : (Lib.compact zs).length ≤ zs.length := by
  unfold Lib.compact Lib.compactUpTo
  rw [List.length_map]
  exact Nat.le_trans (List.length_filter_le _ _) (by simp)
theorem length_sd_le (xs : List Int) : (sd xs).length ≤ xs.length := by
  have := length_compact_le (xs.mergeSort fun x y => decide (x ≤ y))
  rwa [List.length_mergeSort] at this

theorem ordS : SOrd (fun a b : List UInt8 => a < b) := ⟨fun a => List.lt_irrefl a, fun a b c h1 h2 => List.lt_trans h1 h2, fun a b => by
  rcases List.le_total a b with h | h
  · by_cases h2 : b ≤ a
    · right; left; exact List.le_antisymm h h2
    · left; exact List.not_le.1 h2
  · by_cases h2 : a ≤ b
    · right; left; exact List.le_antisymm h2 h
    · right; right; exact List.not_le.1 h2⟩
theorem leS (a b : List UInt8) : decide (a ≤ b) = true ↔ ¬ b < a := by rw [decide_eq_true_eq]; exact List.not_lt.symm

/-- The set of a list of texts. -/
def sdS (xs : List (List UInt8)) : List (List UInt8) := sdBy (fun x y => decide (x ≤ y)) xs
theorem sdS_rises (xs : List (List UInt8)) : (sdS xs).Pairwise (· < ·) := (ordS.sd _ leS xs).1
theorem mem_sdS (xs : List (List UInt8)) (x : List UInt8) : x ∈ sdS xs ↔ x ∈ xs := (ordS.sd _ leS xs).2 x
theorem sdS_of {xs ys : List (List UInt8)} (hy : ys.Pairwise (· < ·)) (hm : ∀ x, x ∈ ys ↔ x ∈ xs) : sdS xs = ys := ordS.sd_of _ leS hy hm
theorem length_sdS_le (xs : List (List UInt8)) : (sdS xs).length ≤ xs.length := by
  have := length_compact_le (xs.mergeSort fun x y => decide (x ≤ y))
  rwa [List.length_mergeSort] at this
theorem sdS_congr {xs ys : List (List UInt8)} (hm : ∀ x, x ∈ xs ↔ x ∈ ys) : sdS xs = sdS ys := sdS_of (sdS_rises ys) (fun x => by rw [mem_sdS, hm])

end Go.Proofs.YtplljpodejpbgaaGreatDoor
