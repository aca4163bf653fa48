/-
  Texts of places: they stand as keys and sets of categories do.
-/
import Derived.Test.YtkbceaofijngoaaWMath
import Derived.Test.YtkbceaofijngoaaWSame
namespace Go.Proofs.Ytkbceaofijngoaa
set_option linter.unusedVariables false

def lessN : List Nat → List Nat → Bool
  | _, [] => false
  | [], _ :: _ => true
  | a :: x, b :: y => decide (a < b) || (decide (a = b) && lessN x y)
/-- Sets by the first category that is another one, a set that ends ahead of another one first. -/
def lessI : List Int → List Int → Bool
  | _, [] => false
  | [], _ :: _ => true
  | a :: x, b :: y => decide (a < b) || (decide (a = b) && lessI x y)
def keyE : List Nat → List Nat
  | [] => [0, 0]
  | b :: r => if b = 0 then 0 :: 1 :: keyE r else b :: keyE r
def catE (c : Int) : List Nat := [c.toNat / 16777216, c.toNat / 65536 % 256, c.toNat / 256 % 256, c.toNat % 256]
def catsE : List Int → List Nat
  | [] => []
  | c :: r => catE c ++ catsE r
/-- The text of a place. -/
def placeB (k : ByteArray) (s : List Int) : List Nat := keyE (bytesOf k) ++ catsE s
def placeOk (k : ByteArray) (s : List Int) : Bool := keyOk k && okB s

theorem lessN_irr : ∀ l : List Nat, lessN l l = false
  | [] => rfl
  | a :: l => by simp [lessN, lessN_irr l]
theorem lessN_tri : ∀ (l m : List Nat), lessN l m = false → lessN m l = false → l = m
  | [], [], _, _ => rfl
  | [], b :: y, h, _ => by simp [lessN] at h
  | a :: x, [], _, h => by simp [lessN] at h
  | a :: x, b :: y, h1, h2 => by
    simp [lessN] at h1 h2
    have e : a = b := by omega
    subst e
    rw [lessN_tri x y (by simpa using h1) (by simpa using h2)]
theorem lessI_irr : ∀ l : List Int, lessI l l = false
  | [] => rfl
  | a :: l => by simp [lessI, lessI_irr l]
theorem lessI_tri : ∀ (l m : List Int), lessI l m = false → lessI m l = false → l = m
  | [], [], _, _ => rfl
  | [], b :: y, h, _ => by simp [lessI] at h
  | a :: x, [], _, h => by simp [lessI] at h
  | a :: x, b :: y, h1, h2 => by
    simp [lessI] at h1 h2
    have e : a = b := by omega
    subst e
    rw [lessI_tri x y (by simpa using h1) (by simpa using h2)]

theorem less_bytes : ∀ (l m : List Nat), (∀ x ∈ l, x < 256) → (∀ x ∈ m, x < 256) → Op.bytesLess (l.map UInt8.ofNat) (m.map UInt8.ofNat) = lessN l m
  | [], [], _, _ => rfl
  | [], b :: y, _, _ => rfl
  | a :: x, [], _, _ => rfl
  | a :: x, b :: y, h1, h2 => by
    have ha := h1 a (by simp)
    have hb := h2 b (by simp)
    have ih := less_bytes x y (fun z hz => h1 z (by simp [hz])) (fun z hz => h2 z (by simp [hz]))
    simp only [List.map_cons, Op.bytesLess, lessN, ih]
    have e1 : decide (UInt8.ofNat a < UInt8.ofNat b) = decide (a < b) := by
      apply decide_eq_decide.2
      rw [UInt8.lt_iff_toNat_lt]
      simp [Nat.mod_eq_of_lt ha, Nat.mod_eq_of_lt hb]
    have e2 : (UInt8.ofNat a == UInt8.ofNat b) = decide (a = b) := by
      by_cases h : a = b
      · rw [decide_eq_true h, h, beq_iff_eq]
      · rw [decide_eq_false h, beq_eq_false_iff_ne]
        intro e
        apply h
        have := congrArg UInt8.toNat e
        simpa [Nat.mod_eq_of_lt ha, Nat.mod_eq_of_lt hb] using this
    rw [e1, e2]

theorem less_str (l m : List Nat) (h1 : ∀ x ∈ l, x < 256) (h2 : ∀ x ∈ m, x < 256) : Op.bytesLess (strOf l).toList (strOf m).toList = lessN l m := by
  rw [Go.ByteArray.toList_eq, Go.ByteArray.toList_eq]
  exact less_bytes l m h1 h2
theorem less_key (a b : ByteArray) : Op.bytesLess a.toList b.toList = lessN (bytesOf a) (bytesOf b) := by
  have := less_str (bytesOf a) (bytesOf b) (bytesOf_lt a) (bytesOf_lt b)
  rwa [strOf_bytesOf, strOf_bytesOf] at this

theorem keyE_cmp : ∀ (k m x y : List Nat), lessN (keyE k ++ x) (keyE m ++ y) = if k = m then lessN x y else lessN k m
  | [], [], x, y => by simp [keyE, lessN]
  | [], b :: r, x, y => by
    by_cases h : b = 0
    · simp [keyE, lessN, h]
    · simp [keyE, lessN, h]
      omega
  | a :: r, [], x, y => by
    by_cases h : a = 0
    · simp [keyE, lessN, h]
    · simp [keyE, lessN, h]
  | a :: r, b :: q, x, y => by
    have ih := keyE_cmp r q x y
    by_cases ha : a = 0
    · by_cases hb : b = 0
      · subst ha
        subst hb
        simp only [keyE, if_pos, List.cons_append, lessN, ih]
        simp
      · subst ha
        have : 0 < b := by omega
        simp [keyE, lessN, hb, this]
        exact Or.inl (Or.inl (fun h => hb h.symm))
    · by_cases hb : b = 0
      · subst hb
        simp [keyE, lessN, ha]
      · simp only [keyE, if_neg ha, if_neg hb, List.cons_append, lessN, ih]
        by_cases hab : a = b
        · subst hab
          by_cases hr : r = q
          · subst hr
            simp
          · simp [hr]
        · simp [hab]

theorem catE_cmp (c d : Int) (hc : 1 ≤ c ∧ c ≤ 2147483647) (hd : 1 ≤ d ∧ d ≤ 2147483647) (x y : List Nat) : lessN (catE c ++ x) (catE d ++ y) = (decide (c < d) || (decide (c = d) && lessN x y)) := by
  obtain ⟨m, rfl⟩ := Int.eq_ofNat_of_zero_le (show 0 ≤ c by omega)
  obtain ⟨n, rfl⟩ := Int.eq_ofNat_of_zero_le (show 0 ≤ d by omega)
  simp only [catE, Int.toNat_natCast, List.cons_append, List.nil_append, lessN]
  by_cases h : m = n
  · subst h
    simp
  · rw [decide_eq_false (p := (m : Int) = n) (by omega), Bool.false_and, Bool.or_false]
    by_cases h1 : m < n
    · rw [decide_eq_true (p := (m : Int) < n) (by omega)]
      by_cases e3 : m / 16777216 = n / 16777216
      · by_cases e2 : m / 65536 % 256 = n / 65536 % 256
        · by_cases e1 : m / 256 % 256 = n / 256 % 256
          · rw [decide_eq_true e3, decide_eq_true e2, decide_eq_true e1, decide_eq_true (p := m % 256 < n % 256) (by omega)]
            simp
          · rw [decide_eq_true e3, decide_eq_true e2, decide_eq_true (p := m / 256 % 256 < n / 256 % 256) (by omega)]
            simp
        · rw [decide_eq_true e3, decide_eq_true (p := m / 65536 % 256 < n / 65536 % 256) (by omega)]
          simp
      · rw [decide_eq_true (p := m / 16777216 < n / 16777216) (by omega)]
        simp
    · rw [decide_eq_false (p := (m : Int) < n) (by omega)]
      by_cases e3 : m / 16777216 = n / 16777216
      · by_cases e2 : m / 65536 % 256 = n / 65536 % 256
        · by_cases e1 : m / 256 % 256 = n / 256 % 256
          · rw [decide_eq_false (p := m / 16777216 < n / 16777216) (by omega), decide_eq_false (p := m / 65536 % 256 < n / 65536 % 256) (by omega), decide_eq_false (p := m / 256 % 256 < n / 256 % 256) (by omega), decide_eq_false (p := m % 256 < n % 256) (by omega), decide_eq_false (p := m % 256 = n % 256) (by omega)]
            simp
          · rw [decide_eq_false (p := m / 16777216 < n / 16777216) (by omega), decide_eq_false (p := m / 65536 % 256 < n / 65536 % 256) (by omega), decide_eq_false (p := m / 256 % 256 < n / 256 % 256) (by omega), decide_eq_false e1]
            simp
        · rw [decide_eq_false (p := m / 16777216 < n / 16777216) (by omega), decide_eq_false (p := m / 65536 % 256 < n / 65536 % 256) (by omega), decide_eq_false e2]
          simp
      · rw [decide_eq_false (p := m / 16777216 < n / 16777216) (by omega), decide_eq_false e3]
        simp

theorem catsE_cmp : ∀ (s t : List Int), (∀ x ∈ s, 1 ≤ x ∧ x ≤ 2147483647) → (∀ x ∈ t, 1 ≤ x ∧ x ≤ 2147483647) → lessN (catsE s) (catsE t) = lessI s t
  | [], [], _, _ => rfl
  | [], b :: y, _, _ => by simp [catsE, catE, lessN, lessI]
  | a :: x, [], _, _ => by simp [catsE, lessN, lessI]
  | a :: x, b :: y, h1, h2 => by
    rw [catsE, catsE, catE_cmp a b (h1 a (by simp)) (h2 b (by simp)), lessI, catsE_cmp x y (fun z hz => h1 z (by simp [hz])) (fun z hz => h2 z (by simp [hz]))]

/-- One key at a secrecy stands ahead of another one. -/
def aheadB (a : ByteArray) (s : List Int) (b : ByteArray) (t : List Int) : Bool := if a = b then lessI s t else lessN (bytesOf a) (bytesOf b)
theorem bytesOf_inj {a b : ByteArray} (h : bytesOf a = bytesOf b) : a = b := by rw [← strOf_bytesOf a, h, strOf_bytesOf]
theorem place_less {a b : ByteArray} {s t : List Int} (hs : okB s = true) (ht : okB t = true) : lessN (placeB a s) (placeB b t) = aheadB a s b t := by
  rw [placeB, placeB, keyE_cmp, aheadB, catsE_cmp s t (okB_iff.1 hs).2.2 (okB_iff.1 ht).2.2]
  by_cases h : a = b
  · rw [if_pos (by rw [h]), if_pos h]
  · rw [if_neg (fun e => h (bytesOf_inj e)), if_neg h]
theorem place_eq {a b : ByteArray} {s t : List Int} (hs : okB s = true) (ht : okB t = true) : decide (placeB a s = placeB b t) = (decide (a = b) && decide (s = t)) := by
  by_cases h : placeB a s = placeB b t
  · rw [decide_eq_true h]
    have h1 := place_less (a := a) (b := b) hs ht
    have h2 := place_less (a := b) (b := a) ht hs
    rw [h, lessN_irr] at h1
    rw [h, lessN_irr] at h2
    by_cases e : a = b
    · subst e
      rw [aheadB, if_pos rfl] at h1 h2
      rw [lessI_tri s t h1.symm h2.symm]
      simp
    · exfalso
      rw [aheadB, if_neg e] at h1
      rw [aheadB, if_neg (fun x => e x.symm)] at h2
      exact e (bytesOf_inj (lessN_tri _ _ h1.symm h2.symm))
  · rw [decide_eq_false h]
    by_cases e : a = b
    · by_cases e2 : s = t
      · exact absurd (by rw [e, e2]) h
      · simp [e2]
    · simp [e]

theorem keyE_bytes : ∀ (l : List Nat), (∀ x ∈ l, x < 256) → ∀ x ∈ keyE l, x < 256
  | [], _, x, hx => by simp [keyE] at hx; omega
  | b :: r, h, x, hx => by
    have hb := h b (by simp)
    have ih := keyE_bytes r (fun z hz => h z (by simp [hz]))
    rw [keyE] at hx
    split at hx
    · simp only [List.mem_cons] at hx
      rcases hx with rfl | rfl | hx
      · decide
      · decide
      · exact ih x hx
    · simp only [List.mem_cons] at hx
      rcases hx with rfl | hx
      · exact hb
      · exact ih x hx
theorem catsE_bytes : ∀ (s : List Int), (∀ x ∈ s, 1 ≤ x ∧ x ≤ 2147483647) → ∀ x ∈ catsE s, x < 256
  | [], _, x, hx => by simp [catsE] at hx
  | c :: r, h, x, hx => by
    have hc := h c (by simp)
    rcases List.mem_append.1 hx with hx | hx
    · simp only [catE, List.mem_cons, List.not_mem_nil, or_false] at hx
      omega
    · exact catsE_bytes r (fun z hz => h z (by simp [hz])) x hx
theorem placeB_bytes {k : ByteArray} {s : List Int} (hs : okB s = true) : ∀ x ∈ placeB k s, x < 256 := by
  intro x hx
  rcases List.mem_append.1 hx with h | h
  · exact keyE_bytes _ (bytesOf_lt k) x h
  · exact catsE_bytes _ (okB_iff.1 hs).2.2 x h
theorem keyE_len : ∀ (l : List Nat), (keyE l).length ≤ 2 * l.length + 2
  | [] => by simp [keyE]
  | b :: r => by
    have := keyE_len r
    rw [keyE]
    split
    · simp only [List.length_cons]
      omega
    · simp only [List.length_cons]
      omega
theorem catsE_len (s : List Int) : (catsE s).length = 4 * s.length := by
  induction s with
  | nil => rfl
  | cons c r ih => simp only [catsE, List.length_append, ih, catE, List.length_cons, List.length_nil]; omega
theorem catsE_snoc (s : List Int) (c : Int) : catsE (s ++ [c]) = catsE s ++ catE c := by
  induction s with
  | nil => simp [catsE]
  | cons d r ih => simp [catsE, ih]

end Go.Proofs.Ytkbceaofijngoaa
