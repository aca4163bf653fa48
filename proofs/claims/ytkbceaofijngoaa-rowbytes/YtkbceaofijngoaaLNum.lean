/-
  Numbers and sets as bytes, seven bits a byte, the least ahead: how they are written, how they are read, and that what is written is read.
-/
import Init
namespace Go.Proofs.Ytkbceaofijngoaa
set_option linter.unusedVariables false

/-- A number's bytes, at most so many ahead of the last. -/
def numF : Nat → Nat → List Nat
  | 0, n => [n]
  | f + 1, n => if n < 128 then [n] else (n % 128 + 128) :: numF f (n / 128)
/-- A number's bytes. -/
def numB (n : Nat) : List Nat := numF n n

theorem numF_small {n : Nat} (h : n < 128) : ∀ f, numF f n = [n]
  | 0 => rfl
  | f + 1 => by rw [numF, if_pos h]
theorem numF_same : ∀ (f g n : Nat), n ≤ f → n ≤ g → numF f n = numF g n
  | 0, g, n, hf, _ => by rw [numF_small (by omega), numF_small (by omega)]
  | f + 1, 0, n, _, hg => by rw [numF_small (by omega), numF_small (by omega)]
  | f + 1, g + 1, n, hf, hg => by
    by_cases h : n < 128
    · rw [numF_small h, numF_small h]
    · rw [numF, numF, if_neg h, if_neg h, numF_same f g (n / 128) (by omega) (by omega)]
theorem numB_small {n : Nat} (h : n < 128) : numB n = [n] := numF_small h n
theorem numB_big {n : Nat} (h : ¬ n < 128) : numB n = (n % 128 + 128) :: numB (n / 128) := by
  cases n with
  | zero => omega
  | succ m => rw [numB, numF, if_neg h, numB, numF_same m ((m + 1) / 128) _ (by omega) (Nat.le_refl _)]

theorem numB_bytes : ∀ (n : Nat), ∀ b ∈ numB n, b < 256 := by
  intro n
  induction n using Nat.strongRecOn with
  | _ n ih =>
    intro b hb
    by_cases h : n < 128
    · rw [numB_small h] at hb
      simp at hb
      omega
    · rw [numB_big h] at hb
      rcases List.mem_cons.1 hb with rfl | hb
      · omega
      · exact ih (n / 128) (by omega) b hb

theorem numB_len : ∀ (k n : Nat), n < 128 ^ (k + 1) → (numB n).length ≤ k + 1
  | 0, n, h => by rw [numB_small (by simpa using h)]; simp
  | k + 1, n, h => by
    by_cases h1 : n < 128
    · rw [numB_small h1]
      simp
    · rw [numB_big h1]
      have : n / 128 < 128 ^ (k + 1) := by
        rw [Nat.pow_succ] at h
        omega
      have := numB_len k (n / 128) this
      simp
      omega

theorem numB_pos (n : Nat) : 1 ≤ (numB n).length := by
  by_cases h1 : n < 128
  · rw [numB_small h1]
    simp
  · rw [numB_big h1]
    simp

theorem numB_len5 {n : Nat} (h : n ≤ 2147483647) : (numB n).length ≤ 5 := numB_len 4 n (by simp; omega)

/-- What steps of a set's numbers tell. -/
def diffB : Int → List Int → List Nat
  | _, [] => []
  | last, c :: r => numB (c - last).toNat ++ diffB c r
/-- A set's bytes. -/
def setB (l : List Int) : List Nat := numB l.length ++ diffB 0 l

theorem diffB_snoc (l : List Int) (x : Int) : ∀ last, diffB last (l ++ [x]) = diffB last l ++ numB (x - (l.getLast?.getD last)).toNat := by
  induction l with
  | nil => intro last; simp [diffB]
  | cons c r ih =>
    intro last
    simp only [List.cons_append, diffB, ih c, List.append_assoc]
    cases r with
    | nil => simp
    | cons d r => simp [List.getLast?_cons]

theorem diffB_bytes : ∀ (l : List Int) (last : Int), ∀ b ∈ diffB last l, b < 256
  | [], _, b, hb => by simp [diffB] at hb
  | c :: r, last, b, hb => by
    rcases List.mem_append.1 hb with h | h
    · exact numB_bytes _ b h
    · exact diffB_bytes r c b h
theorem setB_bytes (l : List Int) : ∀ b ∈ setB l, b < 256 := by
  intro b hb
  rcases List.mem_append.1 hb with h | h
  · exact numB_bytes _ b h
  · exact diffB_bytes _ _ b h

/-! ### Reading -/

/-- One byte after the other: i of them are read. -/
def readF : Nat → Nat → Nat → List Nat → Option (Nat × Nat)
  | 0, _, _, _ => none
  | _ + 1, _, _, [] => none
  | f + 1, i, sum, b :: r =>
    if b < 128 then (if (0 < i ∧ b = 0) ∨ 2147483647 < sum + b % 128 * 128 ^ i then none else some (sum + b % 128 * 128 ^ i, i + 1))
    else readF f (i + 1) (sum + b % 128 * 128 ^ i) r
/-- The number that bytes begin with, and how many it takes. -/
def readN (l : List Nat) : Option (Nat × Nat) := readF 5 0 0 l

theorem readF_size : ∀ (f i sum : Nat) (l : List Nat) (n z : Nat), readF f i sum l = some (n, z) → i < z ∧ z ≤ i + f ∧ z ≤ i + l.length ∧ n ≤ 2147483647
  | 0, i, sum, l, n, z, h => by simp [readF] at h
  | f + 1, i, sum, [], n, z, h => by simp [readF] at h
  | f + 1, i, sum, b :: r, n, z, h => by
    rw [readF] at h
    split at h
    · split at h
      · simp at h
      · rename_i h1
        simp at h
        obtain ⟨rfl, rfl⟩ := h
        simp
        omega
    · have := readF_size f (i + 1) _ r n z h
      simp
      omega

theorem readN_size {l : List Nat} {n z : Nat} (h : readN l = some (n, z)) : 1 ≤ z ∧ z ≤ 5 ∧ z ≤ l.length ∧ n ≤ 2147483647 := by
  have := readF_size 5 0 0 l n z h
  omega

theorem readF_numB : ∀ (f i sum n : Nat) (t : List Nat), (numB n).length ≤ f → (i = 0 ∨ 0 < n) → sum + n * 128 ^ i ≤ 2147483647 → readF f i sum (numB n ++ t) = some (sum + n * 128 ^ i, i + (numB n).length)
  | 0, i, sum, n, t, h, _, _ => by have := numB_pos n; omega
  | f + 1, i, sum, n, t, h, h1, h2 => by
    by_cases hn : n < 128
    · rw [numB_small hn]
      simp only [List.cons_append, List.nil_append, readF, if_pos hn, Nat.mod_eq_of_lt hn, List.length_singleton]
      rw [if_neg (by omega)]
    · rw [numB_big hn] at h ⊢
      have e : (n % 128 + 128) % 128 = n % 128 := by omega
      have hs : sum + n % 128 * 128 ^ i + n / 128 * 128 ^ (i + 1) = sum + n * 128 ^ i := by
        rw [Nat.pow_succ]
        have h3 : n = n / 128 * 128 + n % 128 := by omega
        have h4 : n * 128 ^ i = (n / 128 * 128 + n % 128) * 128 ^ i := congrArg (· * 128 ^ i) h3
        rw [h4, Nat.add_mul, Nat.mul_assoc (n / 128) 128 (128 ^ i), Nat.mul_comm 128 (128 ^ i)]
        omega
      simp only [List.cons_append, readF, e]
      rw [if_neg (by omega), readF_numB f (i + 1) _ (n / 128) t (by simpa using h) (Or.inr (by omega)) (by rw [hs]; exact h2), hs]
      simp
      omega

theorem readN_numB {n : Nat} (t : List Nat) (h : n ≤ 2147483647) : readN (numB n ++ t) = some (n, (numB n).length) := by
  have := readF_numB 5 0 0 n t (numB_len5 h) (Or.inl rfl) (by simpa using h)
  rw [readN, this]
  simp

/-- So many steps are read: where one stands, what is read, what lies ahead. -/
def readK : Nat → Int → List Int → Nat → List Nat → Option (List Int × Nat)
  | 0, _, acc, pos, _ => some (acc, pos)
  | m + 1, last, acc, pos, rest =>
    match readN rest with
    | none => none
    | some (k, z) => if (k : Int) < 1 ∨ 2147483647 - last < (k : Int) then none else readK m (last + k) (acc ++ [last + k]) (pos + z) (rest.drop z)
/-- The set that bytes begin with, and how many it takes. -/
def readS (l : List Nat) : Option (List Int × Nat) :=
  match readN l with
  | none => none
  | some (m, z) => if 64 < m then none else readK m 0 [] z (l.drop z)

theorem readK_diff : ∀ (l : List Int) (last : Int) (acc : List Int) (pos : Nat) (t : List Nat), 0 ≤ last → l.Pairwise (· < ·) → (∀ x ∈ l, last < x ∧ x ≤ 2147483647) → readK l.length last acc pos (diffB last l ++ t) = some (acc ++ l, pos + (diffB last l).length)
  | [], last, acc, pos, t, _, _, _ => by simp [readK, diffB]
  | c :: r, last, acc, pos, t, h0, hp, hx => by
    obtain ⟨h1, h2⟩ := hx c (by simp)
    have e : ((c - last).toNat : Int) = c - last := Int.toNat_of_nonneg (by omega)
    simp only [List.length_cons, readK, diffB, List.append_assoc]
    rw [readN_numB _ (by omega)]
    simp only
    rw [if_neg (by omega), e, show last + (c - last) = c by omega, List.drop_left, readK_diff r c _ _ t (by omega) (List.pairwise_cons.1 hp).2 (fun x hxr => ⟨(List.pairwise_cons.1 hp).1 x hxr, (hx x (by simp [hxr])).2⟩)]
    simp
    omega

theorem readS_setB {l : List Int} (t : List Nat) (hl : l.length ≤ 64) (hp : l.Pairwise (· < ·)) (hx : ∀ x ∈ l, 1 ≤ x ∧ x ≤ 2147483647) : readS (setB l ++ t) = some (l, (setB l).length) := by
  rw [readS, setB, List.append_assoc, readN_numB _ (by omega)]
  simp only
  rw [if_neg (by omega), List.drop_left, readK_diff l 0 [] _ t (by omega) hp (fun x h => by have := hx x h; omega)]
  simp

theorem readK_size : ∀ (m : Nat) (last : Int) (acc : List Int) (pos : Nat) (rest : List Nat) (l : List Int) (p : Nat), readK m last acc pos rest = some (l, p) → pos ≤ p ∧ p ≤ pos + rest.length
  | 0, last, acc, pos, rest, l, p, h => by
    simp [readK] at h
    omega
  | m + 1, last, acc, pos, rest, l, p, h => by
    rw [readK] at h
    cases hr : readN rest with
    | none => simp [hr] at h
    | some q =>
      obtain ⟨k, z⟩ := q
      have hz := readN_size hr
      rw [hr] at h
      simp only at h
      split at h
      · simp at h
      · have := readK_size m _ _ _ _ l p h
        simp at this
        omega

theorem readS_size {l : List Nat} {s : List Int} {p : Nat} (h : readS l = some (s, p)) : 1 ≤ p ∧ p ≤ l.length := by
  rw [readS] at h
  cases hr : readN l with
  | none => simp [hr] at h
  | some q =>
    obtain ⟨k, z⟩ := q
    have hz := readN_size hr
    rw [hr] at h
    simp only at h
    split at h
    · simp at h
    · have := readK_size _ _ _ _ _ _ _ h
      simp at this
      omega

/-- The label that bytes begin with, and how many it takes. -/
def ofL (l : List Nat) : Option (List Int × List Int × Nat) :=
  match readS l with
  | none => none
  | some (s, p) => match readS (l.drop p) with
    | none => none
    | some (i, q) => some (s, i, p + q)

theorem ofL_back {s i : List Int} (t : List Nat) (h1 : s.length ≤ 64) (h2 : s.Pairwise (· < ·)) (h3 : ∀ x ∈ s, 1 ≤ x ∧ x ≤ 2147483647) (k1 : i.length ≤ 64) (k2 : i.Pairwise (· < ·)) (k3 : ∀ x ∈ i, 1 ≤ x ∧ x ≤ 2147483647) :
    ofL ((setB s ++ setB i) ++ t) = some (s, i, (setB s ++ setB i).length) := by
  rw [ofL, List.append_assoc, readS_setB _ h1 h2 h3]
  simp only
  rw [List.drop_left, readS_setB _ k1 k2 k3]
  simp

end Go.Proofs.Ytkbceaofijngoaa
