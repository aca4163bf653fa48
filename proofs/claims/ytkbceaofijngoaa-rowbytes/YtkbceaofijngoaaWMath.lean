/-
  Rows as lists: which may be, what they are counted as, their bytes, how bytes are read, and that what is written is read.
-/
import Derived.Test.YtkbceaofijngoaaLByt
namespace Go.Proofs.Ytkbceaofijngoaa
set_option linter.unusedVariables false

/-- A row. -/
structure RowV where
  key : ByteArray
  cells : List ByteArray
  s : List Int
  i : List Int
  who : Int

def rowE : RowV := ⟨⟨#[]⟩, [], [], [], 0⟩
theorem RowV.ext' {a b : RowV} (h1 : a.key = b.key) (h2 : a.cells = b.cells) (h3 : a.s = b.s) (h4 : a.i = b.i) (h5 : a.who = b.who) : a = b := by
  cases a; cases b; simp_all

def keyOk (k : ByteArray) : Bool := decide (1 ≤ k.size) && decide (k.size ≤ 64)
def cellOk (l : List ByteArray) : Bool := l.all fun c => decide (c.size ≤ 256)
def cellsOk (l : List ByteArray) : Bool := decide (l.length ≤ 8) && cellOk l
/-- A row may be. -/
def mayR (r : RowV) : Bool := keyOk r.key && (cellsOk r.cells && (mayB r.s r.i && (decide (-1 ≤ r.who) && decide (r.who < 16))))

theorem keyOk_iff {k : ByteArray} : keyOk k = true ↔ 1 ≤ k.size ∧ k.size ≤ 64 := by simp [keyOk]
theorem cellOk_iff {l : List ByteArray} : cellOk l = true ↔ ∀ c ∈ l, c.size ≤ 256 := by simp [cellOk]
theorem cellsOk_iff {l : List ByteArray} : cellsOk l = true ↔ l.length ≤ 8 ∧ ∀ c ∈ l, c.size ≤ 256 := by simp [cellsOk, cellOk_iff]
theorem mayR_iff {r : RowV} : mayR r = true ↔ (1 ≤ r.key.size ∧ r.key.size ≤ 64) ∧ (r.cells.length ≤ 8 ∧ ∀ c ∈ r.cells, c.size ≤ 256) ∧ mayB r.s r.i = true ∧ -1 ≤ r.who ∧ r.who < 16 := by
  simp [mayR, keyOk_iff, cellsOk_iff]

def sumC : List ByteArray → Nat
  | [] => 0
  | c :: r => c.size + sumC r
theorem sumC_snoc (l : List ByteArray) (c : ByteArray) : sumC (l ++ [c]) = sumC l + c.size := by
  induction l with
  | nil => simp [sumC]
  | cons d l ih => simp [sumC, ih]; omega
theorem sumC_le (l : List ByteArray) (m : Nat) (h : ∀ c ∈ l, c.size ≤ m) : sumC l ≤ l.length * m := by
  induction l with
  | nil => simp [sumC]
  | cons d l ih =>
    have h1 := h d (by simp)
    have h2 := ih (fun c hc => h c (by simp [hc]))
    simp only [sumC, List.length_cons, Nat.add_mul]
    omega
/-- What a row is counted as. -/
def sizeR (r : RowV) : Nat := r.key.size + 16 + sumC r.cells

def textB (t : ByteArray) : List Nat := numB t.size ++ bytesOf t
def cellsB : List ByteArray → List Nat
  | [] => []
  | c :: r => textB c ++ cellsB r
theorem cellsB_snoc (l : List ByteArray) (c : ByteArray) : cellsB (l ++ [c]) = cellsB l ++ textB c := by
  induction l with
  | nil => simp [cellsB]
  | cons d l ih => simp [cellsB, ih]
theorem textB_len {t : ByteArray} (h : t.size ≤ 256) : (textB t).length ≤ 261 := by
  have := numB_len5 (n := t.size) (by omega)
  rw [textB, List.length_append, bytesOf_len]
  omega
theorem textB_bytes (t : ByteArray) : ∀ b ∈ textB t, b < 256 := by
  intro b hb
  rcases List.mem_append.1 hb with h | h
  · exact numB_bytes _ b h
  · exact bytesOf_lt t b h
theorem cellsB_len : ∀ (l : List ByteArray), (∀ c ∈ l, c.size ≤ 256) → (cellsB l).length ≤ 261 * l.length
  | [], _ => by simp [cellsB]
  | c :: r, h => by
    have h1 := textB_len (h c (by simp))
    have h2 := cellsB_len r (fun x hx => h x (by simp [hx]))
    simp only [cellsB, List.length_append, List.length_cons]
    omega
theorem cellsB_bytes : ∀ (l : List ByteArray), ∀ b ∈ cellsB l, b < 256
  | [], b, hb => by simp [cellsB] at hb
  | c :: r, b, hb => by
    rcases List.mem_append.1 hb with h | h
    · exact textB_bytes c b h
    · exact cellsB_bytes r b h
/-- A row's bytes. -/
def rowB (r : RowV) : List Nat := textB r.key ++ (numB r.cells.length ++ (cellsB r.cells ++ ((setB r.s ++ setB r.i) ++ numB (r.who + 1).toNat)))
theorem rowB_bytes (r : RowV) : ∀ b ∈ rowB r, b < 256 := by
  intro b hb
  simp only [rowB, List.mem_append] at hb
  rcases hb with h | h | h | (h | h) | h
  · exact textB_bytes _ b h
  · exact numB_bytes _ b h
  · exact cellsB_bytes _ b h
  · exact setB_bytes _ b h
  · exact setB_bytes _ b h
  · exact numB_bytes _ b h

/-! ### Reading -/

/-- The text that bytes begin with, of lo to hi bytes. -/
def textR (lo hi : Nat) (l : List Nat) : Option (ByteArray × Nat) :=
  match readN l with
  | none => none
  | some (n, z) => if n < lo ∨ hi < n then none else if (l.drop z).length < n then none else some (strOf ((l.drop z).take n), z + n)
/-- So many texts. -/
def cellsR (hi : Nat) : Nat → List Nat → Option (List ByteArray × Nat)
  | 0, _ => some ([], 0)
  | m + 1, l => match textR 0 hi l with
    | none => none
    | some (c, a) => match cellsR hi m (l.drop a) with
      | none => none
      | some (cs, b) => some (c :: cs, a + b)
/-- The row that bytes begin with, and how many it takes. -/
def ofR (l : List Nat) : Option (RowV × Nat) :=
  match textR 1 64 l with
  | none => none
  | some (k, a) => match readN (l.drop a) with
    | none => none
    | some (n, z) => if 8 < n then none else match cellsR 256 n (l.drop (a + z)) with
      | none => none
      | some (cs, b) => match ofL (l.drop (a + z + b)) with
        | none => none
        | some (s, i, c) => match readN (l.drop (a + z + b + c)) with
          | none => none
          | some (w, d) => if 16 < w then none else some (⟨k, cs, s, i, (w : Int) - 1⟩, a + z + b + c + d)

theorem take_back {x t : List Nat} {n : Nat} (h : n = x.length) : (x ++ t).take n = x := by subst h; simp

theorem textR_back {lo hi : Nat} {c : ByteArray} (t : List Nat) (h1 : lo ≤ c.size) (h2 : c.size ≤ hi) (h3 : c.size ≤ 2147483647) : textR lo hi (textB c ++ t) = some (c, (textB c).length) := by
  rw [textR, textB, List.append_assoc, readN_numB _ h3]
  simp only
  rw [if_neg (by omega), List.drop_left, if_neg (by rw [List.length_append, bytesOf_len]; omega), take_back (bytesOf_len c).symm, strOf_bytesOf, List.length_append, bytesOf_len]

theorem cellsR_back : ∀ (l : List ByteArray) (t : List Nat), (∀ c ∈ l, c.size ≤ 256) → cellsR 256 l.length (cellsB l ++ t) = some (l, (cellsB l).length)
  | [], t, _ => by simp [cellsR, cellsB]
  | c :: r, t, h => by
    have hc := h c (by simp)
    have ih := cellsR_back r t (fun x hx => h x (by simp [hx]))
    simp only [List.length_cons, cellsR, cellsB, List.append_assoc]
    rw [textR_back _ (Nat.zero_le _) hc (by omega)]
    simp only
    rw [List.drop_left, ih]
    simp

theorem drop_add_left {x t : List Nat} {n m : Nat} (h : n = x.length) : (x ++ t).drop (n + m) = t.drop m := by
  subst h
  rw [← List.drop_drop, List.drop_left]

theorem ofR_back {r : RowV} (t : List Nat) (h : mayR r = true) : ofR (rowB r ++ t) = some (r, (rowB r).length) := by
  obtain ⟨⟨k1, k2⟩, ⟨c1, c2⟩, hl, w1, w2⟩ := mayR_iff.1 h
  obtain ⟨⟨m1, m2⟩, m3, m4⟩ := mayB_iff.1 hl
  have e1 := textR_back (lo := 1) (hi := 64) (c := r.key) (numB r.cells.length ++ (cellsB r.cells ++ ((setB r.s ++ setB r.i) ++ (numB (r.who + 1).toNat ++ t)))) k1 k2 (by omega)
  have e2 := readN_numB (n := r.cells.length) (cellsB r.cells ++ ((setB r.s ++ setB r.i) ++ (numB (r.who + 1).toNat ++ t))) (by omega)
  have e3 := cellsR_back r.cells ((setB r.s ++ setB r.i) ++ (numB (r.who + 1).toNat ++ t)) c2
  have e4 := ofL_back (s := r.s) (i := r.i) (numB (r.who + 1).toNat ++ t) m1 m2.1 m2.2 m3 m4.1 m4.2
  have e5 := readN_numB (n := (r.who + 1).toNat) t (by omega)
  have e0 : rowB r ++ t = textB r.key ++ (numB r.cells.length ++ (cellsB r.cells ++ ((setB r.s ++ setB r.i) ++ (numB (r.who + 1).toNat ++ t)))) := by simp [rowB]
  rw [ofR, e0, e1]
  simp only
  rw [List.drop_left, e2]
  simp only
  rw [if_neg (by omega), drop_add_left rfl, List.drop_left, e3]
  simp only
  rw [Nat.add_assoc, drop_add_left rfl, drop_add_left rfl, List.drop_left, e4]
  simp only
  rw [Nat.add_assoc, Nat.add_assoc, drop_add_left rfl, drop_add_left rfl, drop_add_left rfl, List.drop_left, e5]
  simp only
  rw [if_neg (by omega)]
  refine congrArg some (Prod.ext (RowV.ext' rfl rfl rfl rfl ?_) ?_)
  · simp only
    omega
  · simp only [rowB, List.length_append]
    omega

theorem rowB_inj {a b : RowV} (ha : mayR a = true) (hb : mayR b = true) (h : rowB a = rowB b) : a = b := by
  have h1 := ofR_back [] ha
  have h2 := ofR_back [] hb
  rw [h, h2] at h1
  exact (congrArg Prod.fst (Option.some.inj h1)).symm

/-! ### What is read may be -/
theorem readK_ok : ∀ (m : Nat) (last : Int) (acc : List Int) (pos : Nat) (rest : List Nat) (l : List Int) (p : Nat), catsP acc → last = lastI acc → readK m last acc pos rest = some (l, p) → catsP l ∧ l.length = acc.length + m
  | 0, last, acc, pos, rest, l, p, hc, hl, h => by
    simp [readK] at h
    obtain ⟨rfl, _⟩ := h
    exact ⟨hc, rfl⟩
  | m + 1, last, acc, pos, rest, l, p, hc, hl, h => by
    rw [readK] at h
    cases hr : readN rest with
    | none => simp [hr] at h
    | some q =>
      obtain ⟨k, z⟩ := q
      rw [hr] at h
      simp only at h
      split at h
      · simp at h
      · rename_i hb
        have h1 := lastI_nonneg hc
        have h2 := readK_ok m _ _ _ _ l p ((catsP_snoc acc (last + k)).2 ⟨hc, by omega, by omega⟩) (lastI_snoc _ _).symm h
        refine ⟨h2.1, ?_⟩
        rw [h2.2]
        simp
        omega
theorem readS_ok {l : List Nat} {s : List Int} {p : Nat} (h : readS l = some (s, p)) : okB s = true := by
  rw [readS] at h
  cases hr : readN l with
  | none => simp [hr] at h
  | some q =>
    obtain ⟨k, z⟩ := q
    rw [hr] at h
    simp only at h
    split at h
    · simp at h
    · have := readK_ok k 0 [] z _ s p catsP_nil (by simp [lastI]) h
      refine okB_iff.2 ⟨?_, this.1⟩
      rw [this.2]
      simp
      omega
theorem ofL_ok {l : List Nat} {s i : List Int} {n : Nat} (h : ofL l = some (s, i, n)) : mayB s i = true ∧ n ≤ l.length := by
  rw [ofL] at h
  cases hr : readS l with
  | none => simp [hr] at h
  | some q =>
    obtain ⟨a, p⟩ := q
    rw [hr] at h
    simp only at h
    cases hr2 : readS (l.drop p) with
    | none => simp [hr2] at h
    | some q2 =>
      obtain ⟨b, c⟩ := q2
      rw [hr2] at h
      simp at h
      obtain ⟨rfl, rfl, rfl⟩ := h
      have h1 := readS_size hr
      have h2 := readS_size hr2
      rw [List.length_drop] at h2
      refine ⟨?_, by omega⟩
      rw [mayB, readS_ok hr, readS_ok hr2]
      rfl

theorem textR_size {lo hi : Nat} {l : List Nat} {c : ByteArray} {n : Nat} (h : textR lo hi l = some (c, n)) : n ≤ l.length ∧ lo ≤ c.size ∧ c.size ≤ hi ∧ c.size ≤ 2147483647 := by
  rw [textR] at h
  cases hr : readN l with
  | none => simp [hr] at h
  | some q =>
    obtain ⟨k, z⟩ := q
    have hz := readN_size hr
    rw [hr] at h
    simp only at h
    split at h
    · simp at h
    · split at h
      · simp at h
      · rename_i h1 h2
        rw [List.length_drop] at h2
        simp only [Option.some.injEq, Prod.mk.injEq] at h
        obtain ⟨rfl, rfl⟩ := h
        rw [strOf_size, List.length_take, List.length_drop]
        omega

theorem cellsR_size {hi : Nat} : ∀ (m : Nat) (l : List Nat) (cs : List ByteArray) (n : Nat), cellsR hi m l = some (cs, n) → n ≤ l.length ∧ cs.length = m
  | 0, l, cs, n, h => by
    simp [cellsR] at h
    obtain ⟨rfl, rfl⟩ := h
    exact ⟨Nat.zero_le _, rfl⟩
  | m + 1, l, cs, n, h => by
    rw [cellsR] at h
    cases hr : textR 0 hi l with
    | none => simp [hr] at h
    | some q =>
      obtain ⟨c, a⟩ := q
      rw [hr] at h
      simp only at h
      cases hr2 : cellsR hi m (l.drop a) with
      | none => simp [hr2] at h
      | some q2 =>
        obtain ⟨ds, b⟩ := q2
        rw [hr2] at h
        simp only [Option.some.injEq, Prod.mk.injEq] at h
        obtain ⟨rfl, rfl⟩ := h
        have h1 := textR_size hr
        have h2 := cellsR_size m _ ds b hr2
        rw [List.length_drop] at h2
        exact ⟨by omega, by simp [h2.2]⟩

end Go.Proofs.Ytkbceaofijngoaa
