/-
  How the code reads a row (readers one behind the other) and how the document does (and asks at the end): both are ofR.
-/
import Derived.Test.YtkbceaofijngoaaWMath
namespace Go.Proofs.Ytkbceaofijngoaa
set_option linter.unusedVariables false

/-! ### The code's readers -/

/-- A reader: bytes, and the row as it stands; how many bytes it takes, and the row then. -/
def Rd : Type := List Nat → RowV → Option (Nat × RowV)
def chainP : List Rd → Rd
  | [], _, st => some (0, st)
  | f :: fs, l, st => match f l st with
    | none => none
    | some (n, st1) => match chainP fs (l.drop n) st1 with
      | none => none
      | some (m, st2) => some (n + m, st2)
/-- A number of at most two bytes. -/
def read2 (l : List Nat) : Option (Nat × Nat) := readF 2 0 0 l
def countedP (lo hi : Nat) (th : Nat → RowV → RowV × Rd) : Rd := fun l st =>
  match read2 l with
  | none => none
  | some (n, z) => if n < lo ∨ hi < n then none else
    match (th n st).2 (l.drop z) (th n st).1 with
    | none => none
    | some (m, st2) => some (z + m, st2)
/-- So many bytes, handed on. -/
def takeP (tk : ByteArray → RowV → RowV) (n : Nat) : Rd := fun l st => if l.length < n then none else some (n, tk (strOf (l.take n)) st)
def textP (lo hi : Nat) (tk : ByteArray → RowV → RowV) : Rd := countedP lo hi fun n st => (st, takeP tk n)
def setKey (k : ByteArray) (st : RowV) : RowV := { st with key := k }
def addCell (c : ByteArray) (st : RowV) : RowV := { st with cells := st.cells ++ [c] }
def setLab (s i : List Int) (st : RowV) : RowV := { st with s := s, i := i }
def setWho (n : Int) (st : RowV) : RowV := { st with who := n }
def cellsP : Rd := countedP 0 8 fun n st => (st, chainP (List.replicate n (textP 0 256 addCell)))
def labP : Rd := fun l st => match ofL l with
  | none => none
  | some (s, i, n) => some (n, setLab s i st)
def whoP : Rd := countedP 0 16 fun n st => (setWho ((n : Int) - 1) st, chainP [])
def rowP : Rd := chainP [textP 1 64 setKey, cellsP, labP, whoP]

theorem readF_big : ∀ (f i sum : Nat) (l : List Nat) (n z : Nat), 0 < i → readF f i sum l = some (n, z) → 128 ^ i ≤ n
  | 0, i, sum, l, n, z, _, h => by simp [readF] at h
  | f + 1, i, sum, [], n, z, _, h => by simp [readF] at h
  | f + 1, i, sum, b :: r, n, z, hi, h => by
    rw [readF] at h
    split at h
    · split at h
      · simp at h
      · rename_i h1 h2
        simp only [Option.some.injEq, Prod.mk.injEq] at h
        obtain ⟨rfl, _⟩ := h
        have hb : 1 ≤ b % 128 := by omega
        have : 1 * 128 ^ i ≤ b % 128 * 128 ^ i := Nat.mul_le_mul_right _ hb
        omega
    · have h1 := readF_big f (i + 1) _ r n z (by omega) h
      rw [Nat.pow_succ] at h1
      have : 0 < 128 ^ i := Nat.pow_pos (by decide)
      omega

/-- A number within bounds is read alike by two bytes and by five. -/
theorem read2_same (l : List Nat) (lo hi : Nat) (hh : hi < 16384) {α : Type} (K : Nat → Nat → Option α) :
    (match read2 l with | none => none | some (n, z) => if n < lo ∨ hi < n then none else K n z) = (match readN l with | none => none | some (n, z) => if n < lo ∨ hi < n then none else K n z) := by
  unfold read2 readN
  cases l with
  | nil => rfl
  | cons b r =>
    by_cases hb : b < 128
    · simp only [readF, if_pos hb]
    · cases r with
      | nil => simp only [readF, if_neg hb]
      | cons c r =>
        by_cases hc : c < 128
        · simp only [readF, if_neg hb, if_pos hc]
        · generalize hsum : 0 + b % 128 * 128 ^ 0 + c % 128 * 128 ^ (0 + 1) = sum
          simp only [readF, if_neg hb, if_neg hc, hsum]
          cases hr : readF 3 (0 + 1 + 1) sum r with
          | none => rfl
          | some q =>
            obtain ⟨n, z⟩ := q
            have := readF_big _ _ _ _ _ _ (by decide) hr
            simp only
            rw [if_pos (by right; omega)]

theorem read2_size {l : List Nat} {n z : Nat} (h : read2 l = some (n, z)) : 1 ≤ z ∧ z ≤ 2 ∧ z ≤ l.length ∧ n ≤ 2147483647 := by
  have := readF_size 2 0 0 l n z h
  omega

theorem textP_eq (lo hi : Nat) (hh : hi < 16384) (tk : ByteArray → RowV → RowV) (l : List Nat) (st : RowV) :
    textP lo hi tk l st = (match textR lo hi l with | none => none | some (c, n) => some (n, tk c st)) := by
  unfold textP countedP
  simp only
  rw [read2_same l lo hi hh (fun n z => match takeP tk n (l.drop z) st with | none => none | some (m, st2) => some (z + m, st2))]
  rw [textR]
  cases readN l with
  | none => rfl
  | some q =>
    obtain ⟨n, z⟩ := q
    simp only [takeP]
    by_cases h1 : n < lo ∨ hi < n
    · rw [if_pos h1, if_pos h1]
    · rw [if_neg h1, if_neg h1]
      by_cases h2 : (l.drop z).length < n
      · rw [if_pos h2, if_pos h2]
      · rw [if_neg h2, if_neg h2]

theorem cellsP_eq (m : Nat) : ∀ (l : List Nat) (st : RowV),
    chainP (List.replicate m (textP 0 256 addCell)) l st = (match cellsR 256 m l with | none => none | some (cs, n) => some (n, { st with cells := st.cells ++ cs })) := by
  induction m with
  | zero => intro l st; simp [chainP, cellsR]
  | succ m ih =>
    intro l st
    rw [List.replicate_succ, chainP, textP_eq 0 256 (by decide), cellsR]
    cases textR 0 256 l with
    | none => rfl
    | some q =>
      obtain ⟨c, a⟩ := q
      simp only
      rw [ih]
      cases cellsR 256 m (l.drop a) with
      | none => rfl
      | some q2 =>
        obtain ⟨cs, b⟩ := q2
        simp [addCell]

theorem rowP_eq (l : List Nat) : rowP l rowE = (match ofR l with | none => none | some (r, n) => some (n, r)) := by
  unfold rowP
  rw [chainP, textP_eq 1 64 (by decide), ofR]
  cases textR 1 64 l with
  | none => rfl
  | some q =>
    obtain ⟨k, a⟩ := q
    simp only
    rw [chainP]
    have e2 : ∀ st, cellsP (l.drop a) st = (match readN (l.drop a) with | none => none | some (n, z) => if n < 0 ∨ 8 < n then none else (match cellsR 256 n (l.drop (a + z)) with | none => none | some (cs, b) => some (z + b, { st with cells := st.cells ++ cs }))) := by
      intro st
      unfold cellsP countedP
      simp only
      rw [read2_same (l.drop a) 0 8 (by decide) (fun n z => match chainP (List.replicate n (textP 0 256 addCell)) ((l.drop a).drop z) st with | none => none | some (m, st2) => some (z + m, st2))]
      cases readN (l.drop a) with
      | none => rfl
      | some q =>
        obtain ⟨n, z⟩ := q
        simp only
        split
        · rfl
        · rw [cellsP_eq, List.drop_drop]
          cases cellsR 256 n (l.drop (a + z)) with
          | none => rfl
          | some q => rfl
    rw [e2]
    cases readN (l.drop a) with
    | none => rfl
    | some q =>
      obtain ⟨n, z⟩ := q
      simp only
      by_cases h8 : 8 < n
      · rw [if_pos (Or.inr h8), if_pos h8]
      · rw [if_neg (by omega), if_neg h8]
        cases cellsR 256 n (l.drop (a + z)) with
        | none => rfl
        | some q =>
          obtain ⟨cs, b⟩ := q
          simp only
          rw [chainP, List.drop_drop, labP, ← Nat.add_assoc]
          cases ofL (l.drop (a + z + b)) with
          | none => rfl
          | some q =>
            obtain ⟨s, i, c⟩ := q
            simp only
            rw [chainP, List.drop_drop]
            have e5 : ∀ st, whoP (l.drop (a + z + b + c)) st = (match readN (l.drop (a + z + b + c)) with | none => none | some (n, z) => if n < 0 ∨ 16 < n then none else some (z + 0, setWho ((n : Int) - 1) st)) := by
              intro st
              unfold whoP countedP
              simp only
              rw [read2_same (l.drop (a + z + b + c)) 0 16 (by decide) (fun n zz => match chainP [] ((l.drop (a + z + b + c)).drop zz) (setWho ((n : Int) - 1) st) with | none => none | some (m, st2) => some (zz + m, st2))]
              rfl
            rw [e5]
            cases readN (l.drop (a + z + b + c)) with
            | none => rfl
            | some q =>
              obtain ⟨w, d⟩ := q
              simp only
              by_cases h16 : 16 < w
              · rw [if_pos (Or.inr h16), if_pos h16]
              · rw [if_neg (by omega), if_neg h16]
                simp only [chainP, setWho, setLab, setKey, rowE, List.nil_append]
                refine congrArg some (Prod.ext ?_ rfl)
                simp only
                omega

/-! ### The document's way -/
/-- Texts of any length; what is read is looked at behind. -/
theorem cellsR_any : ∀ (m : Nat) (l : List Nat), cellsR 256 m l = (match cellsR 2147483647 m l with | none => none | some (cs, n) => if cellOk cs then some (cs, n) else none)
  | 0, l => by simp [cellsR, cellOk]
  | m + 1, l => by
    have hT : textR 0 256 l = (match textR 0 2147483647 l with | none => none | some (c, n) => if c.size ≤ 256 then some (c, n) else none) := by
      rw [textR, textR]
      cases hr : readN l with
      | none => rfl
      | some q =>
        obtain ⟨n, z⟩ := q
        have hz := readN_size hr
        simp only
        by_cases h1 : (l.drop z).length < n
        · rw [if_pos h1]
          split
          · rw [if_neg (by omega)]
          · rw [if_neg (by omega)]
        · rw [if_neg h1]
          rw [List.length_drop] at h1
          by_cases h2 : 256 < n
          · rw [if_pos (Or.inr h2), if_neg (by omega)]
            simp only
            rw [if_neg (by rw [strOf_size, List.length_take, List.length_drop]; omega)]
          · rw [if_neg (by omega), if_neg (by omega)]
            simp only
            rw [if_pos (by rw [strOf_size, List.length_take, List.length_drop]; omega)]
    rw [cellsR, cellsR, hT]
    cases textR 0 2147483647 l with
    | none => rfl
    | some q =>
      obtain ⟨c, a⟩ := q
      simp only
      by_cases h : c.size ≤ 256
      · rw [if_pos h]
        simp only
        rw [cellsR_any m (l.drop a)]
        cases cellsR 2147483647 m (l.drop a) with
        | none => rfl
        | some q =>
          obtain ⟨cs, b⟩ := q
          have hk : cellOk (c :: cs) = cellOk cs := by simp [cellOk, h]
          simp only [hk]
          by_cases h3 : cellOk cs = true
          · rw [if_pos h3, if_pos h3]
          · rw [if_neg h3, if_neg h3]
      · rw [if_neg h]
        simp only
        cases cellsR 2147483647 m (l.drop a) with
        | none => rfl
        | some q =>
          obtain ⟨cs, b⟩ := q
          simp [cellOk, h]

/-- What the document reads ahead of asking whether it may be. -/
def docR (l : List Nat) : Option (RowV × Nat) :=
  match textR 0 2147483647 l with
  | none => none
  | some (k, a) => match readN (l.drop a) with
    | none => none
    | some (n, z) => if 8 < n then none else match cellsR 2147483647 n (l.drop (a + z)) with
      | none => none
      | some (cs, b) => match ofL (l.drop (a + z + b)) with
        | none => none
        | some (s, i, c) => match readN (l.drop (a + z + b + c)) with
          | none => none
          | some (w, d) => if mayR ⟨k, cs, s, i, (w : Int) - 1⟩ then some (⟨k, cs, s, i, (w : Int) - 1⟩, a + z + b + c + d) else none

theorem docR_eq (l : List Nat) : docR l = ofR l := by
  have hT : textR 1 64 l = (match textR 0 2147483647 l with | none => none | some (c, n) => if keyOk c then some (c, n) else none) := by
    rw [textR, textR]
    cases hr : readN l with
    | none => rfl
    | some q =>
      obtain ⟨n, z⟩ := q
      have hz := readN_size hr
      simp only
      by_cases h1 : (l.drop z).length < n
      · rw [if_pos h1]
        split
        · rw [if_neg (by omega)]
        · rw [if_neg (by omega)]
      · rw [if_neg h1]
        rw [List.length_drop] at h1
        by_cases h2 : n < 1 ∨ 64 < n
        · rw [if_pos h2, if_neg (by omega)]
          simp only
          rw [if_neg (by rw [keyOk_iff, strOf_size, List.length_take, List.length_drop]; omega)]
        · rw [if_neg h2, if_neg (by omega)]
          simp only
          rw [if_pos (by rw [keyOk_iff, strOf_size, List.length_take, List.length_drop]; omega)]
  rw [docR, ofR, hT]
  cases textR 0 2147483647 l with
  | none => rfl
  | some q =>
    obtain ⟨k, a⟩ := q
    simp only
    by_cases hk : keyOk k = true
    · rw [if_pos hk]
      simp only
      cases readN (l.drop a) with
      | none => rfl
      | some q =>
        obtain ⟨n, z⟩ := q
        simp only
        by_cases h8 : 8 < n
        · rw [if_pos h8, if_pos h8]
        · rw [if_neg h8, if_neg h8, cellsR_any]
          cases hcr : cellsR 2147483647 n (l.drop (a + z)) with
          | none => rfl
          | some q =>
            obtain ⟨cs, b⟩ := q
            have hcl := (cellsR_size _ _ _ _ hcr).2
            simp only
            by_cases hc : cellOk cs = true
            · rw [if_pos hc]
              simp only
              cases hof : ofL (l.drop (a + z + b)) with
              | none => rfl
              | some q =>
                obtain ⟨s, i, c⟩ := q
                have hm := (ofL_ok hof).1
                simp only
                cases readN (l.drop (a + z + b + c)) with
                | none => rfl
                | some q =>
                  obtain ⟨w, d⟩ := q
                  simp only
                  by_cases h16 : 16 < w
                  · rw [if_pos h16, if_neg]
                    intro h
                    have := (mayR_iff.1 h).2.2.2.2
                    simp only at this
                    omega
                  · rw [if_neg h16, if_pos]
                    refine mayR_iff.2 ⟨keyOk_iff.1 hk, ⟨by simp only; omega, cellOk_iff.1 hc⟩, hm, ?_, ?_⟩
                    · simp only
                      omega
                    · simp only
                      omega
            · rw [if_neg hc]
              simp only
              cases ofL (l.drop (a + z + b)) with
              | none => rfl
              | some q =>
                obtain ⟨s, i, c⟩ := q
                simp only
                cases readN (l.drop (a + z + b + c)) with
                | none => rfl
                | some q =>
                  obtain ⟨w, d⟩ := q
                  simp only
                  rw [if_neg]
                  intro h
                  exact hc (cellOk_iff.2 (mayR_iff.1 h).2.1.2)
    · rw [if_neg hk]
      simp only
      cases readN (l.drop a) with
      | none => rfl
      | some q =>
        obtain ⟨n, z⟩ := q
        simp only
        split
        · rfl
        · cases cellsR 2147483647 n (l.drop (a + z)) with
          | none => rfl
          | some q =>
            obtain ⟨cs, b⟩ := q
            simp only
            cases ofL (l.drop (a + z + b)) with
            | none => rfl
            | some q =>
              obtain ⟨s, i, c⟩ := q
              simp only
              cases readN (l.drop (a + z + b + c)) with
              | none => rfl
              | some q =>
                obtain ⟨w, d⟩ := q
                simp only
                rw [if_neg]
                intro h
                exact hk (keyOk_iff.2 (mayR_iff.1 h).1)

theorem ofR_size {l : List Nat} {r : RowV} {n : Nat} (h : ofR l = some (r, n)) : mayR r = true ∧ n ≤ l.length := by
  rw [← docR_eq, docR] at h
  cases h1 : textR 0 2147483647 l with
  | none => rw [h1] at h; simp at h
  | some q =>
    obtain ⟨k, a⟩ := q
    have s1 := (textR_size h1).1
    rw [h1] at h
    simp only at h
    cases h2 : readN (l.drop a) with
    | none => rw [h2] at h; simp at h
    | some q =>
      obtain ⟨n2, z⟩ := q
      have s2 := readN_size h2
      rw [List.length_drop] at s2
      rw [h2] at h
      simp only at h
      split at h
      · simp at h
      · cases h3 : cellsR 2147483647 n2 (l.drop (a + z)) with
        | none => rw [h3] at h; simp at h
        | some q =>
          obtain ⟨cs, b⟩ := q
          have s3 := (cellsR_size _ _ _ _ h3).1
          rw [List.length_drop] at s3
          rw [h3] at h
          simp only at h
          cases h4 : ofL (l.drop (a + z + b)) with
          | none => rw [h4] at h; simp at h
          | some q =>
            obtain ⟨s, i, c⟩ := q
            have s4 := (ofL_ok h4).2
            rw [List.length_drop] at s4
            rw [h4] at h
            simp only at h
            cases h5 : readN (l.drop (a + z + b + c)) with
            | none => rw [h5] at h; simp at h
            | some q =>
              obtain ⟨w, d⟩ := q
              have s5 := readN_size h5
              rw [List.length_drop] at s5
              rw [h5] at h
              simp only at h
              split at h
              · rename_i hm
                simp only [Option.some.injEq, Prod.mk.injEq] at h
                obtain ⟨rfl, rfl⟩ := h
                exact ⟨hm, by omega⟩
              · simp at h

end Go.Proofs.Ytkbceaofijngoaa
