/-
  Responses: what they are, over lists of bytes.
-/
import Derived.Test.YtgkipeehmckbdaaDoorHMathC
import Derived.Lib.AtoiAll
import Derived.Lib.AtoiAllCases
import Derived.Lib.ItoaMem
namespace Go.Proofs.YtgkipeehmckbdaaDoor
set_option linter.unusedVariables false

/-- A response: status, fields, body, whether it closes. -/
abbrev RespL := Int × List PairL × List UInt8 × Bool
def rzY : RespL := (0, [], [], false)
def reasonT : List (Int × List UInt8) := [(200, [79, 75]), (201, [67, 114, 101, 97, 116, 101, 100]), (204, [78, 111, 32, 67, 111, 110, 116, 101, 110, 116]), (400, [66, 97, 100, 32, 82, 101, 113, 117, 101, 115, 116]), (401, [85, 110, 97, 117, 116, 104, 111, 114, 105, 122, 101, 100]), (403, [70, 111, 114, 98, 105, 100, 100, 101, 110]), (404, [78, 111, 116, 32, 70, 111, 117, 110, 100]), (409, [67, 111, 110, 102, 108, 105, 99, 116]), (413, [67, 111, 110, 116, 101, 110, 116, 32, 84, 111, 111, 32, 76, 97, 114, 103, 101]), (431, [82, 101, 113, 117, 101, 115, 116, 32, 72, 101, 97, 100, 101, 114, 32, 70, 105, 101, 108, 100, 115, 32, 84, 111, 111, 32, 76, 97, 114, 103, 101]), (500, [73, 110, 116, 101, 114, 110, 97, 108, 32, 83, 101, 114, 118, 101, 114, 32, 69, 114, 114, 111, 114]), (503, [83, 101, 114, 118, 105, 99, 101, 32, 85, 110, 97, 118, 97, 105, 108, 97, 98, 108, 101]), (505, [72, 84, 84, 80, 32, 86, 101, 114, 115, 105, 111, 110, 32, 78, 111, 116, 32, 83, 117, 112, 112, 111, 114, 116, 101, 100])]
def findR (n : Int) : List (Int × List UInt8) → Option (List UInt8)
  | [] => none
  | p :: r => if p.1 = n then some p.2 else findR n r
def reasonL (n : Int) : Option (List UInt8) := findR n reasonT
def statusS : List UInt8 := [83, 116, 97, 116, 117, 115]
def reasonO (n : Int) : List UInt8 := (reasonL n).getD statusS
def isNy (b : UInt8) : Bool := isSm b || isDg b || signs.contains b
def nameY (l : List UInt8) : Bool := !decide (l = []) && (!decide (l = clS) && (!decide (l = cnS) && l.all isNy))
def valueY (l : List UInt8) : Bool := decide (trimB l = l) && l.all isVl
def fieldY (p : PairL) : Bool := nameY p.1 && valueY p.2
def sizeY (r : RespL) : Bool := decide (200 ≤ r.1 ∧ r.1 ≤ 599 ∧ r.2.1.length ≤ 32 ∧ r.2.2.1.length ≤ 1048576)
/-- May a response be? -/
def mayY (r : RespL) : Bool := sizeY r && r.2.1.all fieldY
def lineY (n : Int) : List UInt8 := v11 ++ 32 :: (Lib.itoa n ++ 32 :: reasonO n)
def clY (n : Nat) : List UInt8 := clS ++ 58 :: 32 :: Lib.itoa (n : Int)
def wordY (c : Bool) : List UInt8 := if c = true then closeS else keepS
def cnY (c : Bool) : List UInt8 := cnS ++ 58 :: 32 :: wordY c
def tailY (r : RespL) : List UInt8 := clY r.2.2.1.length ++ 13 :: 10 :: (cnY r.2.2.2 ++ 13 :: 10 :: 13 :: 10 :: r.2.2.1)
/-- A response's bytes. -/
def textY (r : RespL) : List UInt8 := lineY r.1 ++ 13 :: 10 :: (joinE (r.2.1.map rawOf) ++ tailY r)
def prnY (r : RespL) : Option (List UInt8) := if mayY r = true then some (textY r) else none

/-- A text around the first ': '. -/
def cutS : List UInt8 → List UInt8 × List UInt8 × Bool
  | [] => ([], [], false)
  | a :: r => if a = 58 ∧ r.head? = some 32 then ([], r.tail, true) else (a :: (cutS r).1, (cutS r).2.1, (cutS r).2.2)
theorem index_cutS : ∀ l : List UInt8, (Lib.index l [58, 32] = -1 ∧ cutS l = (l, [], false)) ∨ ∃ k : Nat, Lib.index l [58, 32] = k ∧ cutS l = (l.take k, l.drop (k + 2), true)
  | [] => Or.inl ⟨rfl, rfl⟩
  | a :: r => by
    unfold Lib.index cutS
    by_cases h : a = 58 ∧ r.head? = some 32
    · refine Or.inr ⟨0, ?_, ?_⟩
      · rw [if_pos]
        · rfl
        · obtain ⟨rfl, h2⟩ := h
          cases r with
          | nil => simp at h2
          | cons b r => simp at h2; subst h2; simp [List.isPrefixOf]
      · rw [if_pos h]
        obtain ⟨_, h2⟩ := h
        cases r with
        | nil => simp at h2
        | cons b r => rfl
    · have hp : ¬ List.isPrefixOf [58, 32] (a :: r) = true := by
        intro e
        apply h
        cases r with
        | nil => simp [List.isPrefixOf] at e
        | cons b r =>
          simp [List.isPrefixOf] at e
          exact ⟨e.1.symm, by simp [e.2]⟩
      rw [if_neg hp, if_neg h]
      rcases index_cutS r with ⟨h1, h2⟩ | ⟨k, h1, h2⟩
      · rw [h1, h2]; exact Or.inl ⟨rfl, rfl⟩
      · rw [h1, h2, if_neg (by simp)]
        exact Or.inr ⟨k + 1, by omega, rfl⟩
theorem cutS_lib (l : List UInt8) : Lib.cut l [58, 32] = cutS l := by
  unfold Lib.cut
  rcases index_cutS l with ⟨h1, h2⟩ | ⟨k, h1, h2⟩
  · rw [h1, h2]; rfl
  · rw [h1, h2, if_pos (by omega)]
    simp
theorem cutS_app : ∀ {l : List UInt8} (r : List UInt8), (58 : UInt8) ∉ l → cutS (l ++ 58 :: 32 :: r) = (l, r, true)
  | [], r, _ => by simp [cutS]
  | a :: l, r, h => by
    have ha : ¬ a = 58 := fun e => h (by simp [e])
    rw [List.cons_append, cutS, if_neg (fun e => ha e.1), cutS_app r (fun e => h (by simp [e]))]
theorem cutS_len (l : List UInt8) : (cutS l).1.length ≤ l.length ∧ (cutS l).2.1.length ≤ l.length := by
  rcases index_cutS l with ⟨h1, h2⟩ | ⟨k, h1, h2⟩
  · rw [h2]; simp
  · rw [h2]; simp; omega
theorem cutE_len2 (l : List UInt8) : (cutE l).1.length ≤ l.length ∧ (cutE l).2.1.length ≤ l.length := by
  obtain ⟨h1, h2⟩ := cutE_len l
  cases h : (cutE l).2.2 with
  | true => have := h2 h; omega
  | false => rw [(cutE_false h).2]; simp; omega

/-! ### What the code guesses -/
def numO (l : List UInt8) : Int := match Lib.atoiAll l with
  | .ok v => v
  | _ => 0
def statusY (line : List UInt8) : Int := numO (cutC 32 (cutC 32 line).2.1).1
def fieldsY : Nat → List UInt8 → List PairL × List UInt8
  | 0, s => ([], s)
  | f + 1, s =>
    if (cutS (cutE s).1).2.2 = false ∨ (cutS (cutE s).1).1 = clS then ([], s)
    else (((cutS (cutE s).1).1, (cutS (cutE s).1).2.1) :: (fieldsY f (cutE s).2.1).1, (fieldsY f (cutE s).2.1).2)
def bodyY (line rest : List UInt8) : List UInt8 := match Lib.atoiAll (Lib.trimPrefix line (clS ++ [58, 32])) with
  | .ok n => if n < 0 ∨ (rest.length : Int) < n then [] else rest.take n.toNat
  | _ => []
def guessY (s : List UInt8) : RespL :=
  (statusY (cutE s).1, (fieldsY 32 (cutE s).2.1).1,
   bodyY (cutE (fieldsY 32 (cutE s).2.1).2).1 (Lib.trimPrefix (cutE (cutE (fieldsY 32 (cutE s).2.1).2).2.1).2.1 [13, 10]),
   decide ((cutE (cutE (fieldsY 32 (cutE s).2.1).2).2.1).1 = cnY true))
/-- What is told of a response that was guessed. -/
def tellY (s : List UInt8) : Option RespL → RespL × Nat × Int
  | none => (rzY, 0, 90)
  | some r => if mayY r = true ∧ (textY r).isPrefixOf s = true then (r, (textY r).length, 0) else (rzY, 0, 90)
def parY (s : List UInt8) : RespL × Nat × Int := tellY s (some (guessY s))

/-! ### What the document guesses -/
def digY (l : List UInt8) : Int := if l.all isDg = true ∧ 1 ≤ l.length ∧ l.length ≤ 8 then (numL l : Int) else -1
def fieldsD : Nat → Int → List PairL → List UInt8 → Option RespL
  | 0, _, _, _ => none
  | f + 1, n, acc, s =>
    if (cutE s).2.2 = false then none
    else if (cutE s).1.length < (cutC 58 (cutE s).1).1.length + 2 then none
    else if (cutC 58 (cutE s).1).1 = clS then
      (if digY ((cutE s).1.drop ((cutC 58 (cutE s).1).1.length + 2)) < 0 ∨ (cutE (cutE s).2.1).2.2 = false ∨ ((cutE (cutE s).2.1).2.1.length : Int) - 2 < digY ((cutE s).1.drop ((cutC 58 (cutE s).1).1.length + 2)) then none
       else some (n, acc, ((cutE (cutE s).2.1).2.1.drop 2).take (digY ((cutE s).1.drop ((cutC 58 (cutE s).1).1.length + 2))).toNat, decide ((cutE (cutE s).2.1).1 = cnY true)))
    else fieldsD f n (acc ++ [((cutC 58 (cutE s).1).1, (cutE s).1.drop ((cutC 58 (cutE s).1).1.length + 2))]) (cutE s).2.1
def verT : List UInt8 := v11 ++ [32]
def guessD (s : List UInt8) : Option RespL :=
  if s.length < 13 ∨ s.take 9 ≠ verT then none
  else if (cutE s).2.2 = false then none
  else fieldsD (s.length + 1) (digY ((s.drop 9).take 3)) [] (cutE s).2.1

/-! ### Numbers -/
def numA (acc : Nat) (l : List UInt8) : Nat := l.foldl (fun n b => 10 * n + (b.toNat - 48)) acc
theorem numA_ge : ∀ (l : List UInt8) (acc : Nat), acc ≤ numA acc l
  | [], acc => Nat.le_refl _
  | b :: l, acc => by
    have := numA_ge l (10 * acc + (b.toNat - 48))
    show acc ≤ numA (10 * acc + (b.toNat - 48)) l
    omega
theorem parse_num : ∀ (l : List UInt8) (acc : Nat), l.all isDg = true → numA acc l < 1844674407370955161 → Lib.parseUint10 acc l = .ok (numA acc l)
  | [], acc, _, _ => rfl
  | b :: l, acc, h, hb => by
    rw [List.all_cons, Bool.and_eq_true] at h
    have hd : 48 ≤ b.toNat ∧ b.toNat ≤ 57 := by simpa [isDg] using h.1
    have e : numA acc (b :: l) = numA (acc * 10 + (b.toNat - 48)) l := by
      show numA (10 * acc + (b.toNat - 48)) l = _
      rw [Nat.mul_comm]
    have g := numA_ge l (acc * 10 + (b.toNat - 48))
    rw [e] at hb ⊢
    rw [Lib.parseUint10, if_pos hd, if_neg (by omega), if_neg (by omega)]
    exact parse_num l _ h.2 hb
theorem dec_step (n : Nat) : Lib.decDigits n = if n < 10 then [UInt8.ofNat (48 + n)] else Lib.decDigits (n / 10) ++ [UInt8.ofNat (48 + n % 10)] := by
  rw [Lib.decDigits]
  split <;> rfl
theorem dec_dg (n : Nat) : (Lib.decDigits n).all isDg = true := by
  induction n using Nat.strongRecOn with
  | ind n ih =>
    have hdig : ∀ k, k < 10 → isDg (UInt8.ofNat (48 + k)) = true := by decide
    rw [dec_step]
    split
    · rename_i h
      rw [List.all_cons, hdig n h]
      rfl
    · rename_i h
      rw [List.all_append, ih (n / 10) (by omega), List.all_cons, hdig (n % 10) (by omega)]
      rfl
theorem dec_num (n : Nat) : numL (Lib.decDigits n) = n := by
  induction n using Nat.strongRecOn with
  | ind n ih =>
    have hdig : ∀ k, k < 10 → (UInt8.ofNat (48 + k)).toNat - 48 = k := by decide
    rw [dec_step]
    split
    · rename_i h
      simp only [numL, List.foldl_cons, List.foldl_nil]
      rw [hdig n h]
      omega
    · rename_i h
      have e := ih (n / 10) (by omega)
      unfold numL at e ⊢
      rw [List.foldl_append, e]
      simp only [List.foldl_cons, List.foldl_nil]
      rw [hdig (n % 10) (by omega)]
      omega
theorem dec_ne (n : Nat) : Lib.decDigits n ≠ [] := by
  rw [dec_step]
  split <;> simp
theorem decd_len : ∀ (k n : Nat), n < 10 ^ (k + 1) → (Lib.decDigits n).length ≤ k + 1
  | 0, n, h => by rw [dec_step, if_pos (by simpa using h)]; simp
  | k + 1, n, h => by
    rw [dec_step]
    split
    · simp
    · rw [List.length_append]
      have : n / 10 < 10 ^ (k + 1) := by rw [Nat.div_lt_iff_lt_mul (by decide)]; rw [Nat.pow_succ] at h; exact h
      have := decd_len k (n / 10) this
      simp; omega
theorem dec_three {n : Nat} (h0 : 200 ≤ n) (h1 : n ≤ 599) : (Lib.decDigits n).length = 3 := by
  rw [dec_step, if_neg (by omega), dec_step, if_neg (by omega), dec_step, if_pos (by omega)]
  rfl
theorem itoa_nat (n : Nat) : Lib.itoa (n : Int) = Lib.decDigits n := Lib.itoa_nonneg n
theorem atoi_dec {n : Nat} (h : n < 1000000000000) : Lib.atoiAll (Lib.decDigits n) = .ok (n : Int) := by
  have hd := dec_dg n
  have hn := dec_num n
  cases hl : Lib.decDigits n with
  | nil => exact absurd hl (dec_ne n)
  | cons c r =>
    rw [hl] at hd hn
    have hc : 48 ≤ c.toNat ∧ c.toNat ≤ 57 := by
      rw [List.all_cons, Bool.and_eq_true] at hd
      simpa [isDg] using hd.1
    have hp : Lib.parseMag (c :: r) = .ok n := by
      unfold Lib.parseMag
      rw [if_neg (by simp), parse_num _ _ hd (by show numL (c :: r) < _; omega)]
      show Lib.NumEnd.ok (numL (c :: r)) = _
      rw [hn]
    have e43 : ¬ c.toNat = 43 := by omega
    have e45 : ¬ c.toNat = 45 := by omega
    simp only [Lib.atoiAll, e43, e45, false_or, if_false, hp]
    rw [if_neg (by omega)]
    simp
theorem numO_dec {n : Nat} (h : n < 1000000000000) : numO (Lib.decDigits n) = n := by
  unfold numO
  rw [atoi_dec h]
theorem digY_dec {n : Nat} (h : n < 100000000) : digY (Lib.decDigits n) = n := by
  unfold digY
  have h1 : 1 ≤ (Lib.decDigits n).length := by
    have := List.length_pos_iff.2 (dec_ne n)
    omega
  rw [if_pos ⟨dec_dg n, h1, decd_len 7 n h⟩, dec_num]

/-! ### Bytes that a text has not -/
theorem brk_dec (n : Nat) : brk (Lib.decDigits n) = false := brk_all (by decide) (by decide) (dec_dg n)
theorem dec_not32 (n : Nat) : (32 : UInt8) ∉ Lib.decDigits n := by
  intro h
  have := List.all_eq_true.1 (dec_dg n) _ h
  exact absurd this (by decide)
theorem reason_mem {n : Int} : ∀ {l : List (Int × List UInt8)} {w : List UInt8}, findR n l = some w → ∃ p ∈ l, p.2 = w
  | [], w, h => by cases h
  | p :: l, w, h => by
    unfold findR at h
    split at h
    · injection h with h
      exact ⟨p, by simp, h⟩
    · obtain ⟨q, hq, e⟩ := reason_mem h
      exact ⟨q, by simp [hq], e⟩
theorem brk_reason (n : Int) : brk (reasonO n) = false := by
  unfold reasonO
  cases h : reasonL n with
  | none => decide
  | some w =>
    obtain ⟨p, hp, e⟩ := reason_mem h
    have hall : ∀ p ∈ reasonT, brk p.2 = false := by decide
    rw [← e]
    exact hall p hp
theorem reason_len (n : Int) : (reasonO n).length ≤ 31 := by
  unfold reasonO
  cases h : reasonL n with
  | none => decide
  | some w =>
    obtain ⟨p, hp, e⟩ := reason_mem h
    have hall : ∀ p ∈ reasonT, p.2.length ≤ 31 := by decide
    rw [← e]
    exact hall p hp
theorem brk_cons (a : UInt8) (l : List UInt8) : brk (a :: l) = (brkB a || brk l) := by simp [brk]
theorem brk_line (n : Nat) : brk (lineY n) = false := by
  unfold lineY
  rw [brk_app, brk_cons, brk_app, brk_cons, itoa_nat, brk_dec, brk_reason]
  decide
theorem brk_cl (n : Nat) : brk (clY n) = false := by
  unfold clY
  rw [brk_app, brk_cons, brk_cons, itoa_nat, brk_dec]
  decide
theorem brk_cn (c : Bool) : brk (cnY c) = false := by
  cases c <;> decide
theorem isNy_ok : ∀ b : UInt8, isNy b = true ↔ isNm b = true ∧ smB b = b := by
  intro b
  by_cases hl : isLg b = true
  · have hsm : ¬ smB b = b := by
      intro e
      have h1 : (smB b).toNat = b.toNat + 32 := by rw [smB, if_pos hl]; exact sm_of hl
      rw [e] at h1
      omega
    have hn : isNy b = false := by
      have h2 : 65 ≤ b.toNat ∧ b.toNat ≤ 90 := by simpa [isLg] using hl
      have hs : isSm b = false := by simp [isSm]; omega
      have hdg : isDg b = false := by simp [isDg]; omega
      have hsig : signs.contains b = false := by
        have key : ∀ c ∈ signs, ¬ (65 ≤ c.toNat ∧ c.toNat ≤ 90) := by decide
        cases hc : signs.contains b with
        | false => rfl
        | true => exact absurd h2 (key b (by simpa using hc))
      rw [isNy, hs, hdg, hsig]; rfl
    rw [hn]
    exact ⟨(fun h => by cases h), fun h => absurd h.2 hsm⟩
  · have hf : isLg b = false := by simpa using hl
    have hs : smB b = b := by rw [smB, if_neg hl]
    simp [isNy, isNm, hf, hs]
theorem allNy (l : List UInt8) : l.all isNy = true ↔ l.all isNm = true ∧ small l = l := by
  induction l with
  | nil => simp [small]
  | cons b l ih =>
    simp only [List.all_cons, Bool.and_eq_true, small, List.map_cons, List.cons.injEq] at ih ⊢
    rw [ih, isNy_ok]
    constructor
    · rintro ⟨⟨a, b⟩, c, d⟩; exact ⟨⟨a, c⟩, b, d⟩
    · rintro ⟨⟨a, c⟩, b, d⟩; exact ⟨⟨a, b⟩, c, d⟩
theorem nameY_ok {l : List UInt8} (h : nameY l = true) : l ≠ [] ∧ l ≠ clS ∧ l ≠ cnS ∧ l.all isNy = true := by
  simpa [nameY] using h
theorem nameY_58 {l : List UInt8} (h : nameY l = true) : (58 : UInt8) ∉ l := by
  intro hm
  have := List.all_eq_true.1 (nameY_ok h).2.2.2 _ hm
  exact absurd this (by decide)
theorem brk_name {l : List UInt8} (h : nameY l = true) : brk l = false := brk_all (by decide) (by decide) (nameY_ok h).2.2.2
theorem brk_value {l : List UInt8} (h : valueY l = true) : brk l = false := by
  unfold valueY at h
  rw [Bool.and_eq_true] at h
  exact brk_all (by decide) (by decide) h.2
theorem brk_rawY {p : PairL} (h : fieldY p = true) : brk (rawOf p) = false := by
  unfold fieldY at h
  rw [Bool.and_eq_true] at h
  unfold rawOf
  rw [brk_app, brk_cons, brk_cons, brk_name h.1, brk_value h.2]
  decide

/-! ### There and back: the code's guess -/
theorem joinE_cons (a : List UInt8) (l : List (List UInt8)) : joinE (a :: l) = a ++ 13 :: 10 :: joinE l := by
  simp [joinE]
theorem cl_cut (n : Nat) : cutS (clY n) = (clS, Lib.itoa (n : Int), true) := cutS_app _ (by decide)
theorem fields_back : ∀ (ps : List PairL) (f n : Nat) (z : List UInt8), ps.all fieldY = true → ps.length ≤ f → fieldsY f (joinE (ps.map rawOf) ++ (clY n ++ 13 :: 10 :: z)) = (ps, clY n ++ 13 :: 10 :: z)
  | [], 0, n, z, _, _ => rfl
  | [], f + 1, n, z, _, _ => by
    show fieldsY (f + 1) (clY n ++ 13 :: 10 :: z) = _
    rw [fieldsY, cutE_app z (brk_cl n)]
    simp only
    rw [cl_cut, if_pos (Or.inr rfl)]
  | p :: ps, 0, n, z, _, h => by simp at h
  | p :: ps, f + 1, n, z, h, hl => by
    rw [List.all_cons, Bool.and_eq_true] at h
    have hn : nameY p.1 = true := by
      have := h.1
      unfold fieldY at this
      rw [Bool.and_eq_true] at this
      exact this.1
    rw [List.map_cons, joinE_cons, List.append_assoc, List.cons_append, List.cons_append, fieldsY, cutE_app _ (brk_rawY h.1)]
    simp only
    have e : cutS (rawOf p) = (p.1, p.2, true) := cutS_app _ (nameY_58 hn)
    rw [e, if_neg (fun hh => by rcases hh with hh | hh; · cases hh
                                · exact (nameY_ok hn).2.1 hh)]
    rw [fields_back ps f n z h.2 (by simpa using hl)]
theorem mayY_ok {r : RespL} (h : mayY r = true) : (200 ≤ r.1 ∧ r.1 ≤ 599 ∧ r.2.1.length ≤ 32 ∧ r.2.2.1.length ≤ 1048576) ∧ r.2.1.all fieldY = true := by
  unfold mayY sizeY at h
  rw [Bool.and_eq_true, decide_eq_true_eq] at h
  exact h
theorem trimP (a b : List UInt8) : Lib.trimPrefix (a ++ b) a = b := by
  unfold Lib.trimPrefix Lib.hasPrefix
  rw [if_pos (by simp)]
  simp
theorem wordY_iff (c : Bool) : decide (cnY c = cnY true) = c := by cases c <;> decide
theorem guess_back {r : RespL} (z : List UInt8) (h : mayY r = true) : guessY (textY r ++ z) = r := by
  obtain ⟨⟨h1, h2, h3, h4⟩, h5⟩ := mayY_ok h
  obtain ⟨st, ps, body, cl⟩ := r
  simp only at h1 h2 h3 h4 h5
  obtain ⟨n, rfl⟩ : ∃ n : Nat, st = n := ⟨st.toNat, by omega⟩
  have e1 : textY ((n : Int), ps, body, cl) ++ z = lineY n ++ 13 :: 10 :: (joinE (ps.map rawOf) ++ (clY body.length ++ 13 :: 10 :: (cnY cl ++ 13 :: 10 :: (13 :: 10 :: (body ++ z))))) := by
    simp [textY, tailY]
  have e2 : statusY (lineY n) = n := by
    unfold statusY lineY
    rw [cutC_app _ (by decide : (32 : UInt8) ∉ v11)]
    simp only
    rw [itoa_nat, cutC_app _ (dec_not32 n)]
    exact numO_dec (by omega)
  have e3 : bodyY (clY body.length) (body ++ z) = body := by
    unfold bodyY
    have : clY body.length = (clS ++ [58, 32]) ++ Lib.decDigits body.length := by simp [clY, itoa_nat]
    rw [this, trimP, atoi_dec (by omega)]
    simp only
    rw [if_neg (by simp; omega)]
    simp
  rw [e1]
  unfold guessY
  rw [cutE_app _ (brk_line n)]
  simp only
  rw [fields_back ps 32 body.length _ h5 h3]
  simp only
  rw [cutE_app _ (brk_cl _)]
  simp only
  rw [cutE_app _ (brk_cn cl)]
  simp only
  rw [e2, wordY_iff, show (13 :: 10 :: (body ++ z) : List UInt8) = [13, 10] ++ (body ++ z) from rfl, trimP, e3]

/-! ### There and back: the document's guess -/
theorem clS_58 : (58 : UInt8) ∉ clS := by decide
theorem joinE_len2 : ∀ l : List (List UInt8), l.length ≤ (joinE l).length
  | [] => by simp
  | a :: l => by
    have := joinE_len2 l
    rw [joinE_cons]
    simp
    omega
theorem fieldsD_back : ∀ (ps acc : List PairL) (f n m : Nat) (cl : Bool) (body z : List UInt8), ps.all fieldY = true → ps.length < f → body.length < 100000000 →
    fieldsD f (n : Int) acc (joinE (ps.map rawOf) ++ (clY body.length ++ 13 :: 10 :: (cnY cl ++ 13 :: 10 :: (13 :: 10 :: (body ++ z))))) = some ((n : Int), acc ++ ps, body, cl)
  | ps, acc, 0, n, m, cl, body, z, _, h, _ => by omega
  | [], acc, f + 1, n, m, cl, body, z, _, _, hb => by
    show fieldsD (f + 1) (n : Int) acc (clY body.length ++ 13 :: 10 :: (cnY cl ++ 13 :: 10 :: (13 :: 10 :: (body ++ z)))) = _
    have e1 : cutC 58 (clY body.length) = (clS, 32 :: Lib.itoa (body.length : Int), true) := cutC_app _ clS_58
    have e2 : (clY body.length).drop (clS.length + 2) = Lib.decDigits body.length := by
      rw [clY, itoa_nat, show clS ++ 58 :: 32 :: Lib.decDigits body.length = (clS ++ [58, 32]) ++ Lib.decDigits body.length by simp, List.drop_left' (by simp)]
    rw [fieldsD, cutE_app _ (brk_cl _)]
    simp only
    rw [e1]
    simp only
    rw [if_neg (by simp), if_neg (by simp [clY]), if_pos trivial, cutE_app _ (brk_cn cl)]
    simp only
    rw [e2, digY_dec hb, if_neg (by simp; omega), wordY_iff]
    simp
  | p :: ps, acc, f + 1, n, m, cl, body, z, h, hl, hb => by
    rw [List.all_cons, Bool.and_eq_true] at h
    have hn : nameY p.1 = true := by
      have := h.1
      unfold fieldY at this
      rw [Bool.and_eq_true] at this
      exact this.1
    have e1 : cutC 58 (rawOf p) = (p.1, 32 :: p.2, true) := cutC_app _ (nameY_58 hn)
    have e2 : (rawOf p).drop (p.1.length + 2) = p.2 := by
      rw [rawOf, show p.1 ++ 58 :: 32 :: p.2 = (p.1 ++ [58, 32]) ++ p.2 by simp, List.drop_left' (by simp)]
    rw [List.map_cons, joinE_cons, List.append_assoc, List.cons_append, List.cons_append, fieldsD, cutE_app _ (brk_rawY h.1)]
    simp only
    rw [e1]
    simp only
    rw [if_neg (by simp), if_neg (by rw [rawOf_len]; omega), if_neg (nameY_ok hn).2.1, e2, fieldsD_back ps _ f n m cl body z h.2 (by simpa using hl) hb]
    simp
theorem guessD_back {r : RespL} (z : List UInt8) (h : mayY r = true) : guessD (textY r ++ z) = some r := by
  obtain ⟨⟨h1, h2, h3, h4⟩, h5⟩ := mayY_ok h
  obtain ⟨st, ps, body, cl⟩ := r
  simp only at h1 h2 h3 h4 h5
  obtain ⟨n, rfl⟩ : ∃ n : Nat, st = n := ⟨st.toNat, by omega⟩
  have e1 : textY ((n : Int), ps, body, cl) ++ z = lineY n ++ 13 :: 10 :: (joinE (ps.map rawOf) ++ (clY body.length ++ 13 :: 10 :: (cnY cl ++ 13 :: 10 :: (13 :: 10 :: (body ++ z))))) := by
    simp [textY, tailY]
  have h3d := dec_three (n := n) (by omega) (by omega)
  have e2 : ∀ R, lineY n ++ R = verT ++ (Lib.decDigits n ++ (32 :: reasonO n ++ R)) := by
    intro R
    simp [lineY, verT, itoa_nat]
  obtain ⟨R, hR⟩ : ∃ R, R = 13 :: 10 :: (joinE (ps.map rawOf) ++ (clY body.length ++ 13 :: 10 :: (cnY cl ++ 13 :: 10 :: (13 :: 10 :: (body ++ z))))) := ⟨_, rfl⟩
  have e4 : ((lineY n ++ R).drop 9).take 3 = Lib.decDigits n := by
    rw [e2, List.drop_left' (by decide), List.take_left' h3d]
  have e5 : (lineY n ++ R).take 9 = verT := by rw [e2, List.take_left' (by decide)]
  have e6 : 13 ≤ (lineY n ++ R).length := by
    rw [e2]
    have : verT.length = 9 := by decide
    simp [h3d, this]
    omega
  have e7 : ps.length < (lineY n ++ R).length + 1 := by
    have := joinE_len2 (ps.map rawOf)
    rw [List.length_map] at this
    rw [hR]
    simp
    omega
  have e3 := fieldsD_back ps [] ((lineY n ++ R).length + 1) n 0 cl body z h5 e7 (by omega)
  rw [List.nil_append] at e3
  rw [e1, ← hR]
  unfold guessD
  rw [if_neg (fun hh => by rcases hh with hh | hh; · omega
                           · exact hh e5), e4, digY_dec (by omega)]
  have e8 : cutE (lineY n ++ R) = (lineY n, joinE (ps.map rawOf) ++ (clY body.length ++ 13 :: 10 :: (cnY cl ++ 13 :: 10 :: (13 :: 10 :: (body ++ z)))), true) := by
    rw [hR]
    exact cutE_app _ (brk_line n)
  rw [e8]
  simp only
  rw [if_neg (by simp)]
  exact e3

/-! ### Both tell the same -/
theorem prefix_split {t s : List UInt8} (h : t.isPrefixOf s = true) : ∃ z, s = t ++ z := by
  obtain ⟨z, rfl⟩ := List.isPrefixOf_iff_prefix.1 h
  exact ⟨z, rfl⟩
theorem tellY_yes {s : List UInt8} {r : RespL} (h : mayY r = true) (hp : (textY r).isPrefixOf s = true) : tellY s (some r) = (r, (textY r).length, 0) := by
  rw [tellY, if_pos ⟨h, hp⟩]
theorem tellY_no {s : List UInt8} {r : RespL} (h : ¬ (mayY r = true ∧ (textY r).isPrefixOf s = true)) : tellY s (some r) = (rzY, 0, 90) := by
  rw [tellY, if_neg h]
theorem doc_par (s : List UInt8) : tellY s (guessD s) = parY s := by
  unfold parY
  by_cases h : mayY (guessY s) = true ∧ (textY (guessY s)).isPrefixOf s = true
  · obtain ⟨z, hz⟩ := prefix_split h.2
    have := guessD_back z h.1
    rw [← hz] at this
    rw [this]
  · rw [tellY_no h]
    cases hd : guessD s with
    | none => rfl
    | some r =>
      refine tellY_no (fun hh => h ?_)
      obtain ⟨z, hz⟩ := prefix_split hh.2
      have := guess_back z hh.1
      rw [← hz] at this
      rw [this]
      exact hh
theorem par_back {r : RespL} (z : List UInt8) (h : mayY r = true) : parY (textY r ++ z) = (r, (textY r).length, 0) := by
  unfold parY
  rw [guess_back z h, tellY_yes h (by simp)]
theorem cutE_few (s : List UInt8) : (cutE s).2.1.length ≤ s.length := (cutE_len2 s).2
theorem fieldsY_few : ∀ (f : Nat) (s : List UInt8), (fieldsY f s).1.length ≤ f ∧ (fieldsY f s).2.length ≤ s.length ∧ ∀ p ∈ (fieldsY f s).1, p.1.length ≤ s.length ∧ p.2.length ≤ s.length
  | 0, s => ⟨Nat.le_refl _, Nat.le_refl _, fun p hp => by cases hp⟩
  | f + 1, s => by
    rw [fieldsY]
    split
    · exact ⟨by simp, Nat.le_refl _, fun p hp => by cases hp⟩
    · obtain ⟨h1, h2, h3⟩ := fieldsY_few f (cutE s).2.1
      have h4 := cutE_few s
      refine ⟨by simp; omega, by simp only; omega, fun p hp => ?_⟩
      rcases List.mem_cons.1 hp with rfl | hp
      · have a := cutS_len (cutE s).1
        have b := (cutE_len s).1
        simp only
        omega
      · have := h3 p hp
        omega
theorem bodyY_few (line rest : List UInt8) : (bodyY line rest).length ≤ rest.length := by
  unfold bodyY
  split
  · split
    · simp
    · simp; omega
  · simp
theorem trimP_few (a b : List UInt8) : (Lib.trimPrefix a b).length ≤ a.length := by
  unfold Lib.trimPrefix
  split
  · simp
  · exact Nat.le_refl _
theorem guessY_few (s : List UInt8) : (guessY s).2.1.length ≤ 32 ∧ (∀ p ∈ (guessY s).2.1, p.1.length ≤ s.length ∧ p.2.length ≤ s.length) ∧ (guessY s).2.2.1.length ≤ s.length := by
  obtain ⟨h1, h2, h3⟩ := fieldsY_few 32 (cutE s).2.1
  have h4 := cutE_few s
  refine ⟨h1, fun p hp => ?_, ?_⟩
  · have := h3 p hp
    omega
  · refine Nat.le_trans (bodyY_few _ _) (Nat.le_trans (trimP_few _ _) ?_)
    have a := cutE_few (fieldsY 32 (cutE s).2.1).2
    have b := cutE_few (cutE (fieldsY 32 (cutE s).2.1).2).2.1
    omega
end Go.Proofs.YtgkipeehmckbdaaDoor
