/-
  Parts of a text between separators, forms and what they print.
-/

namespace Go.Proofs.YtllhibdjopfcnaaGreatDoor
set_option linter.unusedVariables false

/-- The number of a hexadecimal digit; -1: none. -/
def hexD (b : UInt8) : Int :=
  if 48 ≤ b.toNat ∧ b.toNat ≤ 57 then (b.toNat : Int) - 48 else if 65 ≤ b.toNat ∧ b.toNat ≤ 70 then (b.toNat : Int) - 55 else if 97 ≤ b.toNat ∧ b.toNat ≤ 102 then (b.toNat : Int) - 87 else -1
theorem hexD_range (b : UInt8) : -1 ≤ hexD b ∧ hexD b < 16 := by
  unfold hexD
  split
  · omega
  · split
    · omega
    · split <;> omega
def signB (h l : UInt8) : UInt8 := UInt8.ofNat (16 * (hexD h).toNat + (hexD l).toNat)
def plusB (plus : Bool) (b : UInt8) : UInt8 := if plus = true ∧ b = 43 then 32 else b

/-- A text without its percent signs, as far as they are right; the place of the first that is wrong. -/
def dec (plus : Bool) : List UInt8 → List UInt8 × Option Nat
  | [] => ([], none)
  | [b] => if b = 37 then ([], some 0) else ([plusB plus b], none)
  | [b, h] => if b = 37 then ([], some 0) else (plusB plus b :: (dec plus [h]).1, (dec plus [h]).2.map (· + 1))
  | b :: h :: l :: r =>
    if b = 37 then (if 0 ≤ hexD h ∧ 0 ≤ hexD l then (signB h l :: (dec plus r).1, (dec plus r).2.map (· + 3)) else ([], some 0))
    else (plusB plus b :: (dec plus (h :: l :: r)).1, (dec plus (h :: l :: r)).2.map (· + 1))

theorem dec_nil (plus : Bool) : dec plus [] = ([], none) := by rw [dec]
theorem dec_plain (plus : Bool) {b : UInt8} (r : List UInt8) (h : b ≠ 37) : dec plus (b :: r) = (plusB plus b :: (dec plus r).1, (dec plus r).2.map (· + 1)) := by
  match r with
  | [] => simp [dec, h]
  | [x] => simp [dec, h]
  | x :: y :: r => simp [dec, h]
theorem dec_short0 (plus : Bool) : dec plus [37] = ([], some 0) := by rw [dec, if_pos rfl]
theorem dec_short1 (plus : Bool) (h : UInt8) : dec plus [37, h] = ([], some 0) := by rw [dec, if_pos rfl]
theorem dec_sign (plus : Bool) {h l : UInt8} (r : List UInt8) (hh : 0 ≤ hexD h) (hl : 0 ≤ hexD l) : dec plus (37 :: h :: l :: r) = (signB h l :: (dec plus r).1, (dec plus r).2.map (· + 3)) := by
  rw [dec, if_pos rfl, if_pos ⟨hh, hl⟩]
theorem dec_wrong (plus : Bool) {h l : UInt8} (r : List UInt8) (hh : ¬ (0 ≤ hexD h ∧ 0 ≤ hexD l)) : dec plus (37 :: h :: l :: r) = ([], some 0) := by
  rw [dec, if_pos rfl, if_neg hh]

theorem byte_ne {b : UInt8} {n : Nat} (h : b.toNat ≠ n) (hn : n < 256) : b ≠ UInt8.ofNat n := by
  intro e
  apply h
  rw [e, UInt8.toNat_ofNat']
  exact Nat.mod_eq_of_lt hn
theorem byte_eq {b : UInt8} {n : Nat} (h : b.toNat = n) : b = UInt8.ofNat n := by
  rw [← h]; simp

/-- What a strong walk over a text needs: by the length. -/
theorem len_ind {p : List UInt8 → Prop} (h : ∀ l, (∀ m : List UInt8, m.length < l.length → p m) → p l) : ∀ l, p l := by
  have key : ∀ (n : Nat) (l : List UInt8), l.length < n → p l := by
    intro n
    induction n with
    | zero => intro l hl; omega
    | succ n ih => intro l hl; exact h l (fun m hm => ih m (by omega))
  intro l
  exact key (l.length + 1) l (by omega)

/-- A byte that is no digit and no percent sign parts a text. -/
theorem dec_app (plus : Bool) (c : UInt8) (hc : c ≠ 37) (hd : hexD c = -1) (r : List UInt8) : ∀ l : List UInt8,
    ((dec plus l).2 = none → dec plus (l ++ c :: r) = ((dec plus l).1 ++ plusB plus c :: (dec plus r).1, (dec plus r).2.map (· + (l.length + 1)))) ∧
    (∀ p, (dec plus l).2 = some p → (dec plus (l ++ c :: r)).2 = some p) := by
  refine len_ind ?_
  intro l ih
  match l with
  | [] =>
    refine ⟨fun _ => ?_, fun p hp => ?_⟩
    · rw [dec_nil, List.nil_append, dec_plain plus r hc]; simp
    · rw [dec_nil] at hp; cases hp
  | b :: t =>
    by_cases hb : b = 37
    · subst hb
      match t with
      | [] =>
        rw [dec_short0]
        refine ⟨fun h => (by cases h), fun p hp => ?_⟩
        match r with
        | [] => rw [show [37] ++ [c] = [37, c] from rfl, dec_short1]; exact hp
        | x :: r => rw [show [37] ++ c :: x :: r = 37 :: c :: x :: r from rfl, dec_wrong plus _ (by rw [hd]; omega)]; exact hp
      | [h] =>
        rw [dec_short1]
        refine ⟨fun h => (by cases h), fun p hp => ?_⟩
        rw [show [37, h] ++ c :: r = 37 :: h :: c :: r from rfl, dec_wrong plus _ (by rw [hd]; omega)]; exact hp
      | h :: l :: t =>
        by_cases hx : 0 ≤ hexD h ∧ 0 ≤ hexD l
        · obtain ⟨i1, i2⟩ := ih t (by simp; omega)
          rw [dec_sign plus _ hx.1 hx.2, show (37 :: h :: l :: t) ++ c :: r = 37 :: h :: l :: (t ++ c :: r) from rfl, dec_sign plus _ hx.1 hx.2]
          refine ⟨fun hn => ?_, fun p hp => ?_⟩
          · have hn' : (dec plus t).2 = none := by simpa using hn
            rw [i1 hn']
            simp only [List.cons_append, Option.map_map, List.length_cons, Prod.mk.injEq, true_and]
            rfl
          · have : ∃ q, (dec plus t).2 = some q ∧ q + 3 = p := by simpa using hp
            obtain ⟨q, hq, rfl⟩ := this
            simp [i2 q hq]
        · rw [dec_wrong plus _ hx, show (37 :: h :: l :: t) ++ c :: r = 37 :: h :: l :: (t ++ c :: r) from rfl, dec_wrong plus _ hx]
          exact ⟨fun h => (by cases h), fun p hp => hp⟩
    · obtain ⟨i1, i2⟩ := ih t (by simp)
      rw [dec_plain plus _ hb, List.cons_append, dec_plain plus _ hb]
      refine ⟨fun hn => ?_, fun p hp => ?_⟩
      · have hn' : (dec plus t).2 = none := by simpa using hn
        rw [i1 hn']
        simp only [List.cons_append, Option.map_map, List.length_cons, Prod.mk.injEq, true_and]
        rfl
      · have : ∃ q, (dec plus t).2 = some q ∧ q + 1 = p := by simpa using hp
        obtain ⟨q, hq, rfl⟩ := this
        simp [i2 q hq]

theorem dec_len (plus : Bool) : ∀ l : List UInt8, (dec plus l).1.length ≤ l.length := by
  refine len_ind ?_
  intro l ih
  match l with
  | [] => rw [dec_nil]; simp
  | b :: t =>
    by_cases hb : b = 37
    · subst hb
      match t with
      | [] => rw [dec_short0]; simp
      | [h] => rw [dec_short1]; simp
      | h :: l :: t =>
        by_cases hx : 0 ≤ hexD h ∧ 0 ≤ hexD l
        · have := ih t (by simp; omega)
          rw [dec_sign plus _ hx.1 hx.2]; simp; omega
        · rw [dec_wrong plus _ hx]; simp
    · have := ih t (by simp)
      rw [dec_plain plus _ hb]; simp; omega
theorem dec_place (plus : Bool) : ∀ (l : List UInt8) (p : Nat), (dec plus l).2 = some p → p < l.length := by
  refine len_ind ?_
  intro l ih p hp
  match l with
  | [] => rw [dec_nil] at hp; cases hp
  | b :: t =>
    by_cases hb : b = 37
    · subst hb
      match t with
      | [] => rw [dec_short0] at hp; cases hp; simp
      | [h] => rw [dec_short1] at hp; cases hp; simp
      | h :: l :: t =>
        by_cases hx : 0 ≤ hexD h ∧ 0 ≤ hexD l
        · rw [dec_sign plus _ hx.1 hx.2] at hp
          have : ∃ q, (dec plus t).2 = some q ∧ q + 3 = p := by simpa using hp
          obtain ⟨q, hq, rfl⟩ := this
          have := ih t (by simp; omega) q hq
          simp; omega
        · rw [dec_wrong plus _ hx] at hp; cases hp; simp
    · rw [dec_plain plus _ hb] at hp
      have : ∃ q, (dec plus t).2 = some q ∧ q + 1 = p := by simpa using hp
      obtain ⟨q, hq, rfl⟩ := this
      have := ih t (by simp) q hq
      simp; omega
/-- Where signs are wrong does not hang on plus. -/
theorem dec_any (p q : Bool) : ∀ l : List UInt8, (dec p l).2 = (dec q l).2 := by
  refine len_ind ?_
  intro l ih
  match l with
  | [] => rw [dec_nil, dec_nil]
  | b :: t =>
    by_cases hb : b = 37
    · subst hb
      match t with
      | [] => rw [dec_short0, dec_short0]
      | [h] => rw [dec_short1, dec_short1]
      | h :: l :: t =>
        by_cases hx : 0 ≤ hexD h ∧ 0 ≤ hexD l
        · rw [dec_sign p _ hx.1 hx.2, dec_sign q _ hx.1 hx.2, ih t (by simp; omega)]
        · rw [dec_wrong p _ hx, dec_wrong q _ hx]
    · rw [dec_plain p _ hb, dec_plain q _ hb, ih t (by simp)]

/-! ### Encode -/
def hexU (n : Nat) : UInt8 := if n < 10 then UInt8.ofNat (48 + n) else UInt8.ofNat (55 + n)
def plainB (b : UInt8) : Bool := decide ((48 ≤ b.toNat ∧ b.toNat ≤ 57) ∨ (65 ≤ b.toNat ∧ b.toNat ≤ 90) ∨ (97 ≤ b.toNat ∧ b.toNat ≤ 122) ∨ b.toNat = 45 ∨ b.toNat = 46 ∨ b.toNat = 95 ∨ b.toNat = 126)
def enc1 (b : UInt8) : List UInt8 := if plainB b = true then [b] else [37, hexU (b.toNat / 16), hexU (b.toNat % 16)]
def enc : List UInt8 → List UInt8
  | [] => []
  | b :: r => enc1 b ++ enc r
theorem enc_append (a b : List UInt8) : enc (a ++ b) = enc a ++ enc b := by
  induction a with
  | nil => rfl
  | cons x a ih => simp [enc, ih]
theorem enc1_len (b : UInt8) : 1 ≤ (enc1 b).length ∧ (enc1 b).length ≤ 3 := by
  unfold enc1; split <;> simp
theorem enc_len (l : List UInt8) : (enc l).length ≤ 3 * l.length := by
  induction l with
  | nil => simp [enc]
  | cons b r ih => have := enc1_len b; simp [enc]; omega
theorem hexU_nat {n : Nat} (h : n < 16) : (hexU n).toNat = if n < 10 then 48 + n else 55 + n := by
  unfold hexU
  split
  · rw [UInt8.toNat_ofNat']; exact Nat.mod_eq_of_lt (by omega)
  · rw [UInt8.toNat_ofNat']; exact Nat.mod_eq_of_lt (by omega)
theorem hexD_hexU {n : Nat} (h : n < 16) : hexD (hexU n) = n := by
  unfold hexD
  rw [hexU_nat h]
  by_cases h1 : n < 10
  · rw [if_pos h1, if_pos (by omega)]; omega
  · rw [if_neg h1, if_neg (by omega), if_pos (by omega)]; omega
theorem signB_hexU (b : UInt8) : signB (hexU (b.toNat / 16)) (hexU (b.toNat % 16)) = b := by
  have hb := b.toNat_lt
  unfold signB
  rw [hexD_hexU (by omega), hexD_hexU (by omega)]
  rw [show 16 * ((b.toNat / 16 : Nat) : Int).toNat + ((b.toNat % 16 : Nat) : Int).toNat = b.toNat by omega]
  simp
theorem plainB_not {b : UInt8} (h : plainB b = true) : b.toNat ≠ 37 ∧ b.toNat ≠ 43 ∧ b.toNat ≠ 38 ∧ b.toNat ≠ 61 ∧ b.toNat ≠ 63 ∧ b.toNat ≠ 35 ∧ 33 ≤ b.toNat ∧ b.toNat ≤ 126 := by
  unfold plainB at h
  have := of_decide_eq_true h
  omega
theorem dec_enc1 (plus : Bool) (b : UInt8) (r : List UInt8) : (dec plus (enc1 b ++ r)).1 = b :: (dec plus r).1 ∧ ((dec plus r).2 = none → (dec plus (enc1 b ++ r)).2 = none) := by
  unfold enc1
  split
  · rename_i h
    have := plainB_not h
    have h37 : b ≠ 37 := fun e => this.1 (by rw [e]; rfl)
    have h43 : b ≠ 43 := fun e => this.2.1 (by rw [e]; rfl)
    rw [List.singleton_append, dec_plain plus r h37]
    refine ⟨?_, fun hn => by simp [hn]⟩
    simp [plusB, h43]
  · have hb := b.toNat_lt
    rw [show [37, hexU (b.toNat / 16), hexU (b.toNat % 16)] ++ r = 37 :: hexU (b.toNat / 16) :: hexU (b.toNat % 16) :: r from rfl]
    rw [dec_sign plus r (by rw [hexD_hexU (by omega)]; omega) (by rw [hexD_hexU (by omega)]; omega), signB_hexU]
    exact ⟨rfl, fun hn => by simp [hn]⟩
theorem dec_enc (plus : Bool) (l : List UInt8) : dec plus (enc l) = (l, none) := by
  induction l with
  | nil => exact dec_nil plus
  | cons b r ih =>
    have h := dec_enc1 plus b (enc r)
    rw [ih] at h
    show dec plus (enc1 b ++ enc r) = _
    exact Prod.ext h.1 (h.2 rfl)
/-- What Encode writes. -/
def encOk (c : UInt8) : Prop := 33 ≤ c.toNat ∧ c.toNat ≤ 126 ∧ c.toNat ≠ 38 ∧ c.toNat ≠ 61 ∧ c.toNat ≠ 63 ∧ c.toNat ≠ 35 ∧ c.toNat ≠ 43
theorem enc1_ok (b : UInt8) : ∀ c ∈ enc1 b, encOk c := by
  intro c hc
  unfold enc1 at hc
  split at hc
  · rename_i h
    have := plainB_not h
    have : c = b := by simpa using hc
    subst this
    unfold encOk
    omega
  · have hb := b.toNat_lt
    have : c = 37 ∨ c = hexU (b.toNat / 16) ∨ c = hexU (b.toNat % 16) := by simpa using hc
    rcases this with rfl | rfl | rfl
    · unfold encOk; decide
    · unfold encOk; rw [hexU_nat (by omega)]; split <;> omega
    · unfold encOk; rw [hexU_nat (by omega)]; split <;> omega
theorem enc_ok (l : List UInt8) : ∀ c ∈ enc l, encOk c := by
  induction l with
  | nil => intro c hc; cases hc
  | cons b r ih =>
    intro c hc
    rcases List.mem_append.1 (show c ∈ enc1 b ++ enc r from hc) with h | h
    · exact enc1_ok b c h
    · exact ih c h

end Go.Proofs.YtllhibdjopfcnaaGreatDoor

namespace Go.Proofs.YtllhibdjopfcnaaGreatDoor
set_option linter.unusedVariables false

/-- A text around the first c. -/
def cutC (c : UInt8) : List UInt8 → List UInt8 × List UInt8 × Bool
  | [] => ([], [], false)
  | b :: r => if b = c then ([], r, true) else (b :: (cutC c r).1, (cutC c r).2.1, (cutC c r).2.2)
def splitC (c : UInt8) : List UInt8 → List (List UInt8)
  | [] => [[]]
  | b :: r => if b = c then [] :: splitC c r else (b :: (splitC c r).headD []) :: (splitC c r).tail

theorem splitC_ne (c : UInt8) (l : List UInt8) : splitC c l ≠ [] := by
  cases l with
  | nil => simp [splitC]
  | cons b r => unfold splitC; split <;> simp
theorem splitC_cut (c : UInt8) : ∀ l : List UInt8, splitC c l = (cutC c l).1 :: (if (cutC c l).2.2 = true then splitC c (cutC c l).2.1 else [])
  | [] => by simp [splitC, cutC]
  | b :: r => by
    have ih := splitC_cut c r
    by_cases hb : b = c
    · rw [splitC, cutC, if_pos hb, if_pos hb]; simp
    · rw [splitC, cutC, if_neg hb, if_neg hb]
      show (b :: (splitC c r).headD []) :: (splitC c r).tail = (b :: (cutC c r).1) :: (if (cutC c r).2.2 = true then splitC c (cutC c r).2.1 else [])
      rw [ih]
      rfl
theorem cutC_none {c : UInt8} : ∀ {l : List UInt8}, c ∉ l → cutC c l = (l, [], false)
  | [], _ => rfl
  | b :: r, h => by
    have hb : ¬ b = c := fun e => h (by rw [e]; simp)
    have hr : c ∉ r := fun e => h (by simp [e])
    rw [cutC, if_neg hb, cutC_none hr]
theorem cutC_app {c : UInt8} : ∀ {l : List UInt8} (r : List UInt8), c ∉ l → cutC c (l ++ c :: r) = (l, r, true)
  | [], r, _ => by simp [cutC]
  | b :: l, r, h => by
    have hb : ¬ b = c := fun e => h (by rw [e]; simp)
    have hr : c ∉ l := fun e => h (by simp [e])
    rw [List.cons_append, cutC, if_neg hb, cutC_app r hr]
/-- Either c is not there, or the text is what stands ahead, c, and what stands behind. -/
theorem cutC_spec (c : UInt8) : ∀ l : List UInt8, (c ∉ l ∧ cutC c l = (l, [], false)) ∨ ∃ a b, l = a ++ c :: b ∧ c ∉ a ∧ cutC c l = (a, b, true)
  | [] => Or.inl ⟨by simp, rfl⟩
  | x :: r => by
    by_cases hx : x = c
    · subst hx
      exact Or.inr ⟨[], r, rfl, by simp, by simp [cutC]⟩
    · rcases cutC_spec c r with ⟨h1, h2⟩ | ⟨a, b, rfl, h2, h3⟩
      · have : c ∉ x :: r := by simp [h1]; exact fun e => hx e.symm
        exact Or.inl ⟨this, cutC_none this⟩
      · refine Or.inr ⟨x :: a, b, rfl, by simp [h2]; exact fun e => hx e.symm, ?_⟩
        rw [cutC, if_neg hx, h3]
theorem splitC_none {c : UInt8} {l : List UInt8} (h : c ∉ l) : splitC c l = [l] := by
  rw [splitC_cut, cutC_none h]; simp
theorem splitC_app {c : UInt8} {l : List UInt8} (r : List UInt8) (h : c ∉ l) : splitC c (l ++ c :: r) = l :: splitC c r := by
  rw [splitC_cut, cutC_app r h]; simp

abbrev PairL := List UInt8 × List UInt8
/-- The pair of a part. -/
def pairP (p : List UInt8) : PairL := ((dec true (cutC 61 p).1).1, (dec true (cutC 61 p).2.1).1)
def pairsOf (ps : List (List UInt8)) : List PairL := (ps.filter (fun p => !p.isEmpty)).map pairP
/-- The pairs of a form whose signs are right. -/
def formL (l : List UInt8) : List PairL := pairsOf (splitC 38 l)
theorem pairsOf_nil : pairsOf [] = [] := rfl
theorem pairsOf_cons (p : List UInt8) (ps : List (List UInt8)) : pairsOf (p :: ps) = (if p = [] then [] else [pairP p]) ++ pairsOf ps := by
  cases p with
  | nil => simp [pairsOf]
  | cons b r => simp [pairsOf]
theorem formL_nil : formL [] = [] := by simp [formL, splitC, pairsOf]
theorem formL_cut (l : List UInt8) : formL l = (if (cutC 38 l).1 = [] then [] else [pairP (cutC 38 l).1]) ++ (if (cutC 38 l).2.2 = true then formL (cutC 38 l).2.1 else []) := by
  unfold formL
  rw [splitC_cut, pairsOf_cons]
  congr 1
  split <;> rfl
theorem formL_app {l : List UInt8} (r : List UInt8) (h : 38 ∉ l) : formL (l ++ 38 :: r) = (if l = [] then [] else [pairP l]) ++ formL r := by
  rw [formL_cut, cutC_app r h]; simp
theorem formL_one {l : List UInt8} (h : 38 ∉ l) : formL l = if l = [] then [] else [pairP l] := by
  rw [formL_cut, cutC_none h]; simp

theorem hexD_amp : hexD 38 = -1 := by decide
theorem hexD_eq : hexD 61 = -1 := by decide

/-- Where a part's signs are wrong. -/
theorem dec_part_none {p : List UInt8} (h : (dec true p).2 = none) : (dec true (cutC 61 p).1).2 = none ∧ (dec true (cutC 61 p).2.1).2 = none := by
  rcases cutC_spec 61 p with ⟨_, h2⟩ | ⟨a, b, rfl, h2, h3⟩
  · rw [h2]; exact ⟨h, by rw [dec_nil]⟩
  · rw [h3]
    have k := dec_app true 61 (by decide) hexD_eq b a
    cases ha : (dec true a).2 with
    | none =>
      have := k.1 ha
      rw [this] at h
      exact ⟨rfl, by simpa using h⟩
    | some q => rw [k.2 q ha] at h; cases h

/-! ### Print -/
def printL : List PairL → List UInt8
  | [] => []
  | [p] => enc p.1 ++ 61 :: enc p.2
  | p :: q :: r => (enc p.1 ++ 61 :: enc p.2) ++ 38 :: printL (q :: r)
def one (p : PairL) : List UInt8 := enc p.1 ++ 61 :: enc p.2
theorem one_ne (p : PairL) : one p ≠ [] := by simp [one]
theorem one_amp (p : PairL) : (38 : UInt8) ∉ one p := by
  intro h
  rcases List.mem_append.1 h with h | h
  · exact (enc_ok _ _ h).2.2.1 rfl
  · rcases List.mem_cons.1 h with h | h
    · exact absurd h (by decide)
    · exact (enc_ok _ _ h).2.2.1 rfl
theorem one_eq (p : PairL) : (61 : UInt8) ∉ enc p.1 := fun h => (enc_ok _ _ h).2.2.2.1 rfl
theorem pairP_one (p : PairL) : pairP (one p) = p := by
  unfold pairP one
  rw [cutC_app _ (one_eq p), dec_enc, dec_enc]
theorem dec_one (p : PairL) : (dec true (one p)).2 = none := by
  unfold one
  rw [(dec_app true 61 (by decide) hexD_eq _ _).1 (by rw [dec_enc])]
  simp [dec_enc]
theorem printL_one (p : PairL) : printL [p] = one p := rfl
theorem printL_two (p q : PairL) (r : List PairL) : printL (p :: q :: r) = one p ++ 38 :: printL (q :: r) := rfl
theorem form_print : ∀ l : List PairL, formL (printL l) = l
  | [] => formL_nil
  | [p] => by rw [printL_one, formL_one (one_amp p), if_neg (one_ne p), pairP_one]
  | p :: q :: r => by
    rw [printL_two, formL_app _ (one_amp p), if_neg (one_ne p), pairP_one, form_print (q :: r)]; rfl
theorem dec_print : ∀ l : List PairL, (dec true (printL l)).2 = none
  | [] => by rw [printL, dec_nil]
  | [p] => dec_one p
  | p :: q :: r => by
    rw [printL_two, (dec_app true 38 (by decide) hexD_amp _ _).1 (dec_one p)]
    simp [dec_print (q :: r)]
theorem printL_snoc : ∀ (l : List PairL) (p : PairL), printL (l ++ [p]) = if l = [] then one p else printL l ++ 38 :: one p
  | [], p => rfl
  | [x], p => by simp [printL_one, printL_two]
  | x :: y :: r, p => by
    have ih := printL_snoc (y :: r) p
    rw [if_neg (by simp)] at ih ⊢
    rw [show x :: y :: r ++ [p] = x :: y :: (r ++ [p]) from rfl, printL_two, printL_two, show y :: (r ++ [p]) = y :: r ++ [p] from rfl, ih]
    simp
def bulkL (l : List PairL) : Nat := (l.map fun p => p.1.length + p.2.length + 2).sum
theorem printL_len : ∀ l : List PairL, (printL l).length ≤ 3 * bulkL l
  | [] => by simp [printL]
  | [p] => by
    have h1 := enc_len p.1
    have h2 := enc_len p.2
    simp [printL, bulkL]; omega
  | p :: q :: r => by
    have ih := printL_len (q :: r)
    have h1 := enc_len p.1
    have h2 := enc_len p.2
    rw [printL_two]
    simp only [bulkL, List.map_cons, List.sum_cons, one, List.length_append, List.length_cons] at ih ⊢
    omega
end Go.Proofs.YtllhibdjopfcnaaGreatDoor
