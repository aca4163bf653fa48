/-
  Percent signs, forms, targets: what they are, over lists of bytes.
-/
namespace Go.Proofs.YtllhibdjopfcnaaGreatDoor
set_option linter.unusedVariables false

/-- The number of a hexadecimal digit; -1: none. -/
def hexD (b : UInt8) : Int :=
  if 48 ≤ b.toNat ∧ b.toNat ≤ 57 then (b.toNat : Int) - 48 else if 65 ≤ b.toNat ∧ b.toNat ≤ 70 then (b.toNat : Int) - 55 else if 97 ≤ b.toNat ∧ b.toNat ≤ 102 then (b.toNat : Int) - 87 else -1
theorem hexD_range (b : UInt8) : -1 ≤ hexD b ∧ hexD b < 16 := by
  unfold hexD
  split
  · omega
  · split
    · omega
    · split <;> omega
def signB (h l : UInt8) : UInt8 := UInt8.ofNat (16 * (hexD h).toNat + (hexD l).toNat)
def plusB (plus : Bool) (b : UInt8) : UInt8 := if plus = true ∧ b = 43 then 32 else b

/-- A text without its percent signs, as far as they are right; the place of the first that is wrong. -/
def dec (plus : Bool) : List UInt8 → List UInt8 × Option Nat
  | [] => ([], none)
  | [b] => if b = 37 then ([], some 0) else ([plusB plus b], none)
  | [b, h] => if b = 37 then ([], some 0) else (plusB plus b :: (dec plus [h]).1, (dec plus [h]).2.map (· + 1))
  | b :: h :: l :: r =>
    if b = 37 then (if 0 ≤ hexD h ∧ 0 ≤ hexD l then (signB h l :: (dec plus r).1, (dec plus r).2.map (· + 3)) else ([], some 0))
    else (plusB plus b :: (dec plus (h :: l :: r)).1, (dec plus (h :: l :: r)).2.map (· + 1))

theorem dec_nil (plus : Bool) : dec plus [] = ([], none) := by rw [dec]
theorem dec_plain (plus : Bool) {b : UInt8} (r : List UInt8) (h : b ≠ 37) : dec plus (b :: r) = (plusB plus b :: (dec plus r).1, (dec plus r).2.map (· + 1)) := by
  match r with
  | [] => simp [dec, h]
  | [x] => simp [dec, h]
  | x :: y :: r => simp [dec, h]
theorem dec_short0 (plus : Bool) : dec plus [37] = ([], some 0) := by rw [dec, if_pos rfl]
theorem dec_short1 (plus : Bool) (h : UInt8) : dec plus [37, h] = ([], some 0) := by rw [dec, if_pos rfl]
theorem dec_sign (plus : Bool) {h l : UInt8} (r : List UInt8) (hh : 0 ≤ hexD h) (hl : 0 ≤ hexD l) : dec plus (37 :: h :: l :: r) = (signB h l :: (dec plus r).1, (dec plus r).2.map (· + 3)) := by
  rw [dec, if_pos rfl, if_pos ⟨hh, hl⟩]
theorem dec_wrong (plus : Bool) {h l : UInt8} (r : List UInt8) (hh : ¬ (0 ≤ hexD h ∧ 0 ≤ hexD l)) : dec plus (37 :: h :: l :: r) = ([], some 0) := by
  rw [dec, if_pos rfl, if_neg hh]

theorem byte_ne {b : UInt8} {n : Nat} (h : b.toNat ≠ n) (hn : n < 256) : b ≠ UInt8.ofNat n := by
  intro e
  apply h
  rw [e, UInt8.toNat_ofNat']
  exact Nat.mod_eq_of_lt hn
theorem byte_eq {b : UInt8} {n : Nat} (h : b.toNat = n) : b = UInt8.ofNat n := by
  rw [← h]; simp

/-- What a strong walk over a text needs: by the length. -/
theorem len_ind {p : List UInt8 → Prop} (h : ∀ l, (∀ m : List UInt8, m.length < l.length → p m) → p l) : ∀ l, p l := by
  have key : ∀ (n : Nat) (l : List UInt8), l.length < n → p l := by
    intro n
    induction n with
    | zero => intro l hl; omega
    | succ n ih => intro l hl; exact h l (fun m hm => ih m (by omega))
  intro l
  exact key (l.length + 1) l (by omega)

/-- A byte that is no digit and no percent sign parts a text. -/
theorem dec_app (plus : Bool) (c : UInt8) (hc : c ≠ 37) (hd : hexD c = -1) (r : List UInt8) : ∀ l : List UInt8,
    ((dec plus l).2 = none → dec plus (l ++ c :: r) = ((dec plus l).1 ++ plusB plus c :: (dec plus r).1, (dec plus r).2.map (· + (l.length + 1)))) ∧
    (∀ p, (dec plus l).2 = some p → (dec plus (l ++ c :: r)).2 = some p) := by
  refine len_ind ?_
  intro l ih
  match l with
  | [] =>
    refine ⟨fun _ => ?_, fun p hp => ?_⟩
    · rw [dec_nil, List.nil_append, dec_plain plus r hc]; simp
    · rw [dec_nil] at hp; cases hp
  | b :: t =>
    by_cases hb : b = 37
    · subst hb
      match t with
      | [] =>
        rw [dec_short0]
        refine ⟨fun h => (by cases h), fun p hp => ?_⟩
        match r with
        | [] => rw [show [37] ++ [c] = [37, c] from rfl, dec_short1]; exact hp
        | x :: r => rw [show [37] ++ c :: x :: r = 37 :: c :: x :: r from rfl, dec_wrong plus _ (by rw [hd]; omega)]; exact hp
      | [h] =>
        rw [dec_short1]
        refine ⟨fun h => (by cases h), fun p hp => ?_⟩
        rw [show [37, h] ++ c :: r = 37 :: h :: c :: r from rfl, dec_wrong plus _ (by rw [hd]; omega)]; exact hp
      | h :: l :: t =>
        by_cases hx : 0 ≤ hexD h ∧ 0 ≤ hexD l
        · obtain ⟨i1, i2⟩ := ih t (by simp; omega)
          rw [dec_sign plus _ hx.1 hx.2, show (37 :: h :: l :: t) ++ c :: r = 37 :: h :: l :: (t ++ c :: r) from rfl, dec_sign plus _ hx.1 hx.2]
          refine ⟨fun hn => ?_, fun p hp => ?_⟩
          · have hn' : (dec plus t).2 = none := by simpa using hn
            rw [i1 hn']
            simp only [List.cons_append, Option.map_map, List.length_cons, Prod.mk.injEq, true_and]
            rfl
          · have : ∃ q, (dec plus t).2 = some q ∧ q + 3 = p := by simpa using hp
            obtain ⟨q, hq, rfl⟩ := this
            simp [i2 q hq]
        · rw [dec_wrong plus _ hx, show (37 :: h :: l :: t) ++ c :: r = 37 :: h :: l :: (t ++ c :: r) from rfl, dec_wrong plus _ hx]
          exact ⟨fun h => (by cases h), fun p hp => hp⟩
    · obtain ⟨i1, i2⟩ := ih t (by simp)
      rw [dec_plain plus _ hb, List.cons_append, dec_plain plus _ hb]
      refine ⟨fun hn => ?_, fun p hp => ?_⟩
      · have hn' : (dec plus t).2 = none := by simpa using hn
        rw [i1 hn']
        simp only [List.cons_append, Option.map_map, List.length_cons, Prod.mk.injEq, true_and]
        rfl
      · have : ∃ q, (dec plus t).2 = some q ∧ q + 1 = p := by simpa using hp
        obtain ⟨q, hq, rfl⟩ := this
        simp [i2 q hq]

theorem dec_len (plus : Bool) : ∀ l : List UInt8, (dec plus l).1.length ≤ l.length := by
  refine len_ind ?_
  intro l ih
  match l with
  | [] => rw [dec_nil]; simp
  | b :: t =>
    by_cases hb : b = 37
    · subst hb
      match t with
      | [] => rw [dec_short0]; simp
      | [h] => rw [dec_short1]; simp
      | h :: l :: t =>
        by_cases hx : 0 ≤ hexD h ∧ 0 ≤ hexD l
        · have := ih t (by simp; omega)
          rw [dec_sign plus _ hx.1 hx.2]; simp; omega
        · rw [dec_wrong plus _ hx]; simp
    · have := ih t (by simp)
      rw [dec_plain plus _ hb]; simp; omega
theorem dec_place (plus : Bool) : ∀ (l : List UInt8) (p : Nat), (dec plus l).2 = some p → p < l.length := by
  refine len_ind ?_
  intro l ih p hp
  match l with
  | [] => rw [dec_nil] at hp; cases hp
  | b :: t =>
    by_cases hb : b = 37
    · subst hb
      match t with
      | [] => rw [dec_short0] at hp; cases hp; simp
      | [h] => rw [dec_short1] at hp; cases hp; simp
      | h :: l :: t =>
        by_cases hx : 0 ≤ hexD h ∧ 0 ≤ hexD l
        · rw [dec_sign plus _ hx.1 hx.2] at hp
          have : ∃ q, (dec plus t).2 = some q ∧ q + 3 = p := by simpa using hp
          obtain ⟨q, hq, rfl⟩ := this
          have := ih t (by simp; omega) q hq
          simp; omega
        · rw [dec_wrong plus _ hx] at hp; cases hp; simp
    · rw [dec_plain plus _ hb] at hp
      have : ∃ q, (dec plus t).2 = some q ∧ q + 1 = p := by simpa using hp
      obtain ⟨q, hq, rfl⟩ := this
      have := ih t (by simp) q hq
      simp; omega
/-- Where signs are wrong does not hang on plus. -/
theorem dec_any (p q : Bool) : ∀ l : List UInt8, (dec p l).2 = (dec q l).2 := by
  refine len_ind ?_
  intro l ih
  match l with
  | [] => rw [dec_nil, dec_nil]
  | b :: t =>
    by_cases hb : b = 37
    · subst hb
      match t with
      | [] => rw [dec_short0, dec_short0]
      | [h] => rw [dec_short1, dec_short1]
      | h :: l :: t =>
        by_cases hx : 0 ≤ hexD h ∧ 0 ≤ hexD l
        · rw [dec_sign p _ hx.1 hx.2, dec_sign q _ hx.1 hx.2, ih t (by simp; omega)]
        · rw [dec_wrong p _ hx, dec_wrong q _ hx]
    · rw [dec_plain p _ hb, dec_plain q _ hb, ih t (by simp)]

/-! ### Encode -/
def hexU (n : Nat) : UInt8 := if n < 10 then UInt8.ofNat (48 + n) else UInt8.ofNat (55 + n)
def plainB (b : UInt8) : Bool := decide ((48 ≤ b.toNat ∧ b.toNat ≤ 57) ∨ (65 ≤ b.toNat ∧ b.toNat ≤ 90) ∨ (97 ≤ b.toNat ∧ b.toNat ≤ 122) ∨ b.toNat = 45 ∨ b.toNat = 46 ∨ b.toNat = 95 ∨ b.toNat = 126)
def enc1 (b : UInt8) : List UInt8 := if plainB b = true then [b] else [37, hexU (b.toNat / 16), hexU (b.toNat % 16)]
def enc : List UInt8 → List UInt8
  | [] => []
  | b :: r => enc1 b ++ enc r
theorem enc_append (a b : List UInt8) : enc (a ++ b) = enc a ++ enc b := by
  induction a with
  | nil => rfl
  | cons x a ih => simp [enc, ih]
theorem enc1_len (b : UInt8) : 1 ≤ (enc1 b).length ∧ (enc1 b).length ≤ 3 := by
  unfold enc1; split <;> simp
theorem enc_len (l : List UInt8) : (enc l).length ≤ 3 * l.length := by
  induction l with
  | nil => simp [enc]
  | cons b r ih => have := enc1_len b; simp [enc]; omega
theorem hexU_nat {n : Nat} (h : n < 16) : (hexU n).toNat = if n < 10 then 48 + n else 55 + n := by
  unfold hexU
  split
  · rw [UInt8.toNat_ofNat']; exact Nat.mod_eq_of_lt (by omega)
  · rw [UInt8.toNat_ofNat']; exact Nat.mod_eq_of_lt (by omega)
theorem hexD_hexU {n : Nat} (h : n < 16) : hexD (hexU n) = n := by
  unfold hexD
  rw [hexU_nat h]
  by_cases h1 : n < 10
  · rw [if_pos h1, if_pos (by omega)]; omega
  · rw [if_neg h1, if_neg (by omega), if_pos (by omega)]; omega
theorem signB_hexU (b : UInt8) : signB (hexU (b.toNat / 16)) (hexU (b.toNat % 16)) = b := by
  have hb := b.toNat_lt
  unfold signB
  rw [hexD_hexU (by omega), hexD_hexU (by omega)]
  rw [show 16 * ((b.toNat / 16 : Nat) : Int).toNat + ((b.toNat % 16 : Nat) : Int).toNat = b.toNat by omega]
  simp
theorem plainB_not {b : UInt8} (h : plainB b = true) : b.toNat ≠ 37 ∧ b.toNat ≠ 43 ∧ b.toNat ≠ 38 ∧ b.toNat ≠ 61 ∧ b.toNat ≠ 63 ∧ b.toNat ≠ 35 ∧ 33 ≤ b.toNat ∧ b.toNat ≤ 126 := by
  unfold plainB at h
  have := of_decide_eq_true h
  omega
theorem dec_enc1 (plus : Bool) (b : UInt8) (r : List UInt8) : (dec plus (enc1 b ++ r)).1 = b :: (dec plus r).1 ∧ ((dec plus r).2 = none → (dec plus (enc1 b ++ r)).2 = none) := by
  unfold enc1
  split
  · rename_i h
    have := plainB_not h
    have h37 : b ≠ 37 := fun e => this.1 (by rw [e]; rfl)
    have h43 : b ≠ 43 := fun e => this.2.1 (by rw [e]; rfl)
    rw [List.singleton_append, dec_plain plus r h37]
    refine ⟨?_, fun hn => by simp [hn]⟩
    simp [plusB, h43]
  · have hb := b.toNat_lt
    rw [show [37, hexU (b.toNat / 16), hexU (b.toNat % 16)] ++ r = 37 :: hexU (b.toNat / 16) :: hexU (b.toNat % 16) :: r from rfl]
    rw [dec_sign plus r (by rw [hexD_hexU (by omega)]; omega) (by rw [hexD_hexU (by omega)]; omega), signB_hexU]
    exact ⟨rfl, fun hn => by simp [hn]⟩
theorem dec_enc (plus : Bool) (l : List UInt8) : dec plus (enc l) = (l, none) := by
  induction l with
  | nil => exact dec_nil plus
  | cons b r ih =>
    have h := dec_enc1 plus b (enc r)
    rw [ih] at h
    show dec plus (enc1 b ++ enc r) = _
    exact Prod.ext h.1 (h.2 rfl)
/-- What Encode writes. -/
def encOk (c : UInt8) : Prop := 33 ≤ c.toNat ∧ c.toNat ≤ 126 ∧ c.toNat ≠ 38 ∧ c.toNat ≠ 61 ∧ c.toNat ≠ 63 ∧ c.toNat ≠ 35 ∧ c.toNat ≠ 43
theorem enc1_ok (b : UInt8) : ∀ c ∈ enc1 b, encOk c := by
  intro c hc
  unfold enc1 at hc
  split at hc
  · rename_i h
    have := plainB_not h
    have : c = b := by simpa using hc
    subst this
    unfold encOk
    omega
  · have hb := b.toNat_lt
    have : c = 37 ∨ c = hexU (b.toNat / 16) ∨ c = hexU (b.toNat % 16) := by simpa using hc
    rcases this with rfl | rfl | rfl
    · unfold encOk; decide
    · unfold encOk; rw [hexU_nat (by omega)]; split <;> omega
    · unfold encOk; rw [hexU_nat (by omega)]; split <;> omega
theorem enc_ok (l : List UInt8) : ∀ c ∈ enc l, encOk c := by
  induction l with
  | nil => intro c hc; cases hc
  | cons b r ih =>
    intro c hc
    rcases List.mem_append.1 (show c ∈ enc1 b ++ enc r from hc) with h | h
    · exact enc1_ok b c h
    · exact ih c h

end Go.Proofs.YtllhibdjopfcnaaGreatDoor
