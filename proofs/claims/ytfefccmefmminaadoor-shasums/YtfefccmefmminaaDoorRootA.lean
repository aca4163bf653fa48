/-
  Numbers in digits of 65536: their product as it is made by hand.
-/
import Derived.Test.YtfefccmefmminaaDoorRefD
namespace Go.Proofs.YtfefccmefmminaaDoor
open Go.RowKit
set_option linter.unusedVariables false

def val : List Nat → Nat
  | [] => 0
  | x :: r => x + 65536 * val r

theorem val_set : ∀ (l : List Nat) (k y : Nat), k < l.length → val (l.set k y) + l.getD k 0 * 65536 ^ k = val l + y * 65536 ^ k
  | [], k, y, h => by simp at h
  | x :: r, 0, y, h => by simp [val]; omega
  | x :: r, k + 1, y, h => by
    have ih := val_set r k y (by simpa using h)
    simp only [List.set_cons_succ, val, List.getD_cons_succ, Nat.pow_succ]
    rw [← Nat.mul_assoc, ← Nat.mul_assoc]
    omega
theorem val_take : ∀ (l : List Nat) (j : Nat), j < l.length → val (l.take (j + 1)) = val (l.take j) + l.getD j 0 * 65536 ^ j
  | [], j, h => by simp at h
  | x :: r, 0, h => by simp [val]
  | x :: r, j + 1, h => by
    have ih := val_take r j (by simpa using h)
    simp only [List.take_succ_cons, val, List.getD_cons_succ, Nat.pow_succ] at ih ⊢
    rw [ih, ← Nat.mul_assoc]
    omega
theorem val_zero : ∀ n, val (List.replicate n 0) = 0
  | 0 => rfl
  | n + 1 => by rw [List.replicate_succ, val, val_zero n]
theorem val_drop : ∀ (l : List Nat) (j : Nat), j < l.length → val (l.drop j) = val (l.drop (j + 1)) * 65536 + l.getD j 0
  | [], j, h => by simp at h
  | x :: r, 0, h => by simp [val]; omega
  | x :: r, j + 1, h => by
    have ih := val_drop r j (by simpa using h)
    simpa using ih
theorem val_split : ∀ (l : List Nat) (s : Nat), val l = val (l.take s) + 65536 ^ s * val (l.drop s)
  | [], s => by simp [val]
  | x :: r, 0 => by simp [val]
  | x :: r, s + 1 => by
    have ih := val_split r s
    simp only [List.take_succ_cons, List.drop_succ_cons, val, Nat.pow_succ]
    rw [Nat.mul_comm (65536 ^ s) 65536, Nat.mul_assoc]
    omega
theorem val_lt : ∀ (l : List Nat), (∀ k, l.getD k 0 < 65536) → val l < 65536 ^ l.length
  | [], _ => by simp [val]
  | x :: r, h => by
    have h0 := h 0
    have ih := val_lt r (fun k => by simpa using h (k + 1))
    simp only [val, List.length_cons, Nat.pow_succ]
    simp at h0
    omega
theorem getD_take0 (l : List Nat) (s k : Nat) : (l.take s).getD k 0 = if k < s then l.getD k 0 else 0 := by
  simp only [List.getD, List.getElem?_take]
  split <;> rfl
theorem getD_drop0 (l : List Nat) (s k : Nat) : (l.drop s).getD k 0 = l.getD (s + k) 0 := by
  simp only [List.getD, List.getElem?_drop]
theorem getD_set0 (l : List Nat) (k y m : Nat) (h : k < l.length) : (l.set k y).getD m 0 = if m = k then y else l.getD m 0 := by
  simp only [List.getD, List.getElem?_set]
  by_cases e : k = m
  · subst e
    simp [h]
  · rw [if_neg e, if_neg (fun x => e x.symm)]
theorem val_nil_iff : ∀ (l : List Nat), val l = 0 ↔ ∀ k, l.getD k 0 = 0
  | [] => by simp [val]
  | x :: r => by
    rw [val]
    constructor
    · intro h k
      cases k with
      | zero => simp; omega
      | succ k => simpa using (val_nil_iff r).1 (by omega) k
    · intro h
      have h0 := h 0
      have h1 := (val_nil_iff r).2 (fun k => by simpa using h (k + 1))
      simp at h0
      omega

def innerTo (ai : Nat) (b : List Nat) (i : Nat) (out : List Nat) : Nat → List Nat × Nat
  | 0 => (out, 0)
  | j + 1 => ((innerTo ai b i out j).1.set (i + j) (((innerTo ai b i out j).1.getD (i + j) 0 + ai * b.getD j 0 + (innerTo ai b i out j).2) % 65536),
      ((innerTo ai b i out j).1.getD (i + j) 0 + ai * b.getD j 0 + (innerTo ai b i out j).2) / 65536)
def rowOf (ai : Nat) (b : List Nat) (i : Nat) (out : List Nat) : List Nat :=
  (innerTo ai b i out b.length).1.set (i + b.length) ((innerTo ai b i out b.length).1.getD (i + b.length) 0 + (innerTo ai b i out b.length).2)
def timesTo (a b : List Nat) : Nat → List Nat
  | 0 => List.replicate (a.length + b.length) 0
  | i + 1 => rowOf (a.getD i 0) b i (timesTo a b i)

structure InnerOk (ai : Nat) (b : List Nat) (i : Nat) (out : List Nat) (j : Nat) (p : List Nat) (c : Nat) : Prop where
  len : p.length = out.length
  lt : ∀ k, p.getD k 0 < 65536
  clt : c < 65536
  far : ∀ k, i + j ≤ k → p.getD k 0 = out.getD k 0
  va : val p + c * 65536 ^ (i + j) = val out + ai * val (b.take j) * 65536 ^ i

theorem t_lt {d a b c : Nat} (hd : d < 65536) (ha : a < 65536) (hb : b < 65536) (hc : c < 65536) : d + a * b + c < 4294967296 := by
  have : a * b ≤ 65535 * 65535 := Nat.mul_le_mul (by omega) (by omega)
  omega

theorem inner_ok {ai : Nat} {b : List Nat} {i : Nat} {out : List Nat} (ha : ai < 65536) (hb : ∀ k, b.getD k 0 < 65536) (ho : ∀ k, out.getD k 0 < 65536) (hl : i + b.length < out.length) :
    ∀ j, j ≤ b.length → InnerOk ai b i out j (innerTo ai b i out j).1 (innerTo ai b i out j).2
  | 0, _ => ⟨rfl, ho, by simp [innerTo], fun k _ => rfl, by simp [innerTo, val]⟩
  | j + 1, hj => by
    have ih := inner_ok ha hb ho hl j (by omega)
    obtain ⟨p, hp⟩ : ∃ p, p = (innerTo ai b i out j).1 := ⟨_, rfl⟩
    obtain ⟨c, hc⟩ : ∃ c, c = (innerTo ai b i out j).2 := ⟨_, rfl⟩
    obtain ⟨T, hT⟩ : ∃ T, T = p.getD (i + j) 0 + ai * b.getD j 0 + c := ⟨_, rfl⟩
    rw [innerTo, ← hp, ← hc, ← hT]
    rw [← hp, ← hc] at ih
    have hT2 : T < 4294967296 := by rw [hT]; exact t_lt (ih.lt _) ha (hb _) ih.clt
    have hlp : i + j < p.length := by rw [ih.len]; omega
    refine ⟨by rw [List.length_set]; exact ih.len, fun k => ?_, by show T / 65536 < 65536; omega, fun k hk => ?_, ?_⟩
    · show (p.set (i + j) (T % 65536)).getD k 0 < 65536
      rw [getD_set0 _ _ _ _ hlp]
      split
      · exact Nat.mod_lt _ (by decide)
      · exact ih.lt k
    · show (p.set (i + j) (T % 65536)).getD k 0 = out.getD k 0
      rw [getD_set0 _ _ _ _ hlp, if_neg (by omega)]
      exact ih.far k (by omega)
    · show val (p.set (i + j) (T % 65536)) + T / 65536 * 65536 ^ (i + (j + 1)) = _
      have h1 := val_set p (i + j) (T % 65536) hlp
      have h2 := ih.va
      rw [val_take b j (by omega), ← Nat.add_assoc i j 1, Nat.pow_succ, Nat.mul_add, Nat.add_mul]
      have h3 : ai * (b.getD j 0 * 65536 ^ j) * 65536 ^ i = ai * b.getD j 0 * 65536 ^ (i + j) := by
        rw [Nat.pow_add, Nat.mul_comm (65536 ^ i) (65536 ^ j), ← Nat.mul_assoc, ← Nat.mul_assoc]
      rw [h3]
      obtain ⟨P, hP⟩ : ∃ P, P = 65536 ^ (i + j) := ⟨_, rfl⟩
      rw [← hP] at h1 h2 ⊢
      have h4 : T / 65536 * (P * 65536) + T % 65536 * P = T * P := by
        rw [Nat.mul_comm P 65536, ← Nat.mul_assoc, ← Nat.add_mul, Nat.div_add_mod' T 65536]
      have h5 : T * P = p.getD (i + j) 0 * P + ai * b.getD j 0 * P + c * P := by rw [hT, Nat.add_mul, Nat.add_mul]
      omega

structure TimesOk (a b : List Nat) (i : Nat) (p : List Nat) : Prop where
  len : p.length = a.length + b.length
  lt : ∀ k, p.getD k 0 < 65536
  far : ∀ k, i + b.length ≤ k → p.getD k 0 = 0
  va : val p = val (a.take i) * val b

theorem getD_rep0 (n k : Nat) : (List.replicate n 0).getD k 0 = 0 := by
  simp only [List.getD, List.getElem?_replicate]
  split <;> rfl

theorem times_ok {a b : List Nat} (ha : ∀ k, a.getD k 0 < 65536) (hb : ∀ k, b.getD k 0 < 65536) : ∀ i, i ≤ a.length → TimesOk a b i (timesTo a b i)
  | 0, _ => ⟨by simp [timesTo], fun k => by rw [timesTo, getD_rep0]; decide, fun k _ => by rw [timesTo, getD_rep0], by simp [timesTo, val_zero, val]⟩
  | i + 1, hi => by
    have ih := times_ok ha hb i (by omega)
    have hin := inner_ok (ai := a.getD i 0) (b := b) (i := i) (out := timesTo a b i) (ha i) hb ih.lt (by rw [ih.len]; omega) b.length (Nat.le_refl _)
    rw [timesTo, rowOf]
    obtain ⟨p, hp⟩ : ∃ p, p = (innerTo (a.getD i 0) b i (timesTo a b i) b.length).1 := ⟨_, rfl⟩
    obtain ⟨c, hc⟩ : ∃ c, c = (innerTo (a.getD i 0) b i (timesTo a b i) b.length).2 := ⟨_, rfl⟩
    rw [← hp, ← hc] at hin ⊢
    have hz : p.getD (i + b.length) 0 = 0 := (hin.far _ (Nat.le_refl _)).trans (ih.far _ (Nat.le_refl _))
    have hlp : i + b.length < p.length := by rw [hin.len, ih.len]; omega
    rw [hz, Nat.zero_add]
    refine ⟨by rw [List.length_set, hin.len, ih.len], fun k => ?_, fun k hk => ?_, ?_⟩
    · rw [getD_set0 _ _ _ _ hlp]
      split
      · exact hin.clt
      · exact hin.lt k
    · rw [getD_set0 _ _ _ _ hlp, if_neg (by omega), hin.far k (by omega)]
      exact ih.far k (by omega)
    · have h1 := val_set p (i + b.length) c hlp
      have h2 := hin.va
      rw [hz, Nat.zero_mul] at h1
      rw [List.take_length] at h2
      rw [val_take a i (by omega), Nat.add_mul, ← ih.va]
      have h3 : a.getD i 0 * val b * 65536 ^ i = a.getD i 0 * 65536 ^ i * val b := by rw [Nat.mul_right_comm]
      omega

def timesOf (a b : List Nat) : List Nat := timesTo a b a.length
theorem timesOf_len {a b : List Nat} (ha : ∀ k, a.getD k 0 < 65536) (hb : ∀ k, b.getD k 0 < 65536) : (timesOf a b).length = a.length + b.length := (times_ok ha hb _ (Nat.le_refl _)).len
theorem timesOf_lt {a b : List Nat} (ha : ∀ k, a.getD k 0 < 65536) (hb : ∀ k, b.getD k 0 < 65536) : ∀ k, (timesOf a b).getD k 0 < 65536 := (times_ok ha hb _ (Nat.le_refl _)).lt
theorem timesOf_val {a b : List Nat} (ha : ∀ k, a.getD k 0 < 65536) (hb : ∀ k, b.getD k 0 < 65536) : val (timesOf a b) = val a * val b := by
  have h := (times_ok ha hb _ (Nat.le_refl _)).va
  rw [List.take_length] at h
  exact h

/-- Whether q, cut behind s digits, is at most p. -/
theorem cut_le (p s : Nat) (q : List Nat) (hq : ∀ k, q.getD k 0 < 65536) (hs : s ≤ q.length) :
    (val q ≤ p * 65536 ^ s) ↔ (val (q.drop s) < p ∨ (val (q.drop s) = p ∧ ∀ k, k < s → q.getD k 0 = 0)) := by
  have h1 := val_split q s
  have h2 := val_lt (q.take s) (fun k => by rw [getD_take0]; split; exact hq k; decide)
  rw [List.length_take, Nat.min_eq_left hs] at h2
  have h3 : val (q.take s) = 0 ↔ ∀ k, k < s → q.getD k 0 = 0 := by
    rw [val_nil_iff]
    constructor
    · intro h k hk
      have := h k
      rwa [getD_take0, if_pos hk] at this
    · intro h k
      rw [getD_take0]
      split
      · rename_i hk; exact h k hk
      · rfl
  rw [← h3]
  obtain ⟨V, hV⟩ : ∃ V, V = val (q.take s) := ⟨_, rfl⟩
  obtain ⟨D, hD⟩ : ∃ D, D = val (q.drop s) := ⟨_, rfl⟩
  obtain ⟨M, hM⟩ : ∃ M, M = 65536 ^ s := ⟨_, rfl⟩
  rw [← hV, ← hD, ← hM] at h1
  rw [← hV, ← hM] at h2
  rw [← hV, ← hD, ← hM, h1, Nat.mul_comm p M]
  rcases Nat.lt_trichotomy D p with h | h | h
  · have : M * (D + 1) ≤ M * p := Nat.mul_le_mul_left _ h
    rw [Nat.mul_add] at this
    omega
  · subst h
    omega
  · have : M * (p + 1) ≤ M * D := Nat.mul_le_mul_left _ h
    rw [Nat.mul_add] at this
    omega
end Go.Proofs.YtfefccmefmminaaDoor
