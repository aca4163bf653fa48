/-
  A '+' in a text: written as a percent sign it is the same, where it stands behind no percent sign.
-/
import Derived.Test.YtomjclkijakcpaaMathB
namespace Go.Proofs.Ytomjclkijakcpaa
set_option linter.unusedVariables false

/-- At j stands a percent sign with a '+' close behind. -/
def condAt (l : List UInt8) (j : Nat) : Bool := (l[j]? == some 37) && ((l[j + 1]? == some 43) || (l[j + 2]? == some 43))
def bro (l : List UInt8) (k : Nat) : Bool := (List.range k).any (condAt l)
theorem bro_succ (l : List UInt8) (k : Nat) : bro l (k + 1) = (bro l k || condAt l k) := by
  unfold bro
  rw [List.range_succ, List.any_append]
  simp
theorem bro_false {l : List UInt8} {k : Nat} (h : bro l k = false) : ∀ j, j < k → condAt l j = false := by
  intro j hj
  unfold bro at h
  have := List.any_eq_false.1 h j (List.mem_range.2 hj)
  simpa using this
theorem bro_true {l : List UInt8} {k : Nat} (h : bro l k = true) : ∃ j, condAt l j = true := by
  unfold bro at h
  obtain ⟨j, _, h2⟩ := List.any_eq_true.1 h
  exact ⟨j, h2⟩
theorem condAt_cons (b : UInt8) (r : List UInt8) (j : Nat) : condAt (b :: r) (j + 1) = condAt r j := by
  unfold condAt
  simp
theorem condAt_out {l : List UInt8} {j : Nat} (h : l.length ≤ j) : condAt l j = false := by
  unfold condAt
  rw [List.getElem?_eq_none h]
  rfl
theorem bro_all {l : List UInt8} (h : bro l l.length = false) : ∀ j, condAt l j = false := by
  intro j
  by_cases hj : j < l.length
  · exact bro_false h j hj
  · exact condAt_out (by omega)

theorem hexD_ne {b : UInt8} (h : 0 ≤ hexD b) : b ≠ 43 ∧ b ≠ 37 := by
  refine ⟨fun e => ?_, fun e => ?_⟩
  · rw [e] at h; exact absurd h (by decide)
  · rw [e] at h; exact absurd h (by decide)

/-- Where a '+' stands behind a percent sign, a sign is wrong. -/
theorem dec_cond (plus : Bool) : ∀ l : List UInt8, (dec plus l).2 = none → ∀ j, condAt l j = false := by
  refine len_ind ?_
  intro l ih hn j
  match l with
  | [] => exact condAt_out (by simp)
  | b :: t =>
    by_cases hb : b = 37
    · subst hb
      match t with
      | [] => rw [dec_short0] at hn; cases hn
      | [h] => rw [dec_short1] at hn; cases hn
      | h :: l :: t =>
        by_cases hx : 0 ≤ hexD h ∧ 0 ≤ hexD l
        · rw [dec_sign plus _ hx.1 hx.2] at hn
          have ht : (dec plus t).2 = none := by simpa using hn
          have it := ih t (by simp; omega) ht
          have h1 := hexD_ne hx.1
          have h2 := hexD_ne hx.2
          match j with
          | 0 => simp [condAt, h1.1, h2.1]
          | 1 =>
            rw [condAt_cons]
            simp [condAt, h1.2]
          | 2 =>
            rw [condAt_cons, condAt_cons]
            simp [condAt, h2.2]
          | j + 3 =>
            rw [condAt_cons, condAt_cons, condAt_cons]
            exact it j
        · rw [dec_wrong plus _ hx] at hn; cases hn
    · rw [dec_plain plus _ hb] at hn
      have ht : (dec plus t).2 = none := by simpa using hn
      have it := ih t (by simp) ht
      match j with
      | 0 => simp [condAt, hb]
      | j + 1 => rw [condAt_cons]; exact it j

/-- Each '+' written as q. -/
def sub (q : List UInt8) : List UInt8 → List UInt8
  | [] => []
  | b :: r => (if b = 43 then q else [b]) ++ sub q r
theorem sub_len (q : List UInt8) (hq : q.length = 3) (l : List UInt8) : (sub q l).length ≤ 3 * l.length := by
  induction l with
  | nil => simp [sub]
  | cons b r ih =>
    simp only [sub, List.length_append, List.length_cons]
    split
    · omega
    · simp; omega
theorem sub_append (q a b : List UInt8) : sub q (a ++ b) = sub q a ++ sub q b := by
  induction a with
  | nil => rfl
  | cons x a ih => simp [sub, ih]
theorem sub_plus (q r : List UInt8) : sub q (43 :: r) = q ++ sub q r := by simp [sub]
theorem sub_other {b : UInt8} (q r : List UInt8) (h : b ≠ 43) : sub q (b :: r) = b :: sub q r := by simp [sub, h]

theorem dec_sub (plus : Bool) (q1 q2 : UInt8) (h1 : 0 ≤ hexD q1) (h2 : 0 ≤ hexD q2) (he : signB q1 q2 = plusB plus 43) : ∀ l : List UInt8, (∀ j, condAt l j = false) →
    (dec plus (sub [37, q1, q2] l)).1 = (dec plus l).1 ∧ ((dec plus (sub [37, q1, q2] l)).2 = none ↔ (dec plus l).2 = none) := by
  refine len_ind ?_
  intro l ih hc
  match l with
  | [] => exact ⟨rfl, Iff.rfl⟩
  | b :: t =>
    have hct : ∀ j, condAt t j = false := fun j => by rw [← condAt_cons b t j]; exact hc (j + 1)
    by_cases hp : b = 43
    · subst hp
      obtain ⟨i1, i2⟩ := ih t (by simp) hct
      rw [sub_plus, show [37, q1, q2] ++ sub [37, q1, q2] t = 37 :: q1 :: q2 :: sub [37, q1, q2] t from rfl, dec_sign plus _ h1 h2, dec_plain plus t (by decide), he]
      refine ⟨by simp only; rw [i1], ?_⟩
      simpa using i2
    · by_cases hb : b = 37
      · subst hb
        have h0 := hc 0
        rw [sub_other _ _ hp]
        match t with
        | [] => exact ⟨rfl, Iff.rfl⟩
        | [x] =>
          have hx : x ≠ 43 := by
            intro e
            subst e
            simp [condAt] at h0
          rw [sub_other _ _ hx]
          exact ⟨rfl, Iff.rfl⟩
        | x :: y :: r =>
          have hx : x ≠ 43 := by
            intro e
            subst e
            simp [condAt] at h0
          have hy : y ≠ 43 := by
            intro e
            subst e
            simp [condAt] at h0
          rw [sub_other _ _ hx, sub_other _ _ hy]
          by_cases hd : 0 ≤ hexD x ∧ 0 ≤ hexD y
          · obtain ⟨i1, i2⟩ := ih r (by simp; omega) (fun j => by have := hct (j + 2); rw [condAt_cons, condAt_cons] at this; exact this)
            rw [dec_sign plus _ hd.1 hd.2, dec_sign plus _ hd.1 hd.2]
            refine ⟨by simp only; rw [i1], ?_⟩
            simpa using i2
          · rw [dec_wrong plus _ hd, dec_wrong plus _ hd]
            exact ⟨rfl, Iff.rfl⟩
      · obtain ⟨i1, i2⟩ := ih t (by simp) hct
        rw [sub_other _ _ hp, dec_plain plus _ hb, dec_plain plus _ hb]
        refine ⟨by simp only; rw [i1], ?_⟩
        simpa using i2
end Go.Proofs.Ytomjclkijakcpaa
