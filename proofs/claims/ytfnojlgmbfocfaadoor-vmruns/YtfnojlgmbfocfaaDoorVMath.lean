/-
  The machine over lists: one instruction, a run, what follows.
-/
import Derived.Test.YtfnojlgmbfocfaaDoorCIns
import Derived.Laws.BitsAllLaws
import Derived.RowKit
import Derived.Below
namespace Go.Proofs.YtfnojlgmbfocfaaDoor
open Go.RowKit
set_option linter.unusedVariables false

structure StL where
  pc : Int
  st : List Int
  ca : List Int

/-- What an operation takes and leaves. -/
def effT : List (Int × Int) := [(0, 1), (1, 0), (1, 2), (2, 2), (2, 1), (2, 1), (2, 1), (2, 1), (2, 1), (2, 1), (2, 1), (2, 1), (2, 1), (2, 1), (2, 1), (2, 1), (1, 1), (1, 1), (2, 0), (0, 0), (1, 0), (0, 0), (0, 0), (0, 0), (0, 0)]
def effO (op : Int) : Int × Int := effT.getD (op - 1).toNat (0, 0)
def tkI (i : InsL) : Int := (effO i.1).1 + if i.1 = 3 then i.2 else 0
def lvI (i : InsL) : Int := (effO i.1).2 + if i.1 = 3 then i.2 else 0
def fitsL (i : InsL) (n : Nat) : Bool := decide (tkI i ≤ (n : Int)) && decide ((n : Int) - tkI i + lvI i ≤ 64)

def topL (l : List Int) (k : Nat) : Int := l.getD (l.length - 1 - k) 0
def putL (l : List Int) (k : Nat) (xs : List Int) : List Int := l.take (l.length - k) ++ xs
def shN (y : Int) : Nat := (y % 64).toNat
def bitI (b : Bool) : Int := if b = true then 1 else 0
def twoL (op x y : Int) : Option Int :=
  if op = 5 then some (wrap64 (x + y)) else if op = 6 then some (wrap64 (x - y)) else if op = 7 then some (wrap64 (x * y))
  else if op = 8 then (if y = 0 then none else some (wrap64 (x.tdiv y))) else if op = 9 then (if y = 0 then none else some (x.tmod y))
  else if op = 10 then some (bits .and .i64 x y) else if op = 11 then some (bits .or .i64 x y) else if op = 12 then some (bits .xor .i64 x y)
  else if op = 13 then some (wrap64 (x * 2 ^ min (shN y) 64)) else if op = 14 then some (x / 2 ^ min (shN y) 64)
  else if op = 15 then some (bitI (decide (x = y))) else if op = 16 then some (bitI (decide (x < y))) else none

/-- An instruction that fits is done; none: it fails. -/
def doL (i : InsL) (s : StL) (b : List Nat) : Option (StL × List Nat) :=
  if i.1 = 1 then some (⟨s.pc + 1, putL s.st 0 [i.2], s.ca⟩, b)
  else if i.1 = 2 then some (⟨s.pc + 1, putL s.st 1 [], s.ca⟩, b)
  else if i.1 = 3 then some (⟨s.pc + 1, putL s.st 0 [topL s.st i.2.toNat], s.ca⟩, b)
  else if i.1 = 4 then some (⟨s.pc + 1, putL s.st 2 [topL s.st 0, topL s.st 1], s.ca⟩, b)
  else if i.1 = 17 then some (⟨s.pc + 1, putL s.st 1 [bitI (decide (topL s.st 0 = 0))], s.ca⟩, b)
  else if i.1 = 18 then (if 0 ≤ topL s.st 0 ∧ topL s.st 0 < b.length then some (⟨s.pc + 1, putL s.st 1 [((b.getD (topL s.st 0).toNat 0 : Nat) : Int)], s.ca⟩, b) else none)
  else if i.1 = 19 then (if 0 ≤ topL s.st 0 ∧ topL s.st 0 < b.length then some (⟨s.pc + 1, putL s.st 2 [], s.ca⟩, b.set (topL s.st 0).toNat (topL s.st 1 % 256).toNat) else none)
  else if i.1 = 20 then some (⟨i.2, s.st, s.ca⟩, b)
  else if i.1 = 21 then some (⟨if topL s.st 0 = 0 then s.pc + 1 else i.2, putL s.st 1 [], s.ca⟩, b)
  else if i.1 = 22 then (if s.ca.length = 32 then none else some (⟨i.2, s.st, s.ca ++ [s.pc + 1]⟩, b))
  else if i.1 = 23 then (if s.ca.length = 0 then none else some (⟨s.ca.getD (s.ca.length - 1) 0, s.st, s.ca.take (s.ca.length - 1)⟩, b))
  else if i.1 = 24 then some (⟨s.pc + 1, s.st, s.ca⟩, b)
  else if i.1 = 25 then some (s, b)
  else match twoL i.1 (topL s.st 1) (topL s.st 0) with
    | none => none
    | some z => some (⟨s.pc + 1, putL s.st 2 [z], s.ca⟩, b)
def kindO (i : InsL) : Int × Int := if i.1 = 24 then (2, i.2) else if i.1 = 25 then (3, 0) else (0, 0)
/-- One instruction: how it ends the run (0: it does not), the state, the memory. -/
def stepL (code : List InsL) (s : StL) (b : List Nat) : (Int × Int) × StL × List Nat :=
  match code[s.pc.toNat]? with
  | none => ((4, 0), s, b)
  | some i =>
    if fitsL i s.st.length = true then
      match doL i s b with
      | none => ((4, 0), s, b)
      | some r => (kindO i, r.1, r.2)
    else ((4, 0), s, b)
def runL (code : List InsL) : Nat → Nat → StL → List Nat → (Int × Int × Nat) × StL × List Nat
  | 0, u, s, b => ((1, 0, u), s, b)
  | f + 1, u, s, b => if (stepL code s b).1.1 = 0 then runL code f (u + 1) (stepL code s b).2.1 (stepL code s b).2.2 else (((stepL code s b).1.1, (stepL code s b).1.2, u + 1), (stepL code s b).2.1, (stepL code s b).2.2)

/-- A state may be, for so many instructions. -/
structure OkS (n : Nat) (s : StL) : Prop where
  p0 : 0 ≤ s.pc
  p1 : s.pc ≤ n
  st : s.st.length ≤ 64
  cl : s.ca.length ≤ 32
  ca : ∀ c ∈ s.ca, 0 ≤ c ∧ c ≤ n
def okS (n : Nat) (s : StL) : Bool := decide (0 ≤ s.pc) && decide (s.pc ≤ n) && decide (s.st.length ≤ 64) && decide (s.ca.length ≤ 32) && s.ca.all fun c => decide (0 ≤ c) && decide (c ≤ n)
theorem okS_iff {n : Nat} {s : StL} : okS n s = true ↔ OkS n s := by
  simp only [okS, Bool.and_eq_true, decide_eq_true_eq, List.all_eq_true]
  constructor
  · rintro ⟨⟨⟨⟨h1, h2⟩, h3⟩, h4⟩, h5⟩
    exact ⟨h1, h2, h3, h4, h5⟩
  · rintro ⟨h1, h2, h3, h4, h5⟩
    exact ⟨⟨⟨⟨h1, h2⟩, h3⟩, h4⟩, h5⟩

theorem putL_len {l : List Int} {k : Nat} (h : k ≤ l.length) (xs : List Int) : (putL l k xs).length = l.length - k + xs.length := by
  simp [putL]
theorem fitsL_iff {i : InsL} {n : Nat} : fitsL i n = true ↔ tkI i ≤ (n : Int) ∧ (n : Int) - tkI i + lvI i ≤ 64 := by simp [fitsL]

/-- The operations, one by one. -/
theorem op_cases {op : Int} (h1 : 1 ≤ op) (h2 : op ≤ 25) : op = 1 ∨ op = 2 ∨ op = 3 ∨ op = 4 ∨ op = 5 ∨ op = 6 ∨ op = 7 ∨ op = 8 ∨ op = 9 ∨ op = 10 ∨ op = 11 ∨ op = 12 ∨ op = 13 ∨ op = 14 ∨ op = 15 ∨ op = 16 ∨ op = 17 ∨ op = 18 ∨ op = 19 ∨ op = 20 ∨ op = 21 ∨ op = 22 ∨ op = 23 ∨ op = 24 ∨ op = 25 := by omega
theorem mayI_op {n : Nat} {i : InsL} (h : mayI n i = true) : 1 ≤ i.1 ∧ i.1 ≤ 25 := by
  unfold mayI opOf at h
  split at h
  · simp at h
  · rename_i o ho
    by_cases hc : 1 ≤ i.1 ∧ i.1 ≤ 25
    · exact hc
    · rw [if_neg hc] at ho
      simp at ho
theorem mayI_at {n : Nat} {op a : Int} (h : mayI n (op, a) = true) (w : Int) (hw : withO op = w) : mayW w a n = true := by
  have h2 := mayI_op h
  unfold mayI at h
  split at h
  · simp at h
  · rename_i o ho
    have : withO op = o.2 := by simp only at ho; simp [withO, ho]
    rw [← hw, this]
    exact h
theorem mayI_dup {n : Nat} {a : Int} (h : mayI n (3, a) = true) : 0 ≤ a ∧ a < 64 := by
  have := mayI_at h 2 rfl
  simpa [mayW] using this
theorem mayI_place {n : Nat} {op a : Int} (h : mayI n (op, a) = true) (ho : op = 20 ∨ op = 21 ∨ op = 22) : 0 ≤ a ∧ a < n := by
  have h3 : withO op = 3 := by rcases ho with rfl | rfl | rfl <;> rfl
  have := mayI_at h 3 h3
  simpa [mayW] using this
theorem mayI_trap {n : Nat} {a : Int} (h : mayI n (24, a) = true) : 1 ≤ a ∧ a ≤ 99 := by
  have := mayI_at h 4 rfl
  simpa [mayW] using this

theorem doL_two {op : Int} (h5 : 5 ≤ op) (h16 : op ≤ 16) (a : Int) (s : StL) (b : List Nat) : doL (op, a) s b = (twoL op (topL s.st 1) (topL s.st 0)).map fun z => (⟨s.pc + 1, putL s.st 2 [z], s.ca⟩, b) := by
  unfold doL
  simp only [if_neg (show ¬ op = 1 by omega), if_neg (show ¬ op = 2 by omega), if_neg (show ¬ op = 3 by omega), if_neg (show ¬ op = 4 by omega), if_neg (show ¬ op = 17 by omega), if_neg (show ¬ op = 18 by omega), if_neg (show ¬ op = 19 by omega), if_neg (show ¬ op = 20 by omega), if_neg (show ¬ op = 21 by omega), if_neg (show ¬ op = 22 by omega), if_neg (show ¬ op = 23 by omega), if_neg (show ¬ op = 24 by omega), if_neg (show ¬ op = 25 by omega)]
  cases twoL op (topL s.st 1) (topL s.st 0) <;> rfl
theorem eff_two {op : Int} (h5 : 5 ≤ op) (h16 : op ≤ 16) : effO op = (2, 1) := by
  have : op = 5 ∨ op = 6 ∨ op = 7 ∨ op = 8 ∨ op = 9 ∨ op = 10 ∨ op = 11 ∨ op = 12 ∨ op = 13 ∨ op = 14 ∨ op = 15 ∨ op = 16 := by omega
  rcases this with rfl | rfl | rfl | rfl | rfl | rfl | rfl | rfl | rfl | rfl | rfl | rfl <;> rfl
theorem ok_next {n : Nat} {s : StL} (o : OkS n s) (hp : s.pc < n) {l : List Int} (h : l.length ≤ 64) : OkS n ⟨s.pc + 1, l, s.ca⟩ :=
  ⟨by have := o.p0; show 0 ≤ s.pc + 1; omega, by show s.pc + 1 ≤ (n : Int); omega, h, o.cl, o.ca⟩
theorem ok_jump {n : Nat} {s : StL} (o : OkS n s) {a : Int} (h0 : 0 ≤ a) (h1 : a < n) {l : List Int} (h : l.length ≤ 64) : OkS n ⟨a, l, s.ca⟩ := ⟨h0, by show a ≤ (n : Int); omega, h, o.cl, o.ca⟩

/-- What is done leaves a state that may be. -/
theorem do_ok {n : Nat} {i : InsL} {s s' : StL} {b b' : List Nat} (hm : mayI n i = true) (hf : fitsL i s.st.length = true) (hp : s.pc < n) (ho : OkS n s) (h : doL i s b = some (s', b')) : OkS n s' ∧ b'.length = b.length := by
  obtain ⟨op, a⟩ := i
  obtain ⟨h1, h2⟩ := mayI_op hm
  obtain ⟨f1, f2⟩ := fitsL_iff.1 hf
  have o2 := ho.st
  simp only at h1 h2
  by_cases ht : 5 ≤ op ∧ op ≤ 16
  · rw [doL_two ht.1 ht.2] at h
    cases hz : twoL op (topL s.st 1) (topL s.st 0) with
    | none => rw [hz] at h; cases h
    | some z =>
      rw [hz] at h
      simp only [Option.map_some, Option.some.injEq, Prod.mk.injEq] at h
      obtain ⟨rfl, rfl⟩ := h
      have e : tkI (op, a) = 2 := by simp [tkI, eff_two ht.1 ht.2]; omega
      rw [e] at f1
      exact ⟨ok_next ho hp (by rw [putL_len (by omega)]; simp; omega), rfl⟩
  have hc : op = 1 ∨ op = 2 ∨ op = 3 ∨ op = 4 ∨ op = 17 ∨ op = 18 ∨ op = 19 ∨ op = 20 ∨ op = 21 ∨ op = 22 ∨ op = 23 ∨ op = 24 ∨ op = 25 := by omega
  rcases hc with rfl | rfl | rfl | rfl | rfl | rfl | rfl | rfl | rfl | rfl | rfl | rfl | rfl
  · simp [tkI, lvI, effO, effT] at f1 f2; simp [doL] at h; obtain ⟨rfl, rfl⟩ := h; exact ⟨ok_next ho hp (by simp [putL]; omega), rfl⟩
  · simp [tkI, lvI, effO, effT] at f1 f2; simp [doL] at h; obtain ⟨rfl, rfl⟩ := h; exact ⟨ok_next ho hp (by simp [putL]; omega), rfl⟩
  · simp [tkI, lvI, effO, effT] at f1 f2; simp [doL] at h; obtain ⟨rfl, rfl⟩ := h; exact ⟨ok_next ho hp (by simp [putL]; omega), rfl⟩
  · simp [tkI, lvI, effO, effT] at f1 f2; simp [doL] at h; obtain ⟨rfl, rfl⟩ := h; exact ⟨ok_next ho hp (by simp [putL]; omega), rfl⟩
  · simp [tkI, lvI, effO, effT] at f1 f2; simp [doL] at h; obtain ⟨rfl, rfl⟩ := h; exact ⟨ok_next ho hp (by simp [putL]; omega), rfl⟩
  · simp [tkI, lvI, effO, effT] at f1 f2; simp [doL] at h; obtain ⟨_, rfl, rfl⟩ := h; exact ⟨ok_next ho hp (by simp [putL]; omega), rfl⟩
  · simp [tkI, lvI, effO, effT] at f1 f2; simp [doL] at h; obtain ⟨_, rfl, rfl⟩ := h; exact ⟨ok_next ho hp (by simp [putL]; omega), by simp⟩
  · simp [doL] at h; obtain ⟨rfl, rfl⟩ := h; have hj := mayI_place hm (by simp); exact ⟨ok_jump ho hj.1 hj.2 o2, rfl⟩
  · simp [tkI, lvI, effO, effT] at f1 f2; simp [doL] at h; obtain ⟨rfl, rfl⟩ := h
    have hj := mayI_place hm (by simp)
    refine ⟨?_, rfl⟩
    split
    · exact ok_next ho hp (by simp [putL]; omega)
    · exact ok_jump ho hj.1 hj.2 (by simp [putL]; omega)
  · simp [doL] at h; obtain ⟨h32, rfl, rfl⟩ := h
    have hj := mayI_place hm (by simp)
    have h0 := ho.p0
    have hcl := ho.cl
    refine ⟨⟨hj.1, by show a ≤ (n : Int); omega, o2, by simp; omega, fun c hc => ?_⟩, rfl⟩
    simp at hc
    rcases hc with hc | rfl
    · exact ho.ca c hc
    · omega
  · simp [doL] at h; obtain ⟨h32, rfl, rfl⟩ := h
    have hcl := ho.cl
    have hl : 0 < s.ca.length := List.length_pos_iff.2 h32
    have hg : s.ca.getD (s.ca.length - 1) 0 ∈ s.ca := by
      rw [List.getD, List.getElem?_eq_getElem (by omega)]
      exact List.getElem_mem _
    have hg2 := ho.ca _ hg
    simp only [List.getD] at hg2
    exact ⟨⟨hg2.1, hg2.2, o2, by simp; omega, fun c hc => ho.ca c (List.mem_of_mem_take hc)⟩, rfl⟩
  · simp [doL] at h; obtain ⟨rfl, rfl⟩ := h; exact ⟨ok_next ho hp o2, rfl⟩
  · simp [doL] at h; obtain ⟨rfl, rfl⟩ := h; exact ⟨ho, rfl⟩

theorem step_ok {code : List InsL} {s : StL} {b : List Nat} (hc : ∀ i ∈ code, mayI code.length i = true) (ho : OkS code.length s) : OkS code.length (stepL code s b).2.1 ∧ (stepL code s b).2.2.length = b.length := by
  unfold stepL
  split
  · exact ⟨ho, rfl⟩
  · rename_i i hi
    have hlt : s.pc.toNat < code.length := (List.getElem?_eq_some_iff.1 hi).1
    have h0 := ho.p0
    split
    · rename_i hf
      split
      · exact ⟨ho, rfl⟩
      · rename_i r hr
        exact do_ok (hc i (List.mem_of_getElem? hi)) hf (by omega) ho hr
    · exact ⟨ho, rfl⟩
theorem step_kind (code : List InsL) (s : StL) (b : List Nat) : (stepL code s b).1 = (4, 0) ∨ (stepL code s b).1 = (3, 0) ∨ (stepL code s b).1 = (0, 0) ∨ ((stepL code s b).1.1 = 2 ∧ ∃ i ∈ code, i.1 = 24 ∧ (stepL code s b).1.2 = i.2) := by
  unfold stepL
  split
  · exact Or.inl rfl
  · rename_i i hi
    split
    · split
      · exact Or.inl rfl
      · unfold kindO
        split
        · rename_i h24
          exact Or.inr (Or.inr (Or.inr ⟨rfl, i, List.mem_of_getElem? hi, h24, rfl⟩))
        · split
          · exact Or.inr (Or.inl rfl)
          · exact Or.inr (Or.inr (Or.inl rfl))
    · exact Or.inl rfl
theorem run_ok {code : List InsL} (hc : ∀ i ∈ code, mayI code.length i = true) : ∀ (f u : Nat) (s : StL) (b : List Nat), OkS code.length s → OkS code.length (runL code f u s b).2.1 ∧ (runL code f u s b).2.2.length = b.length
  | 0, u, s, b, ho => ⟨ho, rfl⟩
  | f + 1, u, s, b, ho => by
    have h1 := step_ok (b := b) hc ho
    unfold runL
    split
    · have h2 := run_ok hc f (u + 1) _ (stepL code s b).2.2 h1.1
      exact ⟨h2.1, h2.2.trans h1.2⟩
    · exact h1
/-- How a run ends, and the fuel that it took. -/
theorem run_kind {code : List InsL} (hc : ∀ i ∈ code, mayI code.length i = true) : ∀ (f u : Nat) (s : StL) (b : List Nat),
    ((runL code f u s b).1 = (1, 0, u + f)) ∨ (u < (runL code f u s b).1.2.2 ∧ (runL code f u s b).1.2.2 ≤ u + f ∧ (((runL code f u s b).1.1 = 2 ∧ 1 ≤ (runL code f u s b).1.2.1) ∨ (((runL code f u s b).1.1 = 3 ∨ (runL code f u s b).1.1 = 4) ∧ (runL code f u s b).1.2.1 = 0)))
  | 0, u, s, b => Or.inl rfl
  | f + 1, u, s, b => by
    unfold runL
    split
    · rename_i h0
      have := run_kind hc f (u + 1) (stepL code s b).2.1 (stepL code s b).2.2
      rw [show u + (f + 1) = u + 1 + f by omega]
      rcases this with h | ⟨h1, h2, h3⟩
      · exact Or.inl h
      · exact Or.inr ⟨by omega, by omega, h3⟩
    · rename_i h0
      right
      refine ⟨by show u < u + 1; omega, by show u + 1 ≤ u + (f + 1); omega, ?_⟩
      show ((stepL code s b).1.1 = 2 ∧ 1 ≤ (stepL code s b).1.2) ∨ (((stepL code s b).1.1 = 3 ∨ (stepL code s b).1.1 = 4) ∧ (stepL code s b).1.2 = 0)
      rcases step_kind code s b with h | h | h | ⟨h, i, hi, h24, ht⟩
      · rw [h]; exact Or.inr ⟨Or.inr rfl, rfl⟩
      · rw [h]; exact Or.inr ⟨Or.inl rfl, rfl⟩
      · rw [h] at h0; exact absurd rfl h0
      · left
        have hm := hc i hi
        obtain ⟨op, a⟩ := i
        simp only at h24 ht
        subst h24
        rw [ht]
        exact ⟨h, (mayI_trap hm).1⟩
/-- A run goes on where another one stopped for want of fuel. -/
theorem run_more {code : List InsL} : ∀ (f g u : Nat) (s : StL) (b : List Nat), runL code (f + g) u s b = if (runL code f u s b).1.1 = 1 then runL code g (u + f) (runL code f u s b).2.1 (runL code f u s b).2.2 else runL code f u s b
  | 0, g, u, s, b => by simp [runL]
  | f + 1, g, u, s, b => by
    have ih := run_more (code := code) f g (u + 1) (stepL code s b).2.1 (stepL code s b).2.2
    rw [show f + 1 + g = (f + g) + 1 by omega]
    by_cases h0 : (stepL code s b).1.1 = 0
    · rw [runL, if_pos h0, runL, if_pos h0, ih, show u + 1 + f = u + (f + 1) by omega]
    · have h1 : ¬ (stepL code s b).1.1 = 1 := by
        rcases step_kind code s b with h | h | h | ⟨h, _⟩
        · rw [h]; decide
        · rw [h]; decide
        · rw [h]; decide
        · rw [h]; decide
      rw [runL, if_neg h0, runL, if_neg h0, if_neg h1]
theorem run_used {code : List InsL} : ∀ (f u v : Nat) (s : StL) (b : List Nat), runL code f (u + v) s b = (((runL code f u s b).1.1, (runL code f u s b).1.2.1, (runL code f u s b).1.2.2 + v), (runL code f u s b).2.1, (runL code f u s b).2.2)
  | 0, u, v, s, b => rfl
  | f + 1, u, v, s, b => by
    have ih := run_used (code := code) f (u + 1) v (stepL code s b).2.1 (stepL code s b).2.2
    by_cases h0 : (stepL code s b).1.1 = 0
    · rw [runL, if_pos h0, runL, if_pos h0, show u + v + 1 = u + 1 + v by omega, ih]
    · rw [runL, if_neg h0, runL, if_neg h0, show u + v + 1 = u + 1 + v by omega]
/-- A run, step by step: where it stands. -/
theorem run_step {code : List InsL} {f u : Nat} {s : StL} {b : List Nat} : runL code (f + 1) u s b = if (stepL code s b).1.1 = 0 then runL code f (u + 1) (stepL code s b).2.1 (stepL code s b).2.2 else (((stepL code s b).1.1, (stepL code s b).1.2, u + 1), (stepL code s b).2.1, (stepL code s b).2.2) := rfl
end Go.Proofs.YtfnojlgmbfocfaaDoor
