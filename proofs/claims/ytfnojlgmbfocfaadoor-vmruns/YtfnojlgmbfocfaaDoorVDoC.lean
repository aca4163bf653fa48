/-
  do, whatever the instruction; step.
-/
import Derived.Test.YtfnojlgmbfocfaaDoorVDoB
namespace Go.Proofs.YtfnojlgmbfocfaaDoor
open Go.RowKit
set_option linter.unusedVariables false
set_option linter.unusedSimpArgs false

theorem do_any (w : World) (B p q r : Nat) (vc vs vk vb : Value) (code : List InsL) (s : StL) (b : List Nat) (ld st : Nat) (h : MM w B p q r (memV q) vc vs vk vb code s b ld st) (hld : ld < 4611686018427387904) (hst : st < 4611686018427387904) (hbl : b.length ≤ 4611686018427387904)
    (n : Nat) (hn : n ≤ 1024) (ho : OkS n s) (hp : s.pc < n) (op a : Int) (hm : mayI n (op, a) = true) (hf : fitsL (op, a) s.st.length = true) :
    Calls Tryd.prog 41 #[.pointer (some ⟨p, 0, none⟩), .agg #[.int .i64 op, .int .i64 a]] w (DoR w B p q r vc vs vk vb code s b ld st (doL (op, a) s b)) := by
  obtain ⟨h1, h2⟩ := mayI_op hm
  obtain ⟨f1, f2⟩ := fitsL_iff.1 hf
  have hl := ho.st
  have hp0 := ho.p0
  have hp1 : s.pc ≤ 1024 := by omega
  simp only at h1 h2
  by_cases ht : 5 ≤ op ∧ op ≤ 16
  · have e : tkI (op, a) = 2 := by simp [tkI, eff_two ht.1 ht.2]; omega
    rw [e] at f1
    refine (doT w B p q r vc vs vk vb code s b ld st h hl hp0 hp1 op a ht.1 ht.2 (by omega) _ rfl).mono ?_
    rintro e w' ⟨rfl, vs', m1, b1, fr1⟩
    rw [doL_two ht.1 ht.2]
    refine ⟨by cases twoL op (topL s.st 1) (topL s.st 0) <;> rfl, vs', vk, ld, st, ?_, by omega, Kp.of b1, fr1⟩
    cases hz : twoL op (topL s.st 1) (topL s.st 0) with
    | none => rw [hz] at m1; exact m1
    | some z => rw [hz] at m1; exact m1
  have hc : op = 1 ∨ op = 2 ∨ op = 3 ∨ op = 4 ∨ op = 17 ∨ op = 18 ∨ op = 19 ∨ op = 20 ∨ op = 21 ∨ op = 22 ∨ op = 23 ∨ op = 24 ∨ op = 25 := by omega
  rcases hc with rfl | rfl | rfl | rfl | rfl | rfl | rfl | rfl | rfl | rfl | rfl | rfl | rfl
  · refine (do1 w B p q r vc vs vk vb code s b ld st h hl hp0 hp1 a).mono ?_
    rintro e w' ⟨rfl, vs', m1, b1, fr1⟩
    exact ⟨rfl, vs', vk, ld, st, m1, by omega, Kp.of b1, fr1⟩
  · simp [tkI, effO, effT] at f1
    refine (do2 w B p q r vc vs vk vb code s b ld st h hl hp0 hp1 a (by omega)).mono ?_
    rintro e w' ⟨rfl, vs', m1, b1, fr1⟩
    exact ⟨rfl, vs', vk, ld, st, m1, by omega, Kp.of b1, fr1⟩
  · simp [tkI, effO, effT] at f1
    obtain ⟨a0, a1⟩ := mayI_dup hm
    obtain ⟨k, rfl⟩ := Int.eq_ofNat_of_zero_le a0
    refine (do3 w B p q r vc vs vk vb code s b ld st h hl hp0 hp1 k (by omega)).mono ?_
    rintro e w' ⟨rfl, vs', m1, b1, fr1⟩
    exact ⟨rfl, vs', vk, ld, st, m1, by omega, Kp.of b1, fr1⟩
  · simp [tkI, effO, effT] at f1
    refine (do4 w B p q r vc vs vk vb code s b ld st h hl hp0 hp1 a (by omega)).mono ?_
    rintro e w' ⟨rfl, vs', m1, b1, fr1⟩
    exact ⟨rfl, vs', vk, ld, st, m1, by omega, Kp.of b1, fr1⟩
  · simp [tkI, effO, effT] at f1
    refine (do17 w B p q r vc vs vk vb code s b ld st h hl hp0 hp1 a (by omega)).mono ?_
    rintro e w' ⟨rfl, vs', m1, b1, fr1⟩
    exact ⟨rfl, vs', vk, ld, st, m1, by omega, Kp.of b1, fr1⟩
  · simp [tkI, effO, effT] at f1
    by_cases hcc : 0 ≤ topL s.st 0 ∧ topL s.st 0 < (b.length : Int)
    · refine (do18S w B p q r vc vs vk vb code s b ld st h hld hst hbl hl hp0 hp1 a (by omega) hcc).mono ?_
      rintro e w' ⟨rfl, vs', m1, b1, fr1⟩
      have e1 : doL (18, a) s b = some (⟨s.pc + 1, putL s.st 1 [((b.getD (topL s.st 0).toNat 0 : Nat) : Int)], s.ca⟩, b) := by simp [doL, hcc]
      rw [e1]
      exact ⟨rfl, vs', vk, ld + 1, st, m1, by omega, b1, fr1⟩
    · refine (do18F w B p q r vc vs vk vb code s b ld st h hld hst hbl hl hp0 hp1 a (by omega) hcc).mono ?_
      rintro e w' ⟨rfl, vs', m1, b1, fr1⟩
      have e1 : doL (18, a) s b = none := by
        unfold doL
        simp only [if_neg hcc]
        rfl
      rw [e1]
      exact ⟨rfl, vs', vk, ld + 1, st, m1, by omega, b1, fr1⟩
  · simp [tkI, effO, effT] at f1
    by_cases hcc : 0 ≤ topL s.st 0 ∧ topL s.st 0 < (b.length : Int)
    · refine (do19S w B p q r vc vs vk vb code s b ld st h hld hst hbl hl hp0 hp1 a (by omega) hcc).mono ?_
      rintro e w' ⟨rfl, vs', m1, b1, fr1⟩
      have e1 : doL (19, a) s b = some (⟨s.pc + 1, putL s.st 2 [], s.ca⟩, b.set (topL s.st 0).toNat (topL s.st 1 % 256).toNat) := by simp [doL, hcc]
      rw [e1]
      exact ⟨rfl, vs', vk, ld, st + 1, m1, by omega, b1, fr1⟩
    · refine (do19F w B p q r vc vs vk vb code s b ld st h hld hst hbl hl hp0 hp1 a (by omega) hcc).mono ?_
      rintro e w' ⟨rfl, vs', m1, b1, fr1⟩
      have e1 : doL (19, a) s b = none := by
        unfold doL
        simp only [if_neg hcc]
        rfl
      rw [e1]
      exact ⟨rfl, vs', vk, ld, st + 1, m1, by omega, b1, fr1⟩
  · refine (do20 w B p q r vc vs vk vb code s b ld st h hl hp0 hp1 a).mono ?_
    rintro e w' ⟨rfl, m1, b1, fr1⟩
    exact ⟨rfl, vs, vk, ld, st, m1, by omega, Kp.of b1, fr1⟩
  · simp [tkI, effO, effT] at f1
    refine (do21S w B p q r vc vs vk vb code s b ld st h hl hp0 hp1 a (by omega) _ rfl).mono ?_
    rintro e w' ⟨rfl, vs', m1, b1, fr1⟩
    exact ⟨rfl, vs', vk, ld, st, m1, by omega, Kp.of b1, fr1⟩
  · by_cases hcc : s.ca.length = 32
    · refine (do22F w B p q r vc vs vk vb code s b ld st h hl hp0 hp1 a hcc).mono ?_
      rintro e w' ⟨rfl, m1, b1, fr1⟩
      have e1 : doL (22, a) s b = none := by simp [doL, hcc]
      rw [e1]
      exact ⟨rfl, vs, vk, ld, st, m1, by omega, Kp.of b1, fr1⟩
    · refine (do22S w B p q r vc vs vk vb code s b ld st h hl hp0 hp1 a (by have := ho.cl; omega)).mono ?_
      rintro e w' ⟨rfl, vk', m1, b1, fr1⟩
      have e1 : doL (22, a) s b = some (⟨a, s.st, s.ca ++ [s.pc + 1]⟩, b) := by simp [doL, hcc]
      rw [e1]
      exact ⟨rfl, vs, vk', ld, st, m1, by omega, Kp.of b1, fr1⟩
  · by_cases hcc : s.ca.length = 0
    · refine (do23F w B p q r vc vs vk vb code s b ld st h hl hp0 hp1 a hcc).mono ?_
      rintro e w' ⟨rfl, m1, b1, fr1⟩
      have e1 : doL (23, a) s b = none := by
        unfold doL
        simp only [if_pos hcc]
        rfl
      rw [e1]
      exact ⟨rfl, vs, vk, ld, st, m1, by omega, Kp.of b1, fr1⟩
    · refine (do23S w B p q r vc vs vk vb code s b ld st h hl hp0 hp1 a (by omega) ho.cl).mono ?_
      rintro e w' ⟨rfl, vk', m1, b1, fr1⟩
      have e1 : doL (23, a) s b = some (⟨s.ca.getD (s.ca.length - 1) 0, s.st, s.ca.take (s.ca.length - 1)⟩, b) := by
        unfold doL
        simp only [if_neg hcc]
        rfl
      rw [e1]
      exact ⟨rfl, vs, vk', ld, st, m1, by omega, Kp.of b1, fr1⟩
  · refine (do24 w B p q r vc vs vk vb code s b ld st h hl hp0 hp1 a).mono ?_
    rintro e w' ⟨rfl, m1, b1, fr1⟩
    exact ⟨rfl, vs, vk, ld, st, m1, by omega, Kp.of b1, fr1⟩
  · refine (do25 w B p q r vc vs vk vb code s b ld st h hl hp0 hp1 a).mono ?_
    rintro e w' ⟨rfl, m1, b1, fr1⟩
    exact ⟨rfl, vs, vk, ld, st, m1, by omega, Kp.of b1, fr1⟩
end Go.Proofs.YtfnojlgmbfocfaaDoor
