/-
  Names of operations: the code's, the document's; which have an A.
-/
import Derived.Test.YtkidcoolcjmcfaaDoorCAwake
import Derived.Test.YtkidcoolcjmcfaaDoorVRef13
namespace Go.Proofs.YtkidcoolcjmcfaaDoor
open Go.RowKit
set_option linter.unusedVariables false
set_option linter.unusedSimpArgs false
set_option maxRecDepth 100000

def nameR (op : Int) : Value := .tuple #[.string ⟨(nameO op).toArray⟩, .int .i64 (if (opOf op).isSome = true then 0 else 3)]
theorem nameR_yes (q : Nat) (hq : q < 25) : nameR ((q : Int) + 1) = .tuple #[.string ⟨(opT.getD q ([], 0)).1.toArray⟩, .int .i64 0] := by
  unfold nameR nameO
  rw [opO_at q hq]
  rfl
theorem nameR_no (op : Int) (h : ¬ (1 ≤ op ∧ op ≤ 25)) : nameR op = .tuple #[.string ⟨#[]⟩, .int .i64 3] := by
  unfold nameR nameO
  rw [opO_no h]
  rfl
set_option maxHeartbeats 1000000 in
theorem name_any (op : Int) (w : World) (hT : Tabs w) : Calls Tryd.prog 12 #[.int .i64 op] w fun e w' => e = .returned (nameR op) ∧ Below w.heap.size w w' := by
  by_cases h : 1 ≤ op ∧ op ≤ 25
  · obtain ⟨q, rfl⟩ : ∃ q : Nat, op = (q : Int) + 1 := ⟨(op - 1).toNat, by omega⟩
    have hq : q < 25 := by omega
    rw [nameR_yes q hq]
    have hO := of_yes q hq w hT
    obtain ⟨nm, hnm⟩ : ∃ nm, nm = (opT.getD q ([], 0)).1 := ⟨_, rfl⟩
    obtain ⟨wi, hwi⟩ : ∃ wi, wi = (opT.getD q ([], 0)).2 := ⟨_, rfl⟩
    rw [← hnm, ← hwi] at hO
    rw [← hnm]
    clear hnm hwi h hT
    go_enter Tryd.func12, Tryd.ntmps12
    go_wp2_with fail
    refine hO.mono ?_
    clear hO
    rintro e w2 ⟨rfl, hb⟩
    have HB := hid (hb.trans ((below_alloc w2 (.cells #[.string ⟨nm.toArray⟩, .int .i64 wi] 42)).mono hb.size))
    clear hb
    go_wp2
    go_ret2
    exact ⟨rfl, HB.out⟩
  · rw [nameR_no op h]
    have hO := of_no op h w
    clear h hT
    go_enter Tryd.func12, Tryd.ntmps12
    go_wp2_with fail
    refine hO.mono ?_
    clear hO
    rintro e w2 ⟨rfl, hb⟩
    have HB := hid (hb.trans ((below_alloc w2 (.cells #[.string ⟨#[]⟩, .int .i64 0] 42)).mono hb.size))
    clear hb
    go_wp2
    go_ret2
    exact ⟨rfl, HB.out⟩
set_option maxHeartbeats 16000000 in
theorem rname_any (op : Int) (w : World) : Calls Tryd.prog 13 #[.int .i64 op] w fun e w' => e = .returned (nameR op) ∧ Below w.heap.size w w' := by
  by_cases h : 1 ≤ op ∧ op ≤ 25
  · obtain ⟨q, rfl⟩ : ∃ q : Nat, op = (q : Int) + 1 := ⟨(op - 1).toNat, by omega⟩
    have hq : q < 25 := by omega
    rw [nameR_yes q hq]
    have : q = 0 ∨ q = 1 ∨ q = 2 ∨ q = 3 ∨ q = 4 ∨ q = 5 ∨ q = 6 ∨ q = 7 ∨ q = 8 ∨ q = 9 ∨ q = 10 ∨ q = 11 ∨ q = 12 ∨ q = 13 ∨ q = 14 ∨ q = 15 ∨ q = 16 ∨ q = 17 ∨ q = 18 ∨ q = 19 ∨ q = 20 ∨ q = 21 ∨ q = 22 ∨ q = 23 ∨ q = 24 := by omega
    clear h hq
    rcases this with rfl | rfl | rfl | rfl | rfl | rfl | rfl | rfl | rfl | rfl | rfl | rfl | rfl | rfl | rfl | rfl | rfl | rfl | rfl | rfl | rfl | rfl | rfl | rfl | rfl <;>
      (simp only [opT, List.getD, List.getElem?_cons_zero, List.getElem?_cons_succ, Option.getD_some]
       go_enter Tryd.func13, Tryd.ntmps13
       go_wp2
       go_ret2
       exact ⟨rfl, below_alloc w _⟩)
  · rw [nameR_no op h]
    by_cases h1 : op < 1
    · have h1' : decide (op < 1) = true := decide_eq_true h1
      clear h
      go_enter Tryd.func13, Tryd.ntmps13
      go_wp2
      go_ret2
      exact ⟨rfl, below_alloc w _⟩
    · have h1' : decide (op < 1) = false := decide_eq_false h1
      have h2 : 25 < op := by omega
      clear h
      go_enter Tryd.func13, Tryd.ntmps13
      go_wp2
      go_ret2
      exact ⟨rfl, below_alloc w _⟩
set_option maxHeartbeats 16000000 in
theorem hasA_any (q : Nat) (hq : q < 25) (w : World) : Calls Tryd.prog 22 #[.int .i64 ((q : Int) + 1)] w fun e w' => e = .returned (.bool (decide ((opT.getD q ([], 0)).2 ≠ 0))) ∧ Below w.heap.size w w' := by
  have : q = 0 ∨ q = 1 ∨ q = 2 ∨ q = 3 ∨ q = 4 ∨ q = 5 ∨ q = 6 ∨ q = 7 ∨ q = 8 ∨ q = 9 ∨ q = 10 ∨ q = 11 ∨ q = 12 ∨ q = 13 ∨ q = 14 ∨ q = 15 ∨ q = 16 ∨ q = 17 ∨ q = 18 ∨ q = 19 ∨ q = 20 ∨ q = 21 ∨ q = 22 ∨ q = 23 ∨ q = 24 := by omega
  clear hq
  rcases this with rfl | rfl | rfl | rfl | rfl | rfl | rfl | rfl | rfl | rfl | rfl | rfl | rfl | rfl | rfl | rfl | rfl | rfl | rfl | rfl | rfl | rfl | rfl | rfl | rfl <;>
    (simp only [opT, List.getD, List.getElem?_cons_zero, List.getElem?_cons_succ, Option.getD_some]
     go_enter Tryd.func22, Tryd.ntmps22
     go_wp2
     go_ret
     exact ⟨rfl, Below.refl _ _⟩)
end Go.Proofs.YtkidcoolcjmcfaaDoor
