/-
  What must come, whatever the arguments are.
-/
import Derived.Test.YtkidcoolcjmcfaaDoorCParse
import Derived.Test.YtkidcoolcjmcfaaDoorCPrint
namespace Go.Proofs.YtkidcoolcjmcfaaDoor
open Go.RowKit
set_option linter.unusedVariables false
set_option linter.unusedSimpArgs false
set_option maxRecDepth 100000

theorem PowA.below {w w' : World} (h : PowA w) (hb : Below w.heap.size w w') : PowA w' := fun B W h1 h2 => h B W (Nat.le_trans hb.size h1) (hb.trans (h2.mono hb.size))
def txA : List UInt8 := [112, 117, 115, 104, 32, 53, 32, 59, 32, 102, 105, 118, 101, 10, 10, 32, 104, 97, 108, 116]
def txB : List UInt8 := [104, 97, 108, 116, 10, 32, 112, 111, 112, 32, 48]
theorem par_a : parC txA = ([(1, 5), (25, 0)], 0, 0) := by decide +kernel
theorem par_b : parC txB = ([], 130, 6) := by decide +kernel
theorem prn_a : prnC [(1, 5), (25, 0)] = ([112, 117, 115, 104, 32, 53, 10, 104, 97, 108, 116, 10], 0) := by decide +kernel
theorem OwnsI.shape {w : World} {B : Nat} {v : Value} {l : List InsL} (h : OwnsI w B v l) : ∃ ao cap, v = .slice ao l.length cap := row_shape h
set_option maxHeartbeats 2000000 in
theorem awake_any (w : World) (hM : Met w) (hP : PowA w) : Calls Tryd.prog 14 #[] w fun e w' => e = .returned (.bool true) ∧ Below w.heap.size w w' := by
  have h1 : Calls Tryd.prog 15 #[.string { data := #[112, 117, 115, 104, 32, 53, 32, 59, 32, 102, 105, 118, 101, 10, 10, 32, 104, 97, 108, 116] }] w (ParR w ([(1, 5), (25, 0)], 0, 0)) := by
    have h := parse_any txA w hM (by decide)
    rw [par_a] at h
    exact h
  have H2 : Hid (∀ W, Met W → Calls Tryd.prog 15 #[.string { data := #[104, 97, 108, 116, 10, 32, 112, 111, 112, 32, 48] }] W (ParR W ([], 130, 6))) := hid fun W hW => by
    have h := parse_any txB W hW (by decide)
    rw [par_b] at h
    exact h
  have HM := hid hM
  have HP := hid hP
  clear hM hP
  go_enter Tryd.func14, Tryd.ntmps14
  go_wp2_with fail
  refine h1.mono ?_
  clear h1
  rintro e w1 ⟨v, rfl, hO, hb1⟩
  obtain ⟨ao, cap, rfl⟩ := hO.shape
  have hPr : Calls Tryd.prog 10 #[.slice ao 2 cap] w1 fun e w' => e = .returned (.tuple #[.string { data := #[112, 117, 115, 104, 32, 53, 10, 104, 97, 108, 116, 10] }, .int .i64 0]) ∧ Below w1.heap.size w1 w' := by
    have h := print_any (.slice ao 2 cap) [(1, 5), (25, 0)] w1 hO.sees (HM.out.below hb1) (HP.out.below hb1) (by decide) (fun i hi => by simp at hi; rcases hi with rfl | rfl <;> exact ⟨by decide, by decide⟩)
    rw [prn_a] at h
    exact h
  have HB1 := hid hb1
  clear hO hb1
  go_wp2_with fail
  refine hPr.mono ?_
  clear hPr
  rintro e w2 ⟨rfl, hb2⟩
  have HB2 := hid (HB1.out.trans (hb2.mono HB1.out.size))
  have h3 := H2.out w2 (HM.out.below HB2.out)
  clear hb2
  go_wp2_with fail
  refine h3.mono ?_
  clear h3
  rintro e w3 ⟨v3, rfl, hO3, hb3⟩
  obtain ⟨ao3, cap3, rfl⟩ := hO3.shape
  have HB3 := hid (HB2.out.trans (hb3.mono HB2.out.size))
  clear hO3 hb3
  go_wp2
  go_ret
  exact ⟨rfl, HB3.out⟩
end Go.Proofs.YtkidcoolcjmcfaaDoor
