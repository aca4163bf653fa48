/-
  The walk of UriPairs.
-/
import Derived.Test.YtomjclkijakcpaaAwake
import Derived.Test.YtomjclkijakcpaaPrint
import Derived.Test.YtomjclkijakcpaaSame
namespace Go.Proofs.Ytomjclkijakcpaa
open Go.RowKit
set_option linter.unusedVariables false

theorem form_of_print (l : List PairL) : formE (printL l) = (if 32 < l.length then 2 else 0) ∧ formO (printL l) = (if 32 < l.length then [] else l) ∧ decPl (printL l) = 0 := by
  rw [formE, formO, decPl, dec_print, form_print]
  simp

set_option maxRecDepth 20000 in
set_option maxHeartbeats 1000000 in
theorem pairs_walk (v : Value) (l : List PairL) (w : World) (hS : SeesP w v l) (hbk : bulkL l ≤ 1048576) :
    Calls Try.prog 7 #[v] w fun e w' => e = .returned (.bool true) ∧ Below w.heap.size w w' := by
  have hln := bulk_len l
  have hP := print_any v l w hS hbk
  have hpl := printL_len l
  have HF := hid (fun w => form_any (printL l) w (by omega))
  obtain ⟨f1, f2, f3⟩ := form_of_print l
  rw [f1, f2, f3] at HF
  have HA := hid awake_any
  have HS := hid hS
  obtain ⟨b, off, ao, cap, rfl, _⟩ := hS
  obtain ⟨T, hT⟩ : ∃ T, T = (⟨(printL l).toArray⟩ : ByteArray) := ⟨_, rfl⟩
  rw [← hT] at hP HF
  clear hT f1 f2 f3 hpl
  by_cases h32 : 32 < l.length
  · have h32' : (32 : Int) < (l.length : Int) := by omega
    rw [if_pos h32, if_pos h32] at HF
    go_enter Try.func7, Try.ntmps7
    go_wp2_with fail
    refine hP.mono ?_
    clear hP
    rintro e w1 ⟨rfl, hB⟩
    have HB1 := hid hB
    clear hB
    go_wp2_with fail
    refine (HF.out _).mono ?_
    clear HF
    rintro e w2 ⟨v2, rfl, hO, hB⟩
    have HB2 := hid (HB1.out.trans (hB.mono HB1.out.size))
    clear hB HB1 hO
    go_wp2_with fail
    refine (HA.out _).mono ?_
    clear HA
    rintro e w3 ⟨rfl, hB⟩
    have HB3 := hid (HB2.out.trans (hB.mono HB2.out.size))
    clear hB HB2
    go_wp2
    go_ret
    exact ⟨rfl, HB3.out⟩
  · have h32' : ¬ (32 : Int) < (l.length : Int) := by omega
    rw [if_neg h32, if_neg h32] at HF
    go_enter Try.func7, Try.ntmps7
    go_wp2_with fail
    refine hP.mono ?_
    clear hP
    rintro e w1 ⟨rfl, hB⟩
    have HB1 := hid hB
    clear hB
    go_wp2_with fail
    refine (HF.out _).mono ?_
    clear HF
    rintro e w2 ⟨v2, rfl, hO, hB⟩
    have HB2 := hid (HB1.out.trans (hB.mono HB1.out.size))
    have hSm := same_any _ _ l l w2 hO.sees (HS.out.below HB2.out) (by omega)
    rw [decide_eq_true rfl] at hSm
    obtain ⟨ao2, cap2, rfl⟩ := hO.shape
    clear hB HB1 hO
    go_wp2_with fail
    refine hSm.mono ?_
    clear hSm
    rintro e w3 ⟨rfl, n, hw3⟩
    have HB3 : Hid (Below w.heap.size w w3) := by unfold Hid; rw [hw3]; exact below_drewN HB2.out n
    clear hw3 HB2
    go_wp2_with fail
    refine (HA.out _).mono ?_
    clear HA
    rintro e w4 ⟨rfl, hB⟩
    have HB4 := hid (HB3.out.trans (hB.mono HB3.out.size))
    clear hB HB3
    go_wp2
    go_ret
    exact ⟨rfl, HB4.out⟩

end Go.Proofs.Ytomjclkijakcpaa
