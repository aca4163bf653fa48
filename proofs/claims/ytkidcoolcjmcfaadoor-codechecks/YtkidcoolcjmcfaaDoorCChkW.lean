/-
  The walk of the law CodeChecks.
-/
import Derived.Test.YtkidcoolcjmcfaaDoorCRPrint
namespace Go.Proofs.YtkidcoolcjmcfaaDoor
open Go.RowKit
set_option linter.unusedVariables false
set_option linter.unusedSimpArgs false
set_option maxRecDepth 100000

set_option maxHeartbeats 4000000 in
theorem checks_walk (v : Value) (l : List InsL) (op : Int) (w : World) (hS : SeesI w v l) (hM : Met w) (hP : PowA w) (hlen : l.length ≤ 140737488355328) (h64 : ∀ i ∈ l, in64 i.2) :
    Calls Tryd.prog 3 #[v, .int .i64 op] w fun e w' => e = .returned (.bool true) ∧ Below w.heap.size w w' := by
  have HM := hid hM
  have HP := hid hP
  have H1 := hid (check_any v l w hS hM.tabs hlen)
  have H2 : Hid (∀ W, Below w.heap.size w W → _) := hid fun W (hb : Below w.heap.size w W) => rcheck_any v l W (hS.below hb) hlen
  have H3 : Hid (∀ W, Below w.heap.size w W → _) := hid fun W (hb : Below w.heap.size w W) => print_any v l W (hS.below hb) (hM.below hb) (hP.below hb) hlen h64
  have H4 : Hid (∀ W, Below w.heap.size w W → _) := hid fun W (hb : Below w.heap.size w W) => rprint_any v l W (hS.below hb) (hM.below hb) hlen h64
  have H5 : Hid (∀ W, Below w.heap.size w W → _) := hid fun W (hb : Below w.heap.size w W) => name_any op W (hM.below hb).tabs
  have H6 := hid (fun W => rname_any op W)
  have H7 : Hid (∀ W, Below w.heap.size w W → _) := hid fun W (hb : Below w.heap.size w W) => awake_any W (hM.below hb) (hP.below hb)
  obtain ⟨⟨ce, ck⟩, hcc⟩ : ∃ C, C = checkL l := ⟨_, rfl⟩
  obtain ⟨⟨tx, pe⟩, hpp⟩ : ∃ C, C = prnC l := ⟨_, rfl⟩
  obtain ⟨nm, hnm⟩ : ∃ nm, nm = nameO op := ⟨_, rfl⟩
  obtain ⟨ne, hne⟩ : ∃ ne : Int, ne = if (opOf op).isSome = true then 0 else 3 := ⟨_, rfl⟩
  unfold nameR at H5 H6
  rw [← hcc] at H1 H2
  rw [← hpp] at H3 H4
  rw [← hnm, ← hne] at H5 H6
  obtain ⟨vo, vc, rfl⟩ : ∃ ao cap, v = .slice ao l.length cap := by
    obtain ⟨b, off, ao, cap, rfl, _⟩ := hS
    exact ⟨ao, cap, rfl⟩
  clear hS hM hP h64 hcc hpp hnm hne
  go_enter Tryd.func3, Tryd.ntmps3
  go_wp2_with fail
  refine H1.out.mono ?_
  clear H1
  rintro e w1 ⟨rfl, hb1⟩
  have HB1 := hid hb1
  have h2 := H2.out w1 hb1
  clear hb1 H2
  go_wp2_with fail
  refine h2.mono ?_
  clear h2
  rintro e w2 ⟨rfl, hb2⟩
  have HB2 := hid (HB1.out.trans (hb2.mono HB1.out.size))
  have h3 := H3.out w2 HB2.out
  clear hb2 H3
  go_wp2_with fail
  refine h3.mono ?_
  clear h3
  rintro e w3 ⟨rfl, hb3⟩
  have HB3 := hid (HB2.out.trans (hb3.mono HB2.out.size))
  have h4 := H4.out w3 HB3.out
  clear hb3 H4
  go_wp2_with fail
  refine h4.mono ?_
  clear h4
  rintro e w4 ⟨rfl, hb4⟩
  have HB4 := hid (HB3.out.trans (hb4.mono HB3.out.size))
  have h5 := H5.out w4 HB4.out
  clear hb4 H5
  go_wp2_with fail
  refine h5.mono ?_
  clear h5
  rintro e w5 ⟨rfl, hb5⟩
  have HB5 := hid (HB4.out.trans (hb5.mono HB4.out.size))
  clear hb5
  go_wp2_with fail
  refine (H6.out w5).mono ?_
  clear H6
  rintro e w6 ⟨rfl, hb6⟩
  have HB6 := hid (HB5.out.trans (hb6.mono HB5.out.size))
  have h7 := H7.out w6 HB6.out
  clear hb6 H7
  go_wp2_with fail
  refine h7.mono ?_
  clear h7
  rintro e w7 ⟨rfl, hb7⟩
  have HB7 := hid (HB6.out.trans (hb7.mono HB6.out.size))
  clear hb7
  go_wp2
  go_ret
  exact ⟨rfl, HB7.out⟩
end Go.Proofs.YtkidcoolcjmcfaaDoor
