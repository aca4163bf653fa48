/-
  The walk of UriCookies.
-/
import Derived.Test.YtomjclkijakcpaaDoorCookE
import Derived.Test.YtomjclkijakcpaaDoorRPrint
import Derived.Test.YtomjclkijakcpaaDoorAwake
namespace Go.Proofs.YtomjclkijakcpaaDoor
open Go.RowKit
set_option linter.unusedVariables false

theorem cookL_len (l : List UInt8) : (cookL l).length ≤ 32 := by
  rw [cookL, List.length_take]; omega

set_option maxRecDepth 20000 in
set_option maxHeartbeats 2000000 in
theorem cookies_walk (s : ByteArray) (v : Value) (name : ByteArray) (l : List PairL) (w : World) (hS : SeesP w v l) (hbk : bulkL l ≤ 1048576) (hs : s.size ≤ 1048576) :
    Calls Tryd.prog 3 #[.string s, v, .string name] w fun e w' => e = .returned (.bool true) ∧ Below w.heap.size w w' := by
  have hln := bulk_len l
  have hsl : s.data.toList.length ≤ 1048576 := by rw [len_str]; exact hs
  have hG := get_any v l name.data.toList w hS (by omega)
  have HG2 := hid (fun w1 (h : Below w.heap.size w w1) => rget_any v l name.data.toList w1 (hS.below h) (by omega))
  have HC1 := hid (fun w => cookies_any s.data.toList w (by omega))
  have HC2 := hid (fun w => rcookies_any s.data.toList w (by omega))
  have HP1 := hid (fun w1 (h : Below w.heap.size w w1) => print_any v l w1 (hS.below h) hbk)
  have HP2 := hid (fun w1 (h : Below w.heap.size w w1) => rprint_any v l w1 (hS.below h) hbk)
  have HA := hid awake_any
  have hcl := cookL_len s.data.toList
  rw [str_list] at hG HG2 HC1 HC2
  obtain ⟨O, hO⟩ : ∃ x, x = cookL s.data.toList := ⟨_, rfl⟩
  rw [← hO] at HC1 HC2 hcl
  obtain ⟨X, hX⟩ : ∃ x, x = (⟨((getL l name.data.toList).getD []).toArray⟩ : ByteArray) := ⟨_, rfl⟩
  obtain ⟨Y, hY⟩ : ∃ x, x = (getL l name.data.toList).isSome := ⟨_, rfl⟩
  obtain ⟨Z, hZ⟩ : ∃ x, x = (⟨(printL l).toArray⟩ : ByteArray) := ⟨_, rfl⟩
  rw [← hX, ← hY] at hG HG2
  rw [← hZ] at HP1 HP2
  obtain ⟨b, off, ao, cap, rfl, _⟩ := hS
  clear hO hX hY hZ hsl hs hln hbk
  go_enter Tryd.func3, Tryd.ntmps3
  go_wp2_with fail
  refine hG.mono ?_
  clear hG
  rintro e w1 ⟨rfl, hB⟩
  have HB1 := hid hB
  clear hB
  go_wp2_with fail
  refine (HG2.out _ HB1.out).mono ?_
  clear HG2
  rintro e w2 ⟨rfl, hw2⟩
  have HB2 : Hid (Below w.heap.size w w2) := by unfold Hid; rw [hw2]; exact HB1.out
  clear hw2 HB1
  go_wp2_with fail
  refine (HC1.out _).mono ?_
  clear HC1
  rintro e w3 ⟨v3, rfl, hO3, hB3⟩
  have HO3 := hid hO3
  have HB3 := hid (HB2.out.trans (hB3.mono HB2.out.size))
  obtain ⟨ao3, cap3, rfl⟩ := hO3.shape
  clear hO3 hB3 HB2
  go_wp2_with fail
  refine (HC2.out _).mono ?_
  clear HC2
  rintro e w4 ⟨v4, rfl, hO4, hB4⟩
  have HO34 := hid (HO3.out.below hB4)
  have HB4 := hid (HB3.out.trans (hB4.mono HB3.out.size))
  have hSm := same_any _ _ O O w4 HO34.out.sees hO4.sees (by omega)
  rw [decide_eq_true rfl] at hSm
  obtain ⟨ao4, cap4, rfl⟩ := hO4.shape
  clear hO4 hB4 HB3 HO3 HO34
  go_wp2_with fail
  refine hSm.mono ?_
  clear hSm
  rintro e w5 ⟨rfl, n, hw5⟩
  have HB5 : Hid (Below w.heap.size w w5) := by unfold Hid; rw [hw5]; exact below_drewN HB4.out n
  clear hw5 HB4
  go_wp2_with fail
  refine (HP1.out _ HB5.out).mono ?_
  clear HP1
  rintro e w6 ⟨rfl, hB⟩
  have HB6 := hid (HB5.out.trans (hB.mono HB5.out.size))
  clear hB HB5
  go_wp2_with fail
  refine (HP2.out _ HB6.out).mono ?_
  clear HP2
  rintro e w7 ⟨rfl, hB⟩
  have HB7 := hid (HB6.out.trans (hB.mono HB6.out.size))
  clear hB HB6
  go_wp2_with fail
  refine (HA.out _).mono ?_
  clear HA
  rintro e w8 ⟨rfl, hB⟩
  have HB8 := hid (HB7.out.trans (hB.mono HB7.out.size))
  clear hB HB7
  go_wp2
  go_ret
  exact ⟨rfl, HB8.out⟩

end Go.Proofs.YtomjclkijakcpaaDoor
