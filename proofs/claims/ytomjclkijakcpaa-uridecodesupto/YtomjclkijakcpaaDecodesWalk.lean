/-
  The walk of UriDecodes.
-/
import Derived.Test.YtomjclkijakcpaaAwake
import Derived.Test.YtomjclkijakcpaaRDec
namespace Go.Proofs.Ytomjclkijakcpaa
open Go.RowKit
set_option linter.unusedVariables false

set_option maxRecDepth 20000 in
set_option maxHeartbeats 1000000 in
theorem decodes_walk (s : ByteArray) (plus : Bool) (w : World) (hs : 3 * s.size + 1 ≤ 140737488355328) :
    Calls Try.prog 3 #[.string s, .bool plus] w fun e w' => e = .returned (.bool true) ∧ Below w.heap.size w w' := by
  have hD1 := decode_any s plus w (by omega)
  have HD2 := hid (fun w => rdecode_any s plus w (by omega))
  have HE1 := hid (fun w => encode_any s w (by omega))
  have HE2 := hid (fun w => rencode_any s w (by omega))
  have HA := hid awake_any
  obtain ⟨A1, hA1⟩ : ∃ x, x = (⟨(decOut plus s.data.toList).toArray⟩ : ByteArray) := ⟨_, rfl⟩
  obtain ⟨A2, hA2⟩ : ∃ x, x = decErr s.data.toList := ⟨_, rfl⟩
  obtain ⟨A3, hA3⟩ : ∃ x, x = decPl s.data.toList := ⟨_, rfl⟩
  obtain ⟨A4, hA4⟩ : ∃ x, x = (⟨(enc s.data.toList).toArray⟩ : ByteArray) := ⟨_, rfl⟩
  rw [← hA1, ← hA2, ← hA3] at hD1 HD2
  rw [← hA4] at HE1 HE2
  clear hA1 hA2 hA3 hA4 hs
  go_enter Try.func3, Try.ntmps3
  go_wp2_with fail
  refine hD1.mono ?_
  clear hD1
  rintro e w1 ⟨rfl, hB⟩
  have HB1 := hid hB
  clear hB
  go_wp2_with fail
  refine (HD2.out _).mono ?_
  clear HD2
  rintro e w2 ⟨rfl, hB⟩
  have HB2 := hid (HB1.out.trans (hB.mono HB1.out.size))
  clear hB HB1
  go_wp2_with fail
  refine (HE1.out _).mono ?_
  clear HE1
  rintro e w3 ⟨rfl, hB⟩
  have HB3 := hid (HB2.out.trans (hB.mono HB2.out.size))
  clear hB HB2
  go_wp2_with fail
  refine (HE2.out _).mono ?_
  clear HE2
  rintro e w4 ⟨rfl, hB⟩
  have HB4 := hid (HB3.out.trans (hB.mono HB3.out.size))
  clear hB HB3
  go_wp2_with fail
  refine (HA.out _).mono ?_
  clear HA
  rintro e w5 ⟨rfl, hB⟩
  have HB5 := hid (HB4.out.trans (hB.mono HB4.out.size))
  clear hB HB4
  go_wp2
  go_ret
  exact ⟨rfl, HB5.out⟩

end Go.Proofs.Ytomjclkijakcpaa
