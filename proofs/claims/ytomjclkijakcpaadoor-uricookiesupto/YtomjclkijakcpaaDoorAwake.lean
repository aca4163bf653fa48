/-
  The law's 'awake'.
-/
import Derived.Test.YtomjclkijakcpaaDoorFormB
import Derived.Test.YtomjclkijakcpaaDoorEncB
namespace Go.Proofs.YtomjclkijakcpaaDoor
open Go.RowKit
set_option linter.unusedVariables false

set_option maxRecDepth 20000 in
set_option maxHeartbeats 1000000 in
theorem awake_any (w : World) : Calls Tryd.prog 11 #[] w fun e w' => e = .returned (.bool true) ∧ Below w.heap.size w w' := by
  have hD := fun w => decode_list [97, 37, 50, 48, 98] false w (by decide)
  have hF := fun w => form_any [97, 61, 49, 38, 38, 98] w (by decide)
  have hE := fun w => encode_any ⟨#[47]⟩ w (by decide)
  rw [show decOut false [97, 37, 50, 48, 98] = [97, 32, 98] by decide, show decErr [97, 37, 50, 48, 98] = 0 by decide, show decPl [97, 37, 50, 48, 98] = 0 by decide] at hD
  rw [show formE [97, 61, 49, 38, 38, 98] = 0 by decide, show decPl [97, 61, 49, 38, 38, 98] = 0 by decide, show formO [97, 61, 49, 38, 38, 98] = [([97], [49]), ([98], [])] by decide] at hF
  rw [show enc (⟨#[47]⟩ : ByteArray).data.toList = [37, 50, 70] by decide] at hE
  have HF := hid hF
  have HE := hid hE
  clear hF hE
  go_enter Tryd.func11, Tryd.ntmps11
  go_wp2_with fail
  refine (hD _).mono ?_
  clear hD
  rintro e w1 ⟨rfl, hB⟩
  have HB1 := hid hB
  clear hB
  go_wp2_with fail
  refine (HF.out _).mono ?_
  clear HF
  rintro e w2 ⟨v2, rfl, hO, hB⟩
  have HB2 := hid (HB1.out.trans (hB.mono HB1.out.size))
  obtain ⟨b, off, ao, cap, rfl, hcap, _, hao, hc⟩ := hO.sees
  obtain rfl := hao (by simp)
  obtain ⟨c1, c2⟩ := hc 0 (by decide)
  simp [strV] at c1 c2
  clear hB hO HB1 hc hao
  go_wp2_with fail
  refine (HE.out _).mono ?_
  clear HE c1 c2
  rintro e w3 ⟨rfl, hB⟩
  have HB3 := hid (HB2.out.trans (hB.mono HB2.out.size))
  clear hB HB2
  go_wp2
  go_ret
  exact ⟨rfl, HB3.out⟩

end Go.Proofs.YtomjclkijakcpaaDoor
