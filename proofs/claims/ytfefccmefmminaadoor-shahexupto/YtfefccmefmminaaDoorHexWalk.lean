/-
  The walk of the law ShaHex.
-/
import Derived.Test.YtfefccmefmminaaDoorRefE
import Derived.Test.YtfefccmefmminaaDoorRefF
import Derived.Test.YtfefccmefmminaaDoorAbc
namespace Go.Proofs.YtfefccmefmminaaDoor
open Go.RowKit
set_option linter.unusedVariables false

theorem unhexV_shape (o : Option (List Nat)) : ∃ (x : ByteArray) (c : Int), unhexV o = .tuple #[.string x, .int .i64 c] := by
  cases o with
  | none => exact ⟨_, _, rfl⟩
  | some l => exact ⟨_, _, rfl⟩

set_option maxRecDepth 20000 in
set_option maxHeartbeats 1000000 in
theorem hex_walk (s t : ByteArray) (w : World) (hR : Rounds w) (z0 : s.size ≤ 140737488351232) (hs : s.size ≤ 1048576) (z1 : t.size ≤ 140737488351232) (ht : t.size ≤ 1048576) : Calls Tryd.prog 5 #[.string s, .string t] w fun e w' => e = .returned (.bool true) ∧ Below w.heap.size w w' := by
  have hpos := hR.pos
  have HR := hid hR
  obtain ⟨x, c, hx⟩ := unhexV_shape (unhexOf (bytesOf t))
  have HX := hid hx
  have hb := bytesOf_lt s
  have hu : unhexV (unhexOf (bytesOf (strOf (hexOf (bytesOf s))))) = .tuple #[.string s, .int .i64 0] := by
    rw [bytesOf_strOf (hexOf_lt hb), unhex_hex _ hb, unhexV, strOf_bytesOf]
  have hsz : (strOf (hexOf (bytesOf s))).size ≤ 70368744177664 := by rw [strOf_size, hexOf_len, bytesOf_len]; omega
  obtain ⟨h, hh⟩ : ∃ h, h = strOf (hexOf (bytesOf s)) := ⟨_, rfl⟩
  have HH := hid hh
  rw [← hh] at hu hsz
  have HU := hid hu
  clear hR hx hb hu hh z0 z1
  go_enter Tryd.func5, Tryd.ntmps5
  go_wp2_with fail
  refine (unhex_any t _ (by omega)).mono ?_
  rw [HX.out]
  rintro e w1 ⟨rfl, hB1⟩
  have HB1 := hid hB1
  clear hB1
  go_wp2_with fail
  refine (runhex_any t _ (by omega)).mono ?_
  rw [HX.out]
  rintro e w2 ⟨rfl, hB2⟩
  have HB2 := hid (HB1.out.trans (hB2.mono HB1.out.size))
  clear hB2
  go_wp2_with fail
  refine (hex_any s _ (by omega)).mono ?_
  rw [← HH.out]
  rintro e w3 ⟨rfl, hB3⟩
  have HB3 := hid (HB2.out.trans (hB3.mono HB2.out.size))
  clear hB3
  go_wp2_with fail
  refine (unhex_any h _ hsz).mono ?_
  rw [HU.out]
  rintro e w4 ⟨rfl, hB4⟩
  have HB4 := hid (HB3.out.trans (hB4.mono HB3.out.size))
  clear hB4
  go_wp2_with fail
  refine (hex_any s _ (by omega)).mono ?_
  rw [← HH.out]
  rintro e w5 ⟨rfl, hB5⟩
  have HB5 := hid (HB4.out.trans (hB5.mono HB4.out.size))
  clear hB5
  go_wp2_with fail
  refine (rhex_any s _ (by omega)).mono ?_
  rw [← HH.out]
  rintro e w6 ⟨rfl, hB6⟩
  have HB6 := hid (HB5.out.trans (hB6.mono HB5.out.size))
  clear hB6
  go_wp2_with fail
  refine (awake_any _ (HR.out.below HB6.out hpos)).mono ?_
  rintro e w7 ⟨rfl, hB7⟩
  have HB7 := hid (HB6.out.trans (hB7.mono HB6.out.size))
  clear hB7
  go_wp2
  go_ret
  exact ⟨rfl, HB7.out⟩
end Go.Proofs.YtfefccmefmminaaDoor
