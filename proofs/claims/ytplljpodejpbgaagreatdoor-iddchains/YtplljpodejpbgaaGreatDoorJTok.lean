/-
  The token of the login that comes next.
-/
import Derived.Test.YtplljpodejpbgaaGreatDoorJState
import Derived.Test.YtplljpodejpbgaaGreatDoorXSalt
import Derived.Lib.ItoaLen
import Derived.Lib.LaidTab
import Derived.Lib.AppendIntMem
import Derived.Deep.RegionHeld3
namespace Go.Proofs.YtplljpodejpbgaaGreatDoor
open Go.RowKit
set_option linter.unusedVariables false
set_option linter.unusedSimpArgs false
set_option maxRecDepth 100000

def Pow (w : World) : Prop := Lib.TabBelow Tryz.prog w.heap.size w "internal/strconv.uint64pow10" .u64 Lib.pow10Tab
theorem Pow.below {w w' : World} (h : Pow w) (hb : Below w.heap.size w w') : Pow w' := fun w'' h'' => h w'' (hb.trans (h''.mono hb.size))
theorem itoa_any {m : Int} (h0 : -9223372036854775808 ≤ m) (h1 : m ≤ 9223372036854775807) {w : World} (hP : Pow w) (W : World) (hb : Below w.heap.size w W) :
    Calls Tryz.prog 77 #[.int .i64 m] W fun e W' => e = .returned (.string ⟨(Lib.itoa m).toArray⟩) ∧ Below W.heap.size W W' := by
  refine (Tryz.strconv_Itoa m h0 h1 W (hP W hb)).mono ?_
  rintro e w' ⟨rfl, k, os, rfl⟩
  exact ⟨rfl, ⟨rfl, rfl, rfl, Lib.size_grow W k os, fun j hj => Lib.heap_grow_old W k os j (by omega)⟩⟩
/-- The listed tables lie. -/
structure Tb (w : World) : Prop where
  r : Rounds w
  p : Pow w
theorem Tb.below {w w' : World} (h : Tb w) (hb : Below w.heap.size w w') : Tb w' := ⟨h.r.below hb h.r.pos, h.p.below hb⟩

def itoS (m : Int) : ByteArray := ⟨(Lib.itoa m).toArray⟩
theorem itoS_len {m : Int} (h0 : -9223372036854775808 ≤ m) (h1 : m ≤ 9223372036854775807) : (itoS m).size ≤ 21 := by
  have := Lib.itoa_length_le m h0 h1
  simpa [itoS, ByteArray.size] using this
def drawOf (dr : List Int) (n : Nat) : Int := if n < dr.length then dr.getD n 0 else 0
def seedOf (dr : List Int) (n : Nat) : ByteArray := itoS n ++ ⟨#[32]⟩ ++ itoS (drawOf dr n)
def num4 (n : Nat) : List Nat := [n / 16777216 % 256, n / 65536 % 256, n / 256 % 256, n % 256]
def tokOf (dr : List Int) (n : Nat) : ByteArray := strOf ((hexOf (digest H0 K0 (bytesOf (seedOf dr n)))).take 24) ++ strOf (hexOf (num4 n))

theorem undrewT {X w' : World} (h : Below X.drew.heap.size X.drew w') : Below X.heap.size X w' := ⟨h.os, h.tape, h.output, h.size, h.block⟩
theorem num4_lt (n : Nat) : ∀ x ∈ num4 n, x < 256 := by
  intro x hx
  simp only [num4, List.mem_cons, List.not_mem_nil, or_false] at hx
  rcases hx with rfl | rfl | rfl | rfl <;> exact Nat.mod_lt _ (by decide)
theorem tok_cut (l : List Nat) : (strOf l).extract 0 24 = strOf (l.take 24) := by
  have h : ∀ a b : ByteArray, a.data = b.data → a = b := fun a b h => by cases a; cases b; simp_all
  apply h
  rw [ByteArray.data_extract]
  apply Array.toList_inj.1
  simp [strOf, List.map_take]
set_option maxHeartbeats 2000000 in
theorem nextToken_any (w : World) (hT : Tb w) (d ub mb : Nat) (us : List (Acc × Value)) (vd : Value) (dr : List Int) (n : Nat) (ss : List Ses) (vg : Value) (gs : List Gra) (h : IdAt w d ub mb us vd dr n ss vg gs)
    (hdr : ∀ x ∈ dr, -9223372036854775808 ≤ x ∧ x ≤ 9223372036854775807) (hn : n ≤ 4611686018427387904) :
    Calls Tryz.prog 54 #[.pointer (some ⟨d, 0, none⟩)] w fun e w' => e = .returned (.string (tokOf dr n)) ∧ Below w.heap.size w w' := by
  obtain ⟨c0, c1, c2, c3, c4, c5⟩ := h.cells
  obtain ⟨b, off, ao, cap, hv, hcap, _, hao, hcell⟩ := h.dra.sees
  have i1 := itoa_any (m := (n : Int)) (by omega) (by omega) hT.p w (Below.refl _ _)
  rw [show (⟨(Lib.itoa (n : Int)).toArray⟩ : ByteArray) = itoS n from rfl] at i1
  have s1 : (itoS n).size ≤ 21 := itoS_len (by omega) (by omega)
  have H1 := hid i1
  have HT := hid hT
  clear i1 h hT
  subst hv
  by_cases hlt : n < dr.length
  · obtain ⟨y, hy⟩ : ∃ y, y = dr.getD n 0 := ⟨_, rfl⟩
    have hd : drawOf dr n = y := by unfold drawOf; rw [if_pos hlt, hy]
    have hym : y ∈ dr := by rw [hy, List.getD_eq_getElem?_getD, List.getElem?_eq_getElem hlt]; exact List.getElem_mem hlt
    obtain ⟨y1, y2⟩ := hdr y hym
    have s2 : (itoS y).size ≤ 21 := itoS_len y1 y2
    have hlt' : (n : Int) < (dr.length : Int) := by omega
    obtain rfl := hao (by intro e; rw [e] at hlt; simp at hlt)
    have hc := hcell n hlt
    rw [← hy] at hc
    clear hlt hcell hao hy hym
    go_enter Tryz.func54, Tryz.ntmps54
    go_wp2_with fail
    refine H1.out.mono ?_
    rintro e w1 ⟨rfl, hb1⟩
    have HB1 := hid hb1
    have H2 := hid (itoa_any (m := y) (by omega) (by omega) HT.out.p w1 hb1)
    rw [show (⟨(Lib.itoa (y : Int)).toArray⟩ : ByteArray) = itoS y from rfl] at H2
    clear hb1 H1
    go_wp2_with fail
    refine H2.out.mono ?_
    rintro e w2 ⟨rfl, hb2⟩
    have HB2 := hid (HB1.out.trans (hb2.mono HB1.out.size))
    have HSD := hid (show itoS n ++ ⟨#[32]⟩ ++ itoS y = seedOf dr n by unfold seedOf; rw [hd])
    have hsz : (itoS n ++ ⟨#[32]⟩ ++ itoS y).size ≤ 100 := by rw [ByteArray.size_append', ByteArray.size_append']; have : (⟨#[32]⟩ : ByteArray).size = 1 := rfl; omega
    have hsu := sum_any (itoS n ++ ⟨#[32]⟩ ++ itoS y) w2 (HT.out.r.below HB2.out HT.out.r.pos) (by omega)
    rw [HSD.out] at hsu
    have HSU : Hid (Calls Tryz.prog 76 #[.string (itoS n ++ ⟨#[32]⟩ ++ itoS y)] w2 fun e w' => e = .returned (.string (strOf (digest H0 K0 (bytesOf (seedOf dr n))))) ∧ Below w2.heap.size w2 w') := by rw [HSD.out]; exact hsu
    clear hb2 H2 hsu
    go_wp2_with fail
    refine HSU.out.mono ?_
    rintro e w3 ⟨rfl, hb3⟩
    have HB3 := hid (HB2.out.trans (hb3.mono HB2.out.size))
    have hhx := hex_any (strOf (digest H0 K0 (bytesOf (seedOf dr n)))) w3 (by rw [strOf_size, digest_len H0_words]; decide)
    rw [bytesOf_strOf (digest_lt _ _ _)] at hhx
    obtain ⟨dg, hdg⟩ : ∃ dg, dg = strOf (hexOf (digest H0 K0 (bytesOf (seedOf dr n)))) := ⟨_, rfl⟩
    rw [← hdg] at hhx
    have hds : dg.size = 64 := by rw [hdg, strOf_size, hexOf_len, digest_len H0_words]
    have HDG := hid hdg
    have HHX := hid hhx
    clear hb3 hhx hdg HSU hsz HSD
    go_wp2_with fail
    refine HHX.out.mono ?_
    rintro e w4 ⟨rfl, hb4⟩
    have HB4 := hid (HB3.out.trans (hb4.mono HB3.out.size))
    clear hb4 HHX
    go_wp2_with fail
    have h6 : OwnsN .u8 5 (w4.alloc (.cells #[.int .u8 ((n : Int) / 16777216 % 256), .int .u8 ((n : Int) / 65536 % 256), .int .u8 ((n : Int) / 256 % 256), .int .u8 ((n : Int) % 256)] 5)) w4.heap.size (.slice (some ⟨w4.heap.size, 0, none⟩) 4 4) (num4 n) := by
      refine ⟨rfl, Or.inr ⟨w4.heap.size, 4, _, rfl, Nat.le_refl _, heap_alloc_new w4 _, Nat.le_refl _, by decide, rfl, ?_⟩⟩
      simp only [num4, cellsN, List.map_cons, List.map_nil]
      rw [show ((n / 16777216 % 256 : Nat) : Int) = (n : Int) / 16777216 % 256 by omega, show ((n / 65536 % 256 : Nat) : Int) = (n : Int) / 65536 % 256 by omega, show ((n / 256 % 256 : Nat) : Int) = (n : Int) / 256 % 256 by omega, show ((n % 256 : Nat) : Int) = (n : Int) % 256 by omega]
      rfl
    obtain ⟨W6, hW6⟩ : ∃ W6, W6 = w4.alloc (.cells #[.int .u8 ((n : Int) / 16777216 % 256), .int .u8 ((n : Int) / 65536 % 256), .int .u8 ((n : Int) / 256 % 256), .int .u8 ((n : Int) % 256)] 5) := ⟨_, rfl⟩
    rw [← hW6] at h6 ⊢
    have hb6 : Below w.heap.size w W6 := by rw [hW6]; exact HB4.out.alloc HB4.out.size _
    have HB6 := hid hb6
    have HO6 := hid h6
    have hq : (dg.extract 0 24).size = 24 := by rw [ByteArray.size_extract]; omega
    have hx8 : (strOf (hexOf (num4 n))).size = 8 := by rw [strOf_size, hexOf_len]; rfl
    have hcv := conv_own (w := W6.drew) h6
    have HCV := hid hcv
    have HLT : Hid (∀ x ∈ num4 n, x < 256) := num4_lt n
    clear hW6 hb6 h6
    go_region_held3 (fun X => (convert 111 9 (.slice (some ⟨w4.heap.size, 0, none⟩) 4 4)).run Tryz.prog X = .ok (.string (strOf (num4 n))) X)
      (first | (with_reducible exact HCV.out) | (with_reducible exact hS7))
      (first
        | (go_at_call 75
           refine (hex_any (strOf (num4 n)) _ (by rw [strOf_size]; show (4 : Nat) ≤ 70368744177664; decide)).mono ?_
           rintro e' w7 ⟨rfl, hb7⟩
           rw [bytesOf_strOf HLT.out]
           have hb7 := undrewT hb7
           have hS7 := conv_own (HO6.out.below hb7)
           have HB7 := hid (HB6.out.trans (hb7.mono HB6.out.size))))
    all_goals
      go_wp2
      go_ret
      refine ⟨?_, HB7.out⟩
      unfold tokOf
      rw [← tok_cut, ← HDG.out]
      rfl
  · have hd : drawOf dr n = 0 := by unfold drawOf; rw [if_neg hlt]
    have s2 : (itoS 0).size ≤ 21 := itoS_len (by omega) (by omega)
    have hlt' : ¬ (n : Int) < (dr.length : Int) := by omega
    clear hlt hcell hao
    go_enter Tryz.func54, Tryz.ntmps54
    go_wp2_with fail
    refine H1.out.mono ?_
    rintro e w1 ⟨rfl, hb1⟩
    have HB1 := hid hb1
    have H2 := hid (itoa_any (m := 0) (by omega) (by omega) HT.out.p w1 hb1)
    rw [show (⟨(Lib.itoa (0 : Int)).toArray⟩ : ByteArray) = itoS 0 from rfl] at H2
    clear hb1 H1
    go_wp2_with fail
    refine H2.out.mono ?_
    rintro e w2 ⟨rfl, hb2⟩
    have HB2 := hid (HB1.out.trans (hb2.mono HB1.out.size))
    have HSD := hid (show itoS n ++ ⟨#[32]⟩ ++ itoS 0 = seedOf dr n by unfold seedOf; rw [hd])
    have hsz : (itoS n ++ ⟨#[32]⟩ ++ itoS 0).size ≤ 100 := by rw [ByteArray.size_append', ByteArray.size_append']; have : (⟨#[32]⟩ : ByteArray).size = 1 := rfl; omega
    have hsu := sum_any (itoS n ++ ⟨#[32]⟩ ++ itoS 0) w2 (HT.out.r.below HB2.out HT.out.r.pos) (by omega)
    rw [HSD.out] at hsu
    have HSU : Hid (Calls Tryz.prog 76 #[.string (itoS n ++ ⟨#[32]⟩ ++ itoS 0)] w2 fun e w' => e = .returned (.string (strOf (digest H0 K0 (bytesOf (seedOf dr n))))) ∧ Below w2.heap.size w2 w') := by rw [HSD.out]; exact hsu
    clear hb2 H2 hsu
    go_wp2_with fail
    refine HSU.out.mono ?_
    rintro e w3 ⟨rfl, hb3⟩
    have HB3 := hid (HB2.out.trans (hb3.mono HB2.out.size))
    have hhx := hex_any (strOf (digest H0 K0 (bytesOf (seedOf dr n)))) w3 (by rw [strOf_size, digest_len H0_words]; decide)
    rw [bytesOf_strOf (digest_lt _ _ _)] at hhx
    obtain ⟨dg, hdg⟩ : ∃ dg, dg = strOf (hexOf (digest H0 K0 (bytesOf (seedOf dr n)))) := ⟨_, rfl⟩
    rw [← hdg] at hhx
    have hds : dg.size = 64 := by rw [hdg, strOf_size, hexOf_len, digest_len H0_words]
    have HDG := hid hdg
    have HHX := hid hhx
    clear hb3 hhx hdg HSU hsz HSD
    go_wp2_with fail
    refine HHX.out.mono ?_
    rintro e w4 ⟨rfl, hb4⟩
    have HB4 := hid (HB3.out.trans (hb4.mono HB3.out.size))
    clear hb4 HHX
    go_wp2_with fail
    have h6 : OwnsN .u8 5 (w4.alloc (.cells #[.int .u8 ((n : Int) / 16777216 % 256), .int .u8 ((n : Int) / 65536 % 256), .int .u8 ((n : Int) / 256 % 256), .int .u8 ((n : Int) % 256)] 5)) w4.heap.size (.slice (some ⟨w4.heap.size, 0, none⟩) 4 4) (num4 n) := by
      refine ⟨rfl, Or.inr ⟨w4.heap.size, 4, _, rfl, Nat.le_refl _, heap_alloc_new w4 _, Nat.le_refl _, by decide, rfl, ?_⟩⟩
      simp only [num4, cellsN, List.map_cons, List.map_nil]
      rw [show ((n / 16777216 % 256 : Nat) : Int) = (n : Int) / 16777216 % 256 by omega, show ((n / 65536 % 256 : Nat) : Int) = (n : Int) / 65536 % 256 by omega, show ((n / 256 % 256 : Nat) : Int) = (n : Int) / 256 % 256 by omega, show ((n % 256 : Nat) : Int) = (n : Int) % 256 by omega]
      rfl
    obtain ⟨W6, hW6⟩ : ∃ W6, W6 = w4.alloc (.cells #[.int .u8 ((n : Int) / 16777216 % 256), .int .u8 ((n : Int) / 65536 % 256), .int .u8 ((n : Int) / 256 % 256), .int .u8 ((n : Int) % 256)] 5) := ⟨_, rfl⟩
    rw [← hW6] at h6 ⊢
    have hb6 : Below w.heap.size w W6 := by rw [hW6]; exact HB4.out.alloc HB4.out.size _
    have HB6 := hid hb6
    have HO6 := hid h6
    have hq : (dg.extract 0 24).size = 24 := by rw [ByteArray.size_extract]; omega
    have hx8 : (strOf (hexOf (num4 n))).size = 8 := by rw [strOf_size, hexOf_len]; rfl
    have hcv := conv_own (w := W6.drew) h6
    have HCV := hid hcv
    have HLT : Hid (∀ x ∈ num4 n, x < 256) := num4_lt n
    clear hW6 hb6 h6
    go_region_held3 (fun X => (convert 111 9 (.slice (some ⟨w4.heap.size, 0, none⟩) 4 4)).run Tryz.prog X = .ok (.string (strOf (num4 n))) X)
      (first | (with_reducible exact HCV.out) | (with_reducible exact hS7))
      (first
        | (go_at_call 75
           refine (hex_any (strOf (num4 n)) _ (by rw [strOf_size]; show (4 : Nat) ≤ 70368744177664; decide)).mono ?_
           rintro e' w7 ⟨rfl, hb7⟩
           rw [bytesOf_strOf HLT.out]
           have hb7 := undrewT hb7
           have hS7 := conv_own (HO6.out.below hb7)
           have HB7 := hid (HB6.out.trans (hb7.mono HB6.out.size))))
    all_goals
      go_wp2
      go_ret
      refine ⟨?_, HB7.out⟩
      unfold tokOf
      rw [← tok_cut, ← HDG.out]
      rfl
end Go.Proofs.YtplljpodejpbgaaGreatDoor
