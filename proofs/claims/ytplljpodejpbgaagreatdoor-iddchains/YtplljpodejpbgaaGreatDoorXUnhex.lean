/-
  Unhex: the code's, and the document's.
-/
import Derived.Test.YtplljpodejpbgaaGreatDoorXUnhexA
namespace Go.Proofs.YtplljpodejpbgaaGreatDoor
open Go.RowKit
set_option linter.unusedVariables false
set_option maxRecDepth 100000

/-- What Unhex answers. -/
def unhexV (o : Option (List Nat)) : Value := match o with
  | some l => .tuple #[.string (strOf l), .int .i64 0]
  | none => .tuple #[.string { data := #[] }, .int .i64 40]

theorem shift_or (a b : Nat) (ha : a < 16) (hb : b < 16) : bits .or .i64 ((a : Int) * 16) (b : Int) = ((16 * a + b : Nat) : Int) := by
  have e : ((a : Int) * (16 : Int)) = ((a * 16 : Nat) : Int) := by simp
  have j : a * 16 ||| b = a * 16 + b := by
    have h := Nat.two_pow_add_eq_or_of_lt (i := 4) (b := b) hb a
    rw [Nat.mul_comm] at h
    exact h.symm
  rw [e, i64_or _ _ (by omega) (by omega), j]
  omega

set_option maxRecDepth 100000 in
set_option maxHeartbeats 2000000 in
theorem unhex_any (s : ByteArray) (w : World) (hl : s.size ≤ 70368744177664) : Calls Tryz.prog 83 #[.string s] w fun e w' => e = .returned (unhexV (unhexOf (bytesOf s))) ∧ Below w.heap.size w w' := by
  by_cases hev : s.size % 2 = 0
  · have hb : (((s.size : Int) % 2) != 0) = false := by rw [show (s.size : Int) % 2 = 0 by omega]; rfl
    have hof : unhexOf (bytesOf s) = unhexTo (bytesOf s) (s.size / 2) := by unfold unhexOf; rw [bytesOf_len, if_pos hev]
    rw [hof]
    obtain ⟨N, hN⟩ : ∃ N, N = s.size / 2 := ⟨_, rfl⟩
    rw [← hN]
    have hN2 : (s.size : Int) / 2 = (N : Int) := by omega
    have hmk := made_run w 0 (N : Int) (by omega) (by omega) (by omega)
    have hO0 := owns_made w w.heap.size 0 N (by omega) (by omega) (Nat.le_refl _)
    rw [Int.toNat_natCast] at hmk
    obtain ⟨W1, hW1⟩ : ∃ W1, W1 = w.alloc (.cells (madeCells #[.int .u8 0] N) 5) := ⟨_, rfl⟩
    rw [← hW1] at hmk hO0
    have HO0 := hid hO0
    have HB1 := hid (show Below w.heap.size w W1 by rw [hW1]; exact below_alloc w _)
    have HN := hid hN
    have HE := hid (show s.size = 2 * N by omega)
    clear hO0 hW1 hof hev hN
    go_enter Tryz.func83, Tryz.ntmps83
    go_wp2_with fail
    go_loopw [4, 5] (fun u i wr => ∃ (k : Nat) (out : List Nat), k ≤ N ∧ i = .int .i64 ((2 * k : Nat) : Int) ∧ unhexTo (bytesOf s) k = some out ∧ OwnsN .u8 5 wr w.heap.size u out ∧ Below w.heap.size w wr) (fun _ i _ => s.size - (intOf i).toNat)
    case atStart => exact ⟨0, [], Nat.zero_le _, rfl, rfl, HO0.out, HB1.out⟩
    clear HO0 HB1 hmk
    case round =>
      obtain ⟨k, out, hk, rfl, hun, hO, hB⟩ := hrel
      obtain ⟨ao, cap, rfl⟩ := hO.shape
      have hsw := hB.size
      have hll := unhexTo_len hun
      rw [hll] at hO ⊢
      have HO := hid hO
      have HB := hid hB
      have HU := hid hun
      have HLL := hid hll
      clear hO hB hun hll
      by_cases hlt : k < N
      · obtain ⟨I, hI⟩ : ∃ I, I = 2 * k := ⟨_, rfl⟩
        rw [← hI]
        have hIs : I + 1 < s.size := by have := HE.out; omega
        have i1 := index_str s .i64 (I : Int) I rfl (by omega)
        have i2 := index_str s .i64 ((I : Int) + 1) (I + 1) (by omega) hIs
        have l1 : (bytesOf s).getD I 0 < 256 := getD_lt (by decide) (bytesOf_lt s) _
        have l2 : (bytesOf s).getD (I + 1) 0 < 256 := getD_lt (by decide) (bytesOf_lt s) _
        have hsucc : ∀ a b, dval ((bytesOf s).getD I 0) = some a → dval ((bytesOf s).getD (I + 1) 0) = some b → unhexTo (bytesOf s) (k + 1) = some (out ++ [16 * a + b]) := fun a b ha hb => by
          rw [unhexTo, HU.out, ← hI, ha, hb]
        have hno1 : dval ((bytesOf s).getD I 0) = none → unhexTo (bytesOf s) N = none := fun h => unhexTo_none (k := k + 1) (by rw [unhexTo, ← hI, h]; simp) N (by omega)
        have hno2 : dval ((bytesOf s).getD (I + 1) 0) = none → unhexTo (bytesOf s) N = none := fun h => unhexTo_none (k := k + 1) (by rw [unhexTo, ← hI, h]; simp) N (by omega)
        obtain ⟨b1, hb1⟩ : ∃ b, b = (bytesOf s).getD I 0 := ⟨_, rfl⟩
        obtain ⟨b2, hb2⟩ : ∃ b, b = (bytesOf s).getD (I + 1) 0 := ⟨_, rfl⟩
        rw [← hb1] at i1 l1 hsucc hno1
        rw [← hb2] at i2 l2 hsucc hno2
        have HSucc := hid hsucc
        have HNo1 := hid hno1
        have HNo2 := hid hno2
        have HI := hid hI
        have zI : (I : Int) < (s.size : Int) := by omega
        clear hsucc hno1 hno2 hI hb1 hb2
        have d1 : dval b1 = none ∨ ∃ a, dval b1 = some a := by cases dval b1 <;> simp
        have d2 : dval b2 = none ∨ ∃ a, dval b2 = some a := by cases dval b2 <;> simp
        rcases d1 with d1 | ⟨a1, d1⟩
        · have HX1 := hid (fun w => idx_any b1 w l1)
          have HX2 := hid (fun w => idx_any b2 w l2)
          have v1 := dv_none d1
          obtain ⟨y2, hy2⟩ : ∃ y, y = dv b2 := ⟨_, rfl⟩
          rw [v1] at HX1
          rw [← hy2] at HX2
          have HR := hid (HNo1.out d1)
          clear d1 v1 hy2 d2
          go_wp2_with fail
          refine (HX1.out _).mono ?_
          rintro e w1 ⟨rfl, rfl⟩
          go_wp2_with fail
          refine (HX2.out _).mono ?_
          rintro e w1 ⟨rfl, rfl⟩
          go_wp2
          go_ret2
          refine ⟨?_, HB.out⟩
          rw [HR.out]
          rfl
        · rcases d2 with d2 | ⟨a2, d2⟩
          · have HX1 := hid (fun w => idx_any b1 w l1)
            have HX2 := hid (fun w => idx_any b2 w l2)
            have v1 := dv_some d1
            have v2 := dv_none d2
            rw [v1] at HX1
            rw [v2] at HX2
            have HR := hid (HNo2.out d2)
            have z1 : ¬ ((a1 : Int) < 0) := by omega
            clear d1 v1 v2 d2
            go_wp2_with fail
            refine (HX1.out _).mono ?_
            rintro e w1 ⟨rfl, rfl⟩
            go_wp2_with fail
            refine (HX2.out _).mono ?_
            rintro e w1 ⟨rfl, rfl⟩
            go_wp2
            go_ret2
            refine ⟨?_, HB.out⟩
            rw [HR.out]
            rfl
          · have HX1 := hid (fun w => idx_any b1 w l1)
            have HX2 := hid (fun w => idx_any b2 w l2)
            have v1 := dv_some d1
            have v2 := dv_some d2
            have la1 := dval_lt d1
            have la2 := dval_lt d2
            rw [v1] at HX1
            rw [v2] at HX2
            have HR := hid (HSucc.out a1 a2 d1 d2)
            have z1 : ¬ ((a1 : Int) < 0) := by omega
            have z2 : ¬ ((a2 : Int) < 0) := by omega
            have hor := shift_or a1 a2 la1 la2
            have HY := hid (show 16 * (a1 : Int) + (a2 : Int) = ((16 * a1 + a2 : Nat) : Int) by omega)
            clear d1 v1 v2 d2
            go_wp2_with fail
            refine (HX1.out _).mono ?_
            rintro e w1 ⟨rfl, rfl⟩
            go_wp2_with fail
            refine (HX2.out _).mono ?_
            rintro e w1 ⟨rfl, rfl⟩
            go_wp2_with (first | (at_builtin; refine wpList_appN rowBytes rfl _ _ rfl w.heap.size (.slice ao k cap) out rfl (HO.out.below (below_alloc wr _)) _ [16 * a1 + a2] rfl (sees_b1 wr _ _ HY.out) (by rw [HLL.out]; simp; omega) (by simp; omega) ?_; intro v4 w4 hO4 hG4))
            have HO4 := hid hO4
            have HB4 := hid (below_grownBy (HB.out.trans ((below_alloc wr _).mono hsw)) hG4 (OwnsN.block HO.out) (by simp; omega))
            clear hO4 hG4
            go_roundw
            case rel =>
              have hIk : (.int .i64 ((I : Int) + 2) : Value) = .int .i64 ((2 * (k + 1) : Nat) : Int) := by have := HI.out; rw [this]; congr 1
              first | exact ⟨k + 1, _, by omega, hIk, HR.out, HO4.out, HB4.out⟩ | ((repeat apply Exists.intro); exact ⟨⟨k + 1, _, by omega, hIk, HR.out, HO4.out, HB4.out⟩, rfl⟩)
            case measure => have := HI.out; simp [intOf]; omega
      · have hkN : k = N := by omega
        subst hkN
        have hge : ¬ (((2 * k : Nat) : Int) < (s.size : Int)) := by have := HE.out; omega
        obtain ⟨I, hI⟩ : ∃ I, I = 2 * k := ⟨_, rfl⟩
        rw [← hI] at hge ⊢
        have hO' := HO.out
        rw [← HLL.out] at hO'
        have hcv := conv_own hO'
        rw [HLL.out] at hcv
        clear hO' hI
        go_wp2
        go_ret2
        refine ⟨?_, HB.out⟩
        rw [HU.out]
        rfl
  · have hb : (((s.size : Int) % 2) != 0) = true := by rw [show (s.size : Int) % 2 = 1 by omega]; rfl
    have hof : unhexOf (bytesOf s) = none := by unfold unhexOf; rw [bytesOf_len, if_neg hev]
    rw [hof]
    clear hof
    go_enter Tryz.func83, Tryz.ntmps83
    go_wp2
    go_ret2
    exact ⟨rfl, Below.refl _ _⟩

end Go.Proofs.YtplljpodejpbgaaGreatDoor
