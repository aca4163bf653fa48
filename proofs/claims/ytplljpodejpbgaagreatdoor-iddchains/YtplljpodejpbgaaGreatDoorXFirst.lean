/-
  highestFirst: a word's bytes behind others.
-/
import Derived.Test.YtplljpodejpbgaaGreatDoorXLeaf
namespace Go.Proofs.YtplljpodejpbgaaGreatDoor
open Go.RowKit
set_option linter.unusedVariables false

theorem be4_snoc (x : Nat) (j : Nat) (hj : j < 4) : (be4 x).take (j + 1) = (be4 x).take j ++ [(be4 x).getD j 0] := by
  have : j = 0 ∨ j = 1 ∨ j = 2 ∨ j = 3 := by omega
  rcases this with rfl | rfl | rfl | rfl <;> rfl
theorem beTo8 (x : Nat) : beTo x 8 = [x / 72057594037927936 % 256, x / 281474976710656 % 256, x / 1099511627776 % 256, x / 4294967296 % 256, x / 16777216 % 256, x / 65536 % 256, x / 256 % 256, x % 256] := by
  simp [beTo]
theorem beTo8_snoc (x : Nat) (j : Nat) (hj : j < 8) : (beTo x 8).take (j + 1) = (beTo x 8).take j ++ [(beTo x 8).getD j 0] := by
  have : j = 0 ∨ j = 1 ∨ j = 2 ∨ j = 3 ∨ j = 4 ∨ j = 5 ∨ j = 6 ∨ j = 7 := by omega
  rcases this with rfl | rfl | rfl | rfl | rfl | rfl | rfl | rfl <;> rfl

set_option maxHeartbeats 1000000 in
theorem first32 (v : Value) (xs : List Nat) (x base : Nat) (w : World) (hx : x < 4294967296) (hown : OwnsN .u8 5 w base v xs) (hb : base ≤ w.heap.size) (hl : xs.length ≤ 1000000) :
    Calls Tryz.prog 102 #[v, .int .u32 (x : Int)] w fun e w' => ∃ v', e = .returned v' ∧ OwnsN .u8 5 w' base v' (xs ++ be4 x) ∧ Below base w w' := by
  go_enter Tryz.func102, Tryz.ntmps102
  go_wp2_with (go_at_call 120; refine (width32 _).mono ?_; rintro e w' ⟨rfl, rfl⟩)
  go_loopw [0, 5] (fun u l wr => ∃ j : Nat, j ≤ 4 ∧ l = .int .u64 ((8 * (4 - j) : Nat) : Int) ∧ OwnsN .u8 5 wr base u (xs ++ (be4 x).take j) ∧ Below base w wr ∧ w.heap.size ≤ wr.heap.size) (fun _ l _ => (intOf l).toNat)
  case atStart => exact ⟨0, by decide, rfl, by simpa using hown, Below.refl _ _, Nat.le_refl _⟩
  case round =>
    obtain ⟨j, hj, rfl, hO, hB, hs⟩ := hrel
    obtain ⟨L, hL⟩ : ∃ L, L = xs ++ (be4 x).take j := ⟨_, rfl⟩
    rw [← hL] at hO
    have hLl : L.length ≤ 1000100 := by rw [hL, List.length_append, List.length_take]; omega
    obtain ⟨ao, cap, rfl⟩ := hO.shape
    have HL := hid hL
    have HO := hid hO
    have hbr : base ≤ wr.heap.size := by omega
    have HB := hid hB
    clear hO hL hown hB
    have hjn : j = 0 ∨ j = 1 ∨ j = 2 ∨ j = 3 ∨ j = 4 := by omega
    rcases hjn with rfl | rfl | rfl | rfl | rfl
    · have HY : Hid ((x : Int) / 16777216 = (((be4 x).getD 0 0 : Nat) : Int)) := by show _ = _; simp [be4]; try omega
      go_wp2_with (first | (at_builtin; refine wpList_appN rowBytes rfl _ _ rfl base _ L rfl (HO.out.below (below_alloc wr _)) _ [(be4 x).getD 0 0] rfl (sees_b1 wr _ _ HY.out) (by simp only [List.length_singleton]; omega) (by simp; omega) ?_; intro v4 w4 hO4 hG4))
      go_roundw
      case rel =>
        refine ⟨1, by decide, by go_num, ?_, ?_, ?_⟩
        · rw [HL.out, List.append_assoc, ← be4_snoc x 0 (by decide)] at hO4; exact hO4
        · exact below_grownBy (HB.out.alloc hbr _) hG4 (OwnsN.block HO.out) (by simp; omega)
        · have := hG4.size; simp at this; omega
      case measure => simp [intOf]
    · have HY : Hid ((x : Int) / 65536 % 256 = (((be4 x).getD 1 0 : Nat) : Int)) := by show _ = _; simp [be4]; try omega
      go_wp2_with (first | (at_builtin; refine wpList_appN rowBytes rfl _ _ rfl base _ L rfl (HO.out.below (below_alloc wr _)) _ [(be4 x).getD 1 0] rfl (sees_b1 wr _ _ HY.out) (by simp only [List.length_singleton]; omega) (by simp; omega) ?_; intro v4 w4 hO4 hG4))
      go_roundw
      case rel =>
        refine ⟨2, by decide, by go_num, ?_, ?_, ?_⟩
        · rw [HL.out, List.append_assoc, ← be4_snoc x 1 (by decide)] at hO4; exact hO4
        · exact below_grownBy (HB.out.alloc hbr _) hG4 (OwnsN.block HO.out) (by simp; omega)
        · have := hG4.size; simp at this; omega
      case measure => simp [intOf]
    · have HY : Hid ((x : Int) / 256 % 256 = (((be4 x).getD 2 0 : Nat) : Int)) := by show _ = _; simp [be4]; try omega
      go_wp2_with (first | (at_builtin; refine wpList_appN rowBytes rfl _ _ rfl base _ L rfl (HO.out.below (below_alloc wr _)) _ [(be4 x).getD 2 0] rfl (sees_b1 wr _ _ HY.out) (by simp only [List.length_singleton]; omega) (by simp; omega) ?_; intro v4 w4 hO4 hG4))
      go_roundw
      case rel =>
        refine ⟨3, by decide, by go_num, ?_, ?_, ?_⟩
        · rw [HL.out, List.append_assoc, ← be4_snoc x 2 (by decide)] at hO4; exact hO4
        · exact below_grownBy (HB.out.alloc hbr _) hG4 (OwnsN.block HO.out) (by simp; omega)
        · have := hG4.size; simp at this; omega
      case measure => simp [intOf]
    · have HY : Hid ((x : Int) % 256 = (((be4 x).getD 3 0 : Nat) : Int)) := by show _ = _; simp [be4]; try omega
      go_wp2_with (first | (at_builtin; refine wpList_appN rowBytes rfl _ _ rfl base _ L rfl (HO.out.below (below_alloc wr _)) _ [(be4 x).getD 3 0] rfl (sees_b1 wr _ _ HY.out) (by simp only [List.length_singleton]; omega) (by simp; omega) ?_; intro v4 w4 hO4 hG4))
      go_roundw
      case rel =>
        refine ⟨4, by decide, by go_num, ?_, ?_, ?_⟩
        · rw [HL.out, List.append_assoc, ← be4_snoc x 3 (by decide)] at hO4; exact hO4
        · exact below_grownBy (HB.out.alloc hbr _) hG4 (OwnsN.block HO.out) (by simp; omega)
        · have := hG4.size; simp at this; omega
      case measure => simp [intOf]
    · go_wp2
      go_ret
      refine ⟨_, rfl, ?_, HB.out⟩
      have e : L = xs ++ be4 x := HL.out
      rw [← e]
      exact HO.out

set_option maxHeartbeats 1000000 in
theorem first64 (v : Value) (xs : List Nat) (x base : Nat) (w : World) (hx : x < 18446744073709551616) (hown : OwnsN .u8 5 w base v xs) (hb : base ≤ w.heap.size) (hl : xs.length ≤ 1000000) :
    Calls Tryz.prog 101 #[v, .int .u64 (x : Int)] w fun e w' => ∃ v', e = .returned v' ∧ OwnsN .u8 5 w' base v' (xs ++ beTo x 8) ∧ Below base w w' := by
  go_enter Tryz.func101, Tryz.ntmps101
  go_wp2_with (go_at_call 119; refine (width64 _).mono ?_; rintro e w' ⟨rfl, rfl⟩)
  go_loopw [0, 5] (fun u l wr => ∃ j : Nat, j ≤ 8 ∧ l = .int .u64 ((8 * (8 - j) : Nat) : Int) ∧ OwnsN .u8 5 wr base u (xs ++ (beTo x 8).take j) ∧ Below base w wr ∧ w.heap.size ≤ wr.heap.size) (fun _ l _ => (intOf l).toNat)
  case atStart => exact ⟨0, by decide, rfl, by simpa using hown, Below.refl _ _, Nat.le_refl _⟩
  case round =>
    obtain ⟨j, hj, rfl, hO, hB, hs⟩ := hrel
    obtain ⟨L, hL⟩ : ∃ L, L = xs ++ (beTo x 8).take j := ⟨_, rfl⟩
    rw [← hL] at hO
    have hLl : L.length ≤ 1000100 := by rw [hL, List.length_append, List.length_take]; omega
    obtain ⟨ao, cap, rfl⟩ := hO.shape
    have HL := hid hL
    have HO := hid hO
    have hbr : base ≤ wr.heap.size := by omega
    have HB := hid hB
    clear hO hL hown hB
    have hjn : j = 0 ∨ j = 1 ∨ j = 2 ∨ j = 3 ∨ j = 4 ∨ j = 5 ∨ j = 6 ∨ j = 7 ∨ j = 8 := by omega
    rcases hjn with rfl | rfl | rfl | rfl | rfl | rfl | rfl | rfl | rfl
    · have HY : Hid ((x : Int) / 72057594037927936 = (((beTo x 8).getD 0 0 : Nat) : Int)) := by show _ = _; simp [beTo8]; try omega
      go_wp2_with (first | (at_builtin; refine wpList_appN rowBytes rfl _ _ rfl base _ L rfl (HO.out.below (below_alloc wr _)) _ [(beTo x 8).getD 0 0] rfl (sees_b1 wr _ _ HY.out) (by simp only [List.length_singleton]; omega) (by simp; omega) ?_; intro v4 w4 hO4 hG4))
      go_roundw
      case rel =>
        refine ⟨1, by decide, by go_num, ?_, ?_, ?_⟩
        · rw [HL.out, List.append_assoc, ← beTo8_snoc x 0 (by decide)] at hO4; exact hO4
        · exact below_grownBy (HB.out.alloc hbr _) hG4 (OwnsN.block HO.out) (by simp; omega)
        · have := hG4.size; simp at this; omega
      case measure => simp [intOf]
    · have HY : Hid ((x : Int) / 281474976710656 % 256 = (((beTo x 8).getD 1 0 : Nat) : Int)) := by show _ = _; simp [beTo8]; try omega
      go_wp2_with (first | (at_builtin; refine wpList_appN rowBytes rfl _ _ rfl base _ L rfl (HO.out.below (below_alloc wr _)) _ [(beTo x 8).getD 1 0] rfl (sees_b1 wr _ _ HY.out) (by simp only [List.length_singleton]; omega) (by simp; omega) ?_; intro v4 w4 hO4 hG4))
      go_roundw
      case rel =>
        refine ⟨2, by decide, by go_num, ?_, ?_, ?_⟩
        · rw [HL.out, List.append_assoc, ← beTo8_snoc x 1 (by decide)] at hO4; exact hO4
        · exact below_grownBy (HB.out.alloc hbr _) hG4 (OwnsN.block HO.out) (by simp; omega)
        · have := hG4.size; simp at this; omega
      case measure => simp [intOf]
    · have HY : Hid ((x : Int) / 1099511627776 % 256 = (((beTo x 8).getD 2 0 : Nat) : Int)) := by show _ = _; simp [beTo8]; try omega
      go_wp2_with (first | (at_builtin; refine wpList_appN rowBytes rfl _ _ rfl base _ L rfl (HO.out.below (below_alloc wr _)) _ [(beTo x 8).getD 2 0] rfl (sees_b1 wr _ _ HY.out) (by simp only [List.length_singleton]; omega) (by simp; omega) ?_; intro v4 w4 hO4 hG4))
      go_roundw
      case rel =>
        refine ⟨3, by decide, by go_num, ?_, ?_, ?_⟩
        · rw [HL.out, List.append_assoc, ← beTo8_snoc x 2 (by decide)] at hO4; exact hO4
        · exact below_grownBy (HB.out.alloc hbr _) hG4 (OwnsN.block HO.out) (by simp; omega)
        · have := hG4.size; simp at this; omega
      case measure => simp [intOf]
    · have HY : Hid ((x : Int) / 4294967296 % 256 = (((beTo x 8).getD 3 0 : Nat) : Int)) := by show _ = _; simp [beTo8]; try omega
      go_wp2_with (first | (at_builtin; refine wpList_appN rowBytes rfl _ _ rfl base _ L rfl (HO.out.below (below_alloc wr _)) _ [(beTo x 8).getD 3 0] rfl (sees_b1 wr _ _ HY.out) (by simp only [List.length_singleton]; omega) (by simp; omega) ?_; intro v4 w4 hO4 hG4))
      go_roundw
      case rel =>
        refine ⟨4, by decide, by go_num, ?_, ?_, ?_⟩
        · rw [HL.out, List.append_assoc, ← beTo8_snoc x 3 (by decide)] at hO4; exact hO4
        · exact below_grownBy (HB.out.alloc hbr _) hG4 (OwnsN.block HO.out) (by simp; omega)
        · have := hG4.size; simp at this; omega
      case measure => simp [intOf]
    · have HY : Hid ((x : Int) / 16777216 % 256 = (((beTo x 8).getD 4 0 : Nat) : Int)) := by show _ = _; simp [beTo8]; try omega
      go_wp2_with (first | (at_builtin; refine wpList_appN rowBytes rfl _ _ rfl base _ L rfl (HO.out.below (below_alloc wr _)) _ [(beTo x 8).getD 4 0] rfl (sees_b1 wr _ _ HY.out) (by simp only [List.length_singleton]; omega) (by simp; omega) ?_; intro v4 w4 hO4 hG4))
      go_roundw
      case rel =>
        refine ⟨5, by decide, by go_num, ?_, ?_, ?_⟩
        · rw [HL.out, List.append_assoc, ← beTo8_snoc x 4 (by decide)] at hO4; exact hO4
        · exact below_grownBy (HB.out.alloc hbr _) hG4 (OwnsN.block HO.out) (by simp; omega)
        · have := hG4.size; simp at this; omega
      case measure => simp [intOf]
    · have HY : Hid ((x : Int) / 65536 % 256 = (((beTo x 8).getD 5 0 : Nat) : Int)) := by show _ = _; simp [beTo8]; try omega
      go_wp2_with (first | (at_builtin; refine wpList_appN rowBytes rfl _ _ rfl base _ L rfl (HO.out.below (below_alloc wr _)) _ [(beTo x 8).getD 5 0] rfl (sees_b1 wr _ _ HY.out) (by simp only [List.length_singleton]; omega) (by simp; omega) ?_; intro v4 w4 hO4 hG4))
      go_roundw
      case rel =>
        refine ⟨6, by decide, by go_num, ?_, ?_, ?_⟩
        · rw [HL.out, List.append_assoc, ← beTo8_snoc x 5 (by decide)] at hO4; exact hO4
        · exact below_grownBy (HB.out.alloc hbr _) hG4 (OwnsN.block HO.out) (by simp; omega)
        · have := hG4.size; simp at this; omega
      case measure => simp [intOf]
    · have HY : Hid ((x : Int) / 256 % 256 = (((beTo x 8).getD 6 0 : Nat) : Int)) := by show _ = _; simp [beTo8]; try omega
      go_wp2_with (first | (at_builtin; refine wpList_appN rowBytes rfl _ _ rfl base _ L rfl (HO.out.below (below_alloc wr _)) _ [(beTo x 8).getD 6 0] rfl (sees_b1 wr _ _ HY.out) (by simp only [List.length_singleton]; omega) (by simp; omega) ?_; intro v4 w4 hO4 hG4))
      go_roundw
      case rel =>
        refine ⟨7, by decide, by go_num, ?_, ?_, ?_⟩
        · rw [HL.out, List.append_assoc, ← beTo8_snoc x 6 (by decide)] at hO4; exact hO4
        · exact below_grownBy (HB.out.alloc hbr _) hG4 (OwnsN.block HO.out) (by simp; omega)
        · have := hG4.size; simp at this; omega
      case measure => simp [intOf]
    · have HY : Hid ((x : Int) % 256 = (((beTo x 8).getD 7 0 : Nat) : Int)) := by show _ = _; simp [beTo8]; try omega
      go_wp2_with (first | (at_builtin; refine wpList_appN rowBytes rfl _ _ rfl base _ L rfl (HO.out.below (below_alloc wr _)) _ [(beTo x 8).getD 7 0] rfl (sees_b1 wr _ _ HY.out) (by simp only [List.length_singleton]; omega) (by simp; omega) ?_; intro v4 w4 hO4 hG4))
      go_roundw
      case rel =>
        refine ⟨8, by decide, by go_num, ?_, ?_, ?_⟩
        · rw [HL.out, List.append_assoc, ← beTo8_snoc x 7 (by decide)] at hO4; exact hO4
        · exact below_grownBy (HB.out.alloc hbr _) hG4 (OwnsN.block HO.out) (by simp; omega)
        · have := hG4.size; simp at this; omega
      case measure => simp [intOf]
    · go_wp2
      go_ret
      refine ⟨_, rfl, ?_, HB.out⟩
      have e : L = xs ++ beTo x 8 := HL.out
      rw [← e]
      exact HO.out

end Go.Proofs.YtplljpodejpbgaaGreatDoor
