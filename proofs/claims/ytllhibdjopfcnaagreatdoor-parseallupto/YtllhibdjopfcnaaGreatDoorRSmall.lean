/-
  The document's texts in small letters.
-/
import Derived.Test.YtllhibdjopfcnaaGreatDoorRTrim
namespace Go.Proofs.YtllhibdjopfcnaaGreatDoor
open Go.RowKit
set_option linter.unusedVariables false

theorem small_take {L : List UInt8} {k : Nat} (h : k < L.length) : small (L.take (k + 1)) = small (L.take k) ++ [smB L[k]] := by
  rw [List.take_succ_eq_append_getElem h]
  unfold small
  rw [List.map_append]
  rfl
theorem u8_small2 {b : UInt8} (h : isLg b = true) : (b.toNat : Int) + 32 = ((smB b).toNat : Int) := by
  rw [smB, if_pos h, sm_of h]
  omega
theorem small_len (l : List UInt8) : (small l).length = l.length := by simp [small]

set_option maxRecDepth 20000 in
set_option maxHeartbeats 2000000 in
theorem rsmall_any (L : List UInt8) (w : World) (hs : L.length + 1 ≤ 140737488355328) :
    Calls Tryz.prog 34 #[.string ⟨L.toArray⟩] w fun e w' => e = .returned (.string ⟨(small L).toArray⟩) ∧ Below w.heap.size w w' := by
  obtain ⟨s, hse⟩ : ∃ s : ByteArray, s = ⟨L.toArray⟩ := ⟨_, rfl⟩
  have hsz : s.size = L.length := by rw [hse, size_list]
  have hgt : ∀ j (h : j < s.size) (h' : j < L.length), s[j] = L[j] := by subst hse; intro j h h'; rfl
  rw [← hse]
  have HZ := hid hsz
  have HG := hid hgt
  clear hsz hgt hse
  go_enter Tryz.func34, Tryz.ntmps34
  go_wp2_with fail
  go_loopw [3, 4] (fun u i wr => ∃ (k : Nat), k ≤ L.length ∧ i = .int .i64 (k : Int) ∧ OwnsB wr w.heap.size u (small (L.take k)) ∧ Below w.heap.size w wr) (fun _ i _ => L.length - (intOf i).toNat)
  case atStart => exact ⟨0, Nat.zero_le _, rfl, OwnsN.nil _ _ _ _, Below.refl _ _⟩
  case round =>
    obtain ⟨k, hk, rfl, hO, hB⟩ := hrel
    have hsz := HZ.out
    have hsw : w.heap.size ≤ wr.heap.size := hB.size
    by_cases hlt : k < L.length
    · have hlt' : (k : Int) < (s.size : Int) := by omega
      have hk1 : k < s.size := by omega
      have i1 := index_byte s .i64 (k : Int) k rfl hk1
      rw [HG.out k hk1 hlt] at i1
      have HT := hid (small_take hlt)
      have hyl : (small (L.take k)).length = k := by rw [small_len, List.length_take]; omega
      obtain ⟨ys, hys⟩ : ∃ ys, ys = small (L.take k) := ⟨_, rfl⟩
      rw [← hys] at hO hyl HT
      obtain ⟨a, hae⟩ : ∃ a, a = L[k] := ⟨_, rfl⟩
      rw [← hae] at i1 HT
      have HO := hid hO
      have HBl := hid hB
      obtain ⟨ao, cap, rfl⟩ := hO.shape
      have hyl2 : ys.length ≤ 140737488355327 := by omega
      clear hae hO hB hys hsz hyl
      by_cases h1 : 65 ≤ a.toNat
      · have f1 : decide ((65 : Int) ≤ ((a.toNat : Nat) : Int)) = true := by simp; omega
        by_cases h2 : a.toNat ≤ 90
        · have f2 : decide (((a.toNat : Nat) : Int) ≤ 90) = true := by simp; omega
          have hval := u8_small2 (b := a) (by unfold isLg; rw [decide_eq_true]; omega)
          go_wp2_with (first
            | (at_builtin
               refine wpList_appN rowBytes rfl _ _ rfl w.heap.size (.slice ao ys.length cap) (ys.map UInt8.toNat) rfl (HO.out.below (below_alloc wr _)) _ [(smB a).toNat] rfl (sees_b1 _ _ _ rfl) (by simp; omega) (by simp; omega) ?_
               intro v4 w4 hO4 hG4
               have HO4 : Hid (OwnsB w4 w.heap.size v4 (small (L.take (k + 1)))) := by
                 unfold Hid OwnsB
                 rw [HT.out]
                 simpa using hO4
               have HB4 := hid (below_grownBy (HBl.out.trans ((below_alloc wr _).mono hsw)) hG4 (OwnsB.block HO.out) (by simp; omega))
               clear hO4 hG4)
            | fail)
          go_roundw
          case rel => exact ⟨k + 1, by omega, by go_num, HO4.out, HB4.out⟩
          case measure => simp [intOf]; omega
        · have f2 : decide (((a.toNat : Nat) : Int) ≤ 90) = false := by simp; omega
          have HVal : Hid (((a.toNat : Nat) : Int) = ((smB a).toNat : Int)) := by unfold Hid; rw [smB, if_neg]; unfold isLg; rw [decide_eq_true_eq]; omega
          go_wp2_with (first
            | (at_builtin
               refine wpList_appN rowBytes rfl _ _ rfl w.heap.size (.slice ao ys.length cap) (ys.map UInt8.toNat) rfl (HO.out.below (below_alloc wr _)) _ [(smB a).toNat] rfl (sees_b1 _ _ _ HVal.out) (by simp; omega) (by simp; omega) ?_
               intro v4 w4 hO4 hG4
               have HO4 : Hid (OwnsB w4 w.heap.size v4 (small (L.take (k + 1)))) := by
                 unfold Hid OwnsB
                 rw [HT.out]
                 simpa using hO4
               have HB4 := hid (below_grownBy (HBl.out.trans ((below_alloc wr _).mono hsw)) hG4 (OwnsB.block HO.out) (by simp; omega))
               clear hO4 hG4)
            | fail)
          go_roundw
          case rel => exact ⟨k + 1, by omega, by go_num, HO4.out, HB4.out⟩
          case measure => simp [intOf]; omega
      · have f1 : decide ((65 : Int) ≤ ((a.toNat : Nat) : Int)) = false := by simp; omega
        have HVal : Hid (((a.toNat : Nat) : Int) = ((smB a).toNat : Int)) := by unfold Hid; rw [smB, if_neg]; unfold isLg; rw [decide_eq_true_eq]; omega
        go_wp2_with (first
          | (at_builtin
             refine wpList_appN rowBytes rfl _ _ rfl w.heap.size (.slice ao ys.length cap) (ys.map UInt8.toNat) rfl (HO.out.below (below_alloc wr _)) _ [(smB a).toNat] rfl (sees_b1 _ _ _ HVal.out) (by simp; omega) (by simp; omega) ?_
             intro v4 w4 hO4 hG4
             have HO4 : Hid (OwnsB w4 w.heap.size v4 (small (L.take (k + 1)))) := by
               unfold Hid OwnsB
               rw [HT.out]
               simpa using hO4
             have HB4 := hid (below_grownBy (HBl.out.trans ((below_alloc wr _).mono hsw)) hG4 (OwnsB.block HO.out) (by simp; omega))
             clear hO4 hG4)
          | fail)
        go_roundw
        case rel => exact ⟨k + 1, by omega, by go_num, HO4.out, HB4.out⟩
        case measure => simp [intOf]; omega
    · have hlt' : ¬ (k : Int) < (s.size : Int) := by omega
      rw [List.take_of_length_le (by omega)] at hO
      have hcv := hO.conv
      have HB := hid hB
      clear hsz hO hB
      go_wp2
      go_ret
      exact ⟨rfl, HB.out⟩
end Go.Proofs.YtllhibdjopfcnaaGreatDoor
