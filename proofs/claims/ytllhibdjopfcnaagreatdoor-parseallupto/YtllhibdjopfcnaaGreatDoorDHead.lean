/-
  Where the head that bytes begin with ends: the document's.
-/
import Derived.Test.YtllhibdjopfcnaaGreatDoorRChunks
namespace Go.Proofs.YtllhibdjopfcnaaGreatDoor
open Go.RowKit
set_option linter.unusedVariables false

def hdV : Option Nat → Int
  | none => -1
  | some n => (n : Int)
theorem endH_short : ∀ {l : List UInt8}, l.length < 4 → endH l = none
  | [], _ => rfl
  | a :: r, h => by
    rw [endH_cons, if_neg, endH_short (by simp at h; omega)]
    · rfl
    · intro e
      have := congrArg List.length e
      simp at this h
      omega
theorem endH_drop (L : List UInt8) (k : Nat) (hk : k < L.length) : endH (L.drop k) = if (L.drop k).take 4 = [13, 10, 13, 10] then some 4 else (endH (L.drop (k + 1))).map (· + 1) := by
  rw [List.drop_eq_getElem_cons hk, endH_cons]
set_option maxRecDepth 20000 in
set_option maxHeartbeats 4000000 in
theorem rhead_any (L : List UInt8) (w : World) (hs : L.length ≤ 140737488355328) :
    Calls Tryz.prog 26 #[.string ⟨L.toArray⟩] w fun e w' => e = .returned (.int .i64 (hdV (endH L))) ∧ w = w' := by
  obtain ⟨R, hR⟩ : ∃ R, R = endH L := ⟨_, rfl⟩
  rw [← hR]
  have HR := hid hR
  obtain ⟨s, hse⟩ : ∃ s : ByteArray, s = ⟨L.toArray⟩ := ⟨_, rfl⟩
  have HSZ : Hid (s.size = L.length) := hid (by rw [hse, size_list])
  have HSE := hid hse
  have hss : s.size ≤ 140737488355328 := by rw [hse, size_list]; exact hs
  rw [← hse]
  clear hR hse hs
  go_enter Tryz.func26, Tryz.ntmps26
  go_wp2_with fail
  go_loop [3] (fun i => ∃ k : Nat, i = .int .i64 (k : Int) ∧ Hid (k ≤ L.length ∧ R = (endH (L.drop k)).map (· + k))) (fun i => s.size + 1 - (intOf i).toNat)
  case atStart => exact ⟨0, rfl, hid ⟨Nat.zero_le _, by rw [HR.out, List.drop_zero]; cases endH L <;> simp⟩⟩
  case round =>
    obtain ⟨k, rfl, HI⟩ := hrel
    have hsz := HSZ.out
    have hkL := HI.out.1
    have hks : k ≤ s.size := by omega
    by_cases h4 : k + 4 ≤ L.length
    · have hle : (k : Int) + 4 ≤ (s.size : Int) := by omega
      have hx : s.extract k (k + 4) = ⟨((L.drop k).take 4).toArray⟩ := by
        rw [HSE.out, extract_list, show k + 4 - k = 4 by omega]
      have hd := endH_drop L k (by omega)
      by_cases he : (L.drop k).take 4 = [13, 10, 13, 10]
      · rw [if_pos he] at hd
        have HT : Hid (R = some (4 + k)) := hid (by rw [HI.out.2, hd]; rfl)
        rw [he] at hx
        clear he hd hsz hkL h4
        go_wp2
        go_ret
        rw [HT.out]
        exact ⟨by simp [hdV]; omega, rfl⟩
      · rw [if_neg he] at hd
        have HT : Hid (k + 1 ≤ L.length ∧ R = (endH (L.drop (k + 1))).map (· + (k + 1))) := hid ⟨by omega, by
          rw [HI.out.2, hd]
          cases endH (L.drop (k + 1)) <;> simp; omega⟩
        obtain ⟨x, hxe⟩ : ∃ x, x = s.extract k (k + 4) := ⟨_, rfl⟩
        have hne : (x.toList == [13, 10, 13, 10]) = false := by
          rw [hxe, hx, ByteArray.toList_eq, beq_eq_false_iff_ne]
          exact he
        have hxs : s.extract k (k + 4) = x := hxe.symm
        clear he hd hx hsz hkL h4 hxe
        go_wp2
        go_round
        case rel => exact ⟨k + 1, by go_num, HT⟩
        case measure => have := HSZ.out; have := HT.out.1; simp [intOf]; omega
    · have hle : ¬ (k : Int) + 4 ≤ (s.size : Int) := by omega
      have HT : Hid (R = none) := hid (by rw [HI.out.2, endH_short (by rw [List.length_drop]; omega)]; rfl)
      clear hsz hkL h4
      go_wp2
      go_ret
      rw [HT.out]
      exact ⟨rfl, rfl⟩
end Go.Proofs.YtllhibdjopfcnaaGreatDoor
