/-
  The document's Hex.
-/
import Derived.Test.YtplljpodejpbgaaGreatDoorXRefA
namespace Go.Proofs.YtplljpodejpbgaaGreatDoor
open Go.RowKit
set_option linter.unusedVariables false
set_option maxRecDepth 100000

set_option maxRecDepth 100000 in
set_option maxHeartbeats 1000000 in
theorem rhex_any (s : ByteArray) (w : World) (hl : s.size ≤ 70368744177664) : Calls Tryz.prog 55 #[.string s] w fun e w' => e = .returned (.string (strOf (hexOf (bytesOf s)))) ∧ Below w.heap.size w w' := by
  go_enter Tryz.func55, Tryz.ntmps55
  go_wp2_with fail
  go_loopw [3, 4] (fun u i wr => ∃ k : Nat, k ≤ s.size ∧ i = .int .i64 k ∧ OwnsN .u8 5 wr w.heap.size u (hexOf ((bytesOf s).take k)) ∧ Below w.heap.size w wr) (fun _ i _ => s.size - (intOf i).toNat)
  case atStart => exact ⟨0, Nat.zero_le _, rfl, OwnsN.nil _ _ _ _, Below.refl _ _⟩
  case round =>
    obtain ⟨k, hk, rfl, hO, hB⟩ := hrel
    obtain ⟨ao, cap, rfl⟩ := hO.shape
    by_cases hlt : k < s.size
    · have HO := hid hO
      have HB := hid hB
      have hn := hexOf_take (l := bytesOf s) (k := k) (by rw [bytesOf_len]; exact hlt)
      have hlast : (hexOf ((bytesOf s).take k)).length + 2 ≤ 2 * s.size := by rw [hexOf_len, List.length_take, bytesOf_len]; omega
      obtain ⟨M, hM⟩ : ∃ M, M = hexOf ((bytesOf s).take k) := ⟨_, rfl⟩
      obtain ⟨b, hb⟩ : ∃ b, b = (bytesOf s).getD k 0 := ⟨_, rfl⟩
      rw [← hM] at HO hn hlast ⊢
      rw [← hb] at hn
      have lb : b < 256 := by rw [hb]; exact getD_lt (by decide) (bytesOf_lt s) k
      have i1 := index_str s .i64 k k rfl hlt
      rw [← hb] at i1
      have hq1 : ((b : Int).tdiv 16) = ((b / 16 : Nat) : Int) := by rw [Int.tdiv_eq_ediv_of_nonneg (by omega)]; omega
      have hq2 : ((b : Int).tmod 16) = ((b % 16 : Nat) : Int) := by rw [Int.tmod_eq_emod_of_nonneg (by omega)]; omega
      have i2 := index_dig .u8 (IntKind.u8.wrap ((b : Int).tdiv 16)) (b / 16) (by rw [hq1, IntKind.wrap_u8']; omega) (by omega)
      have i3 := index_dig .u8 ((b : Int).tmod 16) (b % 16) hq2 (by omega)
      have i2' := index_dig .u8 ((b : Int) / 16) (b / 16) (by omega) (by omega)
      have j1 := index_dig .u8 ((b : Int).tdiv 16) (b / 16) hq1 (by omega)
      have j2 := index_dig .u8 (IntKind.u8.wrap ((b : Int) / 16)) (b / 16) (by rw [IntKind.wrap_u8']; omega) (by omega)
      have j3 := index_dig .u8 ((b : Int).tdiv 16 % 256) (b / 16) (by rw [hq1]; omega) (by omega)
      have j4 := index_dig .u8 ((b : Int) / 16 % 256) (b / 16) (by omega) (by omega)
      have i3' := index_dig .u8 ((b : Int) % 16) (b % 16) (by omega) (by omega)
      obtain ⟨d1, hd1⟩ : ∃ d, d = dig (b / 16) := ⟨_, rfl⟩
      obtain ⟨d2, hd2⟩ : ∃ d, d = dig (b % 16) := ⟨_, rfl⟩
      rw [← hd1] at i2 hn i2' j1 j2 j3 j4
      rw [← hd2] at i3 hn i3'
      have HN := hid hn
      have hsw : w.heap.size ≤ wr.heap.size := hB.size
      clear hO hB hM hb hd1 hd2 hn hq1 hq2
      go_wp2_with fail
      go_region_held3 (fun _ => True) (trivial)
        (first | (refine step_appN rowBytes (by rfl) _ _ (by rfl) w.heap.size (.slice ao M.length cap) M (by rfl) ?ho _ [d1, d2] (by rfl) (by simp) (sees_b2 wr _ _ d1 d2 rfl rfl) (by simp; omega) (by simp; omega) ?_; (case ho => exact HO.out.below (below_ad wr _)); intro v4 w4 hO4 hG4))
      all_goals
        rw [← HN.out] at hO4
        have HO4 := hid hO4
        have HB4 := hid (below_grownBy (HB.out.trans ((below_ad wr _).mono hsw)) hG4 (OwnsN.block HO.out) (by simp; omega))
        obtain ⟨ao4, cap4, rfl⟩ := hO4.shape
        obtain ⟨N4, hN4⟩ : ∃ N, N = (hexOf ((bytesOf s).take (k + 1))).length := ⟨_, rfl⟩
        rw [← hN4] at HO4 ⊢
        clear hO4 hG4 hN4
        go_wp2
        go_roundw
        case rel => exact ⟨k + 1, by omega, by go_num, HO4.out, HB4.out⟩
        case measure => simp [intOf]; omega
    · have hks : k = s.size := by omega
      have hcv := conv_own hO
      rw [hks, List.take_of_length_le (by rw [bytesOf_len]; exact Nat.le_refl _)] at hcv
      rw [hks, List.take_of_length_le (by rw [bytesOf_len]; exact Nat.le_refl _)]
      obtain ⟨N, hN⟩ : ∃ N, N = (hexOf (bytesOf s)).length := ⟨_, rfl⟩
      rw [← hN] at hcv ⊢
      have HB := hid hB
      clear hO hB hN hlt hk hks
      go_wp2
      go_ret
      exact ⟨rfl, HB.out⟩
end Go.Proofs.YtplljpodejpbgaaGreatDoor
