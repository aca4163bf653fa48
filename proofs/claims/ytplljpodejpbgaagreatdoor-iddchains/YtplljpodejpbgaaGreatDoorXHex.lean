/-
  Hex: bytes as digits.
-/
import Derived.Test.YtplljpodejpbgaaGreatDoorXHexA
namespace Go.Proofs.YtplljpodejpbgaaGreatDoor
open Go.RowKit
set_option linter.unusedVariables false
set_option maxRecDepth 100000

theorem below_ad (w : World) (o : Obj) : Below w.heap.size w (w.alloc o).drew := ⟨rfl, rfl, rfl, (below_alloc w o).size, (below_alloc w o).block⟩

theorem index_str (s : ByteArray) (q : IntKind) (i : Int) (n : Nat) (hi : i = (n : Int)) (hn : n < s.size) (w : World) : (Instr.index 9 (.string s) (.int q i)).run Tryz.prog w = .ok (.int .u8 (((bytesOf s).getD n 0 : Nat) : Int)) w := by
  subst hi
  rw [run_index_string w 9 s q n Tryz.underlying9]
  have e : (bytesOf s).getD n 0 = s[n].toNat := by
    have hl : n < s.data.toList.length := by simpa using hn
    simp only [bytesOf, List.getD, List.getElem?_map, List.getElem?_eq_getElem hl, Option.map_some, Option.getD_some]
    rfl
  rw [e]
  simp [hn]

def digitsB : ByteArray := ⟨#[48, 49, 50, 51, 52, 53, 54, 55, 56, 57, 97, 98, 99, 100, 101, 102]⟩
theorem index_dig (q : IntKind) (i : Int) (n : Nat) (hi : i = (n : Int)) (hn : n < 16) (w : World) : (Instr.index 9 (.string { data := #[48, 49, 50, 51, 52, 53, 54, 55, 56, 57, 97, 98, 99, 100, 101, 102] }) (.int q i)).run Tryz.prog w = .ok (.int .u8 ((dig n : Nat) : Int)) w :=
  index_str digitsB q i n hi hn w

set_option maxRecDepth 100000 in
set_option maxHeartbeats 1000000 in
theorem hex_any (s : ByteArray) (w : World) (hl : s.size ≤ 70368744177664) : Calls Tryz.prog 75 #[.string s] w fun e w' => e = .returned (.string (strOf (hexOf (bytesOf s)))) ∧ Below w.heap.size w w' := by
  have hmk := made_run w 0 (2 * (s.size : Int)) (by omega) (by omega) (by omega)
  have hO0 := owns_made w w.heap.size 0 (2 * s.size) (by omega) (by omega) (Nat.le_refl _)
  rw [show (2 * (s.size : Int)).toNat = 2 * s.size by omega] at hmk
  obtain ⟨W1, hW1⟩ : ∃ W1, W1 = w.alloc (.cells (madeCells #[.int .u8 0] (2 * s.size)) 5) := ⟨_, rfl⟩
  rw [← hW1] at hmk hO0
  have hB1 : Below w.heap.size w W1 := by rw [hW1]; exact below_alloc w _
  have HO0 := hid hO0
  have HB1 := hid hB1
  clear hO0 hB1 hW1
  go_enter Tryz.func75, Tryz.ntmps75
  go_wp2_with fail
  go_loopw [3, 11] (fun u i wr => ∃ k : Nat, k ≤ s.size ∧ i = .int .i64 k ∧ OwnsN .u8 5 wr w.heap.size u (hexOf ((bytesOf s).take k)) ∧ Below w.heap.size w wr) (fun _ i _ => s.size - (intOf i).toNat)
  case atStart => exact ⟨0, Nat.zero_le _, rfl, HO0.out, HB1.out⟩
  clear HO0 HB1 hmk
  case round =>
    obtain ⟨k, hk, rfl, hO, hB⟩ := hrel
    obtain ⟨ao, cap, rfl⟩ := hO.shape
    by_cases hlt : k < s.size
    · have HO := hid hO
      have HB := hid hB
      have hll : (hexOf ((bytesOf s).take k)).length ≤ 2 * s.size := by rw [hexOf_len, List.length_take, bytesOf_len]; omega
      have hn := hexOf_take (l := bytesOf s) (k := k) (by rw [bytesOf_len]; exact hlt)
      have hlast : (hexOf ((bytesOf s).take k)).length + 2 ≤ 2 * s.size := by rw [hexOf_len, List.length_take, bytesOf_len]; omega
      obtain ⟨M, hM⟩ : ∃ M, M = hexOf ((bytesOf s).take k) := ⟨_, rfl⟩
      obtain ⟨b, hb⟩ : ∃ b, b = (bytesOf s).getD k 0 := ⟨_, rfl⟩
      rw [← hM] at HO hll hn hlast ⊢
      rw [← hb] at hn
      have lb : b < 256 := by rw [hb]; exact getD_lt (by decide) (bytesOf_lt s) k
      have i1 := index_str s .i64 k k rfl hlt
      rw [← hb] at i1
      have i2 := index_dig .u8 ((b : Int) / 16) (b / 16) (by omega) (by omega)
      have i3 := index_dig .u8 (bits .and .u8 (b : Int) 15) (b % 16) (by rw [show (15 : Int) = ((15 : Nat) : Int) from rfl, u8_and_nat _ _ lb (by decide), show b &&& 15 = b % 16 from Nat.and_two_pow_sub_one_eq_mod b 4]) (by omega)
      obtain ⟨d1, hd1⟩ : ∃ d, d = dig (b / 16) := ⟨_, rfl⟩
      obtain ⟨d2, hd2⟩ : ∃ d, d = dig (b % 16) := ⟨_, rfl⟩
      rw [← hd1] at i2 hn
      rw [← hd2] at i3 hn
      have HN := hid hn
      have hsw : w.heap.size ≤ wr.heap.size := hB.size
      clear hO hB hM hb hd1 hd2 hn
      go_wp2_with fail
      go_region_held3 (fun _ => True) (trivial)
        (first | (refine step_appN rowBytes (by rfl) _ _ (by rfl) w.heap.size (.slice ao M.length cap) M (by rfl) ?ho _ [d1, d2] (by rfl) (by simp) (sees_b2 wr _ _ d1 d2 rfl rfl) (by simp; omega) (by simp; omega) ?_; (case ho => exact HO.out.below (below_ad wr _)); intro v4 w4 hO4 hG4))
      all_goals
        rw [← HN.out] at hO4
        have HO4 := hid hO4
        have HB4 := hid (below_grownBy (HB.out.trans ((below_ad wr _).mono hsw)) hG4 (OwnsN.block HO.out) (by simp; omega))
        obtain ⟨ao4, cap4, rfl⟩ := hO4.shape
        obtain ⟨N4, hN4⟩ : ∃ N, N = (hexOf ((bytesOf s).take (k + 1))).length := ⟨_, rfl⟩
        rw [← hN4] at HO4 ⊢
        clear hO4 hG4 hN4
        go_wp2
        go_roundw
        case rel => exact ⟨k + 1, by omega, by go_num, HO4.out, HB4.out⟩
        case measure => simp [intOf]; omega
    · have hks : k = s.size := by omega
      have hcv := conv_own hO
      rw [hks, List.take_of_length_le (by rw [bytesOf_len]; exact Nat.le_refl _)] at hcv
      rw [hks, List.take_of_length_le (by rw [bytesOf_len]; exact Nat.le_refl _)]
      obtain ⟨N, hN⟩ : ∃ N, N = (hexOf (bytesOf s)).length := ⟨_, rfl⟩
      rw [← hN] at hcv ⊢
      have HB := hid hB
      clear hO hB hN hlt hk hks
      go_wp2
      go_ret
      exact ⟨rfl, HB.out⟩
end Go.Proofs.YtplljpodejpbgaaGreatDoor
