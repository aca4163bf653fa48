/-
  The contracts of the document's own list functions: Has, Same.
-/
import Derived.Test.YtplljpodejpbgaaGreatDoorLBase
namespace Go.Proofs.YtplljpodejpbgaaGreatDoor
open Go.RowKit
set_option linter.unusedVariables false

theorem take_mem_succ {xs : List Int} {k : Nat} {x y : Int} (hk : k < xs.length) (hy : y = xs.getD k 0) (h : x ∉ xs.take k) (hne : y ≠ x) : x ∉ xs.take (k + 1) := by
  rw [List.take_succ_eq_append_getElem hk]
  simp only [List.mem_append, List.mem_singleton]
  rintro (h1 | h1)
  · exact h h1
  · apply hne; rw [hy, h1]; simp [List.getD, hk]

theorem ret_bool {a b : Bool} (h : a = b) : Ending.returned (.bool a) = .returned (.bool b) := by rw [h]
theorem take_eq_succ {xs ys : List Int} {k : Nat} {x y : Int} (hk : k < xs.length) (hk2 : k < ys.length) (hx : x = xs.getD k 0) (hy : y = ys.getD k 0) (h : xs.take k = ys.take k) (he : x = y) : xs.take (k + 1) = ys.take (k + 1) := by
  rw [List.take_succ_eq_append_getElem hk, List.take_succ_eq_append_getElem hk2, h]
  simp only [List.getD, List.getElem?_eq_getElem hk, List.getElem?_eq_getElem hk2, Option.getD_some] at hx hy
  rw [← hx, ← hy, he]

set_option maxHeartbeats 400000 in
theorem same_any (v u : Value) (xs ys : List Int) (w : World) (hS : Sees w v xs) (hT : Sees w u ys) (hlen : xs.length ≤ 4611686018427387904) (hlen2 : ys.length ≤ 4611686018427387904) :
    Calls Tryz.prog 24 #[v, u] w fun e w' => e = .returned (.bool (decide (xs = ys))) ∧ Below w.heap.size w w' := by
  obtain ⟨b, off, ao, cap, rfl, hcap, _, hao, hcell⟩ := hS
  obtain ⟨b2, off2, ao2, cap2, rfl, hcap2, _, hao2, hcell2⟩ := hT
  by_cases hll : xs.length = ys.length
  · have h0 : ((xs.length : Int) != (ys.length : Int)) = false := by rw [hll]; simp
    have HLL : Hid (xs.length = ys.length) := hll
    clear hll
    go_enter Tryz.func24, Tryz.ntmps24
    go_wp2
    go_loopw [5] (fun i wr => ∃ k n : Nat, k ≤ xs.length ∧ i = .int .i64 k ∧ xs.take k = ys.take k ∧ wr = w.drewN n) (fun i _ => xs.length - (intOf i).toNat)
    case atStart => exact ⟨0, 0, Nat.zero_le _, rfl, by simp, rfl⟩
    case round =>
      obtain ⟨k, n, hk, rfl, hnot, rfl⟩ := hrel
      by_cases hlt : k < xs.length
      · have hlt2 : k < ys.length := by have := HLL.out; omega
        have hne : xs ≠ [] := by intro h; rw [h] at hlt; simp at hlt
        have hne2 : ys ≠ [] := by intro h; rw [h] at hlt2; simp at hlt2
        obtain rfl := hao hne
        obtain rfl := hao2 hne2
        obtain ⟨x, hx⟩ : ∃ y, y = xs.getD k 0 := ⟨_, rfl⟩
        obtain ⟨y, hy⟩ : ∃ y, y = ys.getD k 0 := ⟨_, rfl⟩
        have hc := hcell k hlt
        have hc2 := hcell2 k hlt2
        rw [← hx] at hc
        rw [← hy] at hc2
        have HX : Hid (x = xs.getD k 0) := hx
        have HY : Hid (y = ys.getD k 0) := hy
        have HN : Hid (xs.take k = ys.take k) := hnot
        clear hx hy hcell hcell2 hnot hne hne2 hao hao2
        by_cases hyx : x = y
        · have h1 : (x != y) = false := by simpa using hyx
          have HE : Hid (x = y) := hyx
          clear hyx
          go_wp2
          go_quiet (fail)
          go_wp2
          go_roundw
          case rel => exact ⟨k + 1, _, by omega, by go_num, take_eq_succ hlt hlt2 HX.out HY.out HN.out HE.out, rfl⟩
          case measure => simp [intOf]; omega
        · have h1 : (x != y) = true := by simpa using hyx
          go_wp2
          go_quiet (fail)
          go_wp2
          go_ret
          refine ⟨ret_bool ?_, below_drewN (below_drewN (Below.refl _ _) _) _⟩
          have hn : xs ≠ ys := by
            intro h
            apply hyx
            rw [HX.out, HY.out, h]
          simp [hn]
      · go_wp2
        go_ret
        refine ⟨ret_bool ?_, below_drewN (Below.refl _ _) _⟩
        have hn : xs = ys := by
          have h2 := HLL.out
          rwa [List.take_of_length_le (by omega), List.take_of_length_le (by omega)] at hnot
        simp [hn]
  · have h0 : ((xs.length : Int) != (ys.length : Int)) = true := by simp; omega
    go_enter Tryz.func24, Tryz.ntmps24
    go_wp2
    go_ret
    exact ⟨ret_bool (by simp; intro h; exact hll (by rw [h])), Below.refl _ _⟩

end Go.Proofs.YtplljpodejpbgaaGreatDoor
