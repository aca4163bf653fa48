/-
  Writing a label's bytes: appendNumber, appendSet.
-/
import Derived.Test.YtkbceaofijngoaaLByt
namespace Go.Proofs.Ytkbceaofijngoaa
open Go.RowKit
set_option linter.unusedVariables false

theorem and127 (m : Nat) : m &&& 127 = m % 128 := Nat.and_two_pow_sub_one_eq_mod m 7
theorem or128 (m : Nat) (h : m < 128) : m ||| 128 = m + 128 := by
  have := Nat.two_pow_add_eq_or_of_lt (i := 7) (b := m) h 1
  rw [Nat.or_comm]
  simpa [Nat.add_comm] using this.symm

set_option maxHeartbeats 1000000 in
theorem appendNumber_any (n : Nat) (v : Value) (xs : List Nat) (w : World) (B : Nat) (hO : OwnsN .u8 5 w B v xs) (hB : B ≤ w.heap.size) (hn : n < 9223372036854775808) (hlen : xs.length ≤ 1000000) :
    Calls Try.prog 64 #[v, .int .i64 (n : Int)] w fun e w' => ∃ v', e = .returned v' ∧ OwnsN .u8 5 w' B v' (xs ++ numB n) ∧ Below B w w' := by
  have hnl : (numB n).length ≤ 9 := numB_len 8 n (by simp; omega)
  have HO := hid hO
  have HNL := hid hnl
  clear hO hnl
  go_enter Try.func64, Try.ntmps64
  go_wp2_with fail
  go_loopw [0, 1] (fun u i wr => ∃ (m : Nat) (ys : List Nat), m ≤ n ∧ i = .int .i64 (m : Int) ∧ OwnsN .u8 5 wr B u ys ∧ ys ++ numB m = xs ++ numB n ∧ Below B w wr ∧ B ≤ wr.heap.size) (fun _ i _ => (intOf i).toNat)
  case atStart => exact ⟨n, xs, Nat.le_refl _, rfl, HO.out, rfl, Below.refl _ _, hB⟩
  case round =>
    obtain ⟨m, ys, hm, rfl, hO, hE, hBl, hBs⟩ := hrel
    have hnl := HNL.out
    have hyl : ys.length + (numB m).length = xs.length + (numB n).length := by rw [← List.length_append, hE, List.length_append]
    have hyl2 : ys.length ≤ 1000009 := by omega
    have hm63 : m < 9223372036854775808 := by omega
    clear hyl hnl
    have HE := hid hE
    have HO := hid hO
    have HBl := hid hBl
    clear hE hO hBl
    by_cases hlt : m < 128
    · have hlt' : decide (128 ≤ (m : Int)) = false := by simp; omega
      go_wp2_with (first
        | (at_builtin
           refine wpList_appN rowBytes rfl _ _ rfl B u0 ys rfl (HO.out.below (below_alloc wr _)) _ [m] rfl (sees_b1 _ _ m (by first | rfl | omega)) (by simp; omega) (by simp; omega) ?_
           intro v2 w2 h1 h2
           have HO2 := hid h1
           have HB2 := hid (below_grownBy (HBl.out.trans ((below_alloc wr _).mono hBs)) h2 (OwnsN.block HO.out) (by simp; omega))
           clear h1 h2)
        | fail)
      go_ret
      rw [← numB_small hlt, HE.out] at HO2
      exact ⟨_, rfl, HO2.out, HB2.out⟩
    · have hge : 128 ≤ (m : Int) := by omega
      go_wp2_with (first
        | (at_builtin
           refine wpList_appN rowBytes rfl _ _ rfl B u0 ys rfl (HO.out.below (below_alloc wr _)) _ [m % 128 + 128] rfl (sees_b1 _ _ _ (by rw [show (127 : Int) = ((127 : Nat) : Int) from rfl, i64_and m 127 (by omega) (by omega), and127, show (128 : Int) = ((128 : Nat) : Int) from rfl, i64_or _ 128 (by omega) (by omega), or128 _ (by omega)]; omega)) (by simp; omega) (by simp; omega) ?_
           intro v2 w2 h1 h2
           have HO2 := hid h1
           have HB2 := hid (below_grownBy (HBl.out.trans ((below_alloc wr _).mono hBs)) h2 (OwnsN.block HO.out) (by simp; omega))
           clear h1 h2)
        | fail)
      go_roundw
      case rel =>
        refine ⟨m / 128, ys ++ [m % 128 + 128], by omega, by go_num, HO2.out, ?_, HB2.out, ?_⟩
        · rw [← HE.out, numB_big hlt]
          simp
        · have := HB2.out.size
          omega
      case measure => simp [intOf]; omega

theorem appendNumber_int (z : Int) (v : Value) (xs : List Nat) (w : World) (B : Nat) (hO : OwnsN .u8 5 w B v xs) (hB : B ≤ w.heap.size) (h0 : 0 ≤ z) (hn : z < 9223372036854775808) (hlen : xs.length ≤ 1000000) :
    Calls Try.prog 64 #[v, .int .i64 z] w fun e w' => ∃ v', e = .returned v' ∧ OwnsN .u8 5 w' B v' (xs ++ numB z.toNat) ∧ Below B w w' := by
  have := appendNumber_any z.toNat v xs w B hO hB (by omega) hlen
  rwa [Int.toNat_of_nonneg h0] at this

theorem diffB_len : ∀ (l : List Int) (last : Int), 0 ≤ last → (∀ x ∈ l, 1 ≤ x ∧ x ≤ 2147483647) → (diffB last l).length ≤ 5 * l.length
  | [], _, _, _ => by simp [diffB]
  | c :: r, last, h0, h => by
    have hc := h c (by simp)
    have h1 := diffB_len r c (by omega) (fun x hx => h x (by simp [hx]))
    have h2 := numB_len5 (n := (c - last).toNat) (by omega)
    simp only [diffB, List.length_append, List.length_cons]
    omega

theorem setB_len {l : List Int} (hl : l.length ≤ 64) (hc : catsP l) : (setB l).length ≤ 325 := by
  have h1 := diffB_len l 0 (by omega) hc.2
  have h2 := numB_len5 (n := l.length) (by omega)
  rw [setB, List.length_append]
  omega

theorem diff_take {l : List Int} {k : Nat} {y : Int} (hk : k < l.length) (hy : y = l.getD k 0) (xs : List Nat) : xs ++ diffB 0 (l.take (k + 1)) = (xs ++ diffB 0 (l.take k)) ++ numB (y - lastI (l.take k)).toNat := by
  rw [take_snoc hk hy, diffB_snoc]
  simp [lastI]

theorem Sees.since {w w' : World} {v : Value} {xs : List Int} (h : Sees w v xs) (hb : Below w.heap.size w w') : Sees w' v xs := h.below hb

set_option maxHeartbeats 1000000 in
theorem appendSet_any (w0 : World) (u : Value) (l : List Int) (v : Value) (xs : List Nat) (w : World) (hS : Sees w0 u l) (hw : Below w0.heap.size w0 w) (hl : l.length ≤ 64) (hc : catsP l) (hO : OwnsN .u8 5 w w0.heap.size v xs) (hlen : xs.length ≤ 900000) :
    Calls Try.prog 53 #[v, u] w fun e w' => ∃ v', e = .returned v' ∧ OwnsN .u8 5 w' w0.heap.size v' (xs ++ setB l) ∧ Below w0.heap.size w w' := by
  have hR1 := appendNumber_int (l.length : Int) v xs w w0.heap.size hO (hw.size) (by omega) (by omega) (by omega)
  have hcell0 := hS
  obtain ⟨b, off, ao, cap, rfl, hcap, _, hao, hcell⟩ := hS
  have HW := hid hw
  have HC := hid hc
  have HCE := hid hcell
  have HNL := hid (numB_len5 (n := l.length) (by omega))
  have HDL := hid (fun k => diffB_len (l.take k) 0 (by omega) (catsP_take hc k).2)
  have hwsz := hw.size
  clear hO hw hc hcell hcell0
  go_enter Try.func53, Try.ntmps53
  go_wp2_with fail
  refine hR1.mono ?_
  clear hR1
  rintro e w1 ⟨v1, rfl, hO1, hB1⟩
  rw [show ((l.length : Int)).toNat = l.length by omega] at hO1
  have HO1 := hid hO1
  have HB1 := hid hB1
  clear hO1 hB1
  go_wp2_with fail
  go_loopw [0, 5, 14] (fun o la i wr => ∃ (k : Nat) (z : Int), k ≤ l.length ∧ i = .int .i64 k ∧ la = .int .i64 z ∧ z = lastI (l.take k) ∧ OwnsN .u8 5 wr w0.heap.size o ((xs ++ numB l.length) ++ diffB 0 (l.take k)) ∧ Below w0.heap.size w wr) (fun _ _ i _ => l.length - (intOf i).toNat)
  case atStart => exact ⟨0, 0, Nat.zero_le _, rfl, rfl, by simp [lastI], by simpa [diffB] using HO1.out, HB1.out⟩
  clear HO1 HB1
  case round =>
    obtain ⟨k, z, hk, rfl, rfl, hz, hO, hB⟩ := hrel
    by_cases hlt : k < l.length
    · have hne : l ≠ [] := by intro h; rw [h] at hlt; simp at hlt
      obtain rfl := hao hne
      obtain ⟨y, hy⟩ : ∃ y, y = l.getD k 0 := ⟨_, rfl⟩
      have hcy : wr.cell? ⟨b, off + k, none⟩ = some (.int .i64 y) := by
        have h0 := HCE.out k hlt
        have hb := World.block_lt_of_cell? w0 _ h0
        rw [hB.cell (Nat.lt_of_lt_of_le hb (Nat.le_refl _)), HW.out.cell hb, h0, hy]
      have hcs := catsP_take HC.out (k + 1)
      rw [take_snoc hlt hy, catsP_snoc] at hcs
      obtain ⟨hc1, hc2, hc3⟩ := hcs
      have hc0 := lastI_nonneg hc1
      rw [← hz] at hc2 hc0
      have hd := diff_take hlt hy (xs ++ numB l.length)
      rw [← hz] at hd
      have hll : ((xs ++ numB l.length) ++ diffB 0 (l.take k)).length ≤ 1000000 := by
        have h1 := HDL.out k
        have h2 := HNL.out
        simp only [List.length_append, List.length_take] at h1 ⊢
        omega
      have hR := appendNumber_int (y - z) u0 _ wr w0.heap.size hO (by have := hB.size; omega) (by omega) (by omega) hll
      rw [← hd] at hR
      have HR := hid hR
      have HB := hid hB
      have HY := hid hy
      have hszr := hB.size
      have hlast : y = lastI (l.take (k + 1)) := by rw [take_snoc hlt hy, lastI_snoc]
      have HL := hid hlast
      clear hR hB hO hy hd hll hz hc1 hne hao hlast
      go_wp2_with fail
      refine HR.out.mono ?_
      clear HR
      rintro e w2 ⟨v2, rfl, hO2, hB2⟩
      have HO2 := hid hO2
      have HB2 := hid (HB.out.trans (hB2.mono (Nat.le_refl _)))
      clear hO2 hB2
      go_wp2
      go_roundw
      case rel => exact ⟨k + 1, y, by omega, by go_num, rfl, HL.out, HO2.out, HB2.out⟩
      case measure => simp [intOf]; omega
    · rw [List.take_of_length_le (by omega)] at hO
      have HO := hid hO
      have HB := hid hB
      clear hO hB hz
      go_wp2
      go_ret
      exact ⟨_, rfl, by rw [setB, ← List.append_assoc]; exact HO.out, HB.out⟩

end Go.Proofs.Ytkbceaofijngoaa
