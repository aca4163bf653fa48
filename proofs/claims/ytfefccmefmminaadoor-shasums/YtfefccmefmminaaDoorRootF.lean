/-
  The document's table of words, out of the roots of the primes.
-/
import Derived.Test.YtfefccmefmminaaDoorRootD
import Derived.Test.YtfefccmefmminaaDoorRootE
namespace Go.Proofs.YtfefccmefmminaaDoor
open Go.RowKit
set_option linter.unusedVariables false

def fracF (p n : Nat) (c : Bool) : Nat → Nat → Nat
  | 0, acc => acc
  | r + 1, acc => if belowB p n (acc + 2 ^ r) c = true then seq (acc + 2 ^ r) fun x => fracF p n c r x else fracF p n c r acc
theorem fracF_eq (p n : Nat) (c : Bool) : ∀ r k, k + r = 32 → fracF p n c r (fracTo p n c k) = fracTo p n c 32
  | 0, k, h => by rw [fracF, show k = 32 by omega]
  | r + 1, k, h => by
    have ih := fracF_eq p n c r (k + 1) (by omega)
    rw [← ih, fracF, seq_eq, fracTo, show 31 - k = r by omega]
    split <;> rfl
def rootOk (p n : Nat) (c : Bool) (y : Nat) : Bool := decide (p < 2147483648) && decide (1 ≤ n) && decide (n < 65535) && ((List.range n).all fun k => k == 0 || belowB p (k + 1) 0 c) && !belowB p (n + 1) 0 c && (fracF p n c 32 0 == y)

theorem behind_tab {p n y : Nat} {c : Bool} (h : rootOk p n c y = true) (w : World) : Calls Tryd.prog 35 #[.int .i64 p, .bool c] w fun e w' => e = .returned (.int .i64 (y : Int)) ∧ Below w.heap.size w w' := by
  simp only [rootOk, Bool.and_eq_true, decide_eq_true_eq, Bool.not_eq_true', beq_iff_eq] at h
  obtain ⟨⟨⟨⟨⟨h1, h2⟩, h3⟩, h4⟩, h5⟩, h6⟩ := h
  have hf := fracF_eq p n c 32 0 rfl
  rw [show fracTo p n c 0 = 0 from rfl, h6] at hf
  rw [hf]
  refine behind_any p n c w h1 h2 h3 (fun k hk1 hk2 => ?_) h5
  have := List.all_eq_true.1 h4 k (List.mem_range.2 hk2)
  rw [Bool.or_eq_true] at this
  rcases this with h | h
  · rw [beq_iff_eq] at h; omega
  · exact h

def n2 : List Nat := [1, 1, 2, 2, 3, 3, 4, 4]
def n3 : List Nat := [1, 1, 1, 1, 2, 2, 2, 2, 2, 3, 3, 3, 3, 3, 3, 3, 3, 3, 4, 4, 4, 4, 4, 4, 4, 4, 4, 4, 4, 4, 5, 5, 5, 5, 5, 5, 5, 5, 5, 5, 5, 5, 5, 5, 5, 5, 5, 6, 6, 6, 6, 6, 6, 6, 6, 6, 6, 6, 6, 6, 6, 6, 6, 6]
theorem roots2 : ((List.range 8).all fun i => rootOk (P64.getD i 0) (n2.getD i 0) false (H0.getD i 0)) = true := by decide +kernel
theorem roots3 : ((List.range 64).all fun i => rootOk (P64.getD i 0) (n3.getD i 0) true (K0.getD i 0)) = true := by decide +kernel
theorem behind2 (i : Nat) (h : i < 8) (w : World) : Calls Tryd.prog 35 #[.int .i64 ((P64.getD i 0 : Nat) : Int), .bool false] w fun e w' => e = .returned (.int .i64 ((H0.getD i 0 : Nat) : Int)) ∧ Below w.heap.size w w' :=
  behind_tab (List.all_eq_true.1 roots2 i (List.mem_range.2 h)) w
theorem behind3 (i : Nat) (h : i < 64) (w : World) : Calls Tryd.prog 35 #[.int .i64 ((P64.getD i 0 : Nat) : Int), .bool true] w fun e w' => e = .returned (.int .i64 ((K0.getD i 0 : Nat) : Int)) ∧ Below w.heap.size w w' :=
  behind_tab (List.all_eq_true.1 roots3 i (List.mem_range.2 h)) w
theorem take_next {l : List Nat} {k : Nat} (h : k < l.length) : l.take (k + 1) = l.take k ++ [l.getD k 0] := by
  rw [List.take_add_one]
  simp [List.getD, List.getElem?_eq_getElem h]

set_option maxRecDepth 20000 in
set_option maxHeartbeats 2000000 in
theorem roots_any (w : World) : Calls Tryd.prog 25 #[] w fun e w' => ∃ hv kv, e = .returned (.tuple #[hv, kv]) ∧ SeesN .i64 w' hv H0 ∧ SeesN .i64 w' kv K0 ∧ Below w.heap.size w w' := by
  go_enter Tryd.func25, Tryd.ntmps25
  go_wp2_with fail
  refine (primes_any _).mono ?_
  rintro e w1 ⟨pv, rfl, hO1, hB1⟩
  obtain ⟨g, cap, rfl, hgb, hglt⟩ := World.ownsRow.form hO1 (by decide)
  have hcs : ∀ j, j < 64 → w1.cell? ⟨g, j, none⟩ = some (.int .i64 ((P64.getD j 0 : Nat) : Int)) := fun j hj => by
    have h := hO1.cells (g := g) rfl j (.int .i64 ((P64.getD j 0 : Nat) : Int)) (cellsN_get _ _ j hj)
    rwa [addr_add, Nat.zero_add] at h
  have HC := hid hcs
  have HB1 := hid hB1
  rw [show P64.length = 64 from rfl]
  clear hcs hB1 hO1
  go_wp2_with fail
  go_loopw [3, 5] (fun u i wr => ∃ k : Nat, k ≤ 8 ∧ i = .int .i64 k ∧ OwnsN .i64 3 wr w1.heap.size u (H0.take k) ∧ Below w1.heap.size w1 wr) (fun _ i _ => 8 - (intOf i).toNat)
  case atStart => exact ⟨0, by decide, rfl, OwnsN.nil _ _ _ _, Below.refl _ _⟩
  case round =>
    obtain ⟨k, hk, rfl, hO, hBe⟩ := hrel
    have hsw := hBe.size
    obtain ⟨ao, scap, rfl⟩ := hO.shape
    have hlen : (H0.take k).length = k := by rw [List.length_take]; exact Nat.min_eq_left hk
    rw [hlen] at hO ⊢
    have HO := hid hO
    have HBe := hid hBe
    by_cases hlt : k < 8
    · have cy := (hBe.cell (p := ⟨g, k, none⟩) hglt).trans (HC.out k (by omega))
      have HBh := hid (behind2 k hlt)
      have HT := hid (take_next (l := H0) (k := k) hlt)
      obtain ⟨y, hy⟩ : ∃ y, y = P64.getD k 0 := ⟨_, rfl⟩
      obtain ⟨z, hz⟩ : ∃ z, z = H0.getD k 0 := ⟨_, rfl⟩
      rw [← hy] at cy HBh
      rw [← hz] at HBh HT
      have HLen := hid hlen
      have zk : (k : Int) < 64 := by omega
      clear hO hBe hy hz hlen
      go_wp2_with fail
      refine (HBh.out _).mono ?_
      rintro e w2 ⟨rfl, hB2⟩
      have HB2 := hid (HBe.out.trans (hB2.mono hsw))
      have HO2 := hid (HO.out.below hB2)
      have hsw2 : w1.heap.size ≤ w2.heap.size := HB2.out.size
      clear hB2 HO HBe HBh cy
      go_wp2_with (first | (at_builtin; refine wpList_appN rowInts rfl _ _ rfl w1.heap.size (.slice ao k scap) (H0.take k) rfl (HO2.out.below (below_alloc w2 _)) _ [z] rfl (sees_i1 w2 _ _ rfl) (by rw [HLen.out]; simp; omega) (by simp; omega) ?_; intro v4 w4 hO4 hG4))
      have HO4 := hid (show OwnsN .i64 3 w4 w1.heap.size v4 (H0.take (k + 1)) by rw [HT.out]; exact hO4)
      have HB4 := hid (below_grownBy (HB2.out.trans ((below_alloc w2 _).mono hsw2)) hG4 (OwnsN.block HO2.out) (by simp; omega))
      clear hO4 hG4
      go_roundw
      case rel => first | exact ⟨k + 1, by omega, by go_num, HO4.out, HB4.out⟩ | ((repeat apply Exists.intro); exact ⟨⟨k + 1, by omega, by go_num, HO4.out, HB4.out⟩, rfl⟩)
      case measure => simp [intOf]; omega
    · obtain rfl : k = 8 := by omega
      have HS := hid (show SeesN .i64 wr (.slice ao 8 scap) H0 from hO.sees)
      have HC3 := hid (show ∀ j, j < 64 → wr.cell? ⟨g, j, none⟩ = some (.int .i64 ((P64.getD j 0 : Nat) : Int)) from fun j hj => (hBe.cell (p := ⟨g, j, none⟩) hglt).trans (HC.out j hj))
      have hglt3 : g < wr.heap.size := by omega
      have HB3 := hid (HB1.out.trans (hBe.mono HB1.out.size))
      obtain ⟨w3, hw3⟩ : ∃ w3, w3 = wr := ⟨_, rfl⟩
      rw [← hw3] at HS HC3 hglt3 HB3 ⊢
      clear hO hBe HO HBe HC HB1 hlen hw3 hsw
      go_wp2_with fail
      go_loopw [4, 6] (fun u i wr => ∃ k : Nat, k ≤ 64 ∧ i = .int .i64 k ∧ OwnsN .i64 3 wr w3.heap.size u (K0.take k) ∧ Below w3.heap.size w3 wr) (fun _ i _ => 64 - (intOf i).toNat)
      case atStart => exact ⟨0, by decide, rfl, OwnsN.nil _ _ _ _, Below.refl _ _⟩
      case round =>
        obtain ⟨k, hk, rfl, hO, hBe⟩ := hrel
        have hsw := hBe.size
        obtain ⟨ao', kcap, rfl⟩ := hO.shape
        have hlen : (K0.take k).length = k := by rw [List.length_take]; exact Nat.min_eq_left hk
        rw [hlen] at hO ⊢
        have HO := hid hO
        have HBe := hid hBe
        by_cases hlt : k < 64
        · have cy := (hBe.cell (p := ⟨g, k, none⟩) hglt3).trans (HC3.out k (by omega))
          have HBh := hid (behind3 k hlt)
          have HT := hid (take_next (l := K0) (k := k) hlt)
          obtain ⟨y, hy⟩ : ∃ y, y = P64.getD k 0 := ⟨_, rfl⟩
          obtain ⟨z, hz⟩ : ∃ z, z = K0.getD k 0 := ⟨_, rfl⟩
          rw [← hy] at cy HBh
          rw [← hz] at HBh HT
          have HLen := hid hlen
          have zk : (k : Int) < 64 := by omega
          clear hO hBe hy hz hlen
          go_wp2_with fail
          refine (HBh.out _).mono ?_
          rintro e w2 ⟨rfl, hB2⟩
          have HB2 := hid (HBe.out.trans (hB2.mono hsw))
          have HO2 := hid (HO.out.below hB2)
          have hsw2 : w3.heap.size ≤ w2.heap.size := HB2.out.size
          clear hB2 HO HBe HBh cy
          go_wp2_with (first | (at_builtin; refine wpList_appN rowInts rfl _ _ rfl w3.heap.size (.slice ao' k kcap) (K0.take k) rfl (HO2.out.below (below_alloc w2 _)) _ [z] rfl (sees_i1 w2 _ _ rfl) (by rw [HLen.out]; simp; omega) (by simp; omega) ?_; intro v4 w4 hO4 hG4))
          have HO4 := hid (show OwnsN .i64 3 w4 w3.heap.size v4 (K0.take (k + 1)) by rw [HT.out]; exact hO4)
          have HB4 := hid (below_grownBy (HB2.out.trans ((below_alloc w2 _).mono hsw2)) hG4 (OwnsN.block HO2.out) (by simp; omega))
          clear hO4 hG4
          go_roundw
          case rel => first | exact ⟨k + 1, by omega, by go_num, HO4.out, HB4.out⟩ | ((repeat apply Exists.intro); exact ⟨⟨k + 1, by omega, by go_num, HO4.out, HB4.out⟩, rfl⟩)
          case measure => simp [intOf]; omega
        · obtain rfl : k = 64 := by omega
          have HK := hid (show SeesN .i64 wr (.slice ao' 64 kcap) K0 from hO.sees)
          have HS4 := hid (HS.out.below hBe)
          have HB4 := hid (HB3.out.trans (hBe.mono HB3.out.size))
          clear hO hBe HO HBe HS HB3 HC3
          go_wp2
          go_ret2
          exact ⟨_, _, rfl, HS4.out, HK.out, HB4.out⟩

set_option maxRecDepth 20000 in
set_option maxHeartbeats 1000000 in
theorem reckoned_any (s : ByteArray) (w : World) (hs : s.size ≤ 140737488354304) : Calls Tryd.prog 9 #[.string s] w fun e w' => e = .returned (.string (strOf (digest H0 K0 (bytesOf s)))) ∧ Below w.heap.size w w' := by
  go_enter Tryd.func9, Tryd.ntmps9
  go_wp2_with fail
  refine (roots_any _).mono ?_
  rintro e w1 ⟨hv, kv, rfl, h1, h2, hB1⟩
  have hd := rdigest_any s hv kv H0 K0 w1 h1 h2 H0_words K0_words hs
  have HD := hid hd
  have HB1 := hid hB1
  clear hd hB1 h1 h2
  go_wp2_with fail
  refine HD.out.mono ?_
  rintro e w2 ⟨rfl, hB2⟩
  have HB2 := hid (HB1.out.trans (hB2.mono HB1.out.size))
  clear hB2 HD HB1
  go_wp2
  go_ret
  exact ⟨rfl, HB2.out⟩

set_option maxRecDepth 20000 in
set_option maxHeartbeats 1000000 in
theorem sums_walk (s : ByteArray) (w : World) (hR : Rounds w) (hs : s.size ≤ 140737488351232) : Calls Tryd.prog 3 #[.string s] w fun e w' => e = .returned (.bool true) ∧ Below w.heap.size w w' := by
  have hpos := hR.pos
  have HR := hid hR
  clear hR
  obtain ⟨D, hD⟩ : ∃ D, D = strOf (digest H0 K0 (bytesOf s)) := ⟨_, rfl⟩
  have HS := hid (fun w' (h : Rounds w') => sum_any s w' h (by omega))
  have HK := hid (fun w' => reckoned_any s w' (by omega))
  have HT := hid (fun w' => rsum_any s w' (by omega))
  rw [← hD] at HS HK HT
  clear hD
  go_enter Tryd.func3, Tryd.ntmps3
  go_wp2_with fail
  refine (HS.out _ HR.out).mono ?_
  rintro e w1 ⟨rfl, hB1⟩
  have HB1 := hid hB1
  clear hB1
  go_wp2_with fail
  refine (HK.out _).mono ?_
  rintro e w2 ⟨rfl, hB2⟩
  have HB2 := hid (HB1.out.trans (hB2.mono HB1.out.size))
  clear hB2
  go_wp2_with fail
  refine (HT.out _).mono ?_
  rintro e w3 ⟨rfl, hB3⟩
  have HB3 := hid (HB2.out.trans (hB3.mono HB2.out.size))
  clear hB3
  go_wp2_with fail
  refine (HK.out _).mono ?_
  rintro e w4 ⟨rfl, hB4⟩
  have HB4 := hid (HB3.out.trans (hB4.mono HB3.out.size))
  clear hB4
  go_wp2_with fail
  refine (awake_any _ (HR.out.below HB4.out hpos)).mono ?_
  rintro e w5 ⟨rfl, hB5⟩
  have HB5 := hid (HB4.out.trans (hB5.mono HB4.out.size))
  clear hB5
  go_wp2
  go_ret
  exact ⟨rfl, HB5.out⟩
end Go.Proofs.YtfefccmefmminaaDoor
