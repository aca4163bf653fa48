/-
  The document's product of two numbers in digits of 65536.
-/
import Derived.Test.YtfefccmefmminaaDoorRootA
namespace Go.Proofs.YtfefccmefmminaaDoor
open Go.RowKit
set_option linter.unusedVariables false

theorem madeInts_zero (n : Nat) : madeCells #[.int .i64 0] n = (cellsN .i64 (List.replicate n 0)).toArray := by
  apply Array.ext
  · simp [madeCells, cellsN]
  · intro i h1 h2
    simp [madeCells, cellsN, Nat.mod_one]
theorem made_ints (w : World) (l : Int) (n : Nat) (hn : l = (n : Int)) (hc : n ≤ 1048576) : (Instr.makeSlice 47 (.int .i64 l) (.int .i64 l)).run Tryd.prog w = .ok (.slice (some ⟨w.heap.size, 0, none⟩) n n) (w.alloc (.cells (cellsN .i64 (List.replicate n 0)).toArray 3)) := by
  subst hn
  obtain ⟨i0, hi, hz0, hz1, hz2⟩ := info_parts Tryd.info3
  have h := run_make (P := Tryd.prog) w 47 3 i0 (.int .i64 0) Tryd.underlying47 hi hz0 .i64 .i64 (n : Int) (n : Int) (by omega) (by omega) (by rw [hz2]; omega) (by omega)
  rw [hz1, Nat.mul_one, Int.toNat_natCast, show (Value.int .i64 0).cells = #[.int .i64 0] from rfl, madeInts_zero] at h
  exact h
theorem blk_made (w : World) (n : Nat) : Blk (w.alloc (.cells (cellsN .i64 (List.replicate n 0)).toArray 3)) w.heap.size .i64 (List.replicate n 0) 3 := heap_alloc_new w _

set_option maxRecDepth 20000 in
set_option maxHeartbeats 2000000 in
theorem times_any (av bv : Value) (a b : List Nat) (w : World) (hA : SeesN .i64 w av a) (hB : SeesN .i64 w bv b) (ha0 : a ≠ []) (hb0 : b ≠ []) (hal : a.length ≤ 16) (hbl : b.length ≤ 16) (ha : ∀ k, a.getD k 0 < 65536) (hb : ∀ k, b.getD k 0 < 65536) :
    Calls Tryd.prog 46 #[av, bv] w fun e w' => e = .returned (.slice (some ⟨w.heap.size, 0, none⟩) (a.length + b.length) (a.length + b.length)) ∧ Blk w' w.heap.size .i64 (timesOf a b) 3 ∧ Below w.heap.size w w' := by
  obtain ⟨ab, aoff, aao, acap, rfl, ac, _, ane, acell⟩ := hA
  obtain rfl := ane ha0
  obtain ⟨bb, boff, bao, bcap, rfl, bc, _, bne, bcell⟩ := hB
  obtain rfl := bne hb0
  have hap : 0 < a.length := List.length_pos_iff.2 ha0
  have hbp : 0 < b.length := List.length_pos_iff.2 hb0
  have hab : ab < w.heap.size := World.block_lt_of_cell? w _ (acell 0 hap)
  have hbb : bb < w.heap.size := World.block_lt_of_cell? w _ (bcell 0 hbp)
  have HAC := hid acell
  have HBC := hid bcell
  have HA := hid ha
  have HB := hid hb
  have HT := hid (times_ok ha hb)
  obtain ⟨la, hla⟩ : ∃ n, n = a.length := ⟨_, rfl⟩
  obtain ⟨lb, hlb⟩ : ∃ n, n = b.length := ⟨_, rfl⟩
  obtain ⟨n, hn⟩ : ∃ n, n = la + lb := ⟨_, rfl⟩
  have hm := made_ints w ((la : Int) + (lb : Int)) n (by omega) (by omega)
  have hB0 := blk_made w n
  have HB1 := hid (below_alloc w (.cells (cellsN .i64 (List.replicate n 0)).toArray 3))
  obtain ⟨W1, hW1⟩ : ∃ W, W = w.alloc (.cells (cellsN .i64 (List.replicate n 0)).toArray 3) := ⟨_, rfl⟩
  rw [← hW1] at hm hB0 HB1
  rw [← hla, ← hlb, ← hn]
  rw [← hla] at hap hal ac
  rw [← hlb] at hbp hbl bc
  have HLA := hid hla
  have HLB := hid hlb
  have HZ := hid (show Blk W1 w.heap.size .i64 (timesTo a b 0) 3 by rw [timesTo, ← hla, ← hlb, ← hn]; exact hB0)
  obtain ⟨G, hG⟩ : ∃ G, G = w.heap.size := ⟨_, rfl⟩
  rw [← hG] at hm HB1 HZ hab hbb ⊢
  clear hW1 hB0 acell bcell ha hb ane bne ha0 hb0 hla hlb hG
  go_enter Tryd.func46, Tryd.ntmps46
  go_wp2_with fail
  go_loopw [6] (fun i wr => ∃ k : Nat, k ≤ la ∧ i = .int .i64 k ∧ Blk wr G .i64 (timesTo a b k) 3 ∧ Below G w wr) (fun i _ => la - (intOf i).toNat)
  case atStart => exact ⟨0, Nat.zero_le _, rfl, HZ.out, HB1.out⟩
  clear HZ HB1 hm
  case round =>
    obtain ⟨k, hk, rfl, hT, hBe⟩ := hrel
    have HTk := hid hT
    have HBe := hid hBe
    clear hT hBe
    by_cases hlt : k < la
    · obtain ⟨x, hx⟩ : ∃ x, x = a.getD k 0 := ⟨_, rfl⟩
      have lx : x < 65536 := by rw [hx]; exact HA.out k
      have hTk := HT.out k (by have := HLA.out; omega)
      have hlen : (timesTo a b k).length = n := by rw [hTk.len, ← HLA.out, ← HLB.out, hn]
      have HIn := hid (inner_ok (ai := x) (b := b) (i := k) (out := timesTo a b k) lx HB.out hTk.lt (by rw [hlen, ← HLB.out]; omega))
      have HX := hid hx
      have hxc := HAC.out k (by rw [← HLA.out]; exact hlt)
      rw [← hx] at hxc
      have HXC := hid hxc
      have HLen := hid hlen
      have zk : (k : Int) < (la : Int) := by omega
      obtain ⟨w7, hw7⟩ : ∃ w7, w7 = wr := ⟨_, rfl⟩
      rw [← hw7] at HTk HBe ⊢
      clear hx hTk hlen hxc hw7
      go_wp2_with fail
      go_loopw [7, 8] (fun c j wr => ∃ m : Nat, m ≤ lb ∧ j = .int .i64 m ∧ c = .int .i64 (((innerTo x b k (timesTo a b k) m).2 : Nat) : Int) ∧ Blk wr G .i64 (innerTo x b k (timesTo a b k) m).1 3 ∧ Below G w wr) (fun _ j _ => lb - (intOf j).toNat)
      case atStart => exact ⟨0, Nat.zero_le _, rfl, rfl, HTk.out, HBe.out⟩
      clear HTk HBe
      case round =>
        obtain ⟨m, hm, rfl, rfl, hI, hBe⟩ := hrel
        have hok := HIn.out m (by rw [← HLB.out]; exact hm)
        have lc := hok.clt
        have hlen := hok.len.trans HLen.out
        obtain ⟨J, hJ⟩ : ∃ J, J = k + m := ⟨_, rfl⟩
        have cd := hI.cell J (by rw [hlen]; omega)
        have fd := hI.warm J
        have ld := hok.lt J
        obtain ⟨d, hd⟩ : ∃ d, d = (innerTo x b k (timesTo a b k) m).1.getD J 0 := ⟨_, rfl⟩
        obtain ⟨c, hc⟩ : ∃ c, c = (innerTo x b k (timesTo a b k) m).2 := ⟨_, rfl⟩
        rw [← hd] at cd ld
        rw [← hc] at lc ⊢
        have eJ : ((k : Int) + (m : Int)).toNat = J := by omega
        have zJ : (k : Int) + (m : Int) < (n : Int) := by omega
        have HI := hid hI
        have HBe := hid hBe
        have HD := hid hd
        have HC := hid hc
        have HJ := hid hJ
        have cx := (hBe.cell (p := ⟨ab, aoff + k, none⟩) hab).trans HXC.out
        by_cases hlt2 : m < lb
        · obtain ⟨y, hy⟩ : ∃ y, y = b.getD m 0 := ⟨_, rfl⟩
          have ly : y < 65536 := by rw [hy]; exact HB.out m
          have cy := (hBe.cell (p := ⟨bb, boff + m, none⟩) hbb).trans (HBC.out m (by rw [← HLB.out]; exact hlt2))
          rw [← hy] at cy
          obtain ⟨p, hp⟩ : ∃ p, p = x * y := ⟨_, rfl⟩
          have hpi : (x : Int) * (y : Int) = (p : Int) := by rw [hp]; simp
          have lp : p ≤ 65535 * 65535 := by rw [hp]; exact Nat.mul_le_mul (by omega) (by omega)
          have wp : IntKind.i64.wrap ((x : Int) * (y : Int)) = (p : Int) := by rw [hpi, wrap_i64_small _ (by omega) (by omega)]
          have HY := hid hy
          have HP := hid hp
          have zm : (m : Int) < (lb : Int) := by omega
          clear hI hBe hd hc hJ hy hp hok hlen
          go_wp2_with fail
          go_quiet (fail)
          go_wp2_with fail
          go_roundw
          case rel =>
            have e1 : (((d : Int) + (p : Int) + (c : Int)) / 65536) = ((((innerTo x b k (timesTo a b k) m).1.getD (k + m) 0 + x * b.getD m 0 + (innerTo x b k (timesTo a b k) m).2) / 65536 : Nat) : Int) := by
              rw [← HJ.out, ← HD.out, ← HC.out, ← HY.out, ← HP.out]; omega
            have e2 : (((d : Int) + (p : Int) + (c : Int)) % 65536) = ((((innerTo x b k (timesTo a b k) m).1.getD (k + m) 0 + x * b.getD m 0 + (innerTo x b k (timesTo a b k) m).2) % 65536 : Nat) : Int) := by
              rw [← HJ.out, ← HD.out, ← HC.out, ← HY.out, ← HP.out]; omega
            rw [e1, e2]
            have hset := (HI.out.drew nq).set J (((innerTo x b k (timesTo a b k) m).1.getD (k + m) 0 + x * b.getD m 0 + (innerTo x b k (timesTo a b k) m).2) % 65536)
            refine ⟨m + 1, by omega, by go_num, rfl, ?_, below_set (below_drewN HBe.out nq) (Nat.le_refl _) _ _⟩
            rw [innerTo, ← HJ.out]
            rw [← HJ.out] at hset
            exact hset
          case measure => simp [intOf]; omega
        · have hml : m = lb := by omega
          subst hml
          clear hI hBe hd hc hJ hok hlen
          go_wp2
          go_roundw
          case rel =>
            have e1 : ((d : Int) + (c : Int)) = (((innerTo x b k (timesTo a b k) b.length).1.getD (k + b.length) 0 + (innerTo x b k (timesTo a b k) b.length).2 : Nat) : Int) := by
              rw [← HLB.out, ← HJ.out, ← HD.out, ← HC.out]; omega
            rw [e1]
            have hset := HI.out.set J ((innerTo x b k (timesTo a b k) b.length).1.getD (k + b.length) 0 + (innerTo x b k (timesTo a b k) b.length).2)
            refine ⟨k + 1, by omega, by go_num, ?_, below_set HBe.out (Nat.le_refl _) _ _⟩
            rw [timesTo, ← HX.out, rowOf, ← HLB.out, ← HJ.out]
            rw [← HLB.out, ← HJ.out] at hset
            exact hset
          case measure => simp [intOf]; omega
    · have hkl : k = la := by omega
      subst hkl
      go_wp2
      go_ret
      refine ⟨by rw [hn]; rfl, ?_, HBe.out⟩
      rw [timesOf, ← HLA.out]
      exact HTk.out
end Go.Proofs.YtfefccmefmminaaDoor
