/-
  The document's block: a state goes through a block.
-/
import Derived.Test.YtplljpodejpbgaaGreatDoorXRefA
namespace Go.Proofs.YtplljpodejpbgaaGreatDoor
open Go.RowKit
set_option linter.unusedVariables false
set_option maxRecDepth 100000

theorem xor3_i64 (a b c : Nat) (ha : a < 4294967296) (hb : b < 4294967296) (hc : c < 4294967296) : bits .xor .i64 (bits .xor .i64 (a : Int) (b : Int)) (c : Int) = ((a ^^^ b ^^^ c : Nat) : Int) := by
  have h1 := xor_lt ha hb
  rw [i64_xor _ _ (by omega) (by omega), i64_xor _ _ (by omega) (by omega)]
theorem ref_s0 (x : Nat) (lx : x < 4294967296) : bits .xor .i64 (bits .xor .i64 ((rot x 7 : Nat) : Int) ((rot x 18 : Nat) : Int)) ((x : Int) / 8) = ((sm0 x : Nat) : Int) := by
  have e1 : ((x : Int) / (8 : Int)) = ((x >>> 3 : Nat) : Int) := by rw [Nat.shiftRight_eq_div_pow]; omega
  rw [e1, xor3_i64 _ _ _ (rot_lt _ _) (rot_lt _ _) (shr_lt lx)]
  rfl
theorem ref_s1 (y : Nat) (ly : y < 4294967296) : bits .xor .i64 (bits .xor .i64 ((rot y 17 : Nat) : Int) ((rot y 19 : Nat) : Int)) ((y : Int) / 1024) = ((sm1 y : Nat) : Int) := by
  have e1 : ((y : Int) / (1024 : Int)) = ((y >>> 10 : Nat) : Int) := by rw [Nat.shiftRight_eq_div_pow]; omega
  rw [e1, xor3_i64 _ _ _ (rot_lt _ _) (rot_lt _ _) (shr_lt ly)]
  rfl

theorem ref_next (p q s0 s1 : Nat) (lp : p < 4294967296) (lq : q < 4294967296) (l0 : s0 < 4294967296) (l1 : s1 < 4294967296) :
    (IntKind.i64.wrap (IntKind.i64.wrap (IntKind.i64.wrap ((p : Int) + (s0 : Int)) + (q : Int)) + (s1 : Int))).tmod 4294967296 = (((p + s0 + q + s1) % 4294967296 : Nat) : Int) := by
  rw [wrap_i64_small ((p : Int) + (s0 : Int)) (by omega) (by omega), wrap_i64_small ((p : Int) + (s0 : Int) + (q : Int)) (by omega) (by omega), wrap_i64_small _ (by omega) (by omega), Int.tmod_eq_emod_of_nonneg (by omega)]
  omega

theorem ref_x (s4 s5 s6 s7 kk ww : Nat) (l4 : s4 < 4294967296) (l5 : s5 < 4294967296) (l6 : s6 < 4294967296) (l7 : s7 < 4294967296) (lk : kk < 4294967296) (lw : ww < 4294967296) :
    IntKind.i64.wrap (IntKind.i64.wrap (IntKind.i64.wrap (IntKind.i64.wrap ((s7 : Int) + bits .xor .i64 (bits .xor .i64 ((rot s4 6 : Nat) : Int) ((rot s4 11 : Nat) : Int)) ((rot s4 25 : Nat) : Int)) + bits .xor .i64 (bits .and .i64 (s4 : Int) (s5 : Int)) (bits .and .i64 (IntKind.i64.wrap (4294967295 - (s4 : Int))) (s6 : Int))) + (kk : Int)) + (ww : Int)) = ((s7 + bg1 s4 + chs s4 s5 s6 + kk + ww : Nat) : Int) := by
  have e1 : IntKind.i64.wrap (4294967295 - (s4 : Int)) = ((4294967295 - s4 : Nat) : Int) := by rw [wrap_i64_small _ (by omega) (by omega)]; omega
  have a1 := and_lt (a := s4) l5
  have a2 := and_lt (a := 4294967295 - s4) l6
  have hb : (bits .xor .i64 (bits .xor .i64 ((rot s4 6 : Nat) : Int) ((rot s4 11 : Nat) : Int)) ((rot s4 25 : Nat) : Int) : Int) = ((bg1 s4 : Nat) : Int) := xor3_i64 _ _ _ (rot_lt _ _) (rot_lt _ _) (rot_lt _ _)
  have hc : (bits .xor .i64 (bits .and .i64 (s4 : Int) (s5 : Int)) (bits .and .i64 (IntKind.i64.wrap (4294967295 - (s4 : Int))) (s6 : Int)) : Int) = ((chs s4 s5 s6 : Nat) : Int) := by
    rw [e1, i64_and _ _ (by omega) (by omega), i64_and _ _ (by omega) (by omega), i64_xor _ _ (by omega) (by omega)]
    rfl
  have h1 := bg1_lt s4
  have h2 := chs_lt (e := s4) l5 l6
  rw [hb, hc, wrap_i64_small ((s7 : Int) + ((bg1 s4 : Nat) : Int)) (by omega) (by omega), wrap_i64_small ((s7 : Int) + ((bg1 s4 : Nat) : Int) + ((chs s4 s5 s6 : Nat) : Int)) (by omega) (by omega),
    wrap_i64_small ((s7 : Int) + ((bg1 s4 : Nat) : Int) + ((chs s4 s5 s6 : Nat) : Int) + (kk : Int)) (by omega) (by omega), wrap_i64_small _ (by omega) (by omega)]
  omega
theorem ref_y (s0 s1 s2 : Nat) (l0 : s0 < 4294967296) (l1 : s1 < 4294967296) (l2 : s2 < 4294967296) :
    IntKind.i64.wrap (bits .xor .i64 (bits .xor .i64 ((rot s0 2 : Nat) : Int) ((rot s0 13 : Nat) : Int)) ((rot s0 22 : Nat) : Int) + bits .xor .i64 (bits .xor .i64 (bits .and .i64 (s0 : Int) (s1 : Int)) (bits .and .i64 (s0 : Int) (s2 : Int))) (bits .and .i64 (s1 : Int) (s2 : Int))) = ((bg0 s0 + maj s0 s1 s2 : Nat) : Int) := by
  have a1 := and_lt (a := s0) l1
  have a2 := and_lt (a := s0) l2
  have a3 := and_lt (a := s1) l2
  have hb : (bits .xor .i64 (bits .xor .i64 ((rot s0 2 : Nat) : Int) ((rot s0 13 : Nat) : Int)) ((rot s0 22 : Nat) : Int) : Int) = ((bg0 s0 : Nat) : Int) := xor3_i64 _ _ _ (rot_lt _ _) (rot_lt _ _) (rot_lt _ _)
  have hc : (bits .xor .i64 (bits .xor .i64 (bits .and .i64 (s0 : Int) (s1 : Int)) (bits .and .i64 (s0 : Int) (s2 : Int))) (bits .and .i64 (s1 : Int) (s2 : Int)) : Int) = ((maj s0 s1 s2 : Nat) : Int) := by
    rw [i64_and _ _ (by omega) (by omega), i64_and _ _ (by omega) (by omega), i64_and _ _ (by omega) (by omega)]
    exact xor3_i64 _ _ _ a1 a2 a3
  have h1 := bg0_lt s0
  have h2 := maj_lt (a := s0) l1 l2
  rw [hb, hc, wrap_i64_small _ (by omega) (by omega)]
  omega
theorem ref_add (p q : Nat) (lp : p < 1099511627776) (lq : q < 1099511627776) : (IntKind.i64.wrap ((p : Int) + (q : Int))).tmod 4294967296 = (((p + q) % 4294967296 : Nat) : Int) := by
  rw [wrap_i64_small _ (by omega) (by omega), Int.tmod_eq_emod_of_nonneg (by omega)]
  omega
theorem sees_8 (w : World) (z0 z1 z2 z3 z4 z5 z6 z7 : Int) (a0 a1 a2 a3 a4 a5 a6 a7 : Nat) (h0 : z0 = a0) (h1 : z1 = a1) (h2 : z2 = a2) (h3 : z3 = a3) (h4 : z4 = a4) (h5 : z5 = a5) (h6 : z6 = a6) (h7 : z7 = a7) :
    SeesN .i64 (w.alloc (.cells #[.int .i64 z0, .int .i64 z1, .int .i64 z2, .int .i64 z3, .int .i64 z4, .int .i64 z5, .int .i64 z6, .int .i64 z7] 3)) (.slice (some ⟨w.heap.size, 0, none⟩) 8 8) [a0, a1, a2, a3, a4, a5, a6, a7] := by
  subst h0 h1 h2 h3 h4 h5 h6 h7
  refine ⟨w.heap.size, 0, _, 8, rfl, Nat.le_refl _, (fun h => by cases h), fun _ => rfl, fun j hj => ?_⟩
  have : j = 0 ∨ j = 1 ∨ j = 2 ∨ j = 3 ∨ j = 4 ∨ j = 5 ∨ j = 6 ∨ j = 7 := by simp at hj; omega
  rcases this with rfl | rfl | rfl | rfl | rfl | rfl | rfl | rfl <;> simp

set_option maxRecDepth 100000 in
set_option maxHeartbeats 2000000 in
theorem block_any (hv bv kv : Value) (h b K : List Nat) (w : World) (hH : SeesN .i64 w hv h) (hB : SeesN .u8 w bv b) (hK : SeesN .i64 w kv K) (h8 : Words 8 h) (b64 : b.length = 64) (hb : ∀ i, b.getD i 0 < 256) (hK64 : Words 64 K) :
    Calls Tryz.prog 94 #[hv, bv, kv] w fun e w' => ∃ v', e = .returned v' ∧ OwnsN .i64 3 w' w.heap.size v' (comp K h b) ∧ Below w.heap.size w w' := by
  obtain ⟨bb, boff, bao, bcap, rfl, bc, _, bne, bcell⟩ := hB
  obtain rfl := bne (by intro e; rw [e] at b64; simp at b64)
  have hbb : bb < w.heap.size := World.block_lt_of_cell? w _ (bcell 0 (by omega))
  rw [b64] at bc ⊢
  obtain ⟨hhb, hoff, hao, hcap, rfl, hc, _, hne, hcell⟩ := hH
  obtain rfl := hne (by intro e; have := h8.len; rw [e] at this; simp at this)
  have hhb' : hhb < w.heap.size := World.block_lt_of_cell? w _ (hcell 0 (by rw [h8.len]; omega))
  rw [h8.len] at hc ⊢
  obtain ⟨kb, koff, kao, kcap, rfl, kc, _, kne, kcell⟩ := hK
  obtain rfl := kne (by intro e; have := hK64.len; rw [e] at this; simp at this)
  have hkb : kb < w.heap.size := World.block_lt_of_cell? w _ (kcell 0 (by rw [hK64.len]; omega))
  rw [hK64.len] at kc ⊢
  have HBC := hid bcell
  have HHC := hid hcell
  have HKC := hid kcell
  have H8 := hid h8
  have HB := hid hb
  have HK := hid hK64
  have HB64 := hid b64
  clear bcell hcell kcell h8 hb hK64 b64 hne kne bne
  go_enter Tryz.func94, Tryz.ntmps94
  go_wp2_with fail
  go_loopw [7, 8] (fun u i wr => ∃ t : Nat, t ≤ 16 ∧ i = .int .i64 t ∧ OwnsN .i64 3 wr w.heap.size u (sched b t) ∧ Below w.heap.size w wr) (fun _ i _ => 16 - (intOf i).toNat)
  case atStart => exact ⟨0, by decide, rfl, OwnsN.nil _ _ _ _, Below.refl _ _⟩
  case round =>
    obtain ⟨t, ht, rfl, hO, hBe⟩ := hrel
    obtain ⟨ao, cap, rfl⟩ := hO.shape
    rw [sched_len] at hO ⊢
    by_cases hlt : t < 16
    · obtain ⟨i0, hi0⟩ : ∃ i, i = 4 * t := ⟨_, rfl⟩
      obtain ⟨i1, hi1⟩ : ∃ i, i = 4 * t + 1 := ⟨_, rfl⟩
      obtain ⟨i2, hi2⟩ : ∃ i, i = 4 * t + 2 := ⟨_, rfl⟩
      obtain ⟨i3, hi3⟩ : ∃ i, i = 4 * t + 3 := ⟨_, rfl⟩
      have w0 : IntKind.i64.wrap (4 * (t : Int)) = (i0 : Int) := by rw [hi0, ← wrap_i64_nat (4 * t) (by omega)]; simp
      have w1 : IntKind.i64.wrap ((i0 : Int) + 1) = (i1 : Int) := by rw [hi1, hi0, ← wrap_i64_nat (4 * t + 1) (by omega)]; simp
      have w2 : IntKind.i64.wrap ((i0 : Int) + 2) = (i2 : Int) := by rw [hi2, hi0, ← wrap_i64_nat (4 * t + 2) (by omega)]; simp
      have w3 : IntKind.i64.wrap ((i0 : Int) + 3) = (i3 : Int) := by rw [hi3, hi0, ← wrap_i64_nat (4 * t + 3) (by omega)]; simp
      have z0 : (i0 : Int) < 64 := by omega
      have z1 : (i1 : Int) < 64 := by omega
      have z2 : (i2 : Int) < 64 := by omega
      have z3 : (i3 : Int) < 64 := by omega
      have c0 := (hBe.cell (p := ⟨bb, boff + i0, none⟩) hbb).trans (HBC.out i0 (by rw [HB64.out]; omega))
      have c1 := (hBe.cell (p := ⟨bb, boff + i1, none⟩) hbb).trans (HBC.out i1 (by rw [HB64.out]; omega))
      have c2 := (hBe.cell (p := ⟨bb, boff + i2, none⟩) hbb).trans (HBC.out i2 (by rw [HB64.out]; omega))
      have c3 := (hBe.cell (p := ⟨bb, boff + i3, none⟩) hbb).trans (HBC.out i3 (by rw [HB64.out]; omega))
      have l0 := HB.out i0
      have l1 := HB.out i1
      have l2 := HB.out i2
      have l3 := HB.out i3
      obtain ⟨b0, hb0⟩ : ∃ x, x = b.getD i0 0 := ⟨_, rfl⟩
      obtain ⟨b1, hb1⟩ : ∃ x, x = b.getD i1 0 := ⟨_, rfl⟩
      obtain ⟨b2, hb2⟩ : ∃ x, x = b.getD i2 0 := ⟨_, rfl⟩
      obtain ⟨b3, hb3⟩ : ∃ x, x = b.getD i3 0 := ⟨_, rfl⟩
      rw [← hb0] at c0 l0
      rw [← hb1] at c1 l1
      rw [← hb2] at c2 l2
      rw [← hb3] at c3 l3
      have HW := hid (show b0 * 16777216 + b1 * 65536 + b2 * 256 + b3 = wat b (sched b t) t by rw [wat, if_pos hlt, hb0, hb1, hb2, hb3, hi0, hi1, hi2, hi3]; rfl)
      have hsw := hBe.size
      have HO := hid hO
      have HBe := hid hBe
      clear hb0 hb1 hb2 hb3 hi0 hi1 hi2 hi3 hO hBe
      go_wp2_with fail
      go_region_held3 (fun w' => w'.cell? ⟨bb, boff + i0, none⟩ = some (.int .u8 b0) ∧ w'.cell? ⟨bb, boff + i1, none⟩ = some (.int .u8 b1) ∧ w'.cell? ⟨bb, boff + i2, none⟩ = some (.int .u8 b2) ∧ w'.cell? ⟨bb, boff + i3, none⟩ = some (.int .u8 b3))
        (first | (refine ⟨?_, ?_, ?_, ?_⟩ <;> first | assumption | go_keep))
        (first | (refine step_appN rowInts (by rfl) _ _ (by rfl) w.heap.size (.slice ao t cap) (sched b t) (by rfl) ?ho _ [wat b (sched b t) t] (by rfl) (by simp) (sees_i1 wr _ _ ?hy) (by simp [sched_len]; omega) (by simp; omega) ?_; (case ho => exact HO.out.below (below_ad wr _)); (case hy => rw [← HW.out]; exact ref_word b0 b1 b2 b3 l0 l1 l2 l3); intro v4 w4 hO4 hG4; have k0 := far_cell hG4 (OwnsN.block HO.out) hbb hsw c0; have k1 := far_cell hG4 (OwnsN.block HO.out) hbb hsw c1; have k2 := far_cell hG4 (OwnsN.block HO.out) hbb hsw c2; have k3 := far_cell hG4 (OwnsN.block HO.out) hbb hsw c3))
      have HO4 := hid hO4
      have HB4 := hid (below_grownBy (HBe.out.trans ((below_ad wr _).mono hsw)) hG4 (OwnsN.block HO.out) (by simp; omega))
      obtain ⟨ao4, cap4, rfl⟩ := hO4.shape
      obtain ⟨N4, hN4⟩ : ∃ N, N = (sched b t ++ [wat b (sched b t) t]).length := ⟨_, rfl⟩
      rw [← hN4] at HO4 ⊢
      clear hO4 hG4 hN4 k0 k1 k2 k3
      go_wp2
      go_roundw
      case rel => exact ⟨t + 1, by omega, by go_num, HO4.out, HB4.out⟩
      case measure => simp [intOf]; omega
    · have h16 : t = 16 := by omega
      subst h16
      have HO := hid hO
      have HBe := hid hBe
      clear hO hBe ht hlt
      go_wp2_with fail
      go_loopw [7, 9] (fun u i wr => ∃ t : Nat, 16 ≤ t ∧ t ≤ 64 ∧ i = .int .i64 t ∧ OwnsN .i64 3 wr w.heap.size u (sched b t) ∧ Below w.heap.size w wr) (fun _ i _ => 64 - (intOf i).toNat)
      case atStart => exact ⟨16, by omega, by omega, rfl, HO.out, HBe.out⟩
      clear HO HBe
      case round =>
        obtain ⟨t, ht1, ht2, rfl, hO, hBe⟩ := hrel
        by_cases hlt : t < 64
        · obtain ⟨g, cap, rfl, hgb, hglt⟩ := World.ownsRow.form hO (by rw [sched_len]; omega)
          have hcs : ∀ j, j < t → wr.cell? ⟨g, j, none⟩ = some (.int .i64 (((sched b t).getD j 0 : Nat) : Int)) := fun j hj => by
            have h := hO.cells (g := g) rfl j (.int .i64 (((sched b t).getD j 0 : Nat) : Int)) (cellsN_get _ _ j (by rw [sched_len]; exact hj))
            rwa [xaddr_add, Nat.zero_add] at h
          have hW := sched_words HB.out t
          obtain ⟨j15, hj15⟩ : ∃ i, i = t - 15 := ⟨_, rfl⟩
          obtain ⟨j2, hj2⟩ : ∃ i, i = t - 2 := ⟨_, rfl⟩
          obtain ⟨j16, hj16⟩ : ∃ i, i = t - 16 := ⟨_, rfl⟩
          obtain ⟨j7, hj7⟩ : ∃ i, i = t - 7 := ⟨_, rfl⟩
          have w16 : IntKind.i64.wrap ((t : Int) - 16) = (j16 : Int) := by rw [hj16, ← wrap_i64_nat (t - 16) (by omega), show ((t - 16 : Nat) : Int) = (t : Int) - 16 by omega]
          have w7 : IntKind.i64.wrap ((t : Int) - 7) = (j7 : Int) := by rw [hj7, ← wrap_i64_nat (t - 7) (by omega), show ((t - 7 : Nat) : Int) = (t : Int) - 7 by omega]
          have z16 : (j16 : Int) < (t : Int) := by omega
          have z7 : (j7 : Int) < (t : Int) := by omega
          have e15 : ((t : Int) - 15).toNat = j15 := by omega
          have e2 : ((t : Int) - 2).toNat = j2 := by omega
          have c15 := hcs j15 (by omega)
          have c2 := hcs j2 (by omega)
          have c16 := hcs j16 (by omega)
          have c7 := hcs j7 (by omega)
          obtain ⟨x, hx⟩ : ∃ v, v = (sched b t).getD j15 0 := ⟨_, rfl⟩
          obtain ⟨y, hy⟩ : ∃ v, v = (sched b t).getD j2 0 := ⟨_, rfl⟩
          obtain ⟨p, hp⟩ : ∃ v, v = (sched b t).getD j16 0 := ⟨_, rfl⟩
          obtain ⟨q, hq⟩ : ∃ v, v = (sched b t).getD j7 0 := ⟨_, rfl⟩
          have lx : x < 4294967296 := by rw [hx]; exact hW.lt _
          have ly : y < 4294967296 := by rw [hy]; exact hW.lt _
          have lp : p < 4294967296 := by rw [hp]; exact hW.lt _
          have lq : q < 4294967296 := by rw [hq]; exact hW.lt _
          rw [← hx] at c15
          rw [← hy] at c2
          rw [← hp] at c16
          rw [← hq] at c7
          have HW := hid (show (p + sm0 x + q + sm1 y) % 4294967296 = wat b (sched b t) t by rw [wat, if_neg (by omega), hx, hy, hp, hq, hj15, hj2, hj16, hj7]; rfl)
          have HP := hid hp
          have HQ := hid hq
          have h16t : j16 < t := by omega
          have h7t : j7 < t := by omega
          rw [sched_len] at hO ⊢
          have HO := hid hO
          have HBe := hid hBe
          have hsw := hBe.size
          clear hx hy hp hq hj15 hj2 hj16 hj7 hcs hW hO hBe
          go_wp2_with fail
          go_quiet (fail)
          go_wp2_with (first | (go_at_call 114; refine (right_lit _ _ _ ?_ ?_ ?_).mono ?_; (· assumption); (· decide); (· decide); rintro e' w' ⟨rfl, q', rfl⟩))
          rw [ref_s0 x lx, ref_s1 y ly]
          generalize hw5 : wr.drewN _ = w5
          have hB5 : Below wr.heap.size wr w5 := by rw [← hw5]; exact below_drewN (Below.refl _ _) _
          have hs5 := hB5.size
          have d16 := (hB5.cell (p := ⟨g, j16, none⟩) hglt).trans c16
          have d7 := (hB5.cell (p := ⟨g, j7, none⟩) hglt).trans c7
          have HO5 := hid (HO.out.below hB5)
          have HBe5 := hid (HBe.out.trans (hB5.mono hsw))
          have l0 := sm0_lt lx
          have l1 := sm1_lt ly
          obtain ⟨s0, hs0⟩ : ∃ s, s = sm0 x := ⟨_, rfl⟩
          obtain ⟨s1, hs1⟩ : ∃ s, s = sm1 y := ⟨_, rfl⟩
          rw [← hs0] at HW l0 ⊢
          rw [← hs1] at HW l1 ⊢
          have hsw5 : w.heap.size ≤ w5.heap.size := by omega
          clear hw5 hB5 HO HBe c15 c2 c16 c7 hs0 hs1 hs5
          go_wp2_with fail
          go_region_held3 (fun w' => w'.cell? ⟨g, j16, none⟩ = some (.int .i64 p) ∧ w'.cell? ⟨g, j7, none⟩ = some (.int .i64 q))
            (first | (refine ⟨?_, ?_⟩ <;> first | assumption | go_keep))
            (first | (refine step_appK rowInts (by rfl) _ _ (by rfl) w.heap.size g t cap (sched b t) (by rfl) ?ho (sched_len _ _) _ [wat b (sched b t) t] (by rfl) (by simp) (sees_i1 w5 _ _ ?hy) (by simp [sched_len]; omega) (by simp; omega) ?_; (case ho => exact HO5.out.below (below_ad w5 _)); (case hy => rw [← HW.out]; exact ref_next p q s0 s1 lp lq l0 l1); intro v6 w6 hO6 hG6 hC6; have k16 := hC6 j16 h16t; have k7 := hC6 j7 h7t; rw [← HP.out] at k16; rw [← HQ.out] at k7))
          have HO6 := hid hO6
          have HB6 := hid (below_grownBy (HBe5.out.trans ((below_ad w5 _).mono hsw5)) hG6 (fun j hj => by simp at hj; omega) (by simp; omega))
          obtain ⟨ao6, cap6, rfl⟩ := hO6.shape
          obtain ⟨N6, hN6⟩ : ∃ N, N = (sched b t ++ [wat b (sched b t) t]).length := ⟨_, rfl⟩
          rw [← hN6] at HO6 ⊢
          clear hO6 hG6 hN6 hC6 k16 k7
          go_wp2
          go_roundw
          case rel => first | exact ⟨t + 1, by omega, by omega, by go_num, HO6.out, HB6.out⟩ | ((repeat apply Exists.intro); exact ⟨⟨t + 1, by omega, by omega, by go_num, HO6.out, HB6.out⟩, rfl⟩)
          case measure => simp [intOf]; omega
        · have h64 : t = 64 := by omega
          subst h64
          obtain ⟨gw, wcap, rfl, hgb, hglt⟩ := World.ownsRow.form hO (by rw [sched_len]; omega)
          have hcs : ∀ j, j < 64 → wr.cell? ⟨gw, j, none⟩ = some (.int .i64 (((sched b 64).getD j 0 : Nat) : Int)) := fun j hj => by
            have h := hO.cells (g := gw) rfl j (.int .i64 (((sched b 64).getD j 0 : Nat) : Int)) (cellsN_get _ _ j (by rw [sched_len]; exact hj))
            rwa [xaddr_add, Nat.zero_add] at h
          rw [sched_len]
          have hSh : SeesN .i64 wr (.slice (some ⟨hhb, hoff, none⟩) 8 hcap) h := ⟨hhb, hoff, _, hcap, by rw [H8.out.len], by rw [H8.out.len]; exact hc, (fun e => by cases e), fun _ => rfl, fun j hj => (hBe.cell (p := ⟨hhb, hoff + j, none⟩) hhb').trans (HHC.out j hj)⟩
          have HSh := hid hSh
          have HCS := hid hcs
          have HBe := hid hBe
          have hsw := hBe.size
          clear hcs hSh hBe hO ht1 ht2 hlt
          go_wp2_with (first | (at_builtin; refine wpList_appN rowInts rfl _ _ rfl wr.heap.size (.slice none 0 0) [] rfl (OwnsN.nil _ _ _ _) _ h rfl HSh.out (by rw [H8.out.len]; decide) (Nat.le_refl _) ?_; intro v4 w4 hO4 hG4))
          have hB4 : Below wr.heap.size wr w4 := below_grownBy (Below.refl _ _) hG4 (fun j hj => by simp [Value.ownBlock] at hj) (Nat.le_refl _)
          have HCS4 := hid (fun j (hj : j < 64) => (hB4.cell (p := ⟨gw, j, none⟩) hglt).trans (HCS.out j hj))
          have HBe4 := hid (HBe.out.trans (hB4.mono hsw))
          rw [List.nil_append] at hO4
          have HS4 := hid hO4.sees
          have hgw4 : gw < w4.heap.size := by have := hB4.size; omega
          obtain ⟨ao4, cap4, rfl⟩ := hO4.shape
          rw [H8.out.len] at HS4 ⊢
          clear hO4 hG4 hB4 HCS HBe HSh
          go_wp2_with fail
          go_loopw [14, 15] (fun u i wr => ∃ t : Nat, t ≤ 64 ∧ i = .int .i64 t ∧ SeesN .i64 wr u (run K (sched b 64) h t) ∧ (∀ j, j < 64 → wr.cell? ⟨gw, j, none⟩ = some (.int .i64 (((sched b 64).getD j 0 : Nat) : Int))) ∧ gw < wr.heap.size ∧ Below w.heap.size w wr) (fun _ i _ => 64 - (intOf i).toNat)
          case atStart => exact ⟨0, by omega, rfl, HS4.out, HCS4.out, hgw4, HBe4.out⟩
          clear HS4 HCS4 HBe4 hgw4 hsw hglt
          case round =>
            obtain ⟨t, ht, rfl, hS, hC, hgw, hBe⟩ := hrel
            have hws := run_words (K := K) (W := sched b 64) H8.out t
            obtain ⟨sb, so, sao, scap, rfl, hsc, _, hsne, hscell⟩ := hS
            obtain rfl := hsne (by intro e; have := hws.len; rw [e] at this; simp at this)
            have hsb : sb < wr.heap.size := World.block_lt_of_cell? wr _ (hscell 0 (by rw [hws.len]; omega))
            obtain ⟨s0, s1, s2, s3, s4, s5, s6, s7, hrun⟩ := list8 hws.len
            rw [hrun] at hscell hsc hws ⊢
            have c0 : wr.cell? ⟨sb, so + 0, none⟩ = some (.int .i64 (s0 : Int)) := hscell 0 (by simp)
            have c1 : wr.cell? ⟨sb, so + 1, none⟩ = some (.int .i64 (s1 : Int)) := hscell 1 (by simp)
            have c2 : wr.cell? ⟨sb, so + 2, none⟩ = some (.int .i64 (s2 : Int)) := hscell 2 (by simp)
            have c3 : wr.cell? ⟨sb, so + 3, none⟩ = some (.int .i64 (s3 : Int)) := hscell 3 (by simp)
            have c4 : wr.cell? ⟨sb, so + 4, none⟩ = some (.int .i64 (s4 : Int)) := hscell 4 (by simp)
            have c5 : wr.cell? ⟨sb, so + 5, none⟩ = some (.int .i64 (s5 : Int)) := hscell 5 (by simp)
            have c6 : wr.cell? ⟨sb, so + 6, none⟩ = some (.int .i64 (s6 : Int)) := hscell 6 (by simp)
            have c7 : wr.cell? ⟨sb, so + 7, none⟩ = some (.int .i64 (s7 : Int)) := hscell 7 (by simp)
            rw [Nat.add_zero] at c0
            simp only [List.length_cons, List.length_nil, Nat.zero_add, Nat.reduceAdd] at hsc ⊢
            have l0 : s0 < 4294967296 := hws.lt 0
            have l1 : s1 < 4294967296 := hws.lt 1
            have l2 : s2 < 4294967296 := hws.lt 2
            have l3 : s3 < 4294967296 := hws.lt 3
            have l4 : s4 < 4294967296 := hws.lt 4
            have l5 : s5 < 4294967296 := hws.lt 5
            have l6 : s6 < 4294967296 := hws.lt 6
            have l7 : s7 < 4294967296 := hws.lt 7
            have HRun := hid hrun
            have HC := hid hC
            have HBe := hid hBe
            have hsw := hBe.size
            have HSC := hid hscell
            clear hscell hrun hws hC hBe hsne
            by_cases hlt : t < 64
            · have ck := (HBe.out.cell (p := ⟨kb, koff + t, none⟩) hkb).trans (HKC.out t (by rw [HK.out.len]; exact hlt))
              have cw := HC.out t hlt
              obtain ⟨kk, hkk⟩ : ∃ x, x = K.getD t 0 := ⟨_, rfl⟩
              obtain ⟨ww, hww⟩ : ∃ x, x = (sched b 64).getD t 0 := ⟨_, rfl⟩
              have lk : kk < 4294967296 := by rw [hkk]; exact HK.out.lt _
              have lw : ww < 4294967296 := by rw [hww]; exact (sched_words HB.out 64).lt _
              rw [← hkk] at ck
              rw [← hww] at cw
              have HKK := hid hkk
              have HWW := hid hww
              have zt : (t : Int) < 64 := by omega
              clear hkk hww
              go_wp2_with fail
              go_quiet (fail)
              go_wp2_with fail
              go_region_held3 (fun w' => w'.cell? ⟨sb, so + 5, none⟩ = some (.int .i64 s5) ∧ w'.cell? ⟨sb, so + 6, none⟩ = some (.int .i64 s6) ∧ w'.cell? ⟨sb, so + 7, none⟩ = some (.int .i64 s7) ∧ w'.cell? ⟨kb, koff + t, none⟩ = some (.int .i64 kk) ∧ w'.cell? ⟨gw, t, none⟩ = some (.int .i64 ww))
                (first | (refine ⟨?_, ?_, ?_, ?_, ?_⟩ <;> first | assumption | go_keep))
                (first | (go_at_call 114; refine (right_lit _ _ _ ?_ ?_ ?_).mono ?_; (· assumption); (· decide); (· decide); rintro e' w' ⟨rfl, q', rfl⟩))
              go_wp2_with fail
              rw [ref_x s4 s5 s6 s7 kk ww l4 l5 l6 l7 lk lw]
              obtain ⟨X, hX⟩ : ∃ X, X = s7 + bg1 s4 + chs s4 s5 s6 + kk + ww := ⟨_, rfl⟩
              rw [← hX]
              have lX : X < 1099511627776 := by have h1 := bg1_lt s4; have h2 := chs_lt (e := s4) l5 l6; omega
              have HX := hid hX
              generalize hw5 : wr.drewN _ = w5
              have hB5 : Below wr.heap.size wr w5 := by rw [← hw5]; exact below_drewN (Below.refl _ _) _
              have hs5 := hB5.size
              have d0 := (hB5.cell (p := ⟨sb, so, none⟩) hsb).trans c0
              have d1 := (hB5.cell (p := ⟨sb, so + 1, none⟩) hsb).trans c1
              have d2 := (hB5.cell (p := ⟨sb, so + 2, none⟩) hsb).trans c2
              have d3 := (hB5.cell (p := ⟨sb, so + 3, none⟩) hsb).trans c3
              have d4 := (hB5.cell (p := ⟨sb, so + 4, none⟩) hsb).trans c4
              have d5 := (hB5.cell (p := ⟨sb, so + 5, none⟩) hsb).trans c5
              have d6 := (hB5.cell (p := ⟨sb, so + 6, none⟩) hsb).trans c6
              have HBe5 := hid (HBe.out.trans (hB5.mono hsw))
              have HC5 := hid (fun j (hj : j < 64) => (hB5.cell (p := ⟨gw, j, none⟩) hgw).trans (HC.out j hj))
              have hgw5 : gw < w5.heap.size := by omega
              have hsb5 : sb < w5.heap.size := by omega
              have hsw5 : w.heap.size ≤ w5.heap.size := by omega
              clear hw5 hB5 hX c0 c1 c2 c3 c4 c5 c6 c7 ck cw HC HBe HSC
              go_region_held3 (fun w' => w'.cell? ⟨sb, so + 1, none⟩ = some (.int .i64 s1) ∧ w'.cell? ⟨sb, so + 2, none⟩ = some (.int .i64 s2))
                (first | (refine ⟨?_, ?_⟩ <;> first | assumption | go_keep))
                (first | (go_at_call 114; refine (right_lit _ _ _ ?_ ?_ ?_).mono ?_; (· assumption); (· decide); (· decide); rintro e' w' ⟨rfl, q', rfl⟩))
              go_wp2_with fail
              rw [ref_y s0 s1 s2 l0 l1 l2]
              obtain ⟨Y, hY⟩ : ∃ Y, Y = bg0 s0 + maj s0 s1 s2 := ⟨_, rfl⟩
              rw [← hY]
              have lY : Y < 1099511627776 := by have h1 := bg0_lt s0; have h2 := maj_lt (a := s0) l1 l2; omega
              have HY := hid hY
              generalize hw6 : w5.drewN _ = w6
              have hB6 : Below w5.heap.size w5 w6 := by rw [← hw6]; exact below_drewN (Below.refl _ _) _
              have hs6 := hB6.size
              have e0 := (hB6.cell (p := ⟨sb, so, none⟩) hsb5).trans d0
              have e1 := (hB6.cell (p := ⟨sb, so + 1, none⟩) hsb5).trans d1
              have e2 := (hB6.cell (p := ⟨sb, so + 2, none⟩) hsb5).trans d2
              have e3 := (hB6.cell (p := ⟨sb, so + 3, none⟩) hsb5).trans d3
              have e4 := (hB6.cell (p := ⟨sb, so + 4, none⟩) hsb5).trans d4
              have e5 := (hB6.cell (p := ⟨sb, so + 5, none⟩) hsb5).trans d5
              have e6 := (hB6.cell (p := ⟨sb, so + 6, none⟩) hsb5).trans d6
              have HBe6 := hid (HBe5.out.trans (hB6.mono hsw5))
              have HC6 := hid (fun j (hj : j < 64) => (hB6.cell (p := ⟨gw, j, none⟩) hgw5).trans (HC5.out j hj))
              have hgw6 : gw < w6.heap.size := by omega
              have hsw6 : w.heap.size ≤ w6.heap.size := by omega
              clear hw6 hB6 hY d0 d1 d2 d3 d4 d5 d6 HC5 HBe5
              go_wp2_with fail
              go_region_held3 (fun w' => w'.cell? ⟨sb, so, none⟩ = some (.int .i64 s0) ∧ w'.cell? ⟨sb, so + 1, none⟩ = some (.int .i64 s1) ∧ w'.cell? ⟨sb, so + 2, none⟩ = some (.int .i64 s2) ∧ w'.cell? ⟨sb, so + 3, none⟩ = some (.int .i64 s3) ∧ w'.cell? ⟨sb, so + 4, none⟩ = some (.int .i64 s4) ∧ w'.cell? ⟨sb, so + 5, none⟩ = some (.int .i64 s5) ∧ w'.cell? ⟨sb, so + 6, none⟩ = some (.int .i64 s6))
                (first | (refine ⟨?_, ?_, ?_, ?_, ?_, ?_, ?_⟩ <;> first | assumption | go_keep))
                (fail)
              go_wp2
              have hn : run K (sched b 64) h (t + 1) = [(X + Y) % 4294967296, s0, s1, s2, (s3 + X) % 4294967296, s4, s5, s6] := by
                rw [run, HRun.out, ← HKK.out, ← HWW.out, HX.out, HY.out]
                rfl
              have hS7 := sees_8 w6 (((X : Int) + (Y : Int)) % 4294967296) s0 s1 s2 (((s3 : Int) + (X : Int)) % 4294967296) s4 s5 s6 ((X + Y) % 4294967296) s0 s1 s2 ((s3 + X) % 4294967296) s4 s5 s6 (by omega) rfl rfl rfl (by omega) rfl rfl rfl
              rw [← hn] at hS7
              have hB7 := fun o => below_ad w6 o
              go_roundw
              case rel => exact ⟨t + 1, by omega, by go_num, hS7, fun j hj => ((hB7 _).cell (p := ⟨gw, j, none⟩) hgw6).trans (HC6.out j hj), Nat.lt_of_lt_of_le hgw6 (hB7 _).size, HBe6.out.trans ((hB7 _).mono hsw6)⟩
              case measure => simp [intOf]; omega
            · have h64 : t = 64 := by omega
              subst h64
              have HW8 := hid (run_words (K := K) (W := sched b 64) H8.out 64)
              rw [← HRun.out] at HSC
              clear c0 c1 c2 c3 c4 c5 c6 c7
              obtain ⟨w7, rfl⟩ : ∃ w7, w7 = wr := ⟨_, rfl⟩
              go_wp2_with fail
              go_loopw [20, 21] (fun u i w8 => ∃ k : Nat, k ≤ 8 ∧ i = .int .i64 k ∧ OwnsN .i64 3 w8 w7.heap.size u (addW h (run K (sched b 64) h 64) k) ∧ Below w7.heap.size w7 w8) (fun _ i _ => 8 - (intOf i).toNat)
              case atStart => exact ⟨0, by decide, rfl, OwnsN.nil _ _ _ _, Below.refl _ _⟩
              case round =>
                obtain ⟨k, hk8, rfl, hO, hB8⟩ := hrel
                obtain ⟨ao8, cap8, rfl⟩ := hO.shape
                rw [(addW_words _ _ _).len] at hO ⊢
                by_cases hlt8 : k < 8
                · have ch := (hB8.cell (p := ⟨hhb, hoff + k, none⟩) (Nat.lt_of_lt_of_le hhb' hsw)).trans ((HBe.out.cell (p := ⟨hhb, hoff + k, none⟩) hhb').trans (HHC.out k (by rw [H8.out.len]; exact hlt8)))
                  have cs := (hB8.cell (p := ⟨sb, so + k, none⟩) hsb).trans (HSC.out k (by rw [HW8.out.len]; exact hlt8))
                  obtain ⟨hh, hhh⟩ : ∃ x, x = h.getD k 0 := ⟨_, rfl⟩
                  obtain ⟨ss, hss⟩ : ∃ x, x = (run K (sched b 64) h 64).getD k 0 := ⟨_, rfl⟩
                  have lh : hh < 4294967296 := by rw [hhh]; exact H8.out.lt _
                  have ls : ss < 4294967296 := by rw [hss]; exact HW8.out.lt _
                  rw [← hhh] at ch
                  rw [← hss] at cs
                  have HN := hid (show addW h (run K (sched b 64) h 64) (k + 1) = addW h (run K (sched b 64) h 64) k ++ [(hh + ss) % 4294967296] by rw [addW_succ, hhh, hss])
                  have zk : (k : Int) < 8 := by omega
                  have HO := hid hO
                  have HB8 := hid hB8
                  have hs8 := hB8.size
                  have hll : (addW h (run K (sched b 64) h 64) k).length = k := (addW_words _ _ _).len
                  have HLL := hid hll
                  have hhb8 : hhb < w7.heap.size := by omega
                  clear hhh hss hO hB8 hll
                  go_wp2_with fail
                  go_region_held3 (fun w' => w'.cell? ⟨hhb, hoff + k, none⟩ = some (.int .i64 hh) ∧ w'.cell? ⟨sb, so + k, none⟩ = some (.int .i64 ss))
                    (first | (refine ⟨?_, ?_⟩ <;> first | assumption | go_keep))
                    (first | (refine step_appN rowInts (by rfl) _ _ (by rfl) w7.heap.size (.slice ao8 k cap8) (addW h (run K (sched b 64) h 64) k) (by rfl) ?ho _ [(hh + ss) % 4294967296] (by rfl) (by simp) (sees_i1 wr _ _ ?hy) (by rw [HLL.out]; simp; omega) (by simp; omega) ?_; (case ho => exact HO.out.below (below_ad wr _)); (case hy => exact ref_add hh ss (by omega) (by omega)); intro v9 w9 hO9 hG9; have k1 := far_cell hG9 (OwnsN.block HO.out) hhb8 hs8 ch; have k2 := far_cell hG9 (OwnsN.block HO.out) hsb hs8 cs))
                  rw [← HN.out] at hO9
                  have HO9 := hid hO9
                  have HB9 := hid (below_grownBy (HB8.out.trans ((below_ad wr _).mono hs8)) hG9 (OwnsN.block HO.out) (by simp; omega))
                  obtain ⟨ao9, cap9, rfl⟩ := hO9.shape
                  rw [(addW_words _ _ _).len] at HO9 ⊢
                  clear hO9 hG9 k1 k2
                  go_wp2
                  go_roundw
                  case rel => first | exact ⟨k + 1, by omega, by go_num, HO9.out, HB9.out⟩ | ((repeat apply Exists.intro); exact ⟨⟨k + 1, by omega, by go_num, HO9.out, HB9.out⟩, rfl⟩)
                  case measure => simp [intOf]; omega
                · have hk : k = 8 := by omega
                  subst hk
                  have HO := hid (ownsN_le hO hsw)
                  have HB8 := hid (HBe.out.trans (hB8.mono hsw))
                  clear hO hB8
                  go_wp2
                  go_ret
                  exact ⟨_, rfl, HO.out, HB8.out⟩
end Go.Proofs.YtplljpodejpbgaaGreatDoor
