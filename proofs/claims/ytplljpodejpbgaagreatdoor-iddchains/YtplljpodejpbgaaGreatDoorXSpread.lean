/-
  spread: the words of a block.
-/
import Derived.Test.YtplljpodejpbgaaGreatDoorXBlk
namespace Go.Proofs.YtplljpodejpbgaaGreatDoor
open Go.RowKit
set_option linter.unusedVariables false

/-- Where 'spread' stands behind t words. -/
structure SpreadAt (w wr : World) (bl : List Nat) (t : Nat) : Prop where
  arg : Blk wr w.heap.size .u8 bl 140
  res : Blk wr (w.heap.size + 1) .u32 (List.replicate 64 0) 167
  row : Blk wr (w.heap.size + 1 + 1) .u32 (sched bl t ++ List.replicate (64 - t) 0) 167
  bel : Below w.heap.size w wr

theorem Tryz.size167 : (Tryz.prog.info? 167).map (·.size) = some 64 := by kernel_rfl

theorem SpreadAt.step {w wr : World} {bl : List Nat} {t : Nat} (h : SpreadAt w wr bl t) (ht : t < 64) (y n : Nat) (hy : y = wat bl (sched bl t) t) : SpreadAt w ((wr.drewN n).setCell ⟨w.heap.size + 1 + 1, t, none⟩ (.int .u32 (y : Int))) bl (t + 1) := by
  refine ⟨(h.arg.drew n).other (by omega) _ _, (h.res.drew n).other (by omega) _ _, ?_, below_set (below_drewN h.bel n) (by omega) _ _⟩
  have h2 := (h.row.drew n).set t y
  rw [set_next (sched_len bl t) ht] at h2
  subst hy
  exact h2

set_option maxRecDepth 20000 in
set_option maxHeartbeats 2000000 in
theorem spread_any (bl : List Nat) (w : World) (hl : bl.length = 64) (hb : ∀ i, bl.getD i 0 < 256) :
    Calls Tryz.prog 117 #[.agg (cellsN .u8 bl).toArray] w fun e w' => e = .returned (.agg (cellsN .u32 (sched bl 64)).toArray) ∧ Below w.heap.size w w' := by
  have HL := hid hl
  have HB := hid hb
  clear hl hb
  go_enter Tryz.func117, Tryz.ntmps117
  go_wp2_with fail
  go_loopw [8] (fun i wr => ∃ t : Nat, t ≤ 16 ∧ i = .int .i64 t ∧ SpreadAt w wr bl t) (fun i _ => 16 - (intOf i).toNat)
  case atStart =>
    exact ⟨0, by decide, rfl, ⟨heap3a _ _ _ _, heap3b _ _ _ _, heap3c _ _ _ _, (((Below.refl _ _).alloc (Nat.le_refl _) _).alloc (by simp) _).alloc (by simp; omega) _⟩⟩
  case round =>
    obtain ⟨t, ht, rfl, hS⟩ := hrel
    by_cases hlt : t < 16
    · obtain ⟨i0, hi0⟩ : ∃ i, i = 4 * t := ⟨_, rfl⟩
      obtain ⟨i1, hi1⟩ : ∃ i, i = 4 * t + 1 := ⟨_, rfl⟩
      obtain ⟨i2, hi2⟩ : ∃ i, i = 4 * t + 2 := ⟨_, rfl⟩
      obtain ⟨i3, hi3⟩ : ∃ i, i = 4 * t + 3 := ⟨_, rfl⟩
      have w0 : IntKind.i64.wrap (4 * (t : Int)) = (i0 : Int) := by rw [hi0, ← wrap_i64_nat (4 * t) (by omega)]; simp
      have w1 : IntKind.i64.wrap ((i0 : Int) + 1) = (i1 : Int) := by rw [hi1, hi0, ← wrap_i64_nat (4 * t + 1) (by omega)]; simp
      have w2 : IntKind.i64.wrap ((i0 : Int) + 2) = (i2 : Int) := by rw [hi2, hi0, ← wrap_i64_nat (4 * t + 2) (by omega)]; simp
      have w3 : IntKind.i64.wrap ((i0 : Int) + 3) = (i3 : Int) := by rw [hi3, hi0, ← wrap_i64_nat (4 * t + 3) (by omega)]; simp
      have z0 : (i0 : Int) < 64 := by omega
      have z1 : (i1 : Int) < 64 := by omega
      have z2 : (i2 : Int) < 64 := by omega
      have z3 : (i3 : Int) < 64 := by omega
      have zt : (t : Int) < 64 := by omega
      have c0 := hS.arg.cell i0 (by rw [HL.out]; omega)
      have c1 := hS.arg.cell i1 (by rw [HL.out]; omega)
      have c2 := hS.arg.cell i2 (by rw [HL.out]; omega)
      have c3 := hS.arg.cell i3 (by rw [HL.out]; omega)
      have l0 := HB.out i0
      have l1 := HB.out i1
      have l2 := HB.out i2
      have l3 := HB.out i3
      obtain ⟨b0, hb0⟩ : ∃ b, b = bl.getD i0 0 := ⟨_, rfl⟩
      obtain ⟨b1, hb1⟩ : ∃ b, b = bl.getD i1 0 := ⟨_, rfl⟩
      obtain ⟨b2, hb2⟩ : ∃ b, b = bl.getD i2 0 := ⟨_, rfl⟩
      obtain ⟨b3, hb3⟩ : ∃ b, b = bl.getD i3 0 := ⟨_, rfl⟩
      rw [← hb0] at c0 l0
      rw [← hb1] at c1 l1
      rw [← hb2] at c2 l2
      rw [← hb3] at c3 l3
      have cy := hS.row.cell t (by simp [sched_len]; omega)
      have fy := hS.row.warm t
      obtain ⟨y, hy⟩ : ∃ b, b = (sched bl t ++ List.replicate (64 - t) 0).getD t 0 := ⟨_, rfl⟩
      rw [← hy] at cy
      have HW := hid (show b0 * 16777216 + b1 * 65536 + b2 * 256 + b3 = word bl t by rw [hb0, hb1, hb2, hb3, hi0, hi1, hi2, hi3]; rfl)
      clear hb0 hb1 hb2 hb3 hy hi0 hi1 hi2 hi3
      have HS := hid hS
      clear hS
      have hne : w.heap.size + 1 + 1 ≠ w.heap.size := by omega
      go_wp2_with fail
      go_region_held3 (fun w' => w'.cell? ⟨w.heap.size, i0, none⟩ = some (.int .u8 b0) ∧ w'.cell? ⟨w.heap.size, i1, none⟩ = some (.int .u8 b1) ∧ w'.cell? ⟨w.heap.size, i2, none⟩ = some (.int .u8 b2) ∧ w'.cell? ⟨w.heap.size, i3, none⟩ = some (.int .u8 b3))
        (first | (refine ⟨?_, ?_, ?_, ?_⟩ <;> first | assumption | go_keep))
        (fail)
      go_wp2
      go_roundw
      case rel =>
        refine ⟨t + 1, by omega, by go_num, ?_⟩
        have h := HS.out.step (by omega) _ 1 (show b0 * 16777216 + b1 * 65536 + b2 * 256 + b3 = wat bl (sched bl t) t by rw [wat, if_pos hlt]; exact HW.out)
        rw [← or3_u32 b0 b1 b2 b3 l0 l1 l2 l3] at h
        exact h
      case measure => simp [intOf]; omega
    · have h16 : t = 16 := by omega
      subst h16
      go_wp2_with fail
      go_loopw [5] (fun i wr => ∃ t : Nat, 16 ≤ t ∧ t ≤ 64 ∧ i = .int .i64 t ∧ SpreadAt w wr bl t) (fun i _ => 64 - (intOf i).toNat)
      case atStart => exact ⟨16, by omega, by omega, rfl, hS⟩
      clear hS ht hlt
      case round =>
        obtain ⟨t, ht1, ht2, rfl, hS⟩ := hrel
        by_cases hlt : t < 64
        · have hW := sched_words HB.out t
          obtain ⟨j15, hj15⟩ : ∃ i, i = t - 15 := ⟨_, rfl⟩
          obtain ⟨j2, hj2⟩ : ∃ i, i = t - 2 := ⟨_, rfl⟩
          obtain ⟨j16, hj16⟩ : ∃ i, i = t - 16 := ⟨_, rfl⟩
          obtain ⟨j7, hj7⟩ : ∃ i, i = t - 7 := ⟨_, rfl⟩
          have w15 : IntKind.i64.wrap ((t : Int) - 15) = (j15 : Int) := by rw [hj15, ← wrap_i64_nat (t - 15) (by omega), show ((t - 15 : Nat) : Int) = (t : Int) - 15 by omega]
          have w2 : IntKind.i64.wrap ((t : Int) - 2) = (j2 : Int) := by rw [hj2, ← wrap_i64_nat (t - 2) (by omega), show ((t - 2 : Nat) : Int) = (t : Int) - 2 by omega]
          have w16 : IntKind.i64.wrap ((t : Int) - 16) = (j16 : Int) := by rw [hj16, ← wrap_i64_nat (t - 16) (by omega), show ((t - 16 : Nat) : Int) = (t : Int) - 16 by omega]
          have w7 : IntKind.i64.wrap ((t : Int) - 7) = (j7 : Int) := by rw [hj7, ← wrap_i64_nat (t - 7) (by omega), show ((t - 7 : Nat) : Int) = (t : Int) - 7 by omega]
          have z15 : (j15 : Int) < 64 := by omega
          have z2 : (j2 : Int) < 64 := by omega
          have z16 : (j16 : Int) < 64 := by omega
          have z7 : (j7 : Int) < 64 := by omega
          have zt : (t : Int) < 64 := by omega
          have y15 : (t : Int) - 15 < 64 := by omega
          have y2 : (t : Int) - 2 < 64 := by omega
          have n16 : t ≠ j16 := by omega
          have n7 : t ≠ j7 := by omega
          have n16' : ¬ t = j16 := by omega
          have n7' : ¬ t = j7 := by omega
          have hg : ∀ j, j < t → (sched bl t ++ List.replicate (64 - t) 0).getD j 0 = (sched bl t).getD j 0 := fun j hj => getD_app_left (by rw [sched_len]; exact hj)
          have hll : (sched bl t ++ List.replicate (64 - t) 0).length = 64 := by rw [List.length_append, sched_len, List.length_replicate]; omega
          have c15 := hS.row.cell j15 (by rw [hll]; omega)
          have c2 := hS.row.cell j2 (by rw [hll]; omega)
          have c16 := hS.row.cell j16 (by rw [hll]; omega)
          have c7 := hS.row.cell j7 (by rw [hll]; omega)
          rw [hg _ (by omega)] at c15 c2 c16 c7
          obtain ⟨x, hx⟩ : ∃ b, b = (sched bl t).getD j15 0 := ⟨_, rfl⟩
          obtain ⟨y, hy⟩ : ∃ b, b = (sched bl t).getD j2 0 := ⟨_, rfl⟩
          obtain ⟨p, hp⟩ : ∃ b, b = (sched bl t).getD j16 0 := ⟨_, rfl⟩
          obtain ⟨q, hq⟩ : ∃ b, b = (sched bl t).getD j7 0 := ⟨_, rfl⟩
          have lx : x < 4294967296 := by rw [hx]; exact hW.lt _
          have ly : y < 4294967296 := by rw [hy]; exact hW.lt _
          have lp : p < 4294967296 := by rw [hp]; exact hW.lt _
          have lq : q < 4294967296 := by rw [hq]; exact hW.lt _
          rw [← hx] at c15
          rw [← hy] at c2
          rw [← hp] at c16
          rw [← hq] at c7
          have cy := hS.row.cell t (by rw [hll]; omega)
          have fy := hS.row.warm t
          obtain ⟨z, hz⟩ : ∃ b, b = (sched bl t ++ List.replicate (64 - t) 0).getD t 0 := ⟨_, rfl⟩
          rw [← hz] at cy
          have HW := hid (show (p + sm0 x + q + sm1 y) % 4294967296 = wnext (sched bl t) t by rw [hx, hy, hp, hq, hj15, hj2, hj16, hj7]; rfl)
          have HS := hid hS
          have e15 : ((t : Int) - 15).toNat = j15 := by omega
          have e2 : ((t : Int) - 2).toNat = j2 := by omega
          clear hx hy hp hq hj15 hj2 hj16 hj7 hz hg hll hS hW
          go_wp2_with fail
          go_quiet (fail)
          go_wp2_with fail
          go_region_held3 (fun w' => w'.cell? ⟨w.heap.size + 1 + 1, j16, none⟩ = some (.int .u32 p) ∧ w'.cell? ⟨w.heap.size + 1 + 1, j7, none⟩ = some (.int .u32 q))
            (first | (refine ⟨?_, ?_⟩ <;> first | assumption | (simp [*, World.cell?_setCell_other]; done)))
            (first | (go_at_call 118; refine (turn_lit _ _ _ ?_ ?_ ?_).mono ?_; (· assumption); (· decide); (· decide); rintro e w' ⟨rfl, rfl⟩))
          go_wp2
          go_roundw
          case rel =>
            have h := HS.out.step hlt _ (nq + 1) (show (p + sm0 x + q + sm1 y) % 4294967296 = wat bl (sched bl t) t by rw [wat, if_neg (by omega)]; exact HW.out)
            rw [← spread_form x y p q lx ly lp lq] at h
            first | exact ⟨t + 1, by omega, by omega, by go_num, h⟩ | ((repeat apply Exists.intro); exact ⟨⟨t + 1, by omega, by omega, by go_num, h⟩, rfl⟩)
          case measure => simp [intOf]; omega
        · have h64 : t = 64 := by omega
          subst h64
          have hrow := hS.row
          rw [Nat.sub_self, List.replicate_zero, List.append_nil] at hrow
          have hres := hS.res
          have HBe := hid hS.bel
          have hsz : (cellsN .u32 (sched bl 64)).toArray.size = 64 := by simp [cellsN_len, sched_len]
          have hi1 : (Tryz.prog.info? 167).map (·.size) = some (cellsN .u32 (sched bl 64)).toArray.size := by rw [hsz]; exact Tryz.size167
          have h1c : (cellsN .u32 (sched bl 64)).toArray.all (·.oneCell') = true := all_oneCell_toArray (cellsN_one _ _)
          have hold : (cellsN .u32 (List.replicate 64 0)).toArray.size = (cellsN .u32 (sched bl 64)).toArray.size := by rw [hsz]; simp [cellsN_len]
          obtain ⟨R, hR⟩ : ∃ R, R = (cellsN .u32 (sched bl 64)).toArray := ⟨_, rfl⟩
          unfold Blk at hrow
          rw [← hR] at hrow hi1 h1c hold
          have HR := hid hR
          have HRow := hid hrow
          have HRes := hid hres
          have HI := hid hi1
          have HC := hid h1c
          have HO := hid hold
          clear hrow hres hi1 h1c hold hsz hR hS
          go_wp2_with (first | (refine wpList_load_row rfl 167 _ rfl (w.heap.size + 1 + 1) rfl 167 R _ _ HRow.out Tryz.underlying167 rfl HI.out ?_) | (refine wpList_store_row rfl 167 _ _ rfl (w.heap.size + 1) R rfl rfl 167 _ HRes.out HI.out HO.out HC.out ?_))
          refine bodyPost_ret (v := .agg R) (results_cell_row (fn := Tryz.f117) (p := 2) (ty := 167) rfl _ _ (w.heap.size + 1) 167 R (0, 0) _ rfl (setRow_heap _ _ _ _ _ _ HRes.out) Tryz.underlying167 rfl HI.out) rfl ?_
          exact ⟨by rw [HR.out], ⟨HBe.out.os, HBe.out.tape, HBe.out.output, by simpa using HBe.out.size, fun k hk => by rw [← HBe.out.block k hk]; simp [World.setRow, Array.getElem?_modify]; omega⟩⟩
end Go.Proofs.YtplljpodejpbgaaGreatDoor
