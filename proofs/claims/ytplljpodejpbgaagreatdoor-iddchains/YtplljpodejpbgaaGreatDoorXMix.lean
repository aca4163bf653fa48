/-
  mix: a block goes into the state.
-/
import Derived.Test.YtplljpodejpbgaaGreatDoorXProgress
namespace Go.Proofs.YtplljpodejpbgaaGreatDoor
open Go.RowKit
set_option linter.unusedVariables false
set_option maxRecDepth 100000

theorem not_u32 (e : Nat) (he : e < 4294967296) : bits .xor .u32 IntKind.u32.max (e : Int) = ((4294967295 - e : Nat) : Int) := by
  have h1 : (IntKind.u32.max : Int) = ((4294967295 : Nat) : Int) := by decide
  rw [h1, u32_xor_nat _ _ (by decide) he]
  have h2 : (4294967295 ^^^ e) = 4294967295 - e := by
    have h3 : (BitVec.allOnes 32 ^^^ BitVec.ofNat 32 e).toNat = (~~~ BitVec.ofNat 32 e).toNat := by rw [BitVec.allOnes_xor]
    rw [BitVec.toNat_xor, BitVec.toNat_not, BitVec.toNat_allOnes, BitVec.toNat_ofNat, Nat.mod_eq_of_lt (show e < 2 ^ 32 by omega)] at h3
    exact h3
  rw [h2]

theorem mix_x (h e f g kk ww : Nat) (lh : h < 4294967296) (le : e < 4294967296) (lf : f < 4294967296) (lg : g < 4294967296) :
    (((((h : Int) + bits .xor .u32 (bits .xor .u32 ((rot e 6 : Nat) : Int) ((rot e 11 : Nat) : Int)) ((rot e 25 : Nat) : Int)) % 4294967296 + bits .xor .u32 (bits .and .u32 (e : Int) (f : Int)) (bits .and .u32 (bits .xor .u32 IntKind.u32.max (e : Int)) (g : Int))) % 4294967296 + (kk : Int)) % 4294967296 + (ww : Int)) % 4294967296 = (((h + bg1 e + chs e f g + kk + ww) % 4294967296 : Nat) : Int) := by
  have hb : ((bits .xor .u32 (bits .xor .u32 ((rot e 6 : Nat) : Int) ((rot e 11 : Nat) : Int)) ((rot e 25 : Nat) : Int)) : Int) = ((bg1 e : Nat) : Int) := xor3_u32 _ _ _ (rot_lt _ _) (rot_lt _ _) (rot_lt _ _)
  have hc : ((bits .xor .u32 (bits .and .u32 (e : Int) (f : Int)) (bits .and .u32 (bits .xor .u32 IntKind.u32.max (e : Int)) (g : Int))) : Int) = ((chs e f g : Nat) : Int) := by
    rw [not_u32 e le, u32_and_nat _ _ le lf, u32_and_nat _ _ (by omega) lg, u32_xor_nat _ _ (and_lt lf) (and_lt lg)]
    rfl
  rw [hb, hc]
  omega

theorem mix_y (a b c : Nat) (la : a < 4294967296) (lb : b < 4294967296) (lc : c < 4294967296) :
    ((bits .xor .u32 (bits .xor .u32 ((rot a 2 : Nat) : Int) ((rot a 13 : Nat) : Int)) ((rot a 22 : Nat) : Int)) + (bits .xor .u32 (bits .xor .u32 (bits .and .u32 (a : Int) (b : Int)) (bits .and .u32 (a : Int) (c : Int))) (bits .and .u32 (b : Int) (c : Int)))) % 4294967296 = (((bg0 a + maj a b c) % 4294967296 : Nat) : Int) := by
  have hb : ((bits .xor .u32 (bits .xor .u32 ((rot a 2 : Nat) : Int) ((rot a 13 : Nat) : Int)) ((rot a 22 : Nat) : Int)) : Int) = ((bg0 a : Nat) : Int) := xor3_u32 _ _ _ (rot_lt _ _) (rot_lt _ _) (rot_lt _ _)
  have hc : (bits .xor .u32 (bits .xor .u32 (bits .and .u32 (a : Int) (b : Int)) (bits .and .u32 (a : Int) (c : Int))) (bits .and .u32 (b : Int) (c : Int)) : Int) = ((maj a b c : Nat) : Int) := by
    rw [u32_and_nat _ _ la lb, u32_and_nat _ _ la lc, u32_and_nat _ _ lb lc]
    exact xor3_u32 _ _ _ (and_lt lb) (and_lt lc) (and_lt lc)
  rw [hb, hc]
  omega

theorem run_next {K W st : List Nat} {k a b c d e f g h : Nat} (hr : run K W st k = [a, b, c, d, e, f, g, h]) :
    run K W st (k + 1) = [((h + bg1 e + chs e f g + K.getD k 0 + W.getD k 0) % 4294967296 + (bg0 a + maj a b c) % 4294967296) % 4294967296, a, b, c, (d + (h + bg1 e + chs e f g + K.getD k 0 + W.getD k 0) % 4294967296) % 4294967296, e, f, g] := by
  rw [run, hr]
  show [(h + bg1 e + chs e f g + K.getD k 0 + W.getD k 0 + (bg0 a + maj a b c)) % 4294967296, a, b, c, (d + (h + bg1 e + chs e f g + K.getD k 0 + W.getD k 0)) % 4294967296, e, f, g] = _
  rw [← Nat.add_mod, Nat.add_mod_mod]

theorem addW_set {st s : List Nat} {i : Nat} (h8 : st.length = 8) (hi : i < 8) : (addW st s i ++ st.drop i).set i ((st.getD i 0 + s.getD i 0) % 4294967296) = addW st s (i + 1) ++ st.drop (i + 1) := by
  have hl : (addW st s i).length = i := (addW_words st s i).len
  rw [List.set_append_right _ _ (by omega), hl, Nat.sub_self, List.drop_eq_getElem_cons (by omega : i < st.length), List.set_cons_zero, addW_succ, List.append_assoc]
  rfl
theorem addW_get {st s : List Nat} {i : Nat} (h8 : st.length = 8) (hi : i < 8) : (addW st s i ++ st.drop i).getD i 0 = st.getD i 0 := by
  have hl : (addW st s i).length = i := (addW_words st s i).len
  rw [getD_app_right (by omega), hl, Nat.sub_self]
  simp [List.getD]

theorem index8 (a b c d e f g h i : Nat) (hi : i < 8) (w : World) : (Instr.index 139 (.agg #[.int .u32 (a : Int), .int .u32 (b : Int), .int .u32 (c : Int), .int .u32 (d : Int), .int .u32 (e : Int), .int .u32 (f : Int), .int .u32 (g : Int), .int .u32 (h : Int)]) (.int .i64 (i : Int))).run Tryz.prog w = .ok (.int .u32 (([a, b, c, d, e, f, g, h].getD i 0 : Nat) : Int)) w := by
  have : i = 0 ∨ i = 1 ∨ i = 2 ∨ i = 3 ∨ i = 4 ∨ i = 5 ∨ i = 6 ∨ i = 7 := by omega
  rcases this with rfl | rfl | rfl | rfl | rfl | rfl | rfl | rfl <;> rfl

set_option maxRecDepth 100000 in
set_option maxHeartbeats 2000000 in
theorem mix_any (g : Nat) (pre : List Value) (t : TypeId) (st bl : List Nat) (n : Nat) (w : World) (hP : PAt w g pre t st bl n) (hR : Rounds w) (hg0 : g ≠ 0) (hst : Words 8 st) (hbl : ∀ i, bl.getD i 0 < 256) :
    Calls Tryz.prog 100 #[.pointer (some ⟨g, pre.length, none⟩)] w fun e w' => e = .returned (.tuple #[]) ∧ PAt w' g pre t (comp K0 st bl) bl n ∧ w.grownBy w' (some g) := by
  obtain ⟨o, ho⟩ : ∃ o, o = pre.length := ⟨_, rfl⟩
  rw [← ho]
  have HB := hid hP.blockRange
  have HP := hid hP
  have hsb : (Tryz.prog.info? 140).map (·.size) = some (cellsN .u8 bl).length := by rw [cellsN_len, hP.2.2]; exact Tryz.size140
  have HSB := hid hsb
  have hss : (Tryz.prog.info? 139).map (·.size) = some (cellsN .u32 st).length := by rw [cellsN_len, hP.2.1]; exact Tryz.size139
  have HSS := hid hss
  rw [← ho] at HB
  have HO := hid ho
  have hglt := hP.lt
  have hbl64 := hP.2.2
  have HST := hid hst
  have HBL := hid hbl
  obtain ⟨R, hRr⟩ : ∃ R, R = cellsN .u32 (sched bl 64) := ⟨_, rfl⟩
  have hsz : R.toArray.size = 64 := by rw [hRr]; simp [cellsN_len, sched_len]
  have hi1 : (Tryz.prog.info? 167).map (·.size) = some R.toArray.size := by rw [hsz]; exact Tryz.size167
  have h1c : R.toArray.all (·.oneCell') = true := by rw [hRr]; exact all_oneCell_toArray (cellsN_one _ _)
  have HI := hid hi1
  have HC := hid h1c
  have HZ := hid hsz
  have HRr := hid hRr
  obtain ⟨T, hT⟩ : ∃ T, T = cellsN .u32 st := ⟨_, rfl⟩
  have hszT : T.toArray.size = 8 := by rw [hT]; simp [cellsN_len, hst.len]
  have hiT : (Tryz.prog.info? 139).map (·.size) = some T.toArray.size := by rw [hszT]; exact Tryz.size139
  have hcT : T.toArray.all (·.oneCell') = true := by rw [hT]; exact all_oneCell_toArray (cellsN_one _ _)
  have HTr := hid hT
  have HTz := hid hszT
  have HTi := hid hiT
  have HTc := hid hcT
  have HSp := hid (fun w => spread_any bl w hbl64 hbl)
  have HRo := hid hR
  clear hP ho hsb hi1 h1c hsz hRr hT hszT hiT hcT hbl hss hst hbl64 hR
  go_enter Tryz.func100, Tryz.ntmps100
  go_wp2_with (first | (refine wpList_load_mid rfl 140 _ rfl g (o + 8) rfl (cellsN .u8 bl) _ HB.out Tryz.underlying140 rfl HSB.out ?_))
  refine (HSp.out _).mono ?_
  rintro e w1 ⟨rfl, hB1⟩
  clear HSp
  rw [← HRr.out]
  have HB1 := hid hB1
  have hs1 := hB1.size
  have HP1 := hid (HP.out.below hB1 hglt)
  clear hB1
  go_wp2_with (first
    | (refine wpList_store_row rfl 167 _ _ rfl w1.heap.size R.toArray rfl rfl 167 _ (heap_alloc_new w1 _) HI.out (by rw [HZ.out]; rfl) HC.out ?_; generalize hw2 : (World.setRow _ w1.heap.size R.toArray) = w2; have HF2 := hid (new_row hw2); clear hw2)
    | (refine wpList_load_mid rfl 139 _ rfl g o rfl T _ (by rw [HO.out, HTr.out]; exact (HP1.out.below HF2.out.2.1 (by omega)).stateRange) Tryz.underlying139 rfl HTi.out ?_)
    | (refine wpList_store_row rfl 139 _ _ rfl w2.heap.size T.toArray rfl rfl 139 _ (heap_alloc_new w2 _) HTi.out (by rw [HTz.out]; rfl) HTc.out ?_; generalize hw3 : (World.setRow _ w2.heap.size T.toArray) = w3; have HF3 := hid (new_row hw3); clear hw3))
  have hz2 := HF2.out.2.2
  have hz3 := HF3.out.2.2
  have hB3 : Below w.heap.size w w3 := (HB1.out.trans (HF2.out.2.1.mono hs1)).trans (HF3.out.2.1.mono (by omega))
  have HP3 := hid (HP.out.below hB3 hglt)
  have HR3 := hid (HRo.out.below hB3 HRo.out.pos)
  have hW : Blk w3 w1.heap.size .u32 (sched bl 64) 167 := by
    unfold Blk
    rw [HF3.out.2.1.block _ (by omega), HF2.out.1, HRr.out]
  have hS : Blk w3 w2.heap.size .u32 st 139 := by
    unfold Blk
    rw [HF3.out.1, HTr.out]
  have HW := hid hW
  have HS := hid hS
  have HB3 := hid hB3
  obtain ⟨q1, hq1⟩ : ∃ q, q = w1.heap.size := ⟨_, rfl⟩
  obtain ⟨q2, hq2⟩ : ∃ q, q = w2.heap.size := ⟨_, rfl⟩
  rw [← hq1] at HW
  rw [← hq2] at HS
  have HQ := hid (show w.heap.size ≤ q1 ∧ q1 < w3.heap.size ∧ w.heap.size ≤ q2 by omega)
  have c0 := HS.out.cell 0 (by rw [HST.out.len]; decide)
  have c1 := HS.out.cell 1 (by rw [HST.out.len]; decide)
  have c2 := HS.out.cell 2 (by rw [HST.out.len]; decide)
  have c3 := HS.out.cell 3 (by rw [HST.out.len]; decide)
  have c4 := HS.out.cell 4 (by rw [HST.out.len]; decide)
  have c5 := HS.out.cell 5 (by rw [HST.out.len]; decide)
  have c6 := HS.out.cell 6 (by rw [HST.out.len]; decide)
  have c7 := HS.out.cell 7 (by rw [HST.out.len]; decide)
  obtain ⟨a0, a1, a2, a3, a4, a5, a6, a7, hst⟩ := list8 HST.out.len
  rw [hst] at c0 c1 c2 c3 c4 c5 c6 c7
  simp only [List.getD_cons_zero, List.getD_cons_succ] at c0 c1 c2 c3 c4 c5 c6 c7
  have HSt := hid hst
  clear hB3 hW hS hz2 hz3 HF2 HF3 HP1 HB1 hs1 hst
  rw [← hq1, ← hq2]
  clear hq1 hq2
  clear HTr HTz HTi HTc HRr HZ HC HI HSS HSB HB
  go_wp2_with fail
  go_quiet (fail)
  go_wp2_with fail
  have hst : run K0 (sched bl 64) st 0 = [a0, a1, a2, a3, a4, a5, a6, a7] := HSt.out
  go_loopw [4, 5, 6, 7, 8, 9, 10, 11, 42] (fun s4 s5 s6 s7 s8 s9 s10 s11 i wr => ∃ k m a b c d e f g' h : Nat, k ≤ 64 ∧ i = .int .i64 k ∧ wr = w3.drewN m ∧ run K0 (sched bl 64) st k = [a, b, c, d, e, f, g', h] ∧ s4 = .int .u32 a ∧ s5 = .int .u32 b ∧ s6 = .int .u32 c ∧ s7 = .int .u32 d ∧ s8 = .int .u32 e ∧ s9 = .int .u32 f ∧ s10 = .int .u32 g' ∧ s11 = .int .u32 h) (fun _ _ _ _ _ _ _ _ i _ => 64 - (intOf i).toNat)
  case atStart => exact ⟨0, _, a0, a1, a2, a3, a4, a5, a6, a7, by decide, rfl, rfl, hst, rfl, rfl, rfl, rfl, rfl, rfl, rfl, rfl⟩
  clear hst c0 c1 c2 c3 c4 c5 c6 c7
  case round =>
    obtain ⟨k, m, a, b, c, d, e, f, g', h, hk, rfl, rfl, hrun, rfl, rfl, rfl, rfl, rfl, rfl, rfl, rfl⟩ := hrel
    have hws := run_words (K := K0) (W := sched bl 64) HST.out k
    rw [hrun] at hws
    have la : a < 4294967296 := hws.lt 0
    have lb : b < 4294967296 := hws.lt 1
    have lc : c < 4294967296 := hws.lt 2
    have ld : d < 4294967296 := hws.lt 3
    have le : e < 4294967296 := hws.lt 4
    have lf : f < 4294967296 := hws.lt 5
    have lg : g' < 4294967296 := hws.lt 6
    have lh : h < 4294967296 := hws.lt 7
    have HRun := hid hrun
    clear hrun hws
    by_cases hlt : k < 64
    · have ck := HR3.out k hlt
      have cw := HW.out.cell k (by rw [sched_len]; exact hlt)
      obtain ⟨kk, hkk⟩ : ∃ x, x = K0.getD k 0 := ⟨_, rfl⟩
      obtain ⟨ww, hww⟩ : ∃ x, x = (sched bl 64).getD k 0 := ⟨_, rfl⟩
      have lk : kk < 4294967296 := by rw [hkk]; exact K0_words.lt _
      have lw : ww < 4294967296 := by rw [hww]; exact (sched_words HBL.out 64).lt _
      rw [← hkk] at ck
      rw [← hww] at cw
      have HKK := hid hkk
      have HWW := hid hww
      have zk : (k : Int) < 64 := by omega
      clear hkk hww
      go_wp2_with fail
      go_region_held3 (fun w' => w'.cell? ⟨0, k, none⟩ = some (.int .u32 kk) ∧ w'.cell? ⟨q1, k, none⟩ = some (.int .u32 ww))
        (first | (refine ⟨?_, ?_⟩ <;> first | assumption | go_keep))
        (first | (go_at_call 118; refine (turn_lit _ _ _ ?_ ?_ ?_).mono ?_; (· assumption); (· decide); (· decide); rintro e' w' ⟨rfl, rfl⟩))
      go_wp2_with (first | (go_at_call 118; refine (turn_lit _ _ _ ?_ ?_ ?_).mono ?_; (· assumption); (· decide); (· decide); rintro e' w' ⟨rfl, rfl⟩))
      go_roundw
      case rel =>
        have hn := run_next HRun.out
        rw [← HKK.out, ← HWW.out] at hn
        refine ⟨k + 1, _, _, _, _, _, _, _, _, _, by omega, by go_num, rfl, hn, ?_, rfl, rfl, rfl, ?_, rfl, rfl, rfl⟩
        · rw [mix_x _ _ _ _ _ _ lh le lf lg, mix_y _ _ _ la lb lc]; congr 1
        · rw [mix_x _ _ _ _ _ _ lh le lf lg]; congr 1
      case measure => simp [intOf]; omega
    · have hk64 : k = 64 := by omega
      subst hk64
      have HP4 := hid (HP3.out.below (below_drewN (Below.refl w3.heap.size w3) m) HP3.out.lt)
      have HG4 := hid (show w.grownBy (w3.drewN m) (some g) from ⟨HB3.out.os, HB3.out.tape, HB3.out.output, HB3.out.size, fun i hi _ => HB3.out.block i hi⟩)
      go_wp2_with fail
      go_loopw [114] (fun i wr => ∃ k : Nat, k ≤ 8 ∧ i = .int .i64 k ∧ PAt wr g pre t (addW st [a, b, c, d, e, f, g', h] k ++ st.drop k) bl n ∧ w.grownBy wr (some g)) (fun i _ => 8 - (intOf i).toNat)
      case atStart => exact ⟨0, by decide, rfl, HP4.out, HG4.out⟩
      clear HP4 HG4 HP3 HR3 HB3 HW HS
      case round =>
        obtain ⟨i, hi, rfl, hP, hG⟩ := hrel
        by_cases hlt8 : i < 8
        · have cc := hP.state i hlt8
          have fz := hP.warm (o + i)
          rw [addW_get HST.out.len hlt8, ← HO.out] at cc
          have hix := index8 a b c d e f g' h i hlt8
          obtain ⟨x, hx⟩ : ∃ x, x = st.getD i 0 := ⟨_, rfl⟩
          obtain ⟨y, hy⟩ : ∃ y, y = [a, b, c, d, e, f, g', h].getD i 0 := ⟨_, rfl⟩
          rw [← hx] at cc
          rw [← hy] at hix
          have lx : x < 4294967296 := by rw [hx]; exact HST.out.lt _
          have ly : y < 4294967296 := by rw [hy, ← HRun.out]; exact (run_words (K := K0) (W := sched bl 64) HST.out 64).lt _
          have HX := hid hx
          have HY := hid hy
          have HP5 := hid hP
          have HG5 := hid hG
          have z8 : (i : Int) < 8 := by omega
          clear hP hG hx hy
          go_wp2_with fail
          go_region
          go_wp2
          go_roundw
          case rel =>
            have hp := HP5.out.setState i ((x + y) % 4294967296) hlt8
            rw [HX.out, HY.out, addW_set HST.out.len hlt8, ← HX.out, ← HY.out, ← HO.out, Int.natCast_emod, Int.natCast_add] at hp
            have hg := grown_set HG5.out (o + i) (.int .u32 (((x : Int) + (y : Int)) % 4294967296))
            exact ⟨i + 1, by omega, by go_num, hp, ⟨hg.os, hg.tape, hg.output, hg.size, hg.block⟩⟩
          case measure => simp [intOf]; omega
        · have hi8 : i = 8 := by omega
          subst hi8
          have HP5 := hid hP
          have HG5 := hid hG
          clear hP hG
          go_wp2
          go_returns
          have hp := HP5.out
          rw [List.drop_of_length_le (by rw [HST.out.len]; decide), List.append_nil, ← HRun.out] at hp
          exact ⟨rfl, hp, HG5.out⟩
end Go.Proofs.YtplljpodejpbgaaGreatDoor
