/-
  Check of the code.
-/
import Derived.Test.YtciphhfaoljndaaUKey
import Derived.Test.YtciphhfaoljndaaURChk
import Derived.Maps.Own
import Derived.Maps.OwnOps
import Derived.Deep.CutBlock
import Derived.Deep.DeepCutAuto
namespace Go.Proofs.Ytciphhfaoljndaa
open Go.RowKit Go.Maps Go.ChangeMaps
set_option linter.unusedVariables false
set_option linter.unusedSimpArgs false

set_option maxHeartbeats 4000000 in
theorem check_any (v : Value) (gs : List GrL) (w : World) (hS : SeesG w v gs) (hI : InG gs) (hlen : gs.length ≤ 4611686018427387904) :
    Calls Try.prog 8 #[v] w fun e w' => e = .returned (.tuple #[.int .i64 (chkG gs).1, .int .i64 (chkG gs).2]) ∧ Below w.heap.size w w' := by
  obtain ⟨R, hR⟩ : ∃ R, R = chkG gs := ⟨_, rfl⟩
  have HR := hid hR
  rw [← hR]
  clear hR
  obtain ⟨b, off, ao, cap, rfl, hcap, _, hao, hcell⟩ := hS
  have HC := hid hcell
  have HI := hid hI
  have hmk : ∀ w1 : World, (Instr.makeMap 49 none).run Try.prog w1 = .ok (.map (some w1.heap.size)) (w1.alloc (.map #[] 0)) := fun w1 => run_makeMap _ w1
  have HM0 := hid (World.ownsMap_made w Try.prog 52 (unitElem (H := Unit)))
  clear hI hcell
  go_enter Try.func8, Try.ntmps8
  go_wp2
  go_loopw [12] (fun i wr => ∃ (k : Nat) (D : DataW Unit), k ≤ gs.length ∧ i = .int .i64 k ∧ Hid (∀ j, j < k → badG gs j = false) ∧ Hid (wr.ownsMap Try.prog 52 unitElem w.heap.size k D) ∧ Hid (GotD D gs k) ∧ Below w.heap.size w wr) (fun i _ => gs.length - (intOf i).toNat)
  case atStart => exact ⟨0, _, Nat.zero_le _, rfl, hid (fun j h => absurd h (Nat.not_lt_zero _)), HM0, hid (GotD.start gs), (Below.refl _ w).alloc (Nat.le_refl _) _⟩
  case round =>
    obtain ⟨k, D, hk, rfl, HN, HM, HD, hb⟩ := hrel
    by_cases hlg : k < gs.length
    · have hne : gs ≠ [] := by intro h; rw [h] at hlg; simp at hlg
      obtain rfl := hao hne
      obtain ⟨c1, c2, c3, c4⟩ := HC.out k hlg
      have d1 := (hb.cell (World.block_lt_of_cell? w _ c1)).trans c1
      have d2 := (hb.cell (World.block_lt_of_cell? w _ c2)).trans c2
      have d3 := (hb.cell (World.block_lt_of_cell? w _ c3)).trans c3
      have d4 := (hb.cell (World.block_lt_of_cell? w _ c4)).trans c4
      have hno := bad_no hlg
      have hye := bad_yes hlg
      have hput := HD.out.put HM.out.isMap HI.out hlg
      obtain ⟨i1, i2, i3, i4⟩ := HI.out gs[k] (List.getElem_mem hlg)
      obtain ⟨x1, x2, x3, x4, hg⟩ : ∃ x1 x2 x3 x4 : Int, gs[k] = (x1, x2, x3, x4) := ⟨_, _, _, _, rfl⟩
      rw [hg] at d1 d2 d3 d4 hput i1 i2 i3 i4
      simp only [hg] at hno hye
      simp only at d1 d2 d3 d4 hput i1 i2 i3 i4
      have hget := HD.out x2 x4 i2 i4
      have HNO := hid hno
      have HYE := hid hye
      have HP := hid hput
      have hk1 := keyH_mk x2 x4 i2 i4
      have hk2 := keyH_mk x3 x4 i3 i4
      have hlg' : (k : Int) < (gs.length : Int) := by omega
      have hmx : k < maxLen := by simp only [maxLen]; omega
      have hsz := hb.size
      have HB := hid hb
      have HK1 := hid hk1
      have HK2 := hid hk2
      have HG := hid hget
      clear hne hao c1 c2 c3 c4 hno hye hput hb hk1 hk2 hget
      obtain ⟨W, hW⟩ : ∃ W, W = (wr.alloc (.cells #[.int .i64 x1, .int .i64 x2, .int .i64 x3, .int .i64 x4] 37)).alloc (.cells #[] 38) := ⟨_, rfl⟩
      have hMW : Hid (W.ownsMap Try.prog 52 unitElem w.heap.size k D) := by rw [hW]; exact hid ((HM.out.alloc _).alloc _)
      have hBW : Below w.heap.size w W := by rw [hW]; exact (HB.out.alloc hsz _).alloc (by simp; omega) _
      have hzg : W.heap[wr.heap.size]? = some (.cells #[.int .i64 x1, .int .i64 x2, .int .i64 x3, .int .i64 x4] 37 (0, 0)) := by
        rw [hW, heap_alloc_old _ _ (by simp)]
        exact heap_alloc_new wr _
      have g0 : W.cell? ⟨wr.heap.size, 0, none⟩ = some (.int .i64 x1) := by simp [World.cell?, hzg]
      have g1 : W.cell? ⟨wr.heap.size, 1, none⟩ = some (.int .i64 x2) := by simp [World.cell?, hzg]
      have g2 : W.cell? ⟨wr.heap.size, 2, none⟩ = some (.int .i64 x3) := by simp [World.cell?, hzg]
      have g3 : W.cell? ⟨wr.heap.size, 3, none⟩ = some (.int .i64 x4) := by simp [World.cell?, hzg]
      have HBW := hid hBW
      have hszW := hBW.size
      clear hzg hBW
      go_upto_region 6 with (first | (at_lookup; refine wpList_lookup_own_unit _ rfl _ _ 49 rfl 52 38 keyH Try.underlying49 (zeroU _) w.heap.size k D rfl (HM.out.alloc _) _ _ rfl HK1.out ?_))
      rw [← hW, HG.out]
      clear hW HG d1 d2 d3 d4
      by_cases e1 : x2 = -1
      · have f1 : (x2 != -1) = false := by simp [e1]
        have HY := hid (HNO.out (Or.inl e1))
        clear e1 HNO HYE
        go_wp2_with (first | (at_mapUpdate; refine wpList_mapUpdate_own _ rfl _ _ _ 49 rfl 52 38 keyH Try.underlying49 unitElem w.heap.size k D rfl hMW.out hmx _ _ (klH x3 x4) rfl rfl HK2.out (.agg []) [] unitElem_mk ?_; intro w1 hown1 hgrow1))
        go_roundw
        case rel => exact ⟨k + 1, _, by omega, by go_num, hid (fun j hj => by
          by_cases e : j = k
          · subst e; exact HY.out
          · exact HN.out j (by omega)), hid hown1, HP, HBW.out.grown hgrow1 hszW (fun j hj => by cases hj; exact Nat.le_refl _)⟩
        case measure => simp [intOf]; omega
      · have f1 : (x2 != -1) = true := by simpa using e1
        cases hh : gotB gs x2 x4 k with
        | true =>
          have HY := hid (HNO.out (Or.inr hh))
          clear e1 HNO HYE hh
          go_wp2_with (first | (at_mapUpdate; refine wpList_mapUpdate_own _ rfl _ _ _ 49 rfl 52 38 keyH Try.underlying49 unitElem w.heap.size k D rfl hMW.out hmx _ _ (klH x3 x4) rfl rfl HK2.out (.agg []) [] unitElem_mk ?_; intro w1 hown1 hgrow1))
          go_roundw
          case rel => exact ⟨k + 1, _, by omega, by go_num, hid (fun j hj => by
            by_cases e : j = k
            · subst e; exact HY.out
            · exact HN.out j (by omega)), hid hown1, HP, HBW.out.grown hgrow1 hszW (fun j hj => by cases hj; exact Nat.le_refl _)⟩
          case measure => simp [intOf]; omega
        | false =>
          have HY := hid (HYE.out e1 hh)
          clear e1 HNO HYE hh
          go_wp2
          go_ret2
          have hc := chkG_bad hlg HY.out HN.out
          refine ⟨ret_two ?_ ?_, HBW.out⟩
          · rw [HR.out, hc]
          · rw [HR.out, hc]
    · have hk' : k = gs.length := by omega
      subst hk'
      have HB := hid hb
      clear hb
      go_wp2
      go_ret2
      have hc := chkG_ok HN.out
      refine ⟨ret_two ?_ ?_, HB.out⟩
      · rw [HR.out, hc]
      · rw [HR.out, hc]
end Go.Proofs.Ytciphhfaoljndaa
