/-
  The first ones of a category, as a map.
-/
import Derived.Test.YtciphhfaoljndaaUKey
import Derived.Test.YtciphhfaoljndaaUFst
import Derived.Maps.Own
import Derived.Maps.OwnOps
import Derived.Deep.CutBlock
import Derived.Deep.DeepCutAuto
namespace Go.Proofs.Ytciphhfaoljndaa
open Go.RowKit Go.Maps Go.ChangeMaps
set_option linter.unusedVariables false
set_option linter.unusedSimpArgs false

theorem zero3 (w : World) : (zeroValue 3).run Try.prog w = .ok (.int .i64 0) w := by kernel_rfl
set_option maxHeartbeats 4000000 in
theorem firsts_any (v : Value) (gs : List GrL) (cat : Int) (w : World) (hS : SeesG w v gs) (hI : InG gs) (hlen : gs.length ≤ 4611686018427387904) :
    Calls Try.prog 16 #[v, .int .i64 cat] w fun e w' => ∃ D : DataW Unit, e = .returned (.map (some w.heap.size)) ∧ w'.ownsMap Try.prog 3 (plainElem Try.prog 3) w.heap.size gs.length D ∧ FstD D gs cat gs.length ∧ Below w.heap.size w w' := by
  obtain ⟨b, off, ao, cap, rfl, hcap, _, hao, hcell⟩ := hS
  have HC := hid hcell
  have HI := hid hI
  have hmk : ∀ w1 : World, (Instr.makeMap 44 none).run Try.prog w1 = .ok (.map (some w1.heap.size)) (w1.alloc (.map #[] 0)) := fun w1 => run_makeMap _ w1
  have HM0 := hid (World.ownsMap_made w Try.prog 3 (plainElem (H := Unit) Try.prog 3))
  clear hI hcell
  go_enter Try.func16, Try.ntmps16
  go_wp2
  go_loopw [13] (fun i wr => ∃ (k : Nat) (D : DataW Unit), k ≤ gs.length ∧ i = .int .i64 k ∧ Hid (wr.ownsMap Try.prog 3 (plainElem Try.prog 3) w.heap.size k D) ∧ Hid (FstD D gs cat k) ∧ Below w.heap.size w wr) (fun i _ => gs.length - (intOf i).toNat)
  case atStart => exact ⟨0, _, Nat.zero_le _, rfl, HM0, hid (FstD.start gs cat), (Below.refl _ w).alloc (Nat.le_refl _) _⟩
  case round =>
    obtain ⟨k, D, hk, rfl, HM, HD, hb⟩ := hrel
    by_cases hlg : k < gs.length
    · have hne : gs ≠ [] := by intro h; rw [h] at hlg; simp at hlg
      obtain rfl := hao hne
      obtain ⟨c1, c2, c3, c4⟩ := HC.out k hlg
      have d1 := (hb.cell (World.block_lt_of_cell? w _ c1)).trans c1
      have d2 := (hb.cell (World.block_lt_of_cell? w _ c2)).trans c2
      have d3 := (hb.cell (World.block_lt_of_cell? w _ c3)).trans c3
      have d4 := (hb.cell (World.block_lt_of_cell? w _ c4)).trans c4
      have hput := HD.out.put HM.out.isMap hlg
      have hskip := HD.out.skip hlg
      obtain ⟨i1, i2, i3, i4⟩ := HI.out gs[k] (List.getElem_mem hlg)
      obtain ⟨x1, x2, x3, x4, hg⟩ : ∃ x1 x2 x3 x4 : Int, gs[k] = (x1, x2, x3, x4) := ⟨_, _, _, _, rfl⟩
      rw [hg] at d1 d2 d3 d4 hput hskip i1 i2 i3 i4
      simp only at d1 d2 d3 d4 hput hskip i1 i2 i3 i4
      have HP := hid hput
      have HSK := hid hskip
      have hlg' : (k : Int) < (gs.length : Int) := by omega
      have hmx : k < maxLen := by simp only [maxLen]; omega
      have hsz := hb.size
      have HB := hid hb
      have HK1 := hid (keyI_mk x3 i3)
      have HV := hid (plainElem_int (P := Try.prog) (H := Unit) Try.underlying3 (wf64 (x := (k : Int)) ⟨by omega, by omega⟩))
      clear hne hao c1 c2 c3 c4 hput hskip hb
      obtain ⟨W, hW⟩ : ∃ W, W = wr.alloc (.cells #[.int .i64 x1, .int .i64 x2, .int .i64 x3, .int .i64 x4] 37) := ⟨_, rfl⟩
      have hMW : Hid (W.ownsMap Try.prog 3 (plainElem Try.prog 3) w.heap.size k D) := by rw [hW]; exact hid (HM.out.alloc _)
      have hBW : Below w.heap.size w W := by rw [hW]; exact HB.out.alloc hsz _
      have hzg : W.heap[wr.heap.size]? = some (.cells #[.int .i64 x1, .int .i64 x2, .int .i64 x3, .int .i64 x4] 37 (0, 0)) := by
        rw [hW]
        exact heap_alloc_new wr _
      have g0 : W.cell? ⟨wr.heap.size, 0, none⟩ = some (.int .i64 x1) := by simp [World.cell?, hzg]
      have g1 : W.cell? ⟨wr.heap.size, 1, none⟩ = some (.int .i64 x2) := by simp [World.cell?, hzg]
      have g2 : W.cell? ⟨wr.heap.size, 2, none⟩ = some (.int .i64 x3) := by simp [World.cell?, hzg]
      have g3 : W.cell? ⟨wr.heap.size, 3, none⟩ = some (.int .i64 x4) := by simp [World.cell?, hzg]
      have HBW := hid hBW
      have hszW := hBW.size
      clear hzg hBW
      go_upto_region 5 with fail
      rw [← hW]
      clear hW d1 d2 d3 d4
      go_upto_region 6 with (first | (at_lookup; refine wpList_lookup_own_ok_int _ rfl _ _ 44 rfl 3 3 .i64 keyI Try.underlying44 Try.underlying3 (zero3 _) w.heap.size k D rfl hMW.out _ _ rfl HK1.out ?_; intro c hat hwc))
      clear hat hwc
      by_cases e1 : x4 = cat
      · have f1 : (x4 == cat) = true := by simpa using e1
        cases hh : Maps.has D (.int .i64 x3) with
        | true =>
          have HY := hid (HSK.out (Or.inr hh))
          clear e1 HSK HP
          go_wp2
          go_roundw
          case rel => exact ⟨k + 1, D, by omega, by go_num, hid (hMW.out.mono (by omega)), HY, HBW.out⟩
          case measure => simp [intOf]; omega
        | false =>
          have HY := hid (HP.out e1 hh)
          clear e1 HSK HP
          go_wp2_with (first | (at_mapUpdate; refine wpList_mapUpdate_own _ rfl _ _ _ 44 rfl 3 3 keyI Try.underlying44 (plainElem Try.prog 3) w.heap.size k D rfl hMW.out hmx _ _ (.int .i64 x3) rfl rfl HK1.out (.lit (.int .i64 (k : Int))) [] HV.out ?_; intro w1 hown1 hgrow1))
          go_roundw
          case rel => exact ⟨k + 1, _, by omega, by go_num, hid hown1, HY, HBW.out.grown hgrow1 hszW (fun j hj => by cases hj; exact Nat.le_refl _)⟩
          case measure => simp [intOf]; omega
      · have f1 : (x4 == cat) = false := by simpa using e1
        have HY := hid (HSK.out (Or.inl e1))
        clear e1 HSK HP
        go_wp2
        go_roundw
        case rel => exact ⟨k + 1, D, by omega, by go_num, hid (hMW.out.mono (by omega)), HY, HBW.out⟩
        case measure => simp [intOf]; omega
    · have hk' : k = gs.length := by omega
      subst hk'
      have HB := hid hb
      clear hb
      go_wp2
      go_ret
      exact ⟨D, rfl, HM.out, HD.out, HB.out⟩
end Go.Proofs.Ytciphhfaoljndaa
