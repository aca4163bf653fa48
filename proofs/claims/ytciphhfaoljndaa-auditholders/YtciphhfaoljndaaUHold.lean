/-
  Holders of the code.
-/
import Derived.Test.YtciphhfaoljndaaUIter
import Derived.Test.YtciphhfaoljndaaUHad
import Derived.Maps.Own
import Derived.Maps.OwnOps
import Derived.Deep.CutBlock
import Derived.Deep.DeepCutAuto
namespace Go.Proofs.Ytciphhfaoljndaa
open Go.RowKit Go.Maps Go.ChangeMaps
set_option linter.unusedVariables false
set_option linter.unusedSimpArgs false

/-- What Holders tells. -/
def holG (gs : List GrL) (cat step : Int) : List Int × Int := if cat < 1 ∨ 2147483647 < cat then ([], 1) else (sd (holL gs cat step gs.length), 0)
theorem hol_yes {gs : List GrL} {cat step : Int} {k : Nat} {D : DataW Unit} (h : HolD D (holL gs cat step k)) (hD : IsMap D) (hk : k < gs.length) (h1 : gs[k].2.2.2 = cat) (h2 : gs[k].1 ≤ step) : HolD (D.put (.int .i64 gs[k].2.2.1) (.agg [])) (holL gs cat step (k + 1)) := by
  rw [holL_succ hk, if_pos ⟨h1, h2⟩]
  exact h.put hD _
theorem hol_no {gs : List GrL} {cat step : Int} {k : Nat} {D : DataW Unit} (h : HolD D (holL gs cat step k)) (hk : k < gs.length) (h1 : ¬ (gs[k].2.2.2 = cat ∧ gs[k].1 ≤ step)) : HolD D (holL gs cat step (k + 1)) := by
  rw [holL_succ hk, if_neg h1]
  exact h

set_option maxHeartbeats 4000000 in
theorem holders_any (v : Value) (gs : List GrL) (cat step : Int) (w : World) (hS : SeesG w v gs) (hI : InG gs) (hlen : gs.length ≤ 4398046511104) :
    Calls Try.prog 4 #[v, .int .i64 cat, .int .i64 step] w fun e w' => ∃ v', e = .returned (.tuple #[v', .int .i64 (holG gs cat step).2]) ∧ Owns w' w.heap.size v' (holG gs cat step).1 ∧ Below w.heap.size w w' := by
  obtain ⟨b, off, ao, cap, rfl, hcap, _, hao, hcell⟩ := hS
  have HC := hid hcell
  have HI := hid hI
  clear hI hcell
  by_cases a1 : cat < 1
  · have HV := hid (show holG gs cat step = ([], 1) by unfold holG; rw [if_pos (Or.inl a1)])
    go_enter Try.func4, Try.ntmps4
    go_wp2
    go_ret2
    rw [HV.out]
    exact ⟨_, rfl, World.ownsRow_nil _ _ _ _, Below.refl _ _⟩
  by_cases a2 : 2147483647 < cat
  · have HV := hid (show holG gs cat step = ([], 1) by unfold holG; rw [if_pos (Or.inr a2)])
    go_enter Try.func4, Try.ntmps4
    go_wp2
    go_ret2
    rw [HV.out]
    exact ⟨_, rfl, World.ownsRow_nil _ _ _ _, Below.refl _ _⟩
  have HV := hid (show holG gs cat step = (sd (holL gs cat step gs.length), 0) by unfold holG; rw [if_neg (by omega)])
  have hmk : ∀ w1 : World, (Instr.makeMap 35 none).run Try.prog w1 = .ok (.map (some w1.heap.size)) (w1.alloc (.map #[] 0)) := fun w1 => run_makeMap _ w1
  have HM0 := hid (World.ownsMap_made w Try.prog 3 (unitElem (H := Unit)))
  go_enter Try.func4, Try.ntmps4
  go_wp2
  go_loopw [20] (fun i wr => ∃ (k : Nat) (D : DataW Unit), k ≤ gs.length ∧ i = .int .i64 k ∧ Hid (wr.ownsMap Try.prog 3 unitElem w.heap.size k D) ∧ Hid (HolD D (holL gs cat step k)) ∧ Below w.heap.size w wr) (fun i _ => gs.length - (RowKit.intOf i).toNat)
  case atStart => exact ⟨0, _, Nat.zero_le _, rfl, HM0, hid HolD.start, (Below.refl _ w).alloc (Nat.le_refl _) _⟩
  case round =>
    obtain ⟨k, D, hk, rfl, HM, HD, hb⟩ := hrel
    by_cases hlg : k < gs.length
    · have hne : gs ≠ [] := by intro h; rw [h] at hlg; simp at hlg
      obtain rfl := hao hne
      obtain ⟨c1, c2, c3, c4⟩ := HC.out k hlg
      have d1 := (hb.cell (World.block_lt_of_cell? w _ c1)).trans c1
      have d2 := (hb.cell (World.block_lt_of_cell? w _ c2)).trans c2
      have d3 := (hb.cell (World.block_lt_of_cell? w _ c3)).trans c3
      have d4 := (hb.cell (World.block_lt_of_cell? w _ c4)).trans c4
      have hput := hol_yes HD.out HM.out.isMap hlg
      have hskip := hol_no HD.out hlg
      obtain ⟨i1, i2, i3, i4⟩ := HI.out gs[k] (List.getElem_mem hlg)
      obtain ⟨x1, x2, x3, x4, hg⟩ : ∃ x1 x2 x3 x4 : Int, gs[k] = (x1, x2, x3, x4) := ⟨_, _, _, _, rfl⟩
      rw [hg] at d1 d2 d3 d4 hput hskip i1 i2 i3 i4
      simp only at d1 d2 d3 d4 hput hskip i1 i2 i3 i4
      have HP := hid hput
      have HSK := hid hskip
      have hlg' : (k : Int) < (gs.length : Int) := by omega
      have hmx : k < maxLen := by simp only [maxLen]; omega
      have hsz := hb.size
      have HB := hid hb
      have HK1 := hid (keyI_mk x3 i3)
      clear hne hao c1 c2 c3 c4 hput hskip hb
      obtain ⟨W, hW⟩ : ∃ W, W = wr.alloc (.cells #[.int .i64 x1, .int .i64 x2, .int .i64 x3, .int .i64 x4] 37) := ⟨_, rfl⟩
      have hMW : Hid (W.ownsMap Try.prog 3 unitElem w.heap.size k D) := by rw [hW]; exact hid (HM.out.alloc _)
      have hBW : Below w.heap.size w W := by rw [hW]; exact HB.out.alloc hsz _
      have hzg : W.heap[wr.heap.size]? = some (.cells #[.int .i64 x1, .int .i64 x2, .int .i64 x3, .int .i64 x4] 37 (0, 0)) := by
        rw [hW]
        exact heap_alloc_new wr _
      have g0 : W.cell? ⟨wr.heap.size, 0, none⟩ = some (.int .i64 x1) := by simp [World.cell?, hzg]
      have g1 : W.cell? ⟨wr.heap.size, 1, none⟩ = some (.int .i64 x2) := by simp [World.cell?, hzg]
      have g2 : W.cell? ⟨wr.heap.size, 2, none⟩ = some (.int .i64 x3) := by simp [World.cell?, hzg]
      have g3 : W.cell? ⟨wr.heap.size, 3, none⟩ = some (.int .i64 x4) := by simp [World.cell?, hzg]
      have HBW := hid hBW
      have hszW := hBW.size
      clear hzg hBW
      go_upto_region 7 with fail
      rw [← hW]
      clear hW d1 d2 d3 d4
      by_cases e1 : x4 = cat
      · have f1 : (x4 == cat) = true := by simpa using e1
        by_cases e2 : x1 ≤ step
        · have HY := hid (HP.out e1 e2)
          clear e1 HSK HP
          go_wp2_with (first | (at_mapUpdate; refine wpList_mapUpdate_own _ rfl _ _ _ 35 rfl 3 38 keyI Try.underlying35 unitElem w.heap.size k D rfl hMW.out hmx _ _ (.int .i64 x3) rfl rfl HK1.out (.agg []) [] unitElem_mk ?_; intro w1 hown1 hgrow1))
          go_roundw
          case rel => exact ⟨k + 1, _, by omega, by go_num, hid hown1, HY, HBW.out.grown hgrow1 hszW (fun j hj => by cases hj; exact Nat.le_refl _)⟩
          case measure => simp [RowKit.intOf]; omega
        · have HY := hid (HSK.out (fun h => e2 h.2))
          clear e1 HSK HP
          go_wp2
          go_roundw
          case rel => exact ⟨k + 1, D, by omega, by go_num, hid (hMW.out.mono (by omega)), HY, HBW.out⟩
          case measure => simp [RowKit.intOf]; omega
      · have f1 : (x4 == cat) = false := by simpa using e1
        have HY := hid (HSK.out (fun h => e1 h.1))
        clear e1 HSK HP
        go_wp2
        go_roundw
        case rel => exact ⟨k + 1, D, by omega, by go_num, hid (hMW.out.mono (by omega)), HY, HBW.out⟩
        case measure => simp [RowKit.intOf]; omega
    · have hk' : k = gs.length := by omega
      subst hk'
      have hsl := HM.out.size_le
      have hsorted := hid (sorted_keys w.heap.size gs.length D unitElem wr HM.out (by simp only [maxLen]; omega) (by omega))
      have HB := hid hb
      have hks := hid (fun ss hs => keys_sd (ss := ss) HM.out HD.out hs)
      have hsz := hb.size
      clear hb hsl
      go_wp2_with (first
        | (go_at_call 14; refine (keys_any _ _).mono ?_; rintro e w1 ⟨rfl, rfl⟩)
        | (go_at_call 13; refine hsorted.out.mono ?_; rintro e w2 ⟨v2, ss, rfl, hperm, hrow, hb2⟩))
      go_ret2
      obtain ⟨hm1, hm2⟩ := hks.out ss hperm
      rw [HV.out]
      rw [hm1, hm2] at hrow
      exact ⟨_, rfl, ownsRow_base_a hrow (by omega), (HB.out.alloc hsz _).trans (hb2.mono (by omega))⟩
end Go.Proofs.Ytciphhfaoljndaa
