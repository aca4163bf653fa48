/-
  IddChains: the walk.
-/
import Derived.Test.YtplljpodejpbgaaGreatDoorKP3
namespace Go.Proofs.YtplljpodejpbgaaGreatDoor
open Go.RowKit
set_option linter.unusedVariables false
set_option linter.unusedSimpArgs false
set_option maxRecDepth 100000

set_option maxHeartbeats 8000000 in
theorem chains_no (vU vD vO : Value) (l : List UsL) (w : World) (hT : Tb w) (hU : SeesK 4 w vU l.length (uC l)) (hm : mayB l = false) (hz : ∀ u ∈ l, u.name.size ≤ 140737488355328 ∧ u.salt.size ≤ 140737488355328 ∧ u.digest.size ≤ 140737488355328) :
    Calls Tryz.prog 5 #[.agg #[vU, vD], vO] w fun e w' => e = .returned (.bool true) ∧ Below w.heap.size w w' := by
  obtain ⟨W, hW⟩ : ∃ W, W = w.alloc (.cells #[vU, vD] 25) := ⟨_, rfl⟩
  have hbW : Below w.heap.size w W := by rw [hW]; exact below_alloc w _
  have hlt : w.heap.size < W.heap.size := by rw [hW]; simp
  have hX : W.heap[w.heap.size]? = some (.cells #[vU, vD] 25 (0, 0)) := by rw [hW]; exact heap_alloc_new w _
  have x0 : W.cell? ⟨w.heap.size, 0, none⟩ = some vU := by simp [World.cell?, hX]
  have x1 : W.cell? ⟨w.heap.size, 1, none⟩ = some vD := by simp [World.cell?, hX]
  have hnn := hid (new_no vU vD l W (hU.below hbW) hm hz)
  have HU := hid (hU.below hbW)
  have HW := hid hW
  have HB := hid hbW
  have HT := hid hT
  have HZ := hid hz
  have HM := hid hm
  clear hbW hX hW hU hT hz hm
  go_enter Tryz.func5, Tryz.ntmps5
  go_wp2_with fail
  simp only [← HW.out]
  refine hnn.out.mono ?_
  rintro e w1 ⟨rfl, hb1⟩
  have y0 := (hb1.cell (p := ⟨w.heap.size, 0, none⟩) hlt).trans x0
  have hmy := rmay_any vU l w1 (HU.out.below hb1) HZ.out
  rw [HM.out] at hmy
  have HMY := hid hmy
  have HB1 := hid (HB.out.trans (hb1.mono HB.out.size))
  clear hmy hb1 hnn
  go_wp2_with fail
  refine HMY.out.mono ?_
  rintro e w2 ⟨rfl, hb2⟩
  have HB2 := hid (HB1.out.trans (hb2.mono HB1.out.size))
  have haw := hid (awake_any w2 (HT.out.below HB2.out))
  clear hb2 HMY
  go_wp2_with fail
  refine haw.out.mono ?_
  rintro e w3 ⟨rfl, hb3⟩
  have HB3 := hid (HB2.out.trans (hb3.mono HB2.out.size))
  clear hb3 haw
  go_wp2
  go_ret
  exact ⟨rfl, HB3.out⟩

set_option maxHeartbeats 16000000 in
theorem chains_yes (vU vD vO : Value) (l : List UsL) (dr : List Int) (ops : List OpL) (w : World) (hT : Tb w) (hU : SeesK 4 w vU l.length (uC l)) (hD : Sees w vD dr) (hO : SeesK 8 w vO ops.length (oC ops)) (hm : mayB l = true)
    (hz : ∀ u ∈ l, u.name.size ≤ 140737488355328 ∧ u.salt.size ≤ 140737488355328 ∧ u.digest.size ≤ 140737488355328) (hdl : dr.length * 8 ≤ 140737488355328) (hol : ops.length ≤ 1759218604441) :
    Calls Tryz.prog 5 #[.agg #[vU, vD], vO] w fun e w' => e = .returned (.bool true) ∧ Below w.heap.size w w' := by
  have hl16 : l.length ≤ 16 := by
    unfold mayB at hm
    simp at hm
    omega
  obtain ⟨W, hW⟩ : ∃ W, W = w.alloc (.cells #[vU, vD] 25) := ⟨_, rfl⟩
  have hbW : Below w.heap.size w W := by rw [hW]; exact below_alloc w _
  have hlt : w.heap.size < W.heap.size := by rw [hW]; simp
  have hX : W.heap[w.heap.size]? = some (.cells #[vU, vD] 25 (0, 0)) := by rw [hW]; exact heap_alloc_new w _
  have x0 : W.cell? ⟨w.heap.size, 0, none⟩ = some vU := by simp [World.cell?, hX]
  have x1 : W.cell? ⟨w.heap.size, 1, none⟩ = some vD := by simp [World.cell?, hX]
  have hnw := hid (new_yes vU vD l dr W (hU.below hbW) (hD.below hbW) hm hz hdl)
  obtain ⟨aU, cU, hvU⟩ := hU.shape
  subst hvU
  have HX0 := hid x0
  have HX1 := hid x1
  have HB := hid hbW
  have HT := hid (hT.below hbW)
  have HW := hid hW
  obtain ⟨ob, oo, oao, ocap, rfl, hocap, hoao, hocell⟩ := seesOp (hO.below hbW)
  have HOC := hid hocell
  have HOB : Hid (0 < ops.length → ob < W.heap.size) := fun h => World.block_lt_of_cell? W _ (hocell 0 _ (List.getElem?_eq_getElem h)).1
  clear hbW hX hW hU hT hD hO hz hm hdl hocell
  go_enter Tryz.func5, Tryz.ntmps5
  go_wp2_with fail
  simp only [← HW.out]
  clear HW
  refine hnw.out.mono ?_
  rintro e w1 ⟨d, ub, mb, us, vd, vg, rfl, hI, hUs, hb1, hmine⟩
  have hul : us.length = l.length := hUs.len
  have hLV : Lives W w1 d l.length 32 := ⟨ub, mb, us, vd, dr, 0, [], vg, grTo l l.length, hI, ChG.new hl16 hUs, hul, by have := grTo_len l l.length; omega, hb1, hmine⟩
  have HLV := hid hLV
  have heq := eqlD_some_nil ⟨d, 0, none⟩
  clear hI hUs hb1 hmine hul hnw hLV x0 x1
  go_wp2
  go_loopw [7] (fun i wr => ∃ k : Nat, k ≤ ops.length ∧ i = .int .i64 k ∧ Hid (Lives W wr d l.length (32 + k))) (fun i _ => ops.length - (intOf i).toNat)
  case atStart => exact ⟨0, Nat.zero_le _, rfl, HLV.out⟩
  case round =>
    obtain ⟨k, hk, rfl, HL⟩ := hrel
    have HBr : Hid (Below W.heap.size W wr) := by
      obtain ⟨_, _, _, _, _, _, _, _, _, _, _, _, _, h5, _⟩ := HL.out
      exact h5
    clear HLV
    by_cases hlk : k < ops.length
    · obtain rfl := hoao (by omega)
      obtain ⟨o, ho⟩ : ∃ o, ops[k]? = some o := ⟨_, List.getElem?_eq_getElem hlk⟩
      obtain ⟨d0, d1, d2, d3, d4, d5, d6, d7⟩ := (HOC.out k o ho).below HBr.out (HOB.out (by omega))
      obtain ⟨ok, oat, oa, obb, oc, os, on, owd⟩ := o
      simp only at d0 d1 d2 d3 d4 d5 d6 d7
      have hi : (k : Int) < (ops.length : Int) := by omega
      obtain ⟨V, hV⟩ : ∃ V, V = wr.alloc (.cells #[.int .i64 ok, .int .i64 oat, .int .i64 oa, .int .i64 obb, .int .i64 oc, .int .i64 os, .string on, .string owd] 43) := ⟨_, rfl⟩
      have hLB : LivesB W V d l.length (32 + k) wr.heap.size := by rw [hV]; exact HL.out.box _
      have hLA : Lives W V d l.length (32 + k) := by rw [hV]; exact HL.out.below (below_alloc wr _)
      have hVX : V.heap[wr.heap.size]? = some (.cells #[.int .i64 ok, .int .i64 oat, .int .i64 oa, .int .i64 obb, .int .i64 oc, .int .i64 os, .string on, .string owd] 43 (0, 0)) := by rw [hV]; exact heap_alloc_new wr _
      have v0 : V.cell? ⟨wr.heap.size, 0, none⟩ = some (.int .i64 ok) := by simp [World.cell?, hVX]
      have v2 : V.cell? ⟨wr.heap.size, 2, none⟩ = some (.int .i64 oa) := by simp [World.cell?, hVX]
      have v3 : V.cell? ⟨wr.heap.size, 3, none⟩ = some (.int .i64 obb) := by simp [World.cell?, hVX]
      have v4 : V.cell? ⟨wr.heap.size, 4, none⟩ = some (.int .i64 oc) := by simp [World.cell?, hVX]
      have v5 : V.cell? ⟨wr.heap.size, 5, none⟩ = some (.int .i64 os) := by simp [World.cell?, hVX]
      have HV := hid hV
      have HVX := hid hVX
      clear hV hVX ho HL
      by_cases e3 : ok = 3
      · subst e3
        have hmk := hid (make_lives V d l.length (32 + k) wr.heap.size hLB oa os (by omega))
        clear hLB hLA
        go_wp2_with fail
        simp only [← HV.out]
        clear HV
        go_wp2_with fail
        refine hmk.out.mono ?_
        rintro e w2 ⟨⟨ra, re, rfl⟩, hL2, hq⟩
        have z0 : w2.cell? ⟨wr.heap.size, 0, none⟩ = some (.int .i64 3) := (cell_same hq).trans v0
        have HL2 := hid hL2
        clear hL2 hq hmk v0 v2 v3 v4 v5 HVX
        go_wp2
        go_roundw
        case rel => exact ⟨k + 1, by omega, by go_num, HL2.out⟩
        case measure => simp [intOf]; omega
      · have f3 : (ok == 3) = false := by simpa using e3
        by_cases e4 : ok = 4
        · subst e4
          have hgv := hid (give_lives V d l.length (32 + k) hLA oa obb oc os (by omega))
          clear hLB hLA e3
          go_wp2_with fail
          simp only [← HV.out]
          clear HV
          go_wp2_with fail
          refine hgv.out.mono ?_
          rintro e w2 ⟨⟨re, rfl⟩, hL2⟩
          have HL2 := hid hL2
          clear hL2 hgv v0 v2 v3 v4 v5 HVX
          go_wp2
          go_roundw
          case rel => exact ⟨k + 1, by omega, by go_num, HL2.out⟩
          case measure => simp [intOf]; omega
        · have f4 : (ok == 4) = false := by simpa using e4
          have HL2 := hid (hLA.more (k' := 32 + (k + 1)) (by omega))
          clear hLB hLA e3 e4
          go_wp2_with fail
          simp only [← HV.out]
          clear HV
          go_wp2
          go_roundw
          case rel => exact ⟨k + 1, by omega, by go_num, HL2.out⟩
          case measure => simp [intOf]; omega
    · have hlk' : ¬ (k : Int) < (ops.length : Int) := by omega
      obtain ⟨ub, mb, us, vd, dr2, n, ss, vg, gs, hI, hC, hn, hg, hB1, hM⟩ := HL.out
      have hgr := hid (grants_any wr d ub mb us vd dr2 n ss vg gs hI (by omega))
      have hgl : gs.length ≤ 2199023255552 := by omega
      have HI := hid hI
      have HC := hid hC
      have HN := hid hn
      clear hI hC hn hg hB1 hM HL HOC HOB hoao
      go_wp2_with fail
      refine hgr.out.mono ?_
      rintro e w2 ⟨vG, rfl, hO2, hb2⟩
      obtain ⟨gb, go, gao, gcap, rfl, hgcap, hgao, hgcell⟩ := seesGr (sees_of_row hO2)
      have HGC := hid hgcell
      have HGB : Hid (0 < gs.length → gb < w2.heap.size) := fun h => World.block_lt_of_cell? w2 _ (hgcell 0 _ (List.getElem?_eq_getElem h)).1
      have HI2 := hid (HI.out.below hb2)
      have HB2 := hid (HBr.out.trans (hb2.mono HBr.out.size))
      clear hO2 hb2 hgcell hgr HI HBr
      go_wp2
      go_loopw [10] (fun i wq => ∃ k : Nat, k ≤ gs.length ∧ i = .int .i64 k ∧ Hid (Below w2.heap.size w2 wq)) (fun i _ => gs.length - (intOf i).toNat)
      case atStart => exact ⟨0, Nat.zero_le _, rfl, Below.refl _ _⟩
      case round =>
        obtain ⟨j, hj, rfl, HBq⟩ := hrel
        by_cases hjl : j < gs.length
        · obtain rfl := hgao (by omega)
          obtain ⟨g, hg⟩ : ∃ o, gs[j]? = some o := ⟨_, List.getElem?_eq_getElem hjl⟩
          have hgb := HGB.out (by omega)
          obtain ⟨c0, c1, c2, c3⟩ := HGC.out j g hg
          have d1 := (HBq.out.cell (p := ⟨gb, go + j * 4 + 1, none⟩) hgb).trans c1
          have d2 := (HBq.out.cell (p := ⟨gb, go + j * 4 + 2, none⟩) hgb).trans c2
          have d3 := (HBq.out.cell (p := ⟨gb, go + j * 4 + 3, none⟩) hgb).trans c3
          have hfr := HC.out.frm j hjl g hg
          obtain ⟨r1, r2, r3⟩ := HC.out.rng g (List.mem_of_getElem? hg)
          have HG := hid hg
          obtain ⟨gst, gf, gt, gc⟩ := g
          simp only at d1 d2 d3 hfr r1 r2 r3
          have hi : (j : Int) < (gs.length : Int) := by omega
          clear c0 c1 c2 c3 hg
          rcases hfr with ⟨rfl, hk⟩ | ⟨hne, q, y, hqj, hy, hyt, hyc⟩
          · unfold kerOK at hk
            have u1 : gt ≤ 10000 := by omega
            by_cases k1 : gc = 2 * gt + 1
            · have f1 : (gc != 2 * gt + 1) = false := by simpa using k1
              clear hk
              go_wp2
              go_roundw
              case rel => exact ⟨j + 1, by omega, by go_num, HBq.out⟩
              case measure => simp [intOf]; omega
            · have f1 : (gc != 2 * gt + 1) = true := by simpa using k1
              by_cases k2 : gc = 2 * gt + 2
              · have f2 : (gc != 2 * gt + 2) = false := by simpa using k2
                clear hk
                go_wp2
                go_roundw
                case rel => exact ⟨j + 1, by omega, by go_num, HBq.out⟩
                case measure => simp [intOf]; omega
              · have f2 : (gc != 2 * gt + 2) = true := by simpa using k2
                have k3 : ¬ gc < 1000 * gt + 1000 := by omega
                have k4 : ¬ 1000 * gt + 1999 < gc := by omega
                clear hk
                go_wp2
                go_roundw
                case rel => exact ⟨j + 1, by omega, by go_num, HBq.out⟩
                case measure => simp [intOf]; omega
          · have f0 : (gf == -1) = false := by simpa using hne
            have HY := hid hy
            have HYT := hid hyt
            have HYC := hid hyc
            clear hy hyt hyc hne
            go_wp2
            go_loopw [12, 13] (fun h i wz => ∃ (m : Nat) (hd : Bool), m ≤ j ∧ h = .bool hd ∧ i = .int .i64 m ∧ Hid (q < m → hd = true) ∧ Hid (Below w2.heap.size w2 wz)) (fun _ i _ => j - (intOf i).toNat)
            case atStart => exact ⟨0, false, Nat.zero_le _, rfl, rfl, (fun h => absurd h (by omega)), HBq.out⟩
            case round =>
              obtain ⟨m, hd, hm, rfl, rfl, HQ, HBz⟩ := hrel
              by_cases hmj : m < j
              · obtain ⟨z, hz⟩ : ∃ o, gs[m]? = some o := ⟨_, List.getElem?_eq_getElem (by omega)⟩
                obtain ⟨c0, c1, c2, c3⟩ := HGC.out m z hz
                have e1 := (HBz.out.cell (p := ⟨gb, go + m * 4 + 1, none⟩) hgb).trans c1
                have e2 := (HBz.out.cell (p := ⟨gb, go + m * 4 + 2, none⟩) hgb).trans c2
                have e3 := (HBz.out.cell (p := ⟨gb, go + m * 4 + 3, none⟩) hgb).trans c3
                have e4 := (HBz.out.cell (p := ⟨gb, go + j * 4 + 1, none⟩) hgb).trans (HGC.out j _ HG.out).2.1
                have e5 := (HBz.out.cell (p := ⟨gb, go + j * 4 + 3, none⟩) hgb).trans (HGC.out j _ HG.out).2.2.2
                simp only at e4 e5
                have hmc : (m : Int) < (j : Int) := by omega
                have hml : (m : Int) < (gs.length : Int) := by omega
                have HZY : Hid (q = m → z = y) := fun e => by
                  have := HY.out
                  rw [e, hz] at this
                  exact Option.some.inj this
                obtain ⟨zst, zf, zt, zc⟩ := z
                simp only at e1 e2 e3
                clear c0 c1 c2 c3 hz d1 d2 d3
                cases hd with
                | true =>
                  clear HQ
                  go_wp2
                  go_quiet (fail)
                  go_wp2
                  go_roundw
                  case rel => exact ⟨m + 1, true, by omega, rfl, by go_num, fun _ => rfl, below_drewN HBz.out _⟩
                  case measure => simp [intOf]; omega
                | false =>
                  by_cases k1 : zt = gf
                  · have f1 : (zt == gf) = true := by simpa using k1
                    by_cases k2 : zc = gc
                    · have f2 : (zc == gc) = true := by simpa using k2
                      clear k1 k2 HQ
                      go_wp2
                      go_quiet (fail)
                      go_wp2
                      go_roundw
                      case rel => exact ⟨m + 1, true, by omega, rfl, by go_num, fun _ => rfl, below_drewN HBz.out _⟩
                      case measure => simp [intOf]; omega
                    · have f2 : (zc == gc) = false := by simpa using k2
                      have HR : Hid (q < m + 1 → false = true) := fun h => by
                        by_cases e : q = m
                        · have := HZY.out e
                          rw [← this] at HYC
                          exact absurd HYC.out k2
                        · exact HQ.out (by omega)
                      clear k1 k2 HQ
                      go_wp2
                      go_quiet (fail)
                      go_wp2
                      go_roundw
                      case rel => exact ⟨m + 1, false, by omega, rfl, by go_num, HR, below_drewN HBz.out _⟩
                      case measure => simp [intOf]; omega
                  · have f1 : (zt == gf) = false := by simpa using k1
                    have HR : Hid (q < m + 1 → false = true) := fun h => by
                      by_cases e : q = m
                      · have := HZY.out e
                        rw [← this] at HYT
                        exact absurd HYT.out k1
                      · exact HQ.out (by omega)
                    clear k1 HQ
                    go_wp2
                    go_quiet (fail)
                    go_wp2
                    go_roundw
                    case rel => exact ⟨m + 1, false, by omega, rfl, by go_num, HR, below_drewN HBz.out _⟩
                    case measure => simp [intOf]; omega
              · have hmj' : ¬ (m : Int) < (j : Int) := by omega
                obtain rfl := HQ.out (by omega)
                go_wp2
                go_roundw
                case rel => exact ⟨j + 1, by omega, by go_num, HBz.out⟩
                case measure => simp [intOf]; omega
        · have hjl' : ¬ (j : Int) < (gs.length : Int) := by omega
          have s0 : wr.cell? ⟨w.heap.size, 0, none⟩ = some (.slice aU l.length cU) := (HBq.out.cell (p := ⟨w.heap.size, 0, none⟩) (by show w.heap.size < _; have := HB2.out.size; omega)).trans ((HB2.out.cell (p := ⟨w.heap.size, 0, none⟩) hlt).trans HX0.out)
          go_wp2
          go_loopw [14] (fun i wz => ∃ k : Nat, k ≤ l.length ∧ i = .int .i64 k ∧ Hid (Below w2.heap.size w2 wz)) (fun i _ => l.length - (intOf i).toNat)
          case atStart => exact ⟨0, Nat.zero_le _, rfl, HBq.out⟩
          case round =>
            obtain ⟨u, hu, rfl, HBz⟩ := hrel
            have hszz := HBz.out.size
            clear s0
            have s0 : wr.cell? ⟨w.heap.size, 0, none⟩ = some (.slice aU l.length cU) := (HBz.out.cell (p := ⟨w.heap.size, 0, none⟩) (by show w.heap.size < _; have := HB2.out.size; omega)).trans ((HB2.out.cell (p := ⟨w.heap.size, 0, none⟩) hlt).trans HX0.out)
            obtain ⟨wa, rfl⟩ : ∃ x, x = wr := ⟨_, rfl⟩
            by_cases hul : u < l.length
            · have hulc : (u : Int) < (l.length : Int) := by omega
              obtain ⟨p, hp⟩ : ∃ p, us[u]? = some p := ⟨_, List.getElem?_eq_getElem (by have := HN.out; omega)⟩
              have HP := hid hp
              clear hp
              go_wp2
              go_loopw [15, 16] (fun lv i wz => ∃ m : Nat, m ≤ gs.length ∧ i = .int .i64 m ∧ Owns wz wa.heap.size lv (toM gs (u : Int) m) ∧ Hid (Below wa.heap.size wa wz)) (fun _ i _ => gs.length - (intOf i).toNat)
              case atStart => exact ⟨0, Nat.zero_le _, rfl, World.ownsRow_nil _ _ _ _, Below.refl _ _⟩
              case round =>
                obtain ⟨m, hm, rfl, hown, HBy⟩ := hrel
                have hszy := HBy.out.size
                have hlm := toM_len (gs := gs) (u := (u : Int)) (m := m)
                by_cases hmg : m < gs.length
                · obtain rfl := hgao (by omega)
                  obtain ⟨z, hz⟩ : ∃ o, gs[m]? = some o := ⟨_, List.getElem?_eq_getElem hmg⟩
                  obtain ⟨c0, c1, c2, c3⟩ := HGC.out m z hz
                  have hgb := HGB.out (by omega)
                  have HBB := hid (HBz.out.trans (HBy.out.mono HBz.out.size))
                  have e2 := (HBB.out.cell (p := ⟨gb, go + m * 4 + 2, none⟩) hgb).trans c2
                  have e3 := (HBB.out.cell (p := ⟨gb, go + m * 4 + 3, none⟩) hgb).trans c3
                  have hsu := toM_succ (u := (u : Int)) hz
                  obtain ⟨zst, zf, zt, zc⟩ := z
                  simp only at e2 e3 hsu
                  have hmi : (m : Int) < (gs.length : Int) := by omega
                  clear c0 c1 c2 c3 hz
                  by_cases k1 : zt = (u : Int)
                  · have f1 : (zt == (u : Int)) = true := by simpa using k1
                    rw [if_pos k1] at hsu
                    have HS := hid hsu
                    clear k1 hsu
                    go_wp2_with (at_builtin; refine wpList_app rfl _ _ rfl wa.heap.size _ _ rfl (Owns.below hown ((Below.refl _ _).alloc (Nat.le_refl _) _)) _ [zc] rfl (sees_one _ _) (by simp only [List.length_singleton]; omega) (by simp; omega) ?_; intro v4 w4 hO4 hG4)
                    go_roundw
                    case rel => exact ⟨m + 1, by omega, by go_num, by rw [HS.out]; exact hO4, (HBy.out.alloc hszy _).grown hG4 (by simp; omega) (fun j hj => (hown.lt j hj).1)⟩
                    case measure => simp [intOf]; omega
                  · have f1 : (zt == (u : Int)) = false := by simpa using k1
                    rw [if_neg k1] at hsu
                    have HS := hid hsu
                    clear k1 hsu
                    go_wp2
                    go_roundw
                    case rel => exact ⟨m + 1, by omega, by go_num, by rw [HS.out]; exact hown, HBy.out⟩
                    case measure => simp [intOf]; omega
                · have hmg' : ¬ (m : Int) < (gs.length : Int) := by omega
                  have hme : m = gs.length := by omega
                  subst hme
                  have HBB := hid (HBz.out.trans (HBy.out.mono HBz.out.size))
                  have hof := hid (refOf_any _ _ wr hown.sees (by omega))
                  have htl : toM gs (u : Int) gs.length = toL gs (u : Int) := by unfold toM; rw [List.take_of_length_le (Nat.le_refl _)]
                  have HTL := hid htl
                  have hsz3 := HBB.out.size
                  have HSZ := hid hsz3
                  clear hown htl s0 hlm
                  go_wp2_with fail
                  refine hof.out.mono ?_
                  rintro e w3 ⟨v3, rfl, hO3, hb3⟩
                  have HB3 := hid (HBB.out.trans (hb3.mono HBB.out.size))
                  have hpl : p.1.own.length ≤ 20000 := HC.out.len HP.out
                  have how := own_any w3 d ub mb us vd dr2 n ss vg gs (HI2.out.below HB3.out) u p HP.out (by omega)
                  rw [HC.out.own u p HP.out, ← HTL.out] at how
                  have HOW := hid how
                  have HS3 := hid hO3.sees
                  have hl3 : (sd (toM gs (u : Int) gs.length)).length ≤ gs.length := Nat.le_trans (length_sd_le _) toM_len
                  clear hO3 hb3 hof how
                  go_wp2_with fail
                  refine HOW.out.mono ?_
                  rintro e w4 ⟨v4, rfl, hO4, hb4⟩
                  have HB4 := hid (HB3.out.trans (hb4.mono HB3.out.size))
                  have hsm := same_any v3 v4 _ _ w4 (HS3.out.below hb4) hO4.sees (by omega) (by omega)
                  rw [decide_eq_true rfl] at hsm
                  have HSM := hid hsm
                  clear hO4 hb4 hsm HOW
                  go_wp2_with fail
                  refine HSM.out.mono ?_
                  rintro e w5 ⟨rfl, hb5⟩
                  have HB5 := hid (HB4.out.trans (hb5.mono HB4.out.size))
                  clear hb5 HSM
                  go_wp2
                  go_roundw
                  case rel => exact ⟨u + 1, by omega, by go_num, HB5.out⟩
                  case measure => simp [intOf]; omega
            · have hulc : ¬ (u : Int) < (l.length : Int) := by omega
              have HBe := hid (HB2.out.trans (HBz.out.mono HB2.out.size))
              have haw := hid (awake_any wa (HT.out.below HBe.out))
              go_wp2_with fail
              refine haw.out.mono ?_
              rintro e w3 ⟨rfl, hb3⟩
              have HB3 := hid (HBe.out.trans (hb3.mono HBe.out.size))
              clear hb3 haw
              go_wp2
              go_ret
              exact ⟨rfl, HB.out.trans (HB3.out.mono HB.out.size)⟩
end Go.Proofs.YtplljpodejpbgaaGreatDoor
