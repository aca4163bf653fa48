/-
  Feed of the document's reader; what lies where: a reader's block.
-/
import Derived.Test.YtllhibdjopfcnaaGreatDoorZRLeaf
import Derived.Test.YtllhibdjopfcnaaGreatDoorZHBody
import Derived.Test.YtllhibdjopfcnaaGreatDoorZPAll
namespace Go.Proofs.YtllhibdjopfcnaaGreatDoor
open Go.RowKit
set_option linter.unusedVariables false

set_option maxRecDepth 20000 in
set_option maxHeartbeats 4000000 in
theorem rbody_any (h : HeadL) (a b v : Value) (w : World) (hS : SeesP w v h.2.2.2) (hl : h.2.2.2.length ≤ 1048576) (hb : ∀ p ∈ h.2.2.2, p.2.length ≤ 1048576) :
    Calls Tryz.prog 20 #[.agg #[a, b, .int .i64 h.2.2.1, v]] w fun e w' => e = .returned (outB (bodyL h)) ∧ Below w.heap.size w w' := by
  rw [bodyL_F]
  obtain ⟨fs, hfs⟩ : ∃ fs, fs = h.2.2.2 := ⟨_, rfl⟩
  obtain ⟨m, hm⟩ : ∃ m, m = h.2.2.1 := ⟨_, rfl⟩
  rw [← hfs] at hS hl hb
  rw [← hfs, ← hm]
  clear hfs hm
  have hV := rvalues_any a b (.int .i64 m) v fs clS (w.alloc (.cells #[a, b, .int .i64 m, v] 34)).drew ((hS.below (below_alloc w _)).below (Below.drew (Below.refl _ _))) hl (by decide)
  rw [show small clS = clS by decide] at hV
  have HV2 := hid (fun w1 hS1 => rvalues_any a b (.int .i64 m) v fs teS w1 hS1 hl (by decide))
  rw [show small teS = teS by decide] at HV2
  have hH0 := HeadAt.new w a b (.int .i64 m) v
  have hB0 := below_alloc w (.cells #[a, b, .int .i64 m, v] 34)
  obtain ⟨w0, hw0⟩ : ∃ w0, w0 = w.alloc (.cells #[a, b, .int .i64 m, v] 34) := ⟨_, rfl⟩
  have hsz0 : w0.heap.size = w.heap.size + 1 := by rw [hw0]; simp
  rw [← hw0] at hV hH0 hB0
  have HW0 := hid hw0
  have HS0 := hid (hS.below hB0)
  have HB0 := hid hB0
  have HH0 := hid hH0
  have hb1 := valsF_bound (nm := clS) hb
  have hb2 := valsF_bound (nm := teS) hb
  have hl1 : (valsF fs clS).length ≤ fs.length := by unfold valsF; rw [List.length_map]; exact List.length_filter_le _ _
  have hl2 : (valsF fs teS).length ≤ fs.length := by unfold valsF; rw [List.length_map]; exact List.length_filter_le _ _
  obtain ⟨ys, hys⟩ : ∃ ys, ys = valsF fs clS := ⟨_, rfl⟩
  obtain ⟨zs, hzs⟩ : ∃ zs, zs = valsF fs teS := ⟨_, rfl⟩
  rw [← hys] at hV hb1 hl1 ⊢
  rw [← hzs] at HV2 hb2 hl2 ⊢
  rw [show (⟨clS.toArray⟩ : ByteArray) = ⟨#[99, 111, 110, 116, 101, 110, 116, 45, 108, 101, 110, 103, 116, 104]⟩ from rfl] at hV
  rw [show (⟨teS.toArray⟩ : ByteArray) = ⟨#[116, 114, 97, 110, 115, 102, 101, 114, 45, 101, 110, 99, 111, 100, 105, 110, 103]⟩ from rfl] at HV2
  obtain ⟨V, hVe⟩ : ∃ V, V = (if 0 < ys.length ∧ 0 < zs.length then ((0 : Int), (0 : Int), (400 : Int)) else if 0 < zs.length then codL zs m else if 0 < ys.length then lenL ys else (0, 0, 0)) := ⟨_, rfl⟩
  rw [← hVe]
  have HE := hid hVe
  have HBy := hid hb1
  have HBz := hid hb2
  clear hw0 hH0 hys hzs hS hB0 hb hb1 hb2 hVe
  go_enter Tryz.func20, Tryz.ntmps20
  go_wp2_with fail
  rw [← HW0.out]
  obtain ⟨z0, z1, z2, z3, _, _, _, _⟩ := HH0.out.cells
  go_region_law
    (first
      | (go_simp
         refine hV.mono ?_
         rintro e' w1 ⟨v1, rfl, hO1, hB1⟩
         obtain ⟨ao1, cap1, rfl⟩ := hO1.shape
         have hB1' : Below w0.heap.size w0 w1 := (Below.drew (Below.refl w0.heap.size w0)).trans hB1
         have hH1 := HH0.out.below hB1' HH0.out.lt
         obtain ⟨p0, p1, p2, p3, _, _, _, _⟩ := hH1.cells
         have hV2 := HV2.out w1 (HS0.out.below hB1')
         have HB1 := hid (HB0.out.trans (hB1'.mono HB0.out.size))
         have HO1 := hid hO1
         have HH1 := hid hH1
         clear hB1 hB1' hO1 hH1 hV HV2)
      | (go_simp
         refine hV2.mono ?_
         rintro e' w2 ⟨v2, rfl, hO2, hB2⟩
         obtain ⟨ao2, cap2, rfl⟩ := hO2.shape
         have hH2 := HH1.out.below hB2 HH1.out.lt
         have HB2 := hid (HB1.out.trans (hB2.mono HB1.out.size))
         have HS1 := hid (HO1.out.below hB2).sees
         have HS2 := hid hO2.sees
         obtain ⟨q0, q1, q2, q3, _, _, _, _⟩ := hH2.cells
         have HH2 := hid hH2
         clear hB2 hO2 hH2 HO1 HH1 HB1 p0 p1 p2 p3 hV2))
  all_goals
    clear z0 z1 z2 z3 q0 q1 q3 HH0
    by_cases h1 : 0 < ys.length
    · have h1' : (0 : Int) < (ys.length : Int) := by omega
      have h10 : ((ys.length : Int) == 0) = false := by rw [beq_eq_false_iff_ne]; omega
      by_cases h2 : 0 < zs.length
      · have h2' : (0 : Int) < (zs.length : Int) := by omega
        rw [if_pos ⟨h1, h2⟩] at HE
        clear h1 h2
        go_wp2
        go_ret3
        exact ⟨by rw [HE.out]; rfl, HB2.out⟩
      · have h2' : ¬ (0 : Int) < (zs.length : Int) := by omega
        rw [if_neg (fun h => h2 h.2), if_neg h2, if_pos h1] at HE
        clear h2
        obtain ⟨bb, off, ao, cap, hv, hcap, _, hao, hcell⟩ := HS1.out
        obtain ⟨rfl, rfl⟩ : ao1 = ao ∧ cap1 = cap := by simpa using hv
        obtain rfl := hao (by intro h; rw [h] at h1; simp at h1)
        have c0 := hcell 0 h1
        obtain ⟨x, hx⟩ : ∃ x, x = ys.headD [] := ⟨_, rfl⟩
        have hx0 : ys[0] = x := by
          rw [hx]
          cases ys with
          | nil => simp at h1
          | cons y r => rfl
        have hxl : x.length ≤ 1048576 := by rw [← hx0]; exact HBy.out _ (List.getElem_mem _)
        rw [hx0] at c0
        simp only [strV, Nat.add_zero] at c0
        have HVV : Hid (V = if 9 < x.length ∨ madeL isDg x = false then (0, 0, 400) else if ys.all (· == x) = false then (0, 0, 400) else if 16384 < numL x then (0, 0, 413) else (1, (numL x : Int), 0)) := by
          unfold Hid
          rw [HE.out, lenL, ← hx]
        have HC := hid hcell
        clear hcell hx hx0 hao hv HE
        go_wp2_with fail
        go_loop [7, 8] (fun n i => ∃ (k : Nat), k ≤ x.length ∧ k ≤ 9 ∧ i = .int .i64 (k : Int) ∧ n = .int .i64 ((numL (x.take k) : Nat) : Int) ∧ (x.take k).all isDg = true) (fun _ i => x.length - (intOf i).toNat)
        case atStart => exact ⟨0, Nat.zero_le _, Nat.zero_le _, rfl, rfl, by simp⟩
        case round =>
          obtain ⟨q, hq, hq9, rfl, rfl, hall⟩ := hrel
          have hns : numL (x.take q) < 10 ^ q := by
            have := numL_small (k := q) hall (by rw [List.length_take]; omega)
            rwa [List.take_of_length_le (by rw [List.length_take]; omega)] at this
          have hp10 : 10 ^ q ≤ 10 ^ 9 := Nat.pow_le_pow_right (by omega) (by omega)
          by_cases hql : q < x.length
          · have hql' : (q : Int) < (x.length : Int) := by omega
            have HST := hid (numL_take hql)
            have HAL := hid (all_take_succ isDg x q hql)
            have hdig := fun (hh : isDg (x[q]'hql) = true) => u8_digit hh
            have hnd := fun h => all_take_false (p := isDg) hql h
            have hdg2 := byteL x[q]
            have i1 := index_byte (⟨x.toArray⟩ : ByteArray) .i64 (q : Int) q rfl (by rw [size_list]; exact hql)
            rw [show (⟨x.toArray⟩ : ByteArray)[q]'(by rw [size_list]; exact hql) = x[q] from rfl] at i1
            obtain ⟨c, hc⟩ : ∃ c, c = x[q] := ⟨_, rfl⟩
            rw [← hc] at HST HAL hdig hnd hdg2 i1
            rw [hall, Bool.true_and] at HAL
            clear hc hall
            obtain ⟨n0, hn0⟩ : ∃ n, n = numL (x.take q) := ⟨_, rfl⟩
            rw [← hn0] at HST hns ⊢
            clear hn0
            cases hd : isDg c with
            | false =>
              have HV4 : Hid (V = (0, 0, 400)) := by
                unfold Hid
                rw [HVV.out, if_pos (Or.inr (by unfold madeL; rw [hnd hd]; rfl))]
              have hd' := hd
              simp only [isDg, decide_eq_false_iff_not] at hd'
              clear HVV HST HAL hdig hnd hd
              by_cases h48 : c.toNat < 48
              · have d1 : decide (((c.toNat : Nat) : Int) < 48) = true := by simp; omega
                go_wp2
                go_ret3
                exact ⟨by rw [HV4.out]; rfl, HB2.out⟩
              · have d1 : decide (((c.toNat : Nat) : Int) < 48) = false := by simp; omega
                have d2 : decide ((57 : Int) < ((c.toNat : Nat) : Int)) = true := by simp; omega
                go_wp2
                go_ret3
                exact ⟨by rw [HV4.out]; rfl, HB2.out⟩
            | true =>
              have hdd := hdig hd
              rw [hd] at HAL
              have hd' := hd
              simp only [isDg, decide_eq_true_eq] at hd'
              have d1 : decide (((c.toNat : Nat) : Int) < 48) = false := by simp; omega
              have d2 : decide ((57 : Int) < ((c.toNat : Nat) : Int)) = false := by simp; omega
              clear hdig hnd hd
              by_cases h9 : q = 9
              · have d3 : decide ((9 : Int) ≤ (q : Int)) = true := by simp; omega
                have HV4 : Hid (V = (0, 0, 400)) := by
                  unfold Hid
                  rw [HVV.out, if_pos (Or.inl (by omega))]
                clear HVV HST HAL h9
                go_wp2
                go_ret3
                exact ⟨by rw [HV4.out]; rfl, HB2.out⟩
              · have d3 : decide ((9 : Int) ≤ (q : Int)) = false := by simp; omega
                go_wp2
                go_round
                case rel => exact ⟨q + 1, by omega, by omega, by go_num, by rw [HST.out]; go_num, HAL.out⟩
                case measure => simp [intOf]; omega
          · have hql' : ¬ (q : Int) < (x.length : Int) := by omega
            rw [List.take_of_length_le (by omega)] at hns hall ⊢
            obtain ⟨n0, hn0⟩ : ∃ n, n = numL x := ⟨_, rfl⟩
            rw [← hn0] at HVV hns ⊢
            have HEm : Hid (madeL isDg x = !x.isEmpty) := by unfold Hid madeL; rw [hall, Bool.true_and]
            have hx9 : x.length ≤ 9 := by omega
            clear hn0 hall
            go_wp2_with fail
            go_loopw [9] (fun i wr => ∃ (k : Nat), k ≤ ys.length ∧ i = .int .i64 (k : Int) ∧ (ys.take k).all (· == x) = true ∧ (0 < k → x ≠ []) ∧ Below w2.heap.size w2 wr) (fun i _ => ys.length - (intOf i).toNat)
            case atStart => exact ⟨0, Nat.zero_le _, rfl, by simp, by simp, Below.refl _ _⟩
            case round =>
              obtain ⟨k, hk, rfl, hall, hne, hBr⟩ := hrel
              have HBr := hid (Below.drew hBr)
              have HBd := hid (HB2.out.trans ((Below.drew hBr).mono HB2.out.size))
              have HBe := hid (HB2.out.trans (hBr.mono HB2.out.size))
              have c0r := (hBr.cell (World.block_lt_of_cell? w2 _ c0)).trans c0
              by_cases hlt : k < ys.length
              · have hlt' : (k : Int) < (ys.length : Int) := by omega
                have d1 := HC.out k hlt
                have d1 := (hBr.cell (World.block_lt_of_cell? w2 _ d1)).trans d1
                unfold strV at d1
                clear hBr
                have HY := hid (fun h => all_same_take hlt hall h)
                have HN := hid (fun h => all_same_bad (x := x) hlt h)
                obtain ⟨P, hP⟩ : ∃ P, P = ys[k] := ⟨_, rfl⟩
                rw [← hP] at d1 HY HN
                clear hP hall hne
                cases he : (P == x) with
                | true =>
                  have HY2 := hid (HY.out he)
                  clear HY HN
                  cases hem : x.isEmpty with
                  | true =>
                    have HV4 : Hid (V = (0, 0, 400)) := by
                      unfold Hid
                      rw [HVV.out, if_pos (Or.inr (by rw [HEm.out, hem]; rfl))]
                    have hem2 : (x == []) = true := by rw [beq_iff_eq]; exact List.isEmpty_iff.1 hem
                    clear HVV
                    go_wp2_with fail
                    go_region
                    all_goals
                      go_wp2
                      go_ret3
                      exact ⟨by rw [HV4.out]; rfl, HBd.out⟩
                  | false =>
                    have HN0 : Hid (x ≠ []) := by intro e; rw [e] at hem; simp at hem
                    have hem2 : (x == []) = false := by rw [beq_eq_false_iff_ne]; exact HN0.out
                    go_wp2_with fail
                    go_region
                    all_goals
                      go_wp2
                      go_roundw
                      case rel => exact ⟨k + 1, by omega, by go_num, HY2.out, fun _ => HN0.out, HBr.out⟩
                      case measure => simp [intOf]; omega
                | false =>
                  have HV4 : Hid (V = (0, 0, 400)) := by
                    unfold Hid
                    rw [HVV.out]
                    split
                    · rfl
                    · rw [if_pos (HN.out he)]
                  clear HY HN HVV
                  go_wp2_with fail
                  go_region
                  all_goals
                    go_wp2
                    go_ret3
                    exact ⟨by rw [HV4.out]; rfl, HBd.out⟩
              · have hlt' : ¬ (k : Int) < (ys.length : Int) := by omega
                rw [List.take_of_length_le (by omega)] at hall
                have hne' := hne (by omega)
                have HV4 : Hid (V = if 16384 < n0 then (0, 0, 413) else (1, (n0 : Int), 0)) := by
                  unfold Hid
                  rw [HVV.out, if_neg, if_neg (by simp [hall])]
                  rw [HEm.out]
                  intro h
                  rcases h with h | h
                  · omega
                  · simp at h; exact hne' h
                clear HVV hall hne hne'
                by_cases hbig : 16384 < n0
                · have hbig' : (16384 : Int) < (n0 : Int) := by omega
                  rw [if_pos hbig] at HV4
                  clear hbig
                  go_wp2
                  go_ret3
                  exact ⟨by rw [HV4.out]; rfl, HBe.out⟩
                · have hbig' : ¬ (16384 : Int) < (n0 : Int) := by omega
                  rw [if_neg hbig] at HV4
                  clear hbig
                  go_wp2
                  go_ret3
                  exact ⟨by rw [HV4.out]; rfl, HBe.out⟩
    · have h1' : ¬ (0 : Int) < (ys.length : Int) := by omega
      by_cases h2 : 0 < zs.length
      · have h2' : (0 : Int) < (zs.length : Int) := by omega
        rw [if_neg (fun h => h1 h.1), if_pos h2] at HE
        clear h1
        obtain ⟨bb, off, ao, cap, hv, hcap, _, hao, hcell⟩ := HS2.out
        obtain ⟨rfl, rfl⟩ : ao2 = ao ∧ cap2 = cap := by simpa using hv
        obtain rfl := hao (by intro h; rw [h] at h2; simp at h2)
        have c0 := hcell 0 h2
        obtain ⟨x, hx⟩ : ∃ x, x = zs.headD [] := ⟨_, rfl⟩
        have hx0 : zs[0] = x := by
          rw [hx]
          cases zs with
          | nil => simp at h2
          | cons y r => rfl
        have hxl : x.length ≤ 1048576 := by rw [← hx0]; exact HBz.out _ (List.getElem_mem _)
        rw [hx0] at c0
        simp only [strV, Nat.add_zero] at c0
        have HVV : Hid (V = if zs.length = 1 ∧ small x = chS ∧ m = 1 then (2, 0, 0) else (0, 0, 400)) := by
          unfold Hid
          rw [HE.out, codL, ← hx]
        clear hcell hx hx0 hao hv HE
        by_cases hz1 : zs.length = 1
        · have hz1' : ¬ (1 : Int) < (zs.length : Int) := by omega
          have hSm := rsmall_any x w2 (by omega)
          obtain ⟨y, hy⟩ : ∃ y, y = small x := ⟨_, rfl⟩
          rw [← hy] at hSm HVV
          clear hy
          obtain ⟨B, hbs⟩ : ∃ B, (y == [99, 104, 117, 110, 107, 101, 100]) = B := ⟨_, rfl⟩
          go_wp2_with fail
          refine hSm.mono ?_
          clear hSm
          rintro e w3 ⟨rfl, hB3⟩
          have HB3 := hid (HB2.out.trans (hB3.mono HB2.out.size))
          obtain ⟨r0, r1, r2, r3, _, _, _, _⟩ := (HH2.out.below hB3 HH2.out.lt).cells
          clear hB3
          cases B with
          | true =>
            have hyc : y = chS := beq_iff_eq.1 hbs
            by_cases hm : m = 1
            · have hm' : (m != 1) = false := by rw [bne_eq_false_iff_eq]; exact hm
              rw [if_pos ⟨hz1, hyc, hm⟩] at HVV
              clear hyc hm
              go_wp2
              go_ret3
              exact ⟨by rw [HVV.out]; rfl, HB3.out⟩
            · have hm' : (m != 1) = true := by rw [bne_iff_ne]; exact hm
              rw [if_neg (fun h => hm h.2.2)] at HVV
              clear hyc hm
              go_wp2
              go_ret3
              exact ⟨by rw [HVV.out]; rfl, HB3.out⟩
          | false =>
            rw [if_neg (fun h => by rw [h.2.1] at hbs; simp [chS] at hbs)] at HVV
            go_wp2
            go_ret3
            exact ⟨by rw [HVV.out]; rfl, HB3.out⟩
        · have hz1' : (1 : Int) < (zs.length : Int) := by omega
          rw [if_neg (fun h => hz1 h.1)] at HVV
          clear hz1
          go_wp2
          go_ret3
          exact ⟨by rw [HVV.out]; rfl, HB2.out⟩
      · have h2' : ¬ (0 : Int) < (zs.length : Int) := by omega
        have h10 : ((ys.length : Int) == 0) = true := by rw [beq_iff_eq]; omega
        rw [if_neg (fun h => h1 h.1), if_neg h2, if_neg h1] at HE
        clear h1 h2
        go_wp2
        go_ret3
        exact ⟨by rw [HE.out]; rfl, HB2.out⟩
end Go.Proofs.YtllhibdjopfcnaaGreatDoor

namespace Go.Proofs.YtllhibdjopfcnaaGreatDoor
open Go.RowKit
set_option linter.unusedVariables false

theorem body_kind (h : HeadL) : ((bodyL h).1 = 0 ∧ (bodyL h).2.1 = 0) ∨ (bodyL h).1 = 1 ∨ (bodyL h).1 = 2 := by
  unfold bodyL lenL codL
  repeat' split
  all_goals first
    | exact .inl ⟨rfl, rfl⟩
    | exact .inr (.inl rfl)
    | exact .inr (.inr rfl)
/-- What the document's 'body' tells: the body, where it ends (-1: more is wanted), a status. -/
def bdT : Tell (List UInt8) → List UInt8 × Int × Int
  | (.error none) => ([], -1, 0)
  | (.error (some s)) => ([], 0, s)
  | (.ok (b, n)) => (b, (n : Int), 0)
def bdV (q : List UInt8 × Int × Int) : Value := .tuple #[.string ⟨q.1.toArray⟩, .int .i64 q.2.1, .int .i64 q.2.2]
set_option maxRecDepth 20000 in
set_option maxHeartbeats 4000000 in
theorem rdbody_any (h : HeadL) (a b v : Value) (L : List UInt8) (k : Nat) (w : World) (hS : SeesP w v h.2.2.2) (hl : h.2.2.2.length ≤ 1048576) (hb : ∀ p ∈ h.2.2.2, p.2.length ≤ 1048576) (hs : L.length ≤ 65536) (hk : k ≤ L.length) :
    Calls Tryz.prog 28 #[.string ⟨L.toArray⟩, .int .i64 (k : Int), .agg #[a, b, .int .i64 h.2.2.1, v]] w fun e w' => e = .returned (bdV (bdT (bodyAt h L k))) ∧ Below w.heap.size w w' := by
  obtain ⟨m, hm⟩ : ∃ m, m = h.2.2.1 := ⟨_, rfl⟩
  have hB := rbody_any h a b v (w.alloc (.cells #[a, b, .int .i64 m, v] 34)) (hS.below (below_alloc w _)) hl hb
  rw [← hm] at hB
  rw [← hm]
  have HB0 := hid (below_alloc w (.cells #[a, b, .int .i64 m, v] 34))
  obtain ⟨z0, z1, z2, z3, _, _, _, _⟩ := (HeadAt.new w a b (.int .i64 m) v).cells
  obtain ⟨w1, hw1⟩ : ∃ w1, w1 = w.alloc (.cells #[a, b, .int .i64 m, v] 34) := ⟨_, rfl⟩
  have HW1 := hid hw1
  have hsz1 : w.heap.size ≤ w1.heap.size := by rw [hw1]; simp
  rw [← hw1] at hB HB0 z0 z1 z2 z3
  have hr := body_range h
  have hkn := body_kind h
  obtain ⟨s, hse⟩ : ∃ s : ByteArray, s = ⟨L.toArray⟩ := ⟨_, rfl⟩
  have hsz : s.size = L.length := by rw [hse, size_list]
  have hC := fun w => rchunksN_any L k w (by omega) hk
  rw [← hse] at hC ⊢
  have HX : Hid (∀ e, s.extract k e = ⟨((L.drop k).take (e - k)).toArray⟩) := hid (fun e => by rw [hse, extract_list])
  obtain ⟨T, hT⟩ : ∃ T, T = bodyAt h L k := ⟨_, rfl⟩
  rw [← hT]
  unfold bodyAt at hT
  obtain ⟨kd, hkd⟩ : ∃ x, x = (bodyL h).1 := ⟨_, rfl⟩
  obtain ⟨st, hstt⟩ : ∃ x, x = (bodyL h).2.2 := ⟨_, rfl⟩
  obtain ⟨n, hn⟩ : ∃ x : Nat, (x : Int) = (bodyL h).2.1 := ⟨(bodyL h).2.1.toNat, by omega⟩
  have e1 : bodyL h = (kd, (n : Int), st) := by rw [hkd, hstt, hn]
  rw [e1] at hB hT hkn
  simp only [outB, Int.toNat_natCast] at hB hT hkn
  have hn16 : n ≤ 16384 := by omega
  clear hkd hstt hn e1 hr hw1 hse hS hm
  by_cases h0 : st = 0
  · subst h0
    rw [if_neg (by simp)] at hT
    rcases hkn with ⟨rfl, hn0⟩ | rfl | rfl
    · obtain rfl : n = 0 := by omega
      rw [if_neg (by decide), if_neg (by omega)] at hT
      have HT := hid hT
      clear hT hC hn0
      go_enter Tryz.func28, Tryz.ntmps28
      go_wp2_with fail
      rw [← HW1.out]
      refine hB.mono ?_
      clear hB
      rintro e w2 ⟨rfl, hB2⟩
      have HB2 := hid (HB0.out.trans (hB2.mono hsz1))
      clear hB2
      go_wp2
      (try simp only [Exit.inBlock, Exit.then])
      go_ret3
      rw [HT.out]
      exact ⟨by simp [bdV, bdT], HB2.out⟩
    · rw [if_neg (by decide)] at hT
      by_cases hlong : L.length < k + n
      · rw [if_pos hlong] at hT
        have f5 : (s.size : Int) - (k : Int) < (n : Int) := by omega
        have hks : k ≤ s.size := by omega
        have hss : s.size ≤ 65536 := by omega
        have HT := hid hT
        clear hT hC hlong hsz
        go_enter Tryz.func28, Tryz.ntmps28
        go_wp2_with fail
        rw [← HW1.out]
        refine hB.mono ?_
        clear hB
        rintro e w2 ⟨rfl, hB2⟩
        have HB2 := hid (HB0.out.trans (hB2.mono hsz1))
        clear hB2
        go_wp2
        (try simp only [Exit.inBlock, Exit.then])
        go_ret3
        rw [HT.out]
        exact ⟨rfl, HB2.out⟩
      · rw [if_neg hlong] at hT
        have f5 : ¬ (s.size : Int) - (k : Int) < (n : Int) := by omega
        have hks : k + n ≤ s.size := by omega
        have hss : s.size ≤ 65536 := by omega
        have hx := HX.out (k + n)
        rw [show k + n - k = n by omega] at hx
        have HT := hid hT
        have HXN := hid hx
        clear hT hC hlong hsz hx
        go_enter Tryz.func28, Tryz.ntmps28
        go_wp2_with fail
        rw [← HW1.out]
        refine hB.mono ?_
        clear hB
        rintro e w2 ⟨rfl, hB2⟩
        have HB2 := hid (HB0.out.trans (hB2.mono hsz1))
        clear hB2
        go_wp2
        (try simp only [Exit.inBlock, Exit.then])
        go_ret3
        rw [HT.out]
        refine ⟨?_, HB2.out⟩
        simp only [bdV, bdT]
        rw [← HXN.out]
        simp
    · rw [if_pos rfl] at hT
      obtain ⟨C, hCe⟩ : ∃ C, C = chunksL (L.length + 1) [] (L.drop k) := ⟨_, rfl⟩
      rw [← hCe] at hT hC
      clear hCe
      rcases C with (_ | t) | ⟨y, j⟩
      all_goals
        simp only [chkV, chkT, putT] at hC hT
        have HT := hid hT
        clear hT
        go_enter Tryz.func28, Tryz.ntmps28
        go_wp2_with fail
        rw [← HW1.out]
        refine hB.mono ?_
        clear hB
        rintro e w2 ⟨rfl, hB2⟩
        have HB2 := hid (HB0.out.trans (hB2.mono hsz1))
        clear hB2
        go_wp2_with fail
        refine (hC _).mono ?_
        clear hC
        rintro e w3 ⟨rfl, hw3⟩
        subst hw3
        go_wp2
        (try simp only [Exit.inBlock, Exit.then])
        go_ret3
        rw [HT.out]
        exact ⟨rfl, HB2.out⟩
  · have f0 : (st != 0) = true := by rw [bne_iff_ne]; exact h0
    rw [if_pos h0] at hT
    have HT := hid hT
    clear hT hC h0 hkn
    go_enter Tryz.func28, Tryz.ntmps28
    go_wp2_with fail
    rw [← HW1.out]
    refine hB.mono ?_
    clear hB
    rintro e w2 ⟨rfl, hB2⟩
    have HB2 := hid (HB0.out.trans (hB2.mono hsz1))
    clear hB2
    go_wp2
    (try simp only [Exit.inBlock, Exit.then])
    go_ret3
    rw [HT.out]
    exact ⟨rfl, HB2.out⟩
end Go.Proofs.YtllhibdjopfcnaaGreatDoor

namespace Go.Proofs.YtllhibdjopfcnaaGreatDoor
open Go.RowKit
set_option linter.unusedVariables false

/-- At p lies a reader of the document's, whole. -/
def DpAt (w : World) (p : Nat) (s st : Value) : Prop := w.heap[p]? = some (.cells #[s, st] 27 (0, 0))
theorem DpAt.lt {w : World} {p : Nat} {s st : Value} (h : DpAt w p s st) : p < w.heap.size := (Array.getElem?_eq_some_iff.1 h).1
theorem DpAt.below {w w' : World} {p B : Nat} {s st : Value} (h : DpAt w p s st) (hb : Below B w w') (hp : p < B) : DpAt w' p s st := by
  unfold DpAt
  rw [hb.block p hp]
  exact h
theorem DpAt.cells {w : World} {p : Nat} {s st : Value} (h : DpAt w p s st) : w.cell? ⟨p, 0, none⟩ = some s ∧ w.cell? ⟨p, 1, none⟩ = some st ∧ w.frozen? ⟨p, 0, none⟩ = false ∧ w.frozen? ⟨p, 1, none⟩ = false := by
  unfold DpAt at h
  refine ⟨?_, ?_, ?_, ?_⟩ <;> simp [World.cell?, World.frozen?, h]
theorem DpAt.new (w : World) (s st : Value) : DpAt (w.alloc (.cells #[s, st] 27)) w.heap.size s st := heap_alloc_new w _
theorem DpAt.store {w : World} {p : Nat} {s st x y : Value} (h : DpAt w p s st) : DpAt ((w.setCell ⟨p, 0, none⟩ x).setCell ⟨p, 1, none⟩ y) p x y := by
  unfold DpAt at *
  simp only [World.setCell, Array.getElem?_modify, h]
  simp
/-- What Feed makes of a reader. -/
def fdT (P : List UInt8) (st : Int) (L : List UInt8) : List UInt8 × Int := if st ≠ 0 then (P, 80) else if 65536 < P.length + L.length then (P, 2) else (P ++ L, 0)
set_option maxRecDepth 20000 in
set_option maxHeartbeats 4000000 in
theorem rfeed_any (P L : List UInt8) (st : Int) (w : World) (hP : P.length ≤ 65536) (hL : L.length ≤ 140737488355328) :
    Calls Tryz.prog 7 #[.agg #[.string ⟨P.toArray⟩, .int .i64 st], .string ⟨L.toArray⟩] w fun e w' => e = .returned (.tuple #[.agg #[.string ⟨(fdT P st L).1.toArray⟩, .int .i64 st], .int .i64 (fdT P st L).2]) ∧ Below w.heap.size w w' := by
  have hj := str_join P L
  obtain ⟨s, hse⟩ : ∃ s : ByteArray, s = ⟨P.toArray⟩ := ⟨_, rfl⟩
  obtain ⟨u, hue⟩ : ∃ u : ByteArray, u = ⟨L.toArray⟩ := ⟨_, rfl⟩
  have hsz : s.size = P.length := by rw [hse, size_list]
  have huz : u.size = L.length := by rw [hue, size_list]
  have HSE := hid hse
  have HUE := hid hue
  have HJ := hid hj
  rw [← hse, ← hue]
  have hsl : s.size ≤ 65536 := by omega
  have hul : u.size ≤ 140737488355328 := by omega
  have HB : Hid (Below w.heap.size w ((w.alloc (.cells #[.string s, .int .i64 st] 27)).alloc (.cells #[.string ⟨#[]⟩, .int .i64 0] 27))) := hid ((below_alloc w _).alloc (by simp) _)
  clear hse hue hj
  by_cases h0 : st = 0
  · subst h0
    by_cases hf : 65536 < P.length + L.length
    · have f1 : (65536 : Int) - (s.size : Int) < (u.size : Int) := by omega
      have HT : Hid (fdT P 0 L = (P, 2)) := hid (by unfold fdT; rw [if_neg (by simp), if_pos hf])
      clear hf hsz huz
      go_enter Tryz.func7, Tryz.ntmps7
      go_wp2
      refine bodyPost_ret (v := .tuple #[.agg #[.string s, .int .i64 0], .int .i64 2]) (by simp [results, Tryz.results7, go_sem]) rfl ?_
      rw [HT.out]
      exact ⟨by simp only []; rw [HSE.out], (below_alloc w _).alloc (by simp) _⟩
    · have f1 : ¬ (65536 : Int) - (s.size : Int) < (u.size : Int) := by omega
      have HT : Hid (fdT P 0 L = (P ++ L, 0)) := hid (by unfold fdT; rw [if_neg (by simp), if_neg hf])
      clear hf hsz huz
      go_enter Tryz.func7, Tryz.ntmps7
      go_wp2
      refine bodyPost_ret (v := .tuple #[.agg #[.string (s ++ u), .int .i64 0], .int .i64 0]) (by simp [results, Tryz.results7, go_sem]) rfl ?_
      rw [HT.out]
      exact ⟨by simp only []; rw [HSE.out, HUE.out, HJ.out], (below_alloc w _).alloc (by simp) _⟩
  · have f0 : (st != 0) = true := by rw [bne_iff_ne]; exact h0
    have HT : Hid (fdT P st L = (P, 80)) := hid (by unfold fdT; rw [if_pos h0])
    clear h0 hsz huz
    go_enter Tryz.func7, Tryz.ntmps7
    go_wp2
    refine bodyPost_ret (v := .tuple #[.agg #[.string s, .int .i64 st], .int .i64 80]) (by simp [results, Tryz.results7, go_sem]) rfl ?_
    rw [HT.out]
    exact ⟨by simp only []; rw [HSE.out], (below_alloc w _).alloc (by simp) _⟩
end Go.Proofs.YtllhibdjopfcnaaGreatDoor
