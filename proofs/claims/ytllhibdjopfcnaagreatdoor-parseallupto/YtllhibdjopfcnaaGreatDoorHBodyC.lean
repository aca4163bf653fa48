/-
  The body of a head, as the code tells it.
-/
import Derived.Test.YtllhibdjopfcnaaGreatDoorHBodyB
namespace Go.Proofs.YtllhibdjopfcnaaGreatDoor
open Go.RowKit
set_option linter.unusedVariables false

theorem valsF_bound {fs : List PairL} {nm : List UInt8} {B : Nat} (h : ∀ p ∈ fs, p.2.length ≤ B) : ∀ x ∈ valsF fs nm, x.length ≤ B := by
  intro x hx
  unfold valsF at hx
  obtain ⟨p, hp, rfl⟩ := List.mem_map.1 hx
  exact h p (List.mem_filter.1 hp).1
theorem bodyL_F (h : HeadL) : bodyL h = if 0 < (valsF h.2.2.2 clS).length ∧ 0 < (valsF h.2.2.2 teS).length then (0, 0, 400)
  else if 0 < (valsF h.2.2.2 teS).length then codL (valsF h.2.2.2 teS) h.2.2.1
  else if 0 < (valsF h.2.2.2 clS).length then lenL (valsF h.2.2.2 clS)
  else (0, 0, 0) := by
  unfold bodyL
  rw [valsL_F, valsL_F, show small clS = clS by decide, show small teS = teS by decide]
set_option maxRecDepth 20000 in
set_option maxHeartbeats 2000000 in
theorem body_any (h : HeadL) (a b v : Value) (w : World) (hS : SeesP w v h.2.2.2) (hl : h.2.2.2.length ≤ 1048576) (hb : ∀ p ∈ h.2.2.2, p.2.length ≤ 1048576) :
    Calls Tryz.prog 53 #[.agg #[a, b, .int .i64 h.2.2.1, v]] w fun e w' => e = .returned (outB (bodyL h)) ∧ Below w.heap.size w w' := by
  rw [bodyL_F]
  obtain ⟨fs, hfs⟩ : ∃ fs, fs = h.2.2.2 := ⟨_, rfl⟩
  obtain ⟨m, hm⟩ : ∃ m, m = h.2.2.1 := ⟨_, rfl⟩
  rw [← hfs] at hS hl hb
  rw [← hfs, ← hm]
  clear hfs hm
  have hV := values_any a b (.int .i64 m) v fs clS (w.alloc (.cells #[a, b, .int .i64 m, v] 34)).drew ((hS.below (below_alloc w _)).below (Below.drew (Below.refl _ _))) hl (by decide)
  rw [show small clS = clS by decide] at hV
  have HV2 := hid (fun w1 hS1 => values_any a b (.int .i64 m) v fs teS w1 hS1 hl (by decide))
  rw [show small teS = teS by decide] at HV2
  have hH0 := HeadAt.new w a b (.int .i64 m) v
  have hB0 := below_alloc w (.cells #[a, b, .int .i64 m, v] 34)
  obtain ⟨w0, hw0⟩ : ∃ w0, w0 = w.alloc (.cells #[a, b, .int .i64 m, v] 34) := ⟨_, rfl⟩
  have hsz0 : w0.heap.size = w.heap.size + 1 := by rw [hw0]; simp
  rw [← hw0] at hV hH0 hB0
  have HW0 := hid hw0
  have HS0 := hid (hS.below hB0)
  have HB0 := hid hB0
  have HH0 := hid hH0
  have hb1 := valsF_bound (nm := clS) hb
  have hb2 := valsF_bound (nm := teS) hb
  have hl1 : (valsF fs clS).length ≤ fs.length := by unfold valsF; rw [List.length_map]; exact List.length_filter_le _ _
  have hl2 : (valsF fs teS).length ≤ fs.length := by unfold valsF; rw [List.length_map]; exact List.length_filter_le _ _
  obtain ⟨ys, hys⟩ : ∃ ys, ys = valsF fs clS := ⟨_, rfl⟩
  obtain ⟨zs, hzs⟩ : ∃ zs, zs = valsF fs teS := ⟨_, rfl⟩
  rw [← hys] at hV hb1 hl1 ⊢
  rw [← hzs] at HV2 hb2 hl2 ⊢
  rw [show (⟨clS.toArray⟩ : ByteArray) = ⟨#[99, 111, 110, 116, 101, 110, 116, 45, 108, 101, 110, 103, 116, 104]⟩ from rfl] at hV
  rw [show (⟨teS.toArray⟩ : ByteArray) = ⟨#[116, 114, 97, 110, 115, 102, 101, 114, 45, 101, 110, 99, 111, 100, 105, 110, 103]⟩ from rfl] at HV2
  have HL := hid (fun v1 w1 (hs : SeesS w1 v1 ys) hne => lengths_any v1 ys w1 hs hne (fun x hx => by have := hb1 x hx; omega) (by omega))
  have HC := hid (fun v1 w1 (hs : SeesS w1 v1 zs) => codings_any v1 zs m w1 hs (fun x hx => by have := hb2 x hx; omega))
  obtain ⟨V, hVe⟩ : ∃ V, V = (if 0 < ys.length ∧ 0 < zs.length then ((0 : Int), (0 : Int), (400 : Int)) else if 0 < zs.length then codL zs m else if 0 < ys.length then lenL ys else (0, 0, 0)) := ⟨_, rfl⟩
  rw [← hVe]
  have HE := hid hVe
  clear hw0 hH0 hys hzs hS hB0 hb hb1 hb2 hVe
  go_enter Tryz.func53, Tryz.ntmps53
  go_wp2_with fail
  rw [← HW0.out]
  obtain ⟨z0, z1, z2, z3, _, _, _, _⟩ := HH0.out.cells
  go_region_law
    (first
      | (go_simp
         refine hV.mono ?_
         rintro e' w1 ⟨v1, rfl, hO1, hB1⟩
         obtain ⟨ao1, cap1, rfl⟩ := hO1.shape
         have hB1' : Below w0.heap.size w0 w1 := (Below.drew (Below.refl w0.heap.size w0)).trans hB1
         have hH1 := HH0.out.below hB1' HH0.out.lt
         obtain ⟨p0, p1, p2, p3, _, _, _, _⟩ := hH1.cells
         have hV2 := HV2.out w1 (HS0.out.below hB1')
         have HB1 := hid (HB0.out.trans (hB1'.mono HB0.out.size))
         have HO1 := hid hO1
         have HH1 := hid hH1
         clear hB1 hB1' hO1 hH1 hV HV2)
      | (go_simp
         refine hV2.mono ?_
         rintro e' w2 ⟨v2, rfl, hO2, hB2⟩
         obtain ⟨ao2, cap2, rfl⟩ := hO2.shape
         have hH2 := HH1.out.below hB2 HH1.out.lt
         have HB2 := hid (HB1.out.trans (hB2.mono HB1.out.size))
         have hS1 := (HO1.out.below hB2).sees
         have hS2 := hO2.sees
         obtain ⟨q0, q1, q2, q3, _, _, _, _⟩ := hH2.cells
         have hC := HC.out _ w2 hS2
         have hLg := HL.out _ w2 hS1
         clear hS1 hS2 hB2 hO2 hH2 HO1 HH1 HB1 HC HL p0 p1 p2 p3 hV2))
  all_goals
    by_cases h1 : 0 < ys.length
    · have h1' : (0 : Int) < (ys.length : Int) := by omega
      by_cases h2 : 0 < zs.length
      · have h2' : (0 : Int) < (zs.length : Int) := by omega
        rw [if_pos ⟨h1, h2⟩] at HE
        clear h1 h2 hC hLg
        go_wp2
        go_ret3
        exact ⟨by rw [HE.out]; rfl, HB2.out⟩
      · have h2' : ¬ (0 : Int) < (zs.length : Int) := by omega
        rw [if_neg (fun h => h2 h.2), if_neg h2, if_pos h1] at HE
        have hLg := hLg (List.length_pos_iff.1 h1)
        clear h1 h2 hC
        go_wp2_with fail
        refine hLg.mono ?_
        clear hLg
        rintro e w3 ⟨rfl, hB3⟩
        have HB3 := hid (HB2.out.trans (hB3.mono HB2.out.size))
        unfold outB
        clear hB3
        go_wp2
        go_ret3
        exact ⟨by rw [HE.out]; rfl, HB3.out⟩
    · have h1' : ¬ (0 : Int) < (ys.length : Int) := by omega
      by_cases h2 : 0 < zs.length
      · have h2' : (0 : Int) < (zs.length : Int) := by omega
        rw [if_neg (fun h => h1 h.1), if_pos h2] at HE
        clear h1 h2 hLg
        go_wp2_with fail
        refine hC.mono ?_
        clear hC
        rintro e w3 ⟨rfl, hB3⟩
        have HB3 := hid (HB2.out.trans (hB3.mono HB2.out.size))
        unfold outB
        clear hB3
        go_wp2
        go_ret3
        exact ⟨by rw [HE.out]; rfl, HB3.out⟩
      · have h2' : ¬ (0 : Int) < (zs.length : Int) := by omega
        rw [if_neg (fun h => h1 h.1), if_neg h2, if_neg h1] at HE
        clear h1 h2 hC hLg
        go_wp2
        go_ret3
        exact ⟨by rw [HE.out]; rfl, HB2.out⟩
end Go.Proofs.YtllhibdjopfcnaaGreatDoor
