/-
  The walk of SetAlgebra: it returns true for any three lists that are not too long.
-/
import Derived.Test.YtaillppmfbbnjaaAwake
namespace Go.Proofs.Ytaillppmfbbnjaa
open Go.RowKit
set_option linter.unusedVariables false

set_option maxHeartbeats 4000000 in
theorem algebra_walk (v u t : Value) (xs ys zs : List Int) (w : World) (hv_0 : Sees w v xs) (hu_0 : Sees w u ys) (ht_0 : Sees w t zs) (hb : xs.length + ys.length + zs.length ≤ 1048576) :
    Calls Try.prog 6 #[v, u, t] w fun e w' => e = .returned (.bool true) ∧ Below w.heap.size w w' := by
  go_enter Try.func6, Try.ntmps6
  have hZ0 : Below w.heap.size w w := Below.refl _ _
  go_wp2_with fail
  refine (join_any _ _ xs ys _ hv_0 hu_0 (by omega)).mono ?_
  rintro e w1 ⟨p1, rfl, hO, hB⟩
  obtain ⟨Lp1, eL⟩ : ∃ L, L = sd (xs ++ ys) := ⟨_, rfl⟩
  rw [← eL] at hO
  have mp1 : Hid (∀ z, z ∈ Lp1 ↔ ((z ∈ xs) ∨ (z ∈ ys))) := fun z => by rw [eL, mem_sd, List.mem_append]
  have rp1 : Hid (Lp1.Pairwise (· < ·)) := by rw [eL]; exact sd_rises _
  have lp1 : Lp1.length ≤ xs.length + ys.length := by rw [eL]; exact Nat.le_trans (length_sd_le _) (by rw [List.length_append]; exact Nat.le_refl _)
  have hZ1 := hZ0.trans (hB.mono hZ0.size)
  have hv_1 := hv_0.below hB
  have hu_1 := hu_0.below hB
  have ht_1 := ht_0.below hB
  clear hZ0 hv_0 hu_0 ht_0
  have hp1_1 := hO.sees
  clear hO hB eL
  go_wp2_with fail
  refine (join_any _ _ ys xs _ hu_1 hv_1 (by omega)).mono ?_
  rintro e w2 ⟨p2, rfl, hO, hB⟩
  obtain ⟨Lp2, eL⟩ : ∃ L, L = sd (ys ++ xs) := ⟨_, rfl⟩
  rw [← eL] at hO
  have mp2 : Hid (∀ z, z ∈ Lp2 ↔ ((z ∈ ys) ∨ (z ∈ xs))) := fun z => by rw [eL, mem_sd, List.mem_append]
  have rp2 : Hid (Lp2.Pairwise (· < ·)) := by rw [eL]; exact sd_rises _
  have lp2 : Lp2.length ≤ ys.length + xs.length := by rw [eL]; exact Nat.le_trans (length_sd_le _) (by rw [List.length_append]; exact Nat.le_refl _)
  have hZ2 := hZ1.trans (hB.mono hZ1.size)
  have hv_2 := hv_1.below hB
  have hu_2 := hu_1.below hB
  have ht_2 := ht_1.below hB
  have hp1_2 := hp1_1.below hB
  clear hZ1 hv_1 hu_1 ht_1 hp1_1
  have hp2_2 := hO.sees
  clear hO hB eL
  go_wp2_with fail
  have hM := same_any _ _ Lp1 Lp2 _ hp1_2 hp2_2 (by omega) (by omega)
  have he : decide (Lp1 = Lp2) = true := decide_eq_true (ordI.uniq rp1.out rp2.out (fun z => by rw [mp1.out, mp2.out]; by_cases hxs : z ∈ xs <;> by_cases hys : z ∈ ys <;> simp [hxs, hys]))
  rw [he] at hM
  refine hM.mono ?_
  clear hM he
  rintro e w3 ⟨rfl, hB⟩
  have hZ3 := hZ2.trans (hB.mono hZ2.size)
  have hv_3 := hv_2.below hB
  have hu_3 := hu_2.below hB
  have ht_3 := ht_2.below hB
  have hp1_3 := hp1_2.below hB
  have hp2_3 := hp2_2.below hB
  clear hZ2 hv_2 hu_2 ht_2 hp1_2 hp2_2
  clear hB
  go_wp2_with fail
  refine (meet_any _ _ xs ys _ hv_3 hu_3 (by omega)).mono ?_
  rintro e w4 ⟨p3, rfl, hO, hB⟩
  obtain ⟨Lp3, eL⟩ : ∃ L, L = meetL xs ys := ⟨_, rfl⟩
  rw [← eL] at hO
  have mp3 : Hid (∀ z, z ∈ Lp3 ↔ ((z ∈ xs) ∧ (z ∈ ys))) := fun z => by rw [eL, mem_meetL]
  have rp3 : Hid (Lp3.Pairwise (· < ·)) := by rw [eL]; exact meetL_rises _ _
  have lp3 : Lp3.length ≤ xs.length := by rw [eL]; exact length_meetL _ _
  have hZ4 := hZ3.trans (hB.mono hZ3.size)
  have hv_4 := hv_3.below hB
  have hu_4 := hu_3.below hB
  have ht_4 := ht_3.below hB
  clear hZ3 hv_3 hu_3 ht_3
  have hp3_4 := hO.sees
  clear hO hB eL
  go_wp2_with fail
  refine (meet_any _ _ ys xs _ hu_4 hv_4 (by omega)).mono ?_
  rintro e w5 ⟨p4, rfl, hO, hB⟩
  obtain ⟨Lp4, eL⟩ : ∃ L, L = meetL ys xs := ⟨_, rfl⟩
  rw [← eL] at hO
  have mp4 : Hid (∀ z, z ∈ Lp4 ↔ ((z ∈ ys) ∧ (z ∈ xs))) := fun z => by rw [eL, mem_meetL]
  have rp4 : Hid (Lp4.Pairwise (· < ·)) := by rw [eL]; exact meetL_rises _ _
  have lp4 : Lp4.length ≤ ys.length := by rw [eL]; exact length_meetL _ _
  have hZ5 := hZ4.trans (hB.mono hZ4.size)
  have hv_5 := hv_4.below hB
  have hu_5 := hu_4.below hB
  have ht_5 := ht_4.below hB
  have hp3_5 := hp3_4.below hB
  clear hZ4 hv_4 hu_4 ht_4 hp3_4
  have hp4_5 := hO.sees
  clear hO hB eL
  go_wp2_with fail
  have hM := same_any _ _ Lp3 Lp4 _ hp3_5 hp4_5 (by omega) (by omega)
  have he : decide (Lp3 = Lp4) = true := decide_eq_true (ordI.uniq rp3.out rp4.out (fun z => by rw [mp3.out, mp4.out]; by_cases hxs : z ∈ xs <;> by_cases hys : z ∈ ys <;> simp [hxs, hys]))
  rw [he] at hM
  refine hM.mono ?_
  clear hM he
  rintro e w6 ⟨rfl, hB⟩
  have hZ6 := hZ5.trans (hB.mono hZ5.size)
  have hv_6 := hv_5.below hB
  have hu_6 := hu_5.below hB
  have ht_6 := ht_5.below hB
  have hp3_6 := hp3_5.below hB
  have hp4_6 := hp4_5.below hB
  clear hZ5 hv_5 hu_5 ht_5 hp3_5 hp4_5
  clear hB
  go_wp2_with fail
  refine (join_any _ _ xs ys _ hv_6 hu_6 (by omega)).mono ?_
  rintro e w7 ⟨p5, rfl, hO, hB⟩
  obtain ⟨Lp5, eL⟩ : ∃ L, L = sd (xs ++ ys) := ⟨_, rfl⟩
  rw [← eL] at hO
  have mp5 : Hid (∀ z, z ∈ Lp5 ↔ ((z ∈ xs) ∨ (z ∈ ys))) := fun z => by rw [eL, mem_sd, List.mem_append]
  have rp5 : Hid (Lp5.Pairwise (· < ·)) := by rw [eL]; exact sd_rises _
  have lp5 : Lp5.length ≤ xs.length + ys.length := by rw [eL]; exact Nat.le_trans (length_sd_le _) (by rw [List.length_append]; exact Nat.le_refl _)
  have hZ7 := hZ6.trans (hB.mono hZ6.size)
  have hv_7 := hv_6.below hB
  have hu_7 := hu_6.below hB
  have ht_7 := ht_6.below hB
  clear hZ6 hv_6 hu_6 ht_6
  have hp5_7 := hO.sees
  clear hO hB eL
  go_wp2_with fail
  refine (join_any _ _ Lp5 zs _ hp5_7 ht_7 (by omega)).mono ?_
  rintro e w8 ⟨x1, rfl, hO, hB⟩
  obtain ⟨Lx1, eL⟩ : ∃ L, L = sd (Lp5 ++ zs) := ⟨_, rfl⟩
  rw [← eL] at hO
  have mx1 : Hid (∀ z, z ∈ Lx1 ↔ ((((z ∈ xs) ∨ (z ∈ ys))) ∨ (z ∈ zs))) := fun z => by rw [eL, mem_sd, List.mem_append, mp5.out]
  have rx1 : Hid (Lx1.Pairwise (· < ·)) := by rw [eL]; exact sd_rises _
  have lx1 : Lx1.length ≤ Lp5.length + zs.length := by rw [eL]; exact Nat.le_trans (length_sd_le _) (by rw [List.length_append]; exact Nat.le_refl _)
  have hZ8 := hZ7.trans (hB.mono hZ7.size)
  have hv_8 := hv_7.below hB
  have hu_8 := hu_7.below hB
  have ht_8 := ht_7.below hB
  have hp5_8 := hp5_7.below hB
  clear hZ7 hv_7 hu_7 ht_7 hp5_7
  have hx1_8 := hO.sees
  clear hO hB eL
  go_wp2_with fail
  refine (join_any _ _ ys zs _ hu_8 ht_8 (by omega)).mono ?_
  rintro e w9 ⟨p6, rfl, hO, hB⟩
  obtain ⟨Lp6, eL⟩ : ∃ L, L = sd (ys ++ zs) := ⟨_, rfl⟩
  rw [← eL] at hO
  have mp6 : Hid (∀ z, z ∈ Lp6 ↔ ((z ∈ ys) ∨ (z ∈ zs))) := fun z => by rw [eL, mem_sd, List.mem_append]
  have rp6 : Hid (Lp6.Pairwise (· < ·)) := by rw [eL]; exact sd_rises _
  have lp6 : Lp6.length ≤ ys.length + zs.length := by rw [eL]; exact Nat.le_trans (length_sd_le _) (by rw [List.length_append]; exact Nat.le_refl _)
  have hZ9 := hZ8.trans (hB.mono hZ8.size)
  have hv_9 := hv_8.below hB
  have hu_9 := hu_8.below hB
  have ht_9 := ht_8.below hB
  have hx1_9 := hx1_8.below hB
  clear hZ8 hv_8 hu_8 ht_8 hx1_8
  have hp6_9 := hO.sees
  clear hO hB eL
  go_wp2_with fail
  refine (join_any _ _ xs Lp6 _ hv_9 hp6_9 (by omega)).mono ?_
  rintro e w10 ⟨y1, rfl, hO, hB⟩
  obtain ⟨Ly1, eL⟩ : ∃ L, L = sd (xs ++ Lp6) := ⟨_, rfl⟩
  rw [← eL] at hO
  have my1 : Hid (∀ z, z ∈ Ly1 ↔ ((z ∈ xs) ∨ (((z ∈ ys) ∨ (z ∈ zs))))) := fun z => by rw [eL, mem_sd, List.mem_append, mp6.out]
  have ry1 : Hid (Ly1.Pairwise (· < ·)) := by rw [eL]; exact sd_rises _
  have ly1 : Ly1.length ≤ xs.length + Lp6.length := by rw [eL]; exact Nat.le_trans (length_sd_le _) (by rw [List.length_append]; exact Nat.le_refl _)
  have hZ10 := hZ9.trans (hB.mono hZ9.size)
  have hv_10 := hv_9.below hB
  have hu_10 := hu_9.below hB
  have ht_10 := ht_9.below hB
  have hx1_10 := hx1_9.below hB
  have hp6_10 := hp6_9.below hB
  clear hZ9 hv_9 hu_9 ht_9 hx1_9 hp6_9
  have hy1_10 := hO.sees
  clear hO hB eL
  go_wp2_with fail
  refine (meet_any _ _ xs ys _ hv_10 hu_10 (by omega)).mono ?_
  rintro e w11 ⟨p7, rfl, hO, hB⟩
  obtain ⟨Lp7, eL⟩ : ∃ L, L = meetL xs ys := ⟨_, rfl⟩
  rw [← eL] at hO
  have mp7 : Hid (∀ z, z ∈ Lp7 ↔ ((z ∈ xs) ∧ (z ∈ ys))) := fun z => by rw [eL, mem_meetL]
  have rp7 : Hid (Lp7.Pairwise (· < ·)) := by rw [eL]; exact meetL_rises _ _
  have lp7 : Lp7.length ≤ xs.length := by rw [eL]; exact length_meetL _ _
  have hZ11 := hZ10.trans (hB.mono hZ10.size)
  have hv_11 := hv_10.below hB
  have hu_11 := hu_10.below hB
  have ht_11 := ht_10.below hB
  have hx1_11 := hx1_10.below hB
  have hy1_11 := hy1_10.below hB
  clear hZ10 hv_10 hu_10 ht_10 hx1_10 hy1_10
  have hp7_11 := hO.sees
  clear hO hB eL
  go_wp2_with fail
  refine (meet_any _ _ Lp7 zs _ hp7_11 ht_11 (by omega)).mono ?_
  rintro e w12 ⟨x2, rfl, hO, hB⟩
  obtain ⟨Lx2, eL⟩ : ∃ L, L = meetL Lp7 zs := ⟨_, rfl⟩
  rw [← eL] at hO
  have mx2 : Hid (∀ z, z ∈ Lx2 ↔ ((((z ∈ xs) ∧ (z ∈ ys))) ∧ (z ∈ zs))) := fun z => by rw [eL, mem_meetL, mp7.out]
  have rx2 : Hid (Lx2.Pairwise (· < ·)) := by rw [eL]; exact meetL_rises _ _
  have lx2 : Lx2.length ≤ Lp7.length := by rw [eL]; exact length_meetL _ _
  have hZ12 := hZ11.trans (hB.mono hZ11.size)
  have hv_12 := hv_11.below hB
  have hu_12 := hu_11.below hB
  have ht_12 := ht_11.below hB
  have hx1_12 := hx1_11.below hB
  have hy1_12 := hy1_11.below hB
  have hp7_12 := hp7_11.below hB
  clear hZ11 hv_11 hu_11 ht_11 hx1_11 hy1_11 hp7_11
  have hx2_12 := hO.sees
  clear hO hB eL
  go_wp2_with fail
  refine (meet_any _ _ ys zs _ hu_12 ht_12 (by omega)).mono ?_
  rintro e w13 ⟨p8, rfl, hO, hB⟩
  obtain ⟨Lp8, eL⟩ : ∃ L, L = meetL ys zs := ⟨_, rfl⟩
  rw [← eL] at hO
  have mp8 : Hid (∀ z, z ∈ Lp8 ↔ ((z ∈ ys) ∧ (z ∈ zs))) := fun z => by rw [eL, mem_meetL]
  have rp8 : Hid (Lp8.Pairwise (· < ·)) := by rw [eL]; exact meetL_rises _ _
  have lp8 : Lp8.length ≤ ys.length := by rw [eL]; exact length_meetL _ _
  have hZ13 := hZ12.trans (hB.mono hZ12.size)
  have hv_13 := hv_12.below hB
  have hu_13 := hu_12.below hB
  have ht_13 := ht_12.below hB
  have hx1_13 := hx1_12.below hB
  have hy1_13 := hy1_12.below hB
  have hx2_13 := hx2_12.below hB
  clear hZ12 hv_12 hu_12 ht_12 hx1_12 hy1_12 hx2_12
  have hp8_13 := hO.sees
  clear hO hB eL
  go_wp2_with fail
  refine (meet_any _ _ xs Lp8 _ hv_13 hp8_13 (by omega)).mono ?_
  rintro e w14 ⟨y2, rfl, hO, hB⟩
  obtain ⟨Ly2, eL⟩ : ∃ L, L = meetL xs Lp8 := ⟨_, rfl⟩
  rw [← eL] at hO
  have my2 : Hid (∀ z, z ∈ Ly2 ↔ ((z ∈ xs) ∧ (((z ∈ ys) ∧ (z ∈ zs))))) := fun z => by rw [eL, mem_meetL, mp8.out]
  have ry2 : Hid (Ly2.Pairwise (· < ·)) := by rw [eL]; exact meetL_rises _ _
  have ly2 : Ly2.length ≤ xs.length := by rw [eL]; exact length_meetL _ _
  have hZ14 := hZ13.trans (hB.mono hZ13.size)
  have hv_14 := hv_13.below hB
  have hu_14 := hu_13.below hB
  have ht_14 := ht_13.below hB
  have hx1_14 := hx1_13.below hB
  have hy1_14 := hy1_13.below hB
  have hx2_14 := hx2_13.below hB
  have hp8_14 := hp8_13.below hB
  clear hZ13 hv_13 hu_13 ht_13 hx1_13 hy1_13 hx2_13 hp8_13
  have hy2_14 := hO.sees
  clear hO hB eL
  go_wp2_with fail
  refine (join_any _ _ ys zs _ hu_14 ht_14 (by omega)).mono ?_
  rintro e w15 ⟨p9, rfl, hO, hB⟩
  obtain ⟨Lp9, eL⟩ : ∃ L, L = sd (ys ++ zs) := ⟨_, rfl⟩
  rw [← eL] at hO
  have mp9 : Hid (∀ z, z ∈ Lp9 ↔ ((z ∈ ys) ∨ (z ∈ zs))) := fun z => by rw [eL, mem_sd, List.mem_append]
  have rp9 : Hid (Lp9.Pairwise (· < ·)) := by rw [eL]; exact sd_rises _
  have lp9 : Lp9.length ≤ ys.length + zs.length := by rw [eL]; exact Nat.le_trans (length_sd_le _) (by rw [List.length_append]; exact Nat.le_refl _)
  have hZ15 := hZ14.trans (hB.mono hZ14.size)
  have hv_15 := hv_14.below hB
  have hu_15 := hu_14.below hB
  have ht_15 := ht_14.below hB
  have hx1_15 := hx1_14.below hB
  have hy1_15 := hy1_14.below hB
  have hx2_15 := hx2_14.below hB
  have hy2_15 := hy2_14.below hB
  clear hZ14 hv_14 hu_14 ht_14 hx1_14 hy1_14 hx2_14 hy2_14
  have hp9_15 := hO.sees
  clear hO hB eL
  go_wp2_with fail
  refine (meet_any _ _ xs Lp9 _ hv_15 hp9_15 (by omega)).mono ?_
  rintro e w16 ⟨x3, rfl, hO, hB⟩
  obtain ⟨Lx3, eL⟩ : ∃ L, L = meetL xs Lp9 := ⟨_, rfl⟩
  rw [← eL] at hO
  have mx3 : Hid (∀ z, z ∈ Lx3 ↔ ((z ∈ xs) ∧ (((z ∈ ys) ∨ (z ∈ zs))))) := fun z => by rw [eL, mem_meetL, mp9.out]
  have rx3 : Hid (Lx3.Pairwise (· < ·)) := by rw [eL]; exact meetL_rises _ _
  have lx3 : Lx3.length ≤ xs.length := by rw [eL]; exact length_meetL _ _
  have hZ16 := hZ15.trans (hB.mono hZ15.size)
  have hv_16 := hv_15.below hB
  have hu_16 := hu_15.below hB
  have ht_16 := ht_15.below hB
  have hx1_16 := hx1_15.below hB
  have hy1_16 := hy1_15.below hB
  have hx2_16 := hx2_15.below hB
  have hy2_16 := hy2_15.below hB
  have hp9_16 := hp9_15.below hB
  clear hZ15 hv_15 hu_15 ht_15 hx1_15 hy1_15 hx2_15 hy2_15 hp9_15
  have hx3_16 := hO.sees
  clear hO hB eL
  go_wp2_with fail
  refine (meet_any _ _ xs ys _ hv_16 hu_16 (by omega)).mono ?_
  rintro e w17 ⟨q1, rfl, hO, hB⟩
  obtain ⟨Lq1, eL⟩ : ∃ L, L = meetL xs ys := ⟨_, rfl⟩
  rw [← eL] at hO
  have mq1 : Hid (∀ z, z ∈ Lq1 ↔ ((z ∈ xs) ∧ (z ∈ ys))) := fun z => by rw [eL, mem_meetL]
  have rq1 : Hid (Lq1.Pairwise (· < ·)) := by rw [eL]; exact meetL_rises _ _
  have lq1 : Lq1.length ≤ xs.length := by rw [eL]; exact length_meetL _ _
  have hZ17 := hZ16.trans (hB.mono hZ16.size)
  have hv_17 := hv_16.below hB
  have hu_17 := hu_16.below hB
  have ht_17 := ht_16.below hB
  have hx1_17 := hx1_16.below hB
  have hy1_17 := hy1_16.below hB
  have hx2_17 := hx2_16.below hB
  have hy2_17 := hy2_16.below hB
  have hx3_17 := hx3_16.below hB
  clear hZ16 hv_16 hu_16 ht_16 hx1_16 hy1_16 hx2_16 hy2_16 hx3_16
  have hq1_17 := hO.sees
  clear hO hB eL
  go_wp2_with fail
  refine (meet_any _ _ xs zs _ hv_17 ht_17 (by omega)).mono ?_
  rintro e w18 ⟨q2, rfl, hO, hB⟩
  obtain ⟨Lq2, eL⟩ : ∃ L, L = meetL xs zs := ⟨_, rfl⟩
  rw [← eL] at hO
  have mq2 : Hid (∀ z, z ∈ Lq2 ↔ ((z ∈ xs) ∧ (z ∈ zs))) := fun z => by rw [eL, mem_meetL]
  have rq2 : Hid (Lq2.Pairwise (· < ·)) := by rw [eL]; exact meetL_rises _ _
  have lq2 : Lq2.length ≤ xs.length := by rw [eL]; exact length_meetL _ _
  have hZ18 := hZ17.trans (hB.mono hZ17.size)
  have hv_18 := hv_17.below hB
  have hu_18 := hu_17.below hB
  have ht_18 := ht_17.below hB
  have hx1_18 := hx1_17.below hB
  have hy1_18 := hy1_17.below hB
  have hx2_18 := hx2_17.below hB
  have hy2_18 := hy2_17.below hB
  have hx3_18 := hx3_17.below hB
  have hq1_18 := hq1_17.below hB
  clear hZ17 hv_17 hu_17 ht_17 hx1_17 hy1_17 hx2_17 hy2_17 hx3_17 hq1_17
  have hq2_18 := hO.sees
  clear hO hB eL
  go_wp2_with fail
  refine (join_any _ _ Lq1 Lq2 _ hq1_18 hq2_18 (by omega)).mono ?_
  rintro e w19 ⟨y3, rfl, hO, hB⟩
  obtain ⟨Ly3, eL⟩ : ∃ L, L = sd (Lq1 ++ Lq2) := ⟨_, rfl⟩
  rw [← eL] at hO
  have my3 : Hid (∀ z, z ∈ Ly3 ↔ ((((z ∈ xs) ∧ (z ∈ ys))) ∨ (((z ∈ xs) ∧ (z ∈ zs))))) := fun z => by rw [eL, mem_sd, List.mem_append, mq1.out, mq2.out]
  have ry3 : Hid (Ly3.Pairwise (· < ·)) := by rw [eL]; exact sd_rises _
  have ly3 : Ly3.length ≤ Lq1.length + Lq2.length := by rw [eL]; exact Nat.le_trans (length_sd_le _) (by rw [List.length_append]; exact Nat.le_refl _)
  have hZ19 := hZ18.trans (hB.mono hZ18.size)
  have hv_19 := hv_18.below hB
  have hu_19 := hu_18.below hB
  have ht_19 := ht_18.below hB
  have hx1_19 := hx1_18.below hB
  have hy1_19 := hy1_18.below hB
  have hx2_19 := hx2_18.below hB
  have hy2_19 := hy2_18.below hB
  have hx3_19 := hx3_18.below hB
  have hq1_19 := hq1_18.below hB
  have hq2_19 := hq2_18.below hB
  clear hZ18 hv_18 hu_18 ht_18 hx1_18 hy1_18 hx2_18 hy2_18 hx3_18 hq1_18 hq2_18
  have hy3_19 := hO.sees
  clear hO hB eL
  go_wp2_with fail
  have hM := same_any _ _ Lx1 Ly1 _ hx1_19 hy1_19 (by omega) (by omega)
  have he : decide (Lx1 = Ly1) = true := decide_eq_true (ordI.uniq rx1.out ry1.out (fun z => by rw [mx1.out, my1.out]; by_cases hxs : z ∈ xs <;> by_cases hys : z ∈ ys <;> by_cases hzs : z ∈ zs <;> simp [hxs, hys, hzs]))
  rw [he] at hM
  refine hM.mono ?_
  clear hM he
  rintro e w20 ⟨rfl, hB⟩
  have hZ20 := hZ19.trans (hB.mono hZ19.size)
  have hv_20 := hv_19.below hB
  have hu_20 := hu_19.below hB
  have ht_20 := ht_19.below hB
  have hx1_20 := hx1_19.below hB
  have hy1_20 := hy1_19.below hB
  have hx2_20 := hx2_19.below hB
  have hy2_20 := hy2_19.below hB
  have hx3_20 := hx3_19.below hB
  have hy3_20 := hy3_19.below hB
  clear hZ19 hv_19 hu_19 ht_19 hx1_19 hy1_19 hx2_19 hy2_19 hx3_19 hy3_19
  clear hB
  go_wp2_with fail
  have hM := same_any _ _ Lx2 Ly2 _ hx2_20 hy2_20 (by omega) (by omega)
  have he : decide (Lx2 = Ly2) = true := decide_eq_true (ordI.uniq rx2.out ry2.out (fun z => by rw [mx2.out, my2.out]; by_cases hxs : z ∈ xs <;> by_cases hys : z ∈ ys <;> by_cases hzs : z ∈ zs <;> simp [hxs, hys, hzs]))
  rw [he] at hM
  refine hM.mono ?_
  clear hM he
  rintro e w21 ⟨rfl, hB⟩
  have hZ21 := hZ20.trans (hB.mono hZ20.size)
  have hv_21 := hv_20.below hB
  have hu_21 := hu_20.below hB
  have ht_21 := ht_20.below hB
  have hx2_21 := hx2_20.below hB
  have hy2_21 := hy2_20.below hB
  have hx3_21 := hx3_20.below hB
  have hy3_21 := hy3_20.below hB
  clear hZ20 hv_20 hu_20 ht_20 hx2_20 hy2_20 hx3_20 hy3_20
  clear hB
  go_wp2_with fail
  have hM := same_any _ _ Lx3 Ly3 _ hx3_21 hy3_21 (by omega) (by omega)
  have he : decide (Lx3 = Ly3) = true := decide_eq_true (ordI.uniq rx3.out ry3.out (fun z => by rw [mx3.out, my3.out]; by_cases hxs : z ∈ xs <;> by_cases hys : z ∈ ys <;> by_cases hzs : z ∈ zs <;> simp [hxs, hys, hzs]))
  rw [he] at hM
  refine hM.mono ?_
  clear hM he
  rintro e w22 ⟨rfl, hB⟩
  have hZ22 := hZ21.trans (hB.mono hZ21.size)
  have hv_22 := hv_21.below hB
  have hu_22 := hu_21.below hB
  have ht_22 := ht_21.below hB
  have hx3_22 := hx3_21.below hB
  have hy3_22 := hy3_21.below hB
  clear hZ21 hv_21 hu_21 ht_21 hx3_21 hy3_21
  clear hB
  go_wp2_with fail
  refine (of_any _ xs _ hv_22 (by omega)).mono ?_
  rintro e w23 ⟨o1, rfl, hO, hB⟩
  obtain ⟨Lo1, eL⟩ : ∃ L, L = sd xs := ⟨_, rfl⟩
  rw [← eL] at hO
  have mo1 : Hid (∀ z, z ∈ Lo1 ↔ z ∈ xs) := fun z => by rw [eL, mem_sd]
  have ro1 : Hid (Lo1.Pairwise (· < ·)) := by rw [eL]; exact sd_rises _
  have lo1 : Lo1.length ≤ xs.length := by rw [eL]; exact length_sd_le _
  have hZ23 := hZ22.trans (hB.mono hZ22.size)
  have hv_23 := hv_22.below hB
  have hu_23 := hu_22.below hB
  have ht_23 := ht_22.below hB
  clear hZ22 hv_22 hu_22 ht_22
  have ho1_23 := hO.sees
  clear hO hB eL
  go_wp2_with fail
  refine (of_any _ Lo1 _ ho1_23 (by omega)).mono ?_
  rintro e w24 ⟨o2, rfl, hO, hB⟩
  obtain ⟨Lo2, eL⟩ : ∃ L, L = sd Lo1 := ⟨_, rfl⟩
  rw [← eL] at hO
  have mo2 : Hid (∀ z, z ∈ Lo2 ↔ z ∈ xs) := fun z => by rw [eL, mem_sd, mo1.out]
  have ro2 : Hid (Lo2.Pairwise (· < ·)) := by rw [eL]; exact sd_rises _
  have lo2 : Lo2.length ≤ Lo1.length := by rw [eL]; exact length_sd_le _
  have hZ24 := hZ23.trans (hB.mono hZ23.size)
  have hv_24 := hv_23.below hB
  have hu_24 := hu_23.below hB
  have ht_24 := ht_23.below hB
  have ho1_24 := ho1_23.below hB
  clear hZ23 hv_23 hu_23 ht_23 ho1_23
  have ho2_24 := hO.sees
  clear hO hB eL
  go_wp2_with fail
  refine (of_any _ xs _ hv_24 (by omega)).mono ?_
  rintro e w25 ⟨o3, rfl, hO, hB⟩
  obtain ⟨Lo3, eL⟩ : ∃ L, L = sd xs := ⟨_, rfl⟩
  rw [← eL] at hO
  have mo3 : Hid (∀ z, z ∈ Lo3 ↔ z ∈ xs) := fun z => by rw [eL, mem_sd]
  have ro3 : Hid (Lo3.Pairwise (· < ·)) := by rw [eL]; exact sd_rises _
  have lo3 : Lo3.length ≤ xs.length := by rw [eL]; exact length_sd_le _
  have hZ25 := hZ24.trans (hB.mono hZ24.size)
  have hv_25 := hv_24.below hB
  have hu_25 := hu_24.below hB
  have ht_25 := ht_24.below hB
  have ho2_25 := ho2_24.below hB
  clear hZ24 hv_24 hu_24 ht_24 ho2_24
  have ho3_25 := hO.sees
  clear hO hB eL
  go_wp2_with fail
  have hM := same_any _ _ Lo2 Lo3 _ ho2_25 ho3_25 (by omega) (by omega)
  have he : decide (Lo2 = Lo3) = true := decide_eq_true (ordI.uniq ro2.out ro3.out (fun z => by rw [mo2.out, mo3.out]))
  rw [he] at hM
  refine hM.mono ?_
  clear hM he
  rintro e w26 ⟨rfl, hB⟩
  have hZ26 := hZ25.trans (hB.mono hZ25.size)
  have hv_26 := hv_25.below hB
  have hu_26 := hu_25.below hB
  have ht_26 := ht_25.below hB
  have ho2_26 := ho2_25.below hB
  have ho3_26 := ho3_25.below hB
  clear hZ25 hv_25 hu_25 ht_25 ho2_25 ho3_25
  clear hB
  go_wp2_with fail
  refine (awake_any _).mono ?_
  rintro e w27 ⟨rfl, hB⟩
  have hZ27 := hZ26.trans (hB.mono hZ26.size)
  have hv_27 := hv_26.below hB
  have hu_27 := hu_26.below hB
  have ht_27 := ht_26.below hB
  clear hZ26 hv_26 hu_26 ht_26
  go_wp2
  go_ret
  exact ⟨rfl, hZ27⟩

end Go.Proofs.Ytaillppmfbbnjaa
