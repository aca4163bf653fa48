/-
  The walk of SetParts: it returns true for any two lists that are not too long.
-/
import Derived.Test.YtaillppmfbbnjaaAwake
namespace Go.Proofs.Ytaillppmfbbnjaa
open Go.RowKit
set_option linter.unusedVariables false

theorem within_len (xs ys : List Int) : withinB xs ys = (((lessL xs ys).length : Int) == 0) := by
  unfold withinB
  cases lessL xs ys <;> simp
  omega

theorem parts_same {xs ys J O : List Int} (rj : J.Pairwise (· < ·)) (ro : O.Pairwise (· < ·)) (mj : ∀ z, z ∈ J ↔ ((z ∈ xs) ∨ (z ∈ ys))) (mo : ∀ z, z ∈ O ↔ z ∈ ys) : decide (J = O) = withinB xs ys := by
  unfold withinB
  rw [decide_eq_decide, lessL_nil]
  constructor
  · intro h z hz
    rw [← mo, ← h, mj]
    exact Or.inl hz
  · intro h
    refine ordI.uniq rj ro (fun z => ?_)
    rw [mj, mo]
    constructor
    · rintro (h1 | h1)
      · exact h z h1
      · exact h1
    · exact Or.inr

set_option maxHeartbeats 4000000 in
theorem parts_walk (v u : Value) (xs ys : List Int) (w : World) (hv_0 : Sees w v xs) (hu_0 : Sees w u ys) (hb : xs.length + ys.length ≤ 1048576) :
    Calls Try.prog 7 #[v, u] w fun e w' => e = .returned (.bool true) ∧ Below w.heap.size w w' := by
  go_enter Try.func7, Try.ntmps7
  have hZ0 : Below w.heap.size w w := Below.refl _ _
  go_wp2_with fail
  refine (less_any _ _ xs ys _ hv_0 hu_0 (by omega)).mono ?_
  rintro e w1 ⟨l, rfl, hO, hB⟩
  obtain ⟨Ll, eL⟩ : ∃ L, L = lessL xs ys := ⟨_, rfl⟩
  rw [← eL] at hO
  have ml : Hid (∀ z, z ∈ Ll ↔ ((z ∈ xs) ∧ ¬ (z ∈ ys))) := fun z => by rw [eL, mem_lessL]
  have rl : Hid (Ll.Pairwise (· < ·)) := by rw [eL]; exact lessL_rises _ _
  have ll : Ll.length ≤ xs.length := by rw [eL]; exact length_lessL _ _
  have El := hid eL
  have hZ1 := hZ0.trans (hB.mono hZ0.size)
  have hv_1 := hv_0.below hB
  have hu_1 := hu_0.below hB
  clear hZ0 hv_0 hu_0
  have hl_1 := hO.sees
  clear hO hB eL
  go_wp2_with fail
  refine (meet_any _ _ xs ys _ hv_1 hu_1 (by omega)).mono ?_
  rintro e w2 ⟨m, rfl, hO, hB⟩
  obtain ⟨Lm, eL⟩ : ∃ L, L = meetL xs ys := ⟨_, rfl⟩
  rw [← eL] at hO
  have mm : Hid (∀ z, z ∈ Lm ↔ ((z ∈ xs) ∧ (z ∈ ys))) := fun z => by rw [eL, mem_meetL]
  have rm : Hid (Lm.Pairwise (· < ·)) := by rw [eL]; exact meetL_rises _ _
  have lm : Lm.length ≤ xs.length := by rw [eL]; exact length_meetL _ _
  have hZ2 := hZ1.trans (hB.mono hZ1.size)
  have hv_2 := hv_1.below hB
  have hu_2 := hu_1.below hB
  have hl_2 := hl_1.below hB
  clear hZ1 hv_1 hu_1 hl_1
  have hm_2 := hO.sees
  clear hO hB eL
  go_wp2_with fail
  refine (meet_any _ _ Ll Lm _ hl_2 hm_2 (by omega)).mono ?_
  rintro e w3 ⟨n, rfl, hO, hB⟩
  obtain ⟨Ln, eL⟩ : ∃ L, L = meetL Ll Lm := ⟨_, rfl⟩
  rw [← eL] at hO
  have mn : Hid (∀ z, z ∈ Ln ↔ ((((z ∈ xs) ∧ ¬ (z ∈ ys))) ∧ (((z ∈ xs) ∧ (z ∈ ys))))) := fun z => by rw [eL, mem_meetL, ml.out, mm.out]
  have rn : Hid (Ln.Pairwise (· < ·)) := by rw [eL]; exact meetL_rises _ _
  have ln : Ln.length ≤ Ll.length := by rw [eL]; exact length_meetL _ _
  have hZ3 := hZ2.trans (hB.mono hZ2.size)
  have hv_3 := hv_2.below hB
  have hu_3 := hu_2.below hB
  have hl_3 := hl_2.below hB
  have hm_3 := hm_2.below hB
  clear hZ2 hv_2 hu_2 hl_2 hm_2
  have hn_3 := hO.sees
  clear hO hB eL
  have hn0 : Ln = [] := List.eq_nil_iff_forall_not_mem.2 (fun z hz => by rw [mn.out] at hz; exact hz.1.2 hz.2.2)
  subst hn0
  obtain ⟨bn, on, an, cn, rfl, _, _, _, _⟩ := hn_3
  simp only [List.length_nil] at *
  clear ln rn mn
  go_wp2_with fail
  refine (join_any _ _ Ll Lm _ hl_3 hm_3 (by omega)).mono ?_
  rintro e w4 ⟨j, rfl, hO, hB⟩
  obtain ⟨Lj, eL⟩ : ∃ L, L = sd (Ll ++ Lm) := ⟨_, rfl⟩
  rw [← eL] at hO
  have mj : Hid (∀ z, z ∈ Lj ↔ ((((z ∈ xs) ∧ ¬ (z ∈ ys))) ∨ (((z ∈ xs) ∧ (z ∈ ys))))) := fun z => by rw [eL, mem_sd, List.mem_append, ml.out, mm.out]
  have rj : Hid (Lj.Pairwise (· < ·)) := by rw [eL]; exact sd_rises _
  have lj : Lj.length ≤ Ll.length + Lm.length := by rw [eL]; exact Nat.le_trans (length_sd_le _) (by rw [List.length_append]; exact Nat.le_refl _)
  have hZ4 := hZ3.trans (hB.mono hZ3.size)
  have hv_4 := hv_3.below hB
  have hu_4 := hu_3.below hB
  have hl_4 := hl_3.below hB
  have hm_4 := hm_3.below hB
  clear hZ3 hv_3 hu_3 hl_3 hm_3
  have hj_4 := hO.sees
  clear hO hB eL
  go_wp2_with fail
  refine (of_any _ xs _ hv_4 (by omega)).mono ?_
  rintro e w5 ⟨o, rfl, hO, hB⟩
  obtain ⟨Lo, eL⟩ : ∃ L, L = sd xs := ⟨_, rfl⟩
  rw [← eL] at hO
  have mo : Hid (∀ z, z ∈ Lo ↔ z ∈ xs) := fun z => by rw [eL, mem_sd]
  have ro : Hid (Lo.Pairwise (· < ·)) := by rw [eL]; exact sd_rises _
  have lo : Lo.length ≤ xs.length := by rw [eL]; exact length_sd_le _
  have hZ5 := hZ4.trans (hB.mono hZ4.size)
  have hv_5 := hv_4.below hB
  have hu_5 := hu_4.below hB
  have hl_5 := hl_4.below hB
  have hm_5 := hm_4.below hB
  have hj_5 := hj_4.below hB
  clear hZ4 hv_4 hu_4 hl_4 hm_4 hj_4
  have ho_5 := hO.sees
  clear hO hB eL
  go_wp2_with fail
  have hM := same_any _ _ Lj Lo _ hj_5 ho_5 (by omega) (by omega)
  have he : decide (Lj = Lo) = true := decide_eq_true (ordI.uniq rj.out ro.out (fun z => by rw [mj.out, mo.out]; by_cases hxs : z ∈ xs <;> by_cases hys : z ∈ ys <;> simp [hxs, hys]))
  rw [he] at hM
  refine hM.mono ?_
  clear hM he
  rintro e w6 ⟨rfl, hB⟩
  have hZ6 := hZ5.trans (hB.mono hZ5.size)
  have hv_6 := hv_5.below hB
  have hu_6 := hu_5.below hB
  have hl_6 := hl_5.below hB
  have hm_6 := hm_5.below hB
  have hj_6 := hj_5.below hB
  have ho_6 := ho_5.below hB
  clear hZ5 hv_5 hu_5 hl_5 hm_5 hj_5 ho_5
  clear hB
  obtain ⟨qq, hqq⟩ : ∃ qq, qq = withinB xs ys := ⟨_, rfl⟩
  have HQ := hid hqq
  clear hqq
  go_wp2_with fail
  have hI := within_any _ _ xs ys _ hv_6 hu_6 (by omega)
  rw [← HQ.out] at hI
  refine hI.mono ?_
  clear hI
  rintro e w7 ⟨rfl, hB⟩
  have hZ7 := hZ6.trans (hB.mono hZ6.size)
  have hv_7 := hv_6.below hB
  have hu_7 := hu_6.below hB
  have hl_7 := hl_6.below hB
  clear hZ6 hv_6 hu_6 hl_6
  clear hB
  go_wp2_with fail
  refine (join_any _ _ xs ys _ hv_7 hu_7 (by omega)).mono ?_
  rintro e w8 ⟨j2, rfl, hO, hB⟩
  obtain ⟨Lj2, eL⟩ : ∃ L, L = sd (xs ++ ys) := ⟨_, rfl⟩
  rw [← eL] at hO
  have mj2 : Hid (∀ z, z ∈ Lj2 ↔ ((z ∈ xs) ∨ (z ∈ ys))) := fun z => by rw [eL, mem_sd, List.mem_append]
  have rj2 : Hid (Lj2.Pairwise (· < ·)) := by rw [eL]; exact sd_rises _
  have lj2 : Lj2.length ≤ xs.length + ys.length := by rw [eL]; exact Nat.le_trans (length_sd_le _) (by rw [List.length_append]; exact Nat.le_refl _)
  have hZ8 := hZ7.trans (hB.mono hZ7.size)
  have hv_8 := hv_7.below hB
  have hu_8 := hu_7.below hB
  have hl_8 := hl_7.below hB
  clear hZ7 hv_7 hu_7 hl_7
  have hj2_8 := hO.sees
  clear hO hB eL
  go_wp2_with fail
  refine (of_any _ ys _ hu_8 (by omega)).mono ?_
  rintro e w9 ⟨o2, rfl, hO, hB⟩
  obtain ⟨Lo2, eL⟩ : ∃ L, L = sd ys := ⟨_, rfl⟩
  rw [← eL] at hO
  have mo2 : Hid (∀ z, z ∈ Lo2 ↔ z ∈ ys) := fun z => by rw [eL, mem_sd]
  have ro2 : Hid (Lo2.Pairwise (· < ·)) := by rw [eL]; exact sd_rises _
  have lo2 : Lo2.length ≤ ys.length := by rw [eL]; exact length_sd_le _
  have hZ9 := hZ8.trans (hB.mono hZ8.size)
  have hv_9 := hv_8.below hB
  have hu_9 := hu_8.below hB
  have hl_9 := hl_8.below hB
  have hj2_9 := hj2_8.below hB
  clear hZ8 hv_8 hu_8 hl_8 hj2_8
  have ho2_9 := hO.sees
  clear hO hB eL
  go_wp2_with fail
  have hM := same_any _ _ Lj2 Lo2 _ hj2_9 ho2_9 (by omega) (by omega)
  have he : decide (Lj2 = Lo2) = qq := by rw [HQ.out]; exact parts_same rj2.out ro2.out mj2.out mo2.out
  rw [he] at hM
  refine hM.mono ?_
  clear hM he
  rintro e w10 ⟨rfl, hB⟩
  have hZ10 := hZ9.trans (hB.mono hZ9.size)
  have hv_10 := hv_9.below hB
  have hu_10 := hu_9.below hB
  have hl_10 := hl_9.below hB
  have hj2_10 := hj2_9.below hB
  have ho2_10 := ho2_9.below hB
  clear hZ9 hv_9 hu_9 hl_9 hj2_9 ho2_9
  clear hB
  go_wp2_with fail
  have hI := within_any _ _ xs ys _ hv_10 hu_10 (by omega)
  rw [← HQ.out] at hI
  refine hI.mono ?_
  clear hI
  rintro e w11 ⟨rfl, hB⟩
  have hZ11 := hZ10.trans (hB.mono hZ10.size)
  have hv_11 := hv_10.below hB
  have hu_11 := hu_10.below hB
  have hl_11 := hl_10.below hB
  clear hZ10 hv_10 hu_10 hl_10
  clear hB
  have EQ : Hid (qq = ((Ll.length : Int) == 0)) := by rw [HQ.out, El.out]; exact within_len xs ys
  obtain ⟨bl, ol, al, cl, rfl, _, _, _, _⟩ := hl_11
  have hq2 : (qq == ((Ll.length : Int) == 0)) = true := by rw [← EQ.out]; simp
  cases qq
  · have e2 := EQ.out
    have e3 : ((Ll.length : Int) == 0) = false := e2.symm
    clear e2 hq2 EQ HQ El ll ml rl
    go_wp2_with fail
    refine (awake_any _).mono ?_
    rintro e w12 ⟨rfl, hB⟩
    have hZ12 := hZ11.trans (hB.mono hZ11.size)
    have hv_12 := hv_11.below hB
    have hu_12 := hu_11.below hB
    clear hZ11 hv_11 hu_11
    go_wp2
    go_ret
    exact ⟨rfl, hZ12⟩
  · have e2 := EQ.out
    have e3 : ((Ll.length : Int) == 0) = true := e2.symm
    clear e2 hq2 EQ HQ El ll ml rl
    go_wp2_with fail
    refine (awake_any _).mono ?_
    rintro e w12 ⟨rfl, hB⟩
    have hZ12 := hZ11.trans (hB.mono hZ11.size)
    have hv_12 := hv_11.below hB
    have hu_12 := hu_11.below hB
    clear hZ11 hv_11 hu_11
    go_wp2
    go_ret
    exact ⟨rfl, hZ12⟩

end Go.Proofs.Ytaillppmfbbnjaa
