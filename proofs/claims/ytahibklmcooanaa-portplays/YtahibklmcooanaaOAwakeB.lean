/-
  What must come, whatever the arguments are.
-/
import Derived.Test.YtahibklmcooanaaOAwake
namespace Go.Proofs.Ytahibklmcooanaa
open Go.RowKit
set_option linter.unusedVariables false
set_option linter.unusedSimpArgs false

section
variable {w w' : World} {p bx : Nat} {room : Int} {ql : List (Nat × Nat)} {v : Nat → Rg} {m : Nat → List Msg}
theorem PoAt.mine_ty (h : PoAt w p bx room ql v m) {k : Nat} (hk : mine ql v k) : ∃ c t, w.heap[k]? = some (.cells c t (0, 0)) ∧ (t = 89 ∨ t = 55) := by
  obtain ⟨i, hi, rfl | hr⟩ := hk
  · exact ⟨_, _, (h.box i hi).lies, Or.inl rfl⟩
  · obtain ⟨cur, hc⟩ := ownsRow_ty (h.box i hi).own hr
    exact ⟨_, _, hc, Or.inr rfl⟩
/-- A list that a call made lasts, whatever is done with mailboxes. -/
theorem Owns.turn {base : Nat} {u : Value} {xs : List Int} (hO : Owns w base u xs) (h : PoAt w p bx room ql v m) (hG : Gr (mine ql v) w w') : Owns w' base u xs := by
  refine ownsRow_same hO fun j hj => hG.block j (hO.lt j hj).2 (fun hm => ?_)
  obtain ⟨c, hc⟩ := ownsRow_ty hO hj
  obtain ⟨c', t, ht, h2⟩ := h.mine_ty hm
  rw [hc] at ht
  simp at ht
  rcases h2 with h2 | h2 <;> rw [h2] at ht <;> exact absurd ht.2 (by decide)
end

theorem its_turn {w : World} {p bx B : Nat} {ql : List (Nat × Nat)} {v v' : Nat → Rg} (h4 : ∀ k, its p bx ql v k → B ≤ k) (hs : B ≤ w.heap.size) (t3 : ∀ k, mine ql v' k → mine ql v k ∨ w.heap.size ≤ k) : ∀ k, its p bx ql v' k → B ≤ k := by
  intro k hk
  rcases hk with h | h | h | h
  · exact h4 k (Or.inl h)
  · exact h4 k (Or.inr (Or.inl h))
  · exact h4 k (Or.inr (Or.inr (Or.inl h)))
  · rcases t3 k h with h | h
    · exact h4 k (Or.inr (Or.inr (Or.inr h)))
    · exact Nat.le_trans hs h
theorem bel_turn {w0 w w' : World} {p bx : Nat} {ql : List (Nat × Nat)} {v : Nat → Rg} (h3 : Below w0.heap.size w0 w) (h4 : ∀ k, its p bx ql v k → w0.heap.size ≤ k) (t2 : Gr (mine ql v) w w') : Below w0.heap.size w0 w' :=
  h3.trans (t2.below (fun b hb => h4 b (Or.inr (Or.inr (Or.inr hb)))) h3.size)
theorem pushed_nil (room : Int) (x : Msg) (h : 1 ≤ room) : pushed room [] x = [x] := by
  unfold pushed
  rw [if_pos (by simp; omega)]
  rfl

set_option maxRecDepth 20000 in
set_option maxHeartbeats 8000000 in
theorem awake_any (w : World) : Calls Try.prog 10 #[] w fun e w' => e = .returned (.bool true) ∧ Below w.heap.size w w' := by
  have hN := hid (new_any 2 4 w (by decide) (by decide) (by decide) (by decide))
  have hEQ := eqlM
  have hGU := guardM .eql
  have hPN := eqlP_some_nil
  have hL : lackS [2 * ((0 : Nat) : Int) + 1] 1 = [1] := by rw [lack_other 0 1 (by decide)]; rfl
  go_enter Try.func10, Try.ntmps10
  go_wp2_with fail
  refine hN.out.mono ?_
  clear hN
  rintro e w1 ⟨p, m, rfl, ⟨bx, ql, v, hn, hP1, hB1, hF1⟩, hm⟩
  have hm1 := hm 1 (by decide)
  have HP1 := hid hP1
  have HB1 := hid hB1
  have HF1 := hid hF1
  have HN := hid hn
  have HM := hid hm1
  clear hP1 hB1 hF1 hn hm hm1
  go_wp2_with fail
  refine (subject_any 0 (by decide) w1).mono ?_
  rintro e w2 ⟨vs2, vo2, rfl, hS2, hB2⟩
  have hn := HN.out
  have hsend := send_subject p bx 4 ql v m 0 1 (by omega) (by omega) vs2 vo2 ⟨#[97]⟩ true w2 (HP1.out.below hB2) hS2 (by decide)
  rw [comes_open] at hsend
  simp only [if_true] at hsend
  rw [HM.out, pushed_nil 4 _ (by decide), hL] at hsend
  have HB2 := hid (HB1.out.trans (hB2.mono HB1.out.size))
  have HP2 := hid (HP1.out.below hB2)
  have HS := hid hsend
  clear hsend hS2 hB2 hn
  unfold suV at *
  go_wp2_with fail
  refine HS.out.mono ?_
  clear HS
  rintro e w3 ⟨u, rfl, hO3, v3, hP3, hG3, hM3⟩
  have HF3 := hid (its_turn HF1.out HB2.out.size hM3)
  have HB3 := hid (bel_turn HB2.out HF1.out hG3)
  have HP3 := hid hP3
  have HO3 := hid hO3
  obtain ⟨ao, nn, cc, huv⟩ : ∃ ao nn cc, u = .slice ao nn cc := by
    obtain ⟨b, off, ao, cap, hv, _⟩ := hO3.sees
    exact ⟨ao, _, cap, hv⟩
  subst huv
  clear hO3 hP3 hG3 hM3 HP2 HP1 HF1 HB1 HB2
  go_wp2_with fail
  refine (subject_any 0 (by decide) w3).mono ?_
  rintro e w4 ⟨vs4, vo4, rfl, hS4, hB4⟩
  have hn := HN.out
  have hsend := send_subject p bx 4 ql v3 _ 0 1 (by omega) (by omega) vs4 vo4 ⟨#[98]⟩ false w4 (HP3.out.below hB4) hS4 (by decide)
  rw [comes_shut 0 1 (by decide)] at hsend
  simp only [Bool.false_eq_true, if_false] at hsend
  have HB4 := hid (HB3.out.trans (hB4.mono HB3.out.size))
  have HP4 := hid (HP3.out.below hB4)
  have HO4 := hid (HO3.out.below hB4)
  have HS := hid hsend
  clear hsend hS4 hB4 hn HP3 HO3 HB3
  unfold suV at *
  go_wp2_with fail
  refine HS.out.mono ?_
  clear HS
  rintro e w5 ⟨u5, rfl, hO5, v5, hP5, hG5, hM5⟩
  have HF5 := hid (its_turn HF3.out HB4.out.size hM5)
  have HB5 := hid (bel_turn HB4.out HF3.out hG5)
  have HP5 := hid hP5
  have HO5 := hid (HO4.out.turn HP4.out hG5)
  obtain ⟨ao5, cc5, huv⟩ : ∃ ao5 cc5, u5 = .slice ao5 0 cc5 := by
    obtain ⟨b, off, ao, cap, hv, _⟩ := hO5.sees
    exact ⟨ao, cap, hv⟩
  subst huv
  clear hO5 hP5 hG5 hM5 HP4 HO4 HF3 HB4
  have hn := HN.out
  have HT := hid (take_some p bx 4 ql v5 _ 1 (by omega) w5 HP5.out (((0 : Nat) : Int), ⟨#[97]⟩) [] (by simp))
  unfold Mq.mV at HT
  clear hn
  go_wp2_with fail
  refine HT.out.mono ?_
  clear HT
  rintro e w6 ⟨rfl, v6, hP6, hG6, hM6⟩
  have HF6 := hid (its_turn HF5.out HB5.out.size hM6)
  have HB6 := hid (bel_turn HB5.out HF5.out hG6)
  have HP6 := hid hP6
  have HO6 := hid (HO5.out.turn HP5.out hG6)
  clear hP6 hG6 hM6 HP5 HO5 HF5 HB5
  obtain ⟨W7, hW7⟩ : ∃ W7, W7 = w6.alloc (.cells #[.int .i64 0, .string ⟨#[97]⟩] 55) := ⟨_, rfl⟩
  have b7 : Below w6.heap.size w6 W7 := by rw [hW7]; exact below_alloc w6 _
  have s7 : W7.heap.size = w6.heap.size + 1 := by rw [hW7]; simp
  have k0 : W7.cell? ⟨w6.heap.size, 0, none⟩ = some (.int .i64 0) := by rw [hW7]; simp
  have k1 : W7.cell? ⟨w6.heap.size, 1, none⟩ = some (.string ⟨#[97]⟩) := by rw [hW7]; simp
  have HP7 := hid (HP6.out.below b7)
  have HB7 := hid (HB6.out.trans (b7.mono HB6.out.size))
  have HO7 := hid (HO6.out.below b7)
  have HLT := hid (fun k hk => HP6.out.lt k hk)
  have hn := HN.out
  have HT := hid (take_none p bx 4 ql v6 _ 1 (by omega) W7 HP7.out (by simp))
  unfold Mq.mV Mq.z0 at HT
  have HW7 := hid hW7
  clear hn b7 hW7 HP6 HO6 HB6
  go_wp2_with fail
  rw [← HW7.out]
  refine HT.out.mono ?_
  clear HT
  rintro e w8 ⟨rfl, v8, hP8, hG8, hM8⟩
  have hnm : ¬ mine ql v6 w6.heap.size := fun h => by have := HLT.out _ (Or.inr (Or.inr (Or.inr h))); omega
  have e8 := hG8.block w6.heap.size (by omega) hnm
  have q0 := (Mq.World.cell?_of_block e8 0).trans k0
  have q1 := (Mq.World.cell?_of_block e8 1).trans k1
  have HB8 := hid (bel_turn HB7.out HF6.out hG8)
  have HO8 := hid (HO7.out.turn HP7.out hG8)
  have hs8 : w6.heap.size < w8.heap.size := by have := hG8.size; omega
  clear hP8 hG8 hM8 HP7 HO7 HF6 HB7 e8 hnm HLT k0 k1 s7 HW7
  have hsame := hid (fun (V : World) (hV : Below w8.heap.size w8 V) => same_any (.slice ao nn cc) (.slice (some ⟨V.heap.size, 0, none⟩) 1 1) [1] [1] (V.alloc (.cells #[.int .i64 1] 3)) ((HO8.out.below hV).sees.box _) (by
    refine ⟨V.heap.size, 0, _, 1, rfl, Nat.le_refl _, (fun h => by cases h), fun _ => rfl, fun j hj => ?_⟩
    have : j = 0 := by simp at hj; omega
    subst this
    simp) (by decide) (by decide))
  have b9 := below_alloc w8 (.cells #[.int .i64 0, .string ByteArray.empty] 55)
  have b10 := b9.alloc b9.size (.cells #[.int .i64 1] 3)
  have hsm := hsame.out (w8.alloc (.cells #[.int .i64 0, .string ByteArray.empty] 55)) b9
  rw [show (w8.alloc (.cells #[.int .i64 0, .string ByteArray.empty] 55)).heap.size = w8.heap.size + 1 by simp] at hsm
  have HSM := hid hsm
  have H10 := hid b10
  clear hsm b9 b10 hsame HO8
  go_wp2_with fail
  refine HSM.out.mono ?_
  clear HSM
  rintro e w9 ⟨rfl, hB9⟩
  have hall : Below w8.heap.size w8 w9 := H10.out.trans (hB9.mono H10.out.size)
  have r0 := (hall.cell (World.block_lt_of_cell? w8 _ q0)).trans q0
  have r1 := (hall.cell (World.block_lt_of_cell? w8 _ q1)).trans q1
  have HB9 := hid (HB8.out.trans (hall.mono HB8.out.size))
  clear q0 q1 hall hB9 HB8 H10 hs8
  go_wp2
  go_ret
  exact ⟨rfl, HB9.out⟩
end Go.Proofs.Ytahibklmcooanaa
