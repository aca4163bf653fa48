/-
  The document's Check of instructions; its May.
-/
import Derived.Test.YtfnojlgmbfocfaaDoorVChk
import Derived.Test.YtfnojlgmbfocfaaDoorVMay
namespace Go.Proofs.YtfnojlgmbfocfaaDoor
open Go.RowKit
set_option linter.unusedVariables false
set_option linter.unusedSimpArgs false

theorem mayI_none (n : Nat) (op a : Int) (h5 : ¬ op = 1) (h3 : ¬ op = 3) (h20 : ¬ op = 20) (h21 : ¬ op = 21) (h22 : ¬ op = 22) (h24 : ¬ op = 24) (h1 : 1 ≤ op) (h25 : op ≤ 25) : mayI n (op, a) = decide (a = 0) := by
  have hc : op = 2 ∨ op = 4 ∨ op = 5 ∨ op = 6 ∨ op = 7 ∨ op = 8 ∨ op = 9 ∨ op = 10 ∨ op = 11 ∨ op = 12 ∨ op = 13 ∨ op = 14 ∨ op = 15 ∨ op = 16 ∨ op = 17 ∨ op = 18 ∨ op = 19 ∨ op = 23 ∨ op = 25 := by omega
  rcases hc with rfl | rfl | rfl | rfl | rfl | rfl | rfl | rfl | rfl | rfl | rfl | rfl | rfl | rfl | rfl | rfl | rfl | rfl | rfl <;> rfl
theorem mayI_place' (n : Nat) (op a : Int) (h : op = 20 ∨ op = 21 ∨ op = 22) : mayI n (op, a) = decide (0 ≤ a ∧ a < (n : Int)) := by
  rcases h with rfl | rfl | rfl <;> rfl

set_option maxHeartbeats 4000000 in
theorem rmay_any (op a : Int) (n : Nat) (w : World) :
    Calls Tryd.prog 29 #[.agg #[.int .i64 op, .int .i64 a], .int .i64 (n : Int)] w fun e w' => e = .returned (.bool (mayI n (op, a))) ∧ Below w.heap.size w w' := by
  obtain ⟨W, hW⟩ : ∃ W, W = w.alloc (.cells #[.int .i64 op, .int .i64 a] 57) := ⟨_, rfl⟩
  have hb : Below w.heap.size w W := by rw [hW]; exact below_alloc w _
  have hz : W.heap[w.heap.size]? = some (.cells #[.int .i64 op, .int .i64 a] 57 (0, 0)) := by rw [hW]; exact heap_alloc_new w _
  have g0 : W.cell? ⟨w.heap.size, 0, none⟩ = some (.int .i64 op) := by simp [World.cell?, hz]
  have g1 : W.cell? ⟨w.heap.size, 1, none⟩ = some (.int .i64 a) := by simp [World.cell?, hz]
  have HB := hid hb
  clear hz hb
  obtain ⟨R, hR⟩ : ∃ R, R = mayI n (op, a) := ⟨_, rfl⟩
  rw [← hR]
  have HRR := hid hR
  clear hR
  by_cases h1 : op < 1
  · have HR : Hid (R = false) := by unfold Hid; rw [HRR.out]; unfold mayI; simp only [opO_no (show ¬ (1 ≤ op ∧ op ≤ 25) by omega)]
    clear HRR
    go_enter Tryd.func29, Tryd.ntmps29
    iterate 6 (first | go_values | go_skip | go_guarded | go_step | go_upon | go_back | go_simp)
    rw [← hW]
    clear hW
    go_wp2
    go_ret
    exact ⟨ret_bool HR.out.symm, HB.out⟩
  have h1' : decide (op < 1) = false := decide_eq_false h1
  by_cases h2 : 25 < op
  · have HR : Hid (R = false) := by unfold Hid; rw [HRR.out]; unfold mayI; simp only [opO_no (show ¬ (1 ≤ op ∧ op ≤ 25) by omega)]
    clear HRR
    go_enter Tryd.func29, Tryd.ntmps29
    iterate 6 (first | go_values | go_skip | go_guarded | go_step | go_upon | go_back | go_simp)
    rw [← hW]
    clear hW
    go_wp2
    go_ret
    exact ⟨ret_bool HR.out.symm, HB.out⟩
  have hx : op = 1 ∨ op = 3 ∨ (op = 20 ∨ op = 21 ∨ op = 22) ∨ op = 24 ∨ (¬ op = 1 ∧ ¬ op = 3 ∧ ¬ op = 20 ∧ ¬ op = 21 ∧ ¬ op = 22 ∧ ¬ op = 24) := by omega
  rcases hx with rfl | rfl | hp | rfl | ⟨n1, n3, n20, n21, n22, n24⟩
  · have HR : Hid (R = true) := by unfold Hid; rw [HRR.out]; rfl
    clear HRR
    go_enter Tryd.func29, Tryd.ntmps29
    iterate 6 (first | go_values | go_skip | go_guarded | go_step | go_upon | go_back | go_simp)
    rw [← hW]
    clear hW
    go_wp2
    go_ret
    exact ⟨ret_bool HR.out.symm, HB.out⟩
  · have hr : R = decide (0 ≤ a ∧ a < 64) := by rw [HRR.out]; rfl
    by_cases hA : 0 ≤ a
    · have HR : Hid (R = decide (a < 64)) := by unfold Hid; rw [hr]; simp [hA]
      clear HRR hr
      go_enter Tryd.func29, Tryd.ntmps29
      iterate 6 (first | go_values | go_skip | go_guarded | go_step | go_upon | go_back | go_simp)
      rw [← hW]
      clear hW
      go_wp2
      go_ret
      exact ⟨ret_bool HR.out.symm, HB.out⟩
    · have hA' : decide (0 ≤ a) = false := decide_eq_false hA
      have HR : Hid (R = false) := by unfold Hid; rw [hr]; simp [hA]
      clear HRR hr
      go_enter Tryd.func29, Tryd.ntmps29
      iterate 6 (first | go_values | go_skip | go_guarded | go_step | go_upon | go_back | go_simp)
      rw [← hW]
      clear hW
      go_wp2
      go_ret
      exact ⟨ret_bool HR.out.symm, HB.out⟩
  · have hr : R = decide (0 ≤ a ∧ a < (n : Int)) := by rw [HRR.out]; exact mayI_place' n op a hp
    by_cases hA : 0 ≤ a
    · have HR : Hid (R = decide (a < (n : Int))) := by unfold Hid; rw [hr]; simp [hA]
      clear HRR hr
      rcases hp with rfl | rfl | rfl
      all_goals
        go_enter Tryd.func29, Tryd.ntmps29
        iterate 6 (first | go_values | go_skip | go_guarded | go_step | go_upon | go_back | go_simp)
        rw [← hW]
        clear hW
        go_wp2
        go_ret
        exact ⟨ret_bool HR.out.symm, HB.out⟩
    · have hA' : decide (0 ≤ a) = false := decide_eq_false hA
      have HR : Hid (R = false) := by unfold Hid; rw [hr]; simp [hA]
      clear HRR hr
      rcases hp with rfl | rfl | rfl
      all_goals
        go_enter Tryd.func29, Tryd.ntmps29
        iterate 6 (first | go_values | go_skip | go_guarded | go_step | go_upon | go_back | go_simp)
        rw [← hW]
        clear hW
        go_wp2
        go_ret
        exact ⟨ret_bool HR.out.symm, HB.out⟩
  · have hr : R = decide (1 ≤ a ∧ a ≤ 99) := by rw [HRR.out]; rfl
    by_cases hA : 1 ≤ a
    · have HR : Hid (R = decide (a ≤ 99)) := by unfold Hid; rw [hr]; simp [hA]
      clear HRR hr
      go_enter Tryd.func29, Tryd.ntmps29
      iterate 6 (first | go_values | go_skip | go_guarded | go_step | go_upon | go_back | go_simp)
      rw [← hW]
      clear hW
      go_wp2
      go_ret
      exact ⟨ret_bool HR.out.symm, HB.out⟩
    · have hA' : decide (1 ≤ a) = false := decide_eq_false hA
      have HR : Hid (R = false) := by unfold Hid; rw [hr]; simp [hA]
      clear HRR hr
      go_enter Tryd.func29, Tryd.ntmps29
      iterate 6 (first | go_values | go_skip | go_guarded | go_step | go_upon | go_back | go_simp)
      rw [← hW]
      clear hW
      go_wp2
      go_ret
      exact ⟨ret_bool HR.out.symm, HB.out⟩
  · have HR : Hid (R = (a == 0)) := by
      unfold Hid
      rw [HRR.out, mayI_none n op a n1 n3 n20 n21 n22 n24 (by omega) (by omega)]
      by_cases h : a = 0 <;> simp [h]
    clear HRR
    go_enter Tryd.func29, Tryd.ntmps29
    iterate 6 (first | go_values | go_skip | go_guarded | go_step | go_upon | go_back | go_simp)
    rw [← hW]
    clear hW
    go_wp2
    go_ret
    exact ⟨ret_bool HR.out.symm, HB.out⟩
set_option maxRecDepth 20000 in
set_option maxHeartbeats 2000000 in
theorem rcheck_any (v : Value) (l : List InsL) (w : World) (hS : SeesI w v l) (hlen : l.length ≤ 140737488355328) :
    Calls Tryd.prog 16 #[v] w fun e w' => e = .returned (.tuple #[.int .i64 (checkL l).1, .int .i64 ((checkL l).2 : Nat)]) ∧ Below w.heap.size w w' := by
  have hS0 := hS
  obtain ⟨b, off, ao, cap, rfl, hcap, hnil, hao, hcell⟩ := hS
  obtain ⟨R, hR⟩ : ∃ R, R = checkL l := ⟨_, rfl⟩
  rw [← hR]
  by_cases h0 : l.length = 0
  · have hr : R = (2, 0) := by rw [hR, checkL, if_pos (Or.inl h0)]
    rw [h0, hr]
    clear hS0 hcell hR hr
    go_enter Tryd.func16, Tryd.ntmps16
    go_wp2
    go_ret2
    exact ⟨rfl, Below.refl _ _⟩
  have h0' : decide ((l.length : Int) < 1) = false := decide_eq_false (by omega)
  by_cases h1 : 1024 < l.length
  · have hr : R = (2, 0) := by rw [hR, checkL, if_pos (Or.inr h1)]
    have h1' : (1024 : Int) < (l.length : Int) := by omega
    rw [hr]
    clear hS0 hcell hR hr
    go_enter Tryd.func16, Tryd.ntmps16
    go_wp2
    go_ret2
    exact ⟨rfl, Below.refl _ _⟩
  have hr : R = if badAt l.length l < l.length then (130, badAt l.length l) else (0, 0) := by rw [hR, checkL, if_neg (by omega)]
  have h1' : ¬ (1024 : Int) < (l.length : Int) := by omega
  have HRR := hid hr
  have HS := hid (fun w1 (h1 : Below w.heap.size w w1) => hS0.below h1)
  have HBL := hid (badAt_le l.length l)
  obtain rfl := hao (by intro e; rw [e] at h0; simp at h0)
  clear hS0 hR hr hcell hnil hao
  go_enter Tryd.func16, Tryd.ntmps16
  go_wp2
  go_loopw [4] (fun i wr => ∃ (k : Nat), k ≤ l.length ∧ i = .int .i64 (k : Int) ∧ Hid (badAt l.length l = badAt l.length (l.drop k) + k ∧ Below w.heap.size w wr)) (fun i _ => l.length - (intOf i).toNat)
  case atStart => exact ⟨0, Nat.zero_le _, rfl, by simp, Below.refl _ _⟩
  case round =>
    obtain ⟨k, hk, rfl, hrr⟩ := hrel
    by_cases hlt : k < l.length
    · have hlt' : (k : Int) < (l.length : Int) := by omega
      obtain ⟨b', off', ao', cap', hv, _, _, hao', hcell⟩ := HS.out wr hrr.out.2
      cases hv
      have hao2 := hao' (by intro e; rw [e] at h0; simp at h0)
      cases hao2
      obtain ⟨x1, x2⟩ := hcell k hlt
      have hd := badAt_drop (n := l.length) hlt
      have HD := hid hd
      obtain ⟨op, a, hi⟩ : ∃ op a : Int, l[k] = (op, a) := ⟨_, _, rfl⟩
      rw [hi] at x1 x2 HD
      simp only at x1 x2
      have hmb := rmay_any op a l.length wr
      clear hcell hd hi hao'
      obtain ⟨M, hM⟩ : ∃ M, M = mayI l.length (op, a) := ⟨_, rfl⟩
      rw [← hM] at hmb HD
      clear hM
      go_wp2_with fail
      refine hmb.mono ?_
      rintro e w1 ⟨rfl, b1⟩
      have HB1 := hid (hrr.out.2.trans (b1.mono hrr.out.2.size))
      clear hmb b1 x1 x2
      cases M with
      | true =>
        have h2 := HD.out
        rw [if_pos rfl] at h2
        have HN : Hid (badAt l.length l = badAt l.length (l.drop (k + 1)) + (k + 1)) := by
          unfold Hid
          rw [hrr.out.1, h2]
          omega
        clear h2 HD
        go_wp2
        go_round
        case rel => exact ⟨k + 1, by omega, by go_num, HN.out, HB1.out⟩
        case measure => simp [intOf]; omega
      | false =>
        have h2 := HD.out
        rw [if_neg (by decide)] at h2
        have HN : Hid (R = (130, k)) := by
          unfold Hid
          have e : badAt l.length l = k := by rw [hrr.out.1, h2]; omega
          rw [HRR.out, e, if_pos hlt]
        clear h2 HD
        go_wp2
        go_ret2
        exact ⟨by rw [HN.out]; rfl, HB1.out⟩
    · have hlt' : ¬ (k : Int) < (l.length : Int) := by omega
      have HN : Hid (R = (0, 0)) := by
        unfold Hid
        have e : badAt l.length l = k := by rw [hrr.out.1, List.drop_of_length_le (by omega)]; simp [badAt]
        rw [HRR.out, e, if_neg (by omega)]
      go_wp2
      go_ret2
      exact ⟨by rw [HN.out]; rfl, hrr.out.2⟩

set_option maxRecDepth 20000 in
set_option maxHeartbeats 2000000 in
theorem rMayS_any (v : Value) (s : StL) (vs vk : Value) (n : Nat) (w : World) (hS : SeesS w v s vs vk) :
    Calls Tryd.prog 17 #[v, .int .i64 (n : Int)] w fun e w' => e = .returned (.bool (okS n s)) ∧ Below w.heap.size w w' := by
  obtain ⟨rfl, h1, h2, l1, l2⟩ := hS
  obtain ⟨_, _, a1, c1, rfl, _⟩ := h1
  obtain ⟨W, hW⟩ : ∃ W, W = w.alloc (.cells #[.int .i64 s.pc, .slice a1 s.st.length c1, vk] 25) := ⟨_, rfl⟩
  have hb : Below w.heap.size w W := by rw [hW]; exact below_alloc w _
  obtain ⟨b, off, ao, cap, rfl, hcap, _, hao, hcell⟩ := h2.below hb
  have hz : W.heap[w.heap.size]? = some (.cells #[.int .i64 s.pc, .slice a1 s.st.length c1, .slice ao s.ca.length cap] 25 (0, 0)) := by rw [hW]; exact heap_alloc_new w _
  have g0 : W.cell? ⟨w.heap.size, 0, none⟩ = some (.int .i64 s.pc) := by simp [World.cell?, hz]
  have g1 : W.cell? ⟨w.heap.size, 1, none⟩ = some (.slice a1 s.st.length c1) := by simp [World.cell?, hz]
  have g2 : W.cell? ⟨w.heap.size, 2, none⟩ = some (.slice ao s.ca.length cap) := by simp [World.cell?, hz]
  have HB := hid hb
  have HC := hid hcell
  obtain ⟨R, hR⟩ : ∃ R, R = okS n s := ⟨_, rfl⟩
  rw [← hR]
  have HRR := hid hR
  clear hb hz hcell hR h2
  by_cases p0 : s.pc < 0
  · have HR : Hid (R = false) := by unfold Hid; rw [HRR.out]; unfold okS; rw [decide_eq_false (show ¬ 0 ≤ s.pc by omega)]; simp
    clear HRR
    go_enter Tryd.func17, Tryd.ntmps17
    iterate 6 (first | go_values | go_skip | go_guarded | go_step | go_upon | go_back | go_simp)
    rw [← hW]
    clear hW
    go_wp2
    go_ret
    exact ⟨ret_bool HR.out.symm, HB.out⟩
  have p0' : decide (s.pc < 0) = false := decide_eq_false p0
  by_cases p1 : (n : Int) < s.pc
  · have HR : Hid (R = false) := by unfold Hid; rw [HRR.out]; unfold okS; rw [decide_eq_false (show ¬ s.pc ≤ n by omega)]; simp
    clear HRR
    go_enter Tryd.func17, Tryd.ntmps17
    iterate 6 (first | go_values | go_skip | go_guarded | go_step | go_upon | go_back | go_simp)
    rw [← hW]
    clear hW
    go_wp2
    go_ret
    exact ⟨ret_bool HR.out.symm, HB.out⟩
  have p1' : decide ((n : Int) < s.pc) = false := decide_eq_false p1
  by_cases hs : 64 < s.st.length
  · have hs' : (64 : Int) < (s.st.length : Int) := by omega
    have HR : Hid (R = false) := by unfold Hid; rw [HRR.out]; unfold okS; rw [decide_eq_false (show ¬ s.st.length ≤ 64 by omega)]; simp
    clear HRR
    go_enter Tryd.func17, Tryd.ntmps17
    iterate 6 (first | go_values | go_skip | go_guarded | go_step | go_upon | go_back | go_simp)
    rw [← hW]
    clear hW
    go_wp2
    go_ret
    exact ⟨ret_bool HR.out.symm, HB.out⟩
  have hs' : decide ((64 : Int) < (s.st.length : Int)) = false := decide_eq_false (by omega)
  by_cases hc : 32 < s.ca.length
  · have hc' : (32 : Int) < (s.ca.length : Int) := by omega
    have HR : Hid (R = false) := by unfold Hid; rw [HRR.out]; unfold okS; rw [decide_eq_false (show ¬ s.ca.length ≤ 32 by omega)]; simp
    clear HRR
    go_enter Tryd.func17, Tryd.ntmps17
    iterate 6 (first | go_values | go_skip | go_guarded | go_step | go_upon | go_back | go_simp)
    rw [← hW]
    clear hW
    go_wp2
    go_ret
    exact ⟨ret_bool HR.out.symm, HB.out⟩
  have hc' : decide ((32 : Int) < (s.ca.length : Int)) = false := decide_eq_false (by omega)
  go_enter Tryd.func17, Tryd.ntmps17
  iterate 6 (first | go_values | go_skip | go_guarded | go_step | go_upon | go_back | go_simp)
  rw [← hW]
  clear hW
  go_wp2
  go_loop [5] (fun i => ∃ (k : Nat), k ≤ s.ca.length ∧ i = .int .i64 (k : Int) ∧ Hid ((s.ca.take k).all (fun c => decide (0 ≤ c) && decide (c ≤ (n : Int))) = true)) (fun i => s.ca.length - (intOf i).toNat)
  case atStart => exact ⟨0, Nat.zero_le _, rfl, by unfold Hid; simp⟩
  case round =>
    obtain ⟨k, hk, rfl, hok⟩ := hrel
    by_cases hlt : k < s.ca.length
    · have hlt' : (k : Int) < (s.ca.length : Int) := by omega
      obtain rfl := hao (by intro h; rw [h] at hlt; simp at hlt)
      have hx := HC.out k hlt
      have HN := hid (fun h0 h1 => okS_take (n := n) hlt hok.out h0 h1)
      have HS := hid (fun h0 => okS_stop (n := n) hlt h0)
      obtain ⟨x, hxx⟩ : ∃ x, x = s.ca.getD k 0 := ⟨_, rfl⟩
      rw [← hxx] at hx HN HS
      clear hxx
      by_cases x0 : x < 0
      · have HR : Hid (R = false) := by unfold Hid; rw [HRR.out, okS_of (by omega) (by omega) (HS.out (by omega))]; simp
        go_wp2
        go_ret
        exact ⟨ret_bool HR.out.symm, HB.out⟩
      · have x0' : decide (x < 0) = false := decide_eq_false x0
        by_cases x1 : (n : Int) < x
        · have HR : Hid (R = false) := by unfold Hid; rw [HRR.out, okS_of (by omega) (by omega) (HS.out (by omega))]; simp
          go_wp2
          go_ret
          exact ⟨ret_bool HR.out.symm, HB.out⟩
        · go_wp2
          go_round
          case rel => exact ⟨k + 1, by omega, by go_num, HN.out (by omega) (by omega)⟩
          case measure => simp [intOf]; omega
    · have hlt' : ¬ (k : Int) < (s.ca.length : Int) := by omega
      have hf := hok.out
      rw [List.take_of_length_le (by omega)] at hf
      have HR : Hid (R = true) := by
        unfold Hid
        rw [HRR.out, okS_of (by omega) (by omega) hf, decide_eq_true (show 0 ≤ s.pc by omega), decide_eq_true (show s.pc ≤ n by omega)]
        rfl
      clear hf
      go_wp2
      go_ret
      exact ⟨ret_bool HR.out.symm, HB.out⟩
end Go.Proofs.YtfnojlgmbfocfaaDoor
