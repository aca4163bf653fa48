/-
  Which states may be, which runs are refused.
-/
import Derived.Test.YtfnojlgmbfocfaaDoorVChk
namespace Go.Proofs.YtfnojlgmbfocfaaDoor
open Go.RowKit
set_option linter.unusedVariables false
set_option linter.unusedSimpArgs false

/-- A state that is handed on. -/
structure SeesS (w : World) (v : Value) (s : StL) (vs vk : Value) : Prop where
  val : v = .agg #[.int .i64 s.pc, vs, vk]
  st : Sees w vs s.st
  ca : Sees w vk s.ca
  sl : s.st.length ≤ 140737488355328
  cl : s.ca.length ≤ 140737488355328
theorem SeesS.below {w w' : World} {v : Value} {s : StL} {vs vk : Value} (h : SeesS w v s vs vk) (hb : Below w.heap.size w w') : SeesS w' v s vs vk := ⟨h.val, h.st.below hb, h.ca.below hb, h.sl, h.cl⟩
theorem okS_take {n : Nat} {l : List Int} {k : Nat} (hk : k < l.length) (h : (l.take k).all (fun c => decide (0 ≤ c) && decide (c ≤ (n : Int))) = true) (h0 : 0 ≤ l.getD k 0) (h1 : l.getD k 0 ≤ n) : (l.take (k + 1)).all (fun c => decide (0 ≤ c) && decide (c ≤ (n : Int))) = true := by
  rw [List.take_succ_eq_append_getElem hk, List.all_append, h]
  simp [List.getD, hk] at h0 h1 ⊢
  exact ⟨h0, h1⟩
theorem okS_stop {n : Nat} {l : List Int} {k : Nat} (hk : k < l.length) (h : ¬ (0 ≤ l.getD k 0 ∧ l.getD k 0 ≤ n)) : (l.all fun c => decide (0 ≤ c) && decide (c ≤ (n : Int))) = false := by
  cases he : (l.all fun c => decide (0 ≤ c) && decide (c ≤ (n : Int)))
  · rfl
  · have := List.all_eq_true.1 he l[k] (List.getElem_mem hk)
    simp at this
    simp [List.getD, hk] at h
    omega
theorem okS_of {n : Nat} {s : StL} {a : Bool} (h1 : s.st.length ≤ 64) (h2 : s.ca.length ≤ 32) (h3 : (s.ca.all fun c => decide (0 ≤ c) && decide (c ≤ (n : Int))) = a) : okS n s = (decide (0 ≤ s.pc) && decide (s.pc ≤ n) && a) := by
  unfold okS
  rw [h3, decide_eq_true h1, decide_eq_true h2]
  simp

set_option maxRecDepth 20000 in
set_option maxHeartbeats 2000000 in
theorem mayBeS_any (v : Value) (s : StL) (vs vk : Value) (n : Nat) (w : World) (hS : SeesS w v s vs vk) :
    Calls Tryd.prog 32 #[v, .int .i64 (n : Int)] w fun e w' => e = .returned (.bool (okS n s)) ∧ Below w.heap.size w w' := by
  obtain ⟨rfl, h1, h2, l1, l2⟩ := hS
  obtain ⟨_, _, a1, c1, rfl, _⟩ := h1
  obtain ⟨W, hW⟩ : ∃ W, W = w.alloc (.cells #[.int .i64 s.pc, .slice a1 s.st.length c1, vk] 25) := ⟨_, rfl⟩
  have hb : Below w.heap.size w W := by rw [hW]; exact below_alloc w _
  obtain ⟨b, off, ao, cap, rfl, hcap, _, hao, hcell⟩ := h2.below hb
  have hz : W.heap[w.heap.size]? = some (.cells #[.int .i64 s.pc, .slice a1 s.st.length c1, .slice ao s.ca.length cap] 25 (0, 0)) := by rw [hW]; exact heap_alloc_new w _
  have g0 : W.cell? ⟨w.heap.size, 0, none⟩ = some (.int .i64 s.pc) := by simp [World.cell?, hz]
  have g1 : W.cell? ⟨w.heap.size, 1, none⟩ = some (.slice a1 s.st.length c1) := by simp [World.cell?, hz]
  have g2 : W.cell? ⟨w.heap.size, 2, none⟩ = some (.slice ao s.ca.length cap) := by simp [World.cell?, hz]
  have HB := hid hb
  have HC := hid hcell
  obtain ⟨R, hR⟩ : ∃ R, R = okS n s := ⟨_, rfl⟩
  rw [← hR]
  have HRR := hid hR
  clear hb hz hcell hR h2
  by_cases hs : 64 < s.st.length
  · have hs' : (64 : Int) < (s.st.length : Int) := by omega
    have HR : Hid (R = false) := by unfold Hid; rw [HRR.out]; unfold okS; rw [decide_eq_false (show ¬ s.st.length ≤ 64 by omega)]; simp
    clear HRR
    go_enter Tryd.func32, Tryd.ntmps32
    iterate 6 (first | go_values | go_skip | go_guarded | go_step | go_upon | go_back | go_simp)
    rw [← hW]
    clear hW
    go_wp2
    go_ret
    exact ⟨ret_bool HR.out.symm, HB.out⟩
  have hs' : decide ((64 : Int) < (s.st.length : Int)) = false := decide_eq_false (by omega)
  by_cases hc : 32 < s.ca.length
  · have hc' : (32 : Int) < (s.ca.length : Int) := by omega
    have HR : Hid (R = false) := by unfold Hid; rw [HRR.out]; unfold okS; rw [decide_eq_false (show ¬ s.ca.length ≤ 32 by omega)]; simp
    clear HRR
    go_enter Tryd.func32, Tryd.ntmps32
    iterate 6 (first | go_values | go_skip | go_guarded | go_step | go_upon | go_back | go_simp)
    rw [← hW]
    clear hW
    go_wp2
    go_ret
    exact ⟨ret_bool HR.out.symm, HB.out⟩
  have hc' : decide ((32 : Int) < (s.ca.length : Int)) = false := decide_eq_false (by omega)
  go_enter Tryd.func32, Tryd.ntmps32
  iterate 6 (first | go_values | go_skip | go_guarded | go_step | go_upon | go_back | go_simp)
  rw [← hW]
  clear hW
  go_wp2
  go_loop [20] (fun i => ∃ (k : Nat), k ≤ s.ca.length ∧ i = .int .i64 (k : Int) ∧ Hid ((s.ca.take k).all (fun c => decide (0 ≤ c) && decide (c ≤ (n : Int))) = true)) (fun i => s.ca.length - (intOf i).toNat)
  case atStart => exact ⟨0, Nat.zero_le _, rfl, by unfold Hid; simp⟩
  case round =>
    obtain ⟨k, hk, rfl, hok⟩ := hrel
    by_cases hlt : k < s.ca.length
    · have hlt' : (k : Int) < (s.ca.length : Int) := by omega
      obtain rfl := hao (by intro h; rw [h] at hlt; simp at hlt)
      have hx := HC.out k hlt
      have HN := hid (fun h0 h1 => okS_take (n := n) hlt hok.out h0 h1)
      have HS := hid (fun h0 => okS_stop (n := n) hlt h0)
      obtain ⟨x, hxx⟩ : ∃ x, x = s.ca.getD k 0 := ⟨_, rfl⟩
      rw [← hxx] at hx HN HS
      clear hxx
      by_cases x0 : x < 0
      · have HR : Hid (R = false) := by unfold Hid; rw [HRR.out, okS_of (by omega) (by omega) (HS.out (by omega))]; simp
        go_wp2
        go_ret
        exact ⟨ret_bool HR.out.symm, HB.out⟩
      · have x0' : decide (x < 0) = false := decide_eq_false x0
        by_cases x1 : (n : Int) < x
        · have HR : Hid (R = false) := by unfold Hid; rw [HRR.out, okS_of (by omega) (by omega) (HS.out (by omega))]; simp
          go_wp2
          go_ret
          exact ⟨ret_bool HR.out.symm, HB.out⟩
        · go_wp2
          go_round
          case rel => exact ⟨k + 1, by omega, by go_num, HN.out (by omega) (by omega)⟩
          case measure => simp [intOf]; omega
    · have hlt' : ¬ (k : Int) < (s.ca.length : Int) := by omega
      have hf := hok.out
      rw [List.take_of_length_le (by omega)] at hf
      have hR2 : R = (decide (0 ≤ s.pc) && decide (s.pc ≤ n)) := by rw [HRR.out, okS_of (by omega) (by omega) hf]; simp
      by_cases p0 : 0 ≤ s.pc
      · have HR : Hid (R = decide (s.pc ≤ n)) := by unfold Hid; rw [hR2, decide_eq_true p0]; simp
        clear hf hR2
        go_wp2
        go_ret
        exact ⟨ret_bool HR.out.symm, HB.out⟩
      · have p0' : decide (0 ≤ s.pc) = false := decide_eq_false p0
        have HR : Hid (R = false) := by unfold Hid; rw [hR2, p0']; simp
        clear hf hR2
        go_wp2
        go_ret
        exact ⟨ret_bool HR.out.symm, HB.out⟩

/-- Why a run may not be. -/
def refL (l : List InsL) (s : StL) (m : Bool) (fuel : Int) : Int :=
  if (checkL l).1 = 0 then (if okS l.length s = true ∧ m = true ∧ 0 ≤ fuel ∧ fuel ≤ 1048576 then 0 else 1) else (checkL l).1
set_option maxRecDepth 20000 in
set_option maxHeartbeats 2000000 in
theorem refused_any (v : Value) (l : List InsL) (sv : Value) (s : StL) (vs vk : Value) (fuel : Int) (mv : Value) (mb : Bool) (hm : (mb = true ∧ ∃ q, mv = memV q) ∨ (mb = false ∧ mv = .nilIface)) (w : World) (hV : SeesI w v l) (hT : Tabs w) (hS : SeesS w sv s vs vk) (hlen : l.length ≤ 140737488355328) :
    Calls Tryd.prog 24 #[v, sv, mv, .int .i64 fuel] w fun e w' => e = .returned (.int .i64 (refL l s mb fuel)) ∧ Below w.heap.size w w' := by
  have hS0 := hS
  obtain ⟨rfl, _, _, _, _⟩ := hS
  obtain ⟨W, hW⟩ : ∃ W, W = w.alloc (.cells #[.int .i64 s.pc, vs, vk] 25) := ⟨_, rfl⟩
  have hb : Below w.heap.size w W := by rw [hW]; exact below_alloc w _
  have hck := check_any v l W (hV.below hb) (hT.below hb) hlen
  obtain ⟨_, _, va, vcap, hv, _⟩ := hV
  subst hv
  have hz : W.heap[w.heap.size]? = some (.cells #[.int .i64 s.pc, vs, vk] 25 (0, 0)) := by rw [hW]; exact heap_alloc_new w _
  have hzl := (Array.getElem?_eq_some_iff.1 hz).1
  have HB := hid hb
  have HZ := hid hz
  have HMB := hid (fun w1 (h1 : Below w.heap.size w w1) => mayBeS_any _ s vs vk l.length w1 (hS0.below h1))
  obtain ⟨R, hR⟩ : ∃ R, R = refL l s mb fuel := ⟨_, rfl⟩
  rw [← hR]
  unfold refL at hR
  obtain ⟨E, hE⟩ : ∃ E, E = (checkL l).1 := ⟨_, rfl⟩
  obtain ⟨K, hK⟩ : ∃ K, K = (checkL l).2 := ⟨_, rfl⟩
  rw [← hE] at hR hck
  rw [← hK] at hck
  have HRR := hid hR
  clear hb hz hS0 hR hE hK
  go_enter Tryd.func24, Tryd.ntmps24
  go_wp2_with fail
  rw [← hW]
  clear hW
  refine hck.mono ?_
  rintro e w1 ⟨rfl, b1⟩
  have hB1 := HB.out.trans (b1.mono HB.out.size)
  have hz1 : w1.heap[w.heap.size]? = some (.cells #[.int .i64 s.pc, vs, vk] 25 (0, 0)) := by rw [b1.block _ hzl]; exact HZ.out
  have g0 : w1.cell? ⟨w.heap.size, 0, none⟩ = some (.int .i64 s.pc) := by simp [World.cell?, hz1]
  have g1 : w1.cell? ⟨w.heap.size, 1, none⟩ = some vs := by simp [World.cell?, hz1]
  have g2 : w1.cell? ⟨w.heap.size, 2, none⟩ = some vk := by simp [World.cell?, hz1]
  have hmb := HMB.out w1 hB1
  have HB1 := hid hB1
  clear hck b1 hB1 hz1
  by_cases hE : E = 0
  · subst hE
    obtain ⟨O, hO⟩ : ∃ O, O = okS l.length s := ⟨_, rfl⟩
    have hr := HRR.out
    rw [if_pos rfl, ← hO] at hr
    rw [← hO] at hmb
    have HR := hid hr
    clear hr hO HRR
    go_wp2_with fail
    refine hmb.mono ?_
    rintro e w2 ⟨rfl, b2⟩
    have HB2 := hid (HB1.out.trans (b2.mono HB1.out.size))
    clear hmb b2 g0 g1 g2
    cases O with
    | false =>
      have HR1 : Hid (R = 1) := by unfold Hid; rw [HR.out]; simp
      clear HR
      go_wp2
      go_ret
      exact ⟨by rw [HR1.out]; rfl, HB2.out⟩
    | true =>
      rcases hm with ⟨rfl, q, rfl⟩ | ⟨rfl, rfl⟩
      · unfold memV at *
        by_cases f0 : fuel < 0
        · have HR1 : Hid (R = 1) := by unfold Hid; rw [HR.out, if_neg (by omega)]
          clear HR
          go_wp2
          go_ret
          exact ⟨by rw [HR1.out]; rfl, HB2.out⟩
        · have f0' : decide (fuel < 0) = false := decide_eq_false f0
          by_cases f1 : 1048576 < fuel
          · have HR1 : Hid (R = 1) := by unfold Hid; rw [HR.out, if_neg (by omega)]
            clear HR
            go_wp2
            go_ret
            exact ⟨by rw [HR1.out]; rfl, HB2.out⟩
          · have HR1 : Hid (R = 0) := by unfold Hid; rw [HR.out, if_pos ⟨rfl, rfl, by omega, by omega⟩]
            clear HR
            go_wp2
            go_ret
            exact ⟨by rw [HR1.out]; rfl, HB2.out⟩
      · have HR1 : Hid (R = 1) := by unfold Hid; rw [HR.out]; simp
        clear HR
        go_wp2
        go_ret
        exact ⟨by rw [HR1.out]; rfl, HB2.out⟩
  · have hE' : (E != 0) = true := by simpa using hE
    have HR1 : Hid (R = E) := by unfold Hid; rw [HRR.out, if_neg hE]
    clear HRR
    go_wp2
    go_ret
    exact ⟨by rw [HR1.out]; rfl, HB1.out⟩
end Go.Proofs.YtfnojlgmbfocfaaDoor
