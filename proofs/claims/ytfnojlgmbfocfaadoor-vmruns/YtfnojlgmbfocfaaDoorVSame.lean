/-
  The document's Same of lists, of states.
-/
import Derived.Test.YtfnojlgmbfocfaaDoorVMay
import Derived.Deep.QuietTactic
import Derived.BigQuiet
namespace Go.Proofs.YtfnojlgmbfocfaaDoor
open Go.RowKit
set_option linter.unusedVariables false

theorem take_mem_succ {xs : List Int} {k : Nat} {x y : Int} (hk : k < xs.length) (hy : y = xs.getD k 0) (h : x ∉ xs.take k) (hne : y ≠ x) : x ∉ xs.take (k + 1) := by
  rw [List.take_succ_eq_append_getElem hk]
  simp only [List.mem_append, List.mem_singleton]
  rintro (h1 | h1)
  · exact h h1
  · apply hne; rw [hy, h1]; simp [List.getD, hk]

theorem take_eq_succ {xs ys : List Int} {k : Nat} {x y : Int} (hk : k < xs.length) (hk2 : k < ys.length) (hx : x = xs.getD k 0) (hy : y = ys.getD k 0) (h : xs.take k = ys.take k) (he : x = y) : xs.take (k + 1) = ys.take (k + 1) := by
  rw [List.take_succ_eq_append_getElem hk, List.take_succ_eq_append_getElem hk2, h]
  simp only [List.getD, List.getElem?_eq_getElem hk, List.getElem?_eq_getElem hk2, Option.getD_some] at hx hy
  rw [← hx, ← hy, he]

set_option maxHeartbeats 400000 in
theorem same_any (v u : Value) (xs ys : List Int) (w : World) (hS : Sees w v xs) (hT : Sees w u ys) (hlen : xs.length ≤ 4611686018427387904) (hlen2 : ys.length ≤ 4611686018427387904) :
    Calls Tryd.prog 22 #[v, u] w fun e w' => e = .returned (.bool (decide (xs = ys))) ∧ Below w.heap.size w w' := by
  obtain ⟨b, off, ao, cap, rfl, hcap, _, hao, hcell⟩ := hS
  obtain ⟨b2, off2, ao2, cap2, rfl, hcap2, _, hao2, hcell2⟩ := hT
  by_cases hll : xs.length = ys.length
  · have h0 : ((xs.length : Int) != (ys.length : Int)) = false := by rw [hll]; simp
    have HLL : Hid (xs.length = ys.length) := hll
    clear hll
    go_enter Tryd.func22, Tryd.ntmps22
    go_wp2
    go_loopw [5] (fun i wr => ∃ k n : Nat, k ≤ xs.length ∧ i = .int .i64 k ∧ xs.take k = ys.take k ∧ wr = w.drewN n) (fun i _ => xs.length - (intOf i).toNat)
    case atStart => exact ⟨0, 0, Nat.zero_le _, rfl, by simp, rfl⟩
    case round =>
      obtain ⟨k, n, hk, rfl, hnot, rfl⟩ := hrel
      by_cases hlt : k < xs.length
      · have hlt2 : k < ys.length := by have := HLL.out; omega
        have hne : xs ≠ [] := by intro h; rw [h] at hlt; simp at hlt
        have hne2 : ys ≠ [] := by intro h; rw [h] at hlt2; simp at hlt2
        obtain rfl := hao hne
        obtain rfl := hao2 hne2
        obtain ⟨x, hx⟩ : ∃ y, y = xs.getD k 0 := ⟨_, rfl⟩
        obtain ⟨y, hy⟩ : ∃ y, y = ys.getD k 0 := ⟨_, rfl⟩
        have hc := hcell k hlt
        have hc2 := hcell2 k hlt2
        rw [← hx] at hc
        rw [← hy] at hc2
        have HX : Hid (x = xs.getD k 0) := hx
        have HY : Hid (y = ys.getD k 0) := hy
        have HN : Hid (xs.take k = ys.take k) := hnot
        clear hx hy hcell hcell2 hnot hne hne2 hao hao2
        by_cases hyx : x = y
        · have h1 : (x != y) = false := by simpa using hyx
          have HE : Hid (x = y) := hyx
          clear hyx
          go_wp2
          go_quiet (fail)
          go_wp2
          go_roundw
          case rel => exact ⟨k + 1, _, by omega, by go_num, take_eq_succ hlt hlt2 HX.out HY.out HN.out HE.out, rfl⟩
          case measure => simp [intOf]; omega
        · have h1 : (x != y) = true := by simpa using hyx
          go_wp2
          go_quiet (fail)
          go_wp2
          go_ret
          refine ⟨ret_bool ?_, below_drewN (below_drewN (Below.refl _ _) _) _⟩
          have hn : xs ≠ ys := by
            intro h
            apply hyx
            rw [HX.out, HY.out, h]
          simp [hn]
      · go_wp2
        go_ret
        refine ⟨ret_bool ?_, below_drewN (Below.refl _ _) _⟩
        have hn : xs = ys := by
          have h2 := HLL.out
          rwa [List.take_of_length_le (by omega), List.take_of_length_le (by omega)] at hnot
        simp [hn]
  · have h0 : ((xs.length : Int) != (ys.length : Int)) = true := by simp; omega
    go_enter Tryd.func22, Tryd.ntmps22
    go_wp2
    go_ret
    exact ⟨ret_bool (by simp; intro h; exact hll (by rw [h])), Below.refl _ _⟩


/-- What R.Same says. -/
def eqS (s1 s2 : StL) : Bool := decide (s1.pc = s2.pc) && (decide (s1.st = s2.st) && decide (s1.ca = s2.ca))
theorem eqS_iff {s1 s2 : StL} : eqS s1 s2 = true ↔ s1 = s2 := by
  obtain ⟨p, a, b⟩ := s1
  obtain ⟨p2, a2, b2⟩ := s2
  simp [eqS]
theorem eqS_self (s : StL) : eqS s s = true := eqS_iff.2 rfl
set_option maxRecDepth 20000 in
set_option maxHeartbeats 2000000 in
theorem sameS_any (v1 v2 : Value) (s1 s2 : StL) (a1 k1 a2 k2 : Value) (w : World) (h1 : SeesS w v1 s1 a1 k1) (h2 : SeesS w v2 s2 a2 k2) :
    Calls Tryd.prog 15 #[v1, v2] w fun e w' => e = .returned (.bool (eqS s1 s2)) ∧ Below w.heap.size w w' := by
  obtain ⟨rfl, x1, y1, l1, m1⟩ := h1
  obtain ⟨rfl, x2, y2, l2, m2⟩ := h2
  obtain ⟨W, hW⟩ : ∃ W, W = (w.alloc (.cells #[.int .i64 s1.pc, a1, k1] 25)).alloc (.cells #[.int .i64 s2.pc, a2, k2] 25) := ⟨_, rfl⟩
  have hb : Below w.heap.size w W := by rw [hW]; exact below_alloc2 w _ _
  have z1 : W.heap[w.heap.size]? = some (.cells #[.int .i64 s1.pc, a1, k1] 25 (0, 0)) := by rw [hW, Below.heap_alloc _ _ _ (by simp)]; exact heap_alloc_new w _
  have z2 : W.heap[w.heap.size + 1]? = some (.cells #[.int .i64 s2.pc, a2, k2] 25 (0, 0)) := by
    rw [hW]
    have := heap_alloc_new (w.alloc (.cells #[.int .i64 s1.pc, a1, k1] 25)) (.cells #[.int .i64 s2.pc, a2, k2] 25)
    simpa using this
  have hzl := (Array.getElem?_eq_some_iff.1 z2).1
  have p1 : W.cell? ⟨w.heap.size, 0, none⟩ = some (.int .i64 s1.pc) := by simp [World.cell?, z1]
  have p2 : W.cell? ⟨w.heap.size + 1, 0, none⟩ = some (.int .i64 s2.pc) := by simp [World.cell?, z2]
  have q1 : W.cell? ⟨w.heap.size, 1, none⟩ = some a1 := by simp [World.cell?, z1]
  have q2 : W.cell? ⟨w.heap.size + 1, 1, none⟩ = some a2 := by simp [World.cell?, z2]
  have hs1 := same_any a1 a2 s1.st s2.st W (x1.below hb) (x2.below hb) (by omega) (by omega)
  have HS2 := hid (fun w1 (h : Below w.heap.size w w1) => same_any k1 k2 s1.ca s2.ca w1 (y1.below h) (y2.below h) (by omega) (by omega))
  have HB := hid hb
  have HZ1 := hid z1
  have HZ2 := hid z2
  obtain ⟨R, hR⟩ : ∃ R, R = eqS s1 s2 := ⟨_, rfl⟩
  rw [← hR]
  unfold eqS at hR
  obtain ⟨t1, ht1⟩ : ∃ t, t = decide (s1.st = s2.st) := ⟨_, rfl⟩
  obtain ⟨t2, ht2⟩ : ∃ t, t = decide (s1.ca = s2.ca) := ⟨_, rfl⟩
  rw [← ht1] at hs1 hR
  rw [← ht2] at HS2 hR
  have HRR := hid hR
  clear x1 y1 x2 y2 hb z1 z2 hR ht1 ht2 l1 m1 l2 m2
  by_cases hp : s1.pc = s2.pc
  · have hp' : (s1.pc == s2.pc) = true := by simpa using hp
    have HR : Hid (R = (t1 && t2)) := by unfold Hid; rw [HRR.out, decide_eq_true hp]; simp
    clear hp HRR
    go_enter Tryd.func15, Tryd.ntmps15
    iterate 9 (first | go_values | go_skip | go_guarded | go_step | go_upon | go_back | go_simp)
    rw [← hW]
    clear hW
    go_wp2_with fail
    refine hs1.mono ?_
    rintro e w1 ⟨rfl, b1⟩
    have r1 : w1.cell? ⟨w.heap.size, 2, none⟩ = some k1 := by rw [b1.cell (p := ⟨w.heap.size, 2, none⟩) (show w.heap.size < _ by omega)]; simp [World.cell?, HZ1.out]
    have r2 : w1.cell? ⟨w.heap.size + 1, 2, none⟩ = some k2 := by rw [b1.cell (p := ⟨w.heap.size + 1, 2, none⟩) hzl]; simp [World.cell?, HZ2.out]
    have hB1 := HB.out.trans (b1.mono HB.out.size)
    have hs2 := HS2.out w1 hB1
    have HB1 := hid hB1
    clear hs1 b1 hB1 p1 p2 q1 q2
    cases t1 with
    | false =>
      have HR2 : Hid (R = false) := by unfold Hid; rw [HR.out]; rfl
      go_wp2
      go_ret
      exact ⟨ret_bool HR2.out.symm, HB1.out⟩
    | true =>
      have HR2 : Hid (R = t2) := by unfold Hid; rw [HR.out]; rfl
      clear HR
      go_wp2_with fail
      refine hs2.mono ?_
      rintro e w2 ⟨rfl, b2⟩
      have HB2 := hid (HB1.out.trans (b2.mono HB1.out.size))
      clear hs2 b2
      go_wp2
      go_ret
      exact ⟨ret_bool HR2.out.symm, HB2.out⟩
  · have hp' : (s1.pc == s2.pc) = false := by simpa using hp
    have HR : Hid (R = false) := by unfold Hid; rw [HRR.out, decide_eq_false hp]; simp
    clear HRR hs1
    go_enter Tryd.func15, Tryd.ntmps15
    iterate 9 (first | go_values | go_skip | go_guarded | go_step | go_upon | go_back | go_simp)
    rw [← hW]
    clear hW
    go_wp2
    go_ret
    exact ⟨ret_bool HR.out.symm, HB.out⟩

end Go.Proofs.YtfnojlgmbfocfaaDoor
