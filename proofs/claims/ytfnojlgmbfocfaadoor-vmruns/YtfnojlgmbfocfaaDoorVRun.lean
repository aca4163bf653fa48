/-
  run.
-/
import Derived.Test.YtfnojlgmbfocfaaDoorVNew
namespace Go.Proofs.YtfnojlgmbfocfaaDoor
open Go.RowKit
set_option linter.unusedVariables false
set_option linter.unusedSimpArgs false

theorem step_any (w : World) (B p q r : Nat) (vc vs vk vb : Value) (code : List InsL) (s : StL) (b : List Nat) (ld st : Nat) (h : MM w B p q r (memV q) vc vs vk vb code s b ld st) (hT : Tabs w) (hB : 2 ≤ B) (hq2 : 2 ≤ q) (hr2 : 2 ≤ r) (hld : ld < 4611686018427387904) (hst : st < 4611686018427387904) (hbl : b.length ≤ 4611686018427387904)
    (hn : code.length ≤ 1024) (hc : ∀ i ∈ code, mayI code.length i = true) (ho : OkS code.length s) :
    Calls Tryd.prog 34 #[.pointer (some ⟨p, 0, none⟩)] w (StepR w B p q r vc vs vk vb code s b ld st) := by
  by_cases hp : s.pc = code.length
  · exact step_end w B p q r vc vs vk vb code s b ld st h hn hp
  · exact step_go w B p q r vc vs vk vb code s b ld st h hT hB hq2 hr2 hld hst hbl hn hc ho (by have := ho.p1; omega)

/-- How a run stands behind k steps. -/
def RunAt (w : World) (B p q r g : Nat) (vc vb : Value) (code : List InsL) (s : StL) (b : List Nat) (a0 fuel k : Nat) (wr : World) : Prop :=
  ∃ vs vk s' b' ld st, MM wr B p q r (memV q) vc vs vk vb code s' b' ld st ∧ ld + st ≤ a0 + k ∧ Kp B q r w wr ∧ OkS code.length s' ∧ b'.length = b.length ∧ runL code fuel 0 s b = runL code (fuel - k) k s' b' ∧ wr.heap[g]? = some (.cells #[.int .i64 0, .int .i64 0, .int .i64 0] 33 (0, 0)) ∧ Off B p vc vs vk g ∧ Tabs wr
/-- What a run leaves. -/
def RunR (w : World) (B p q r : Nat) (vc vb : Value) (code : List InsL) (a0 : Nat) (R : (Int × Int × Nat) × StL × List Nat) (e : Ending) (w' : World) : Prop :=
  e = .returned (stopV (R.1.1, R.1.2.1) (R.1.2.2 : Nat)) ∧ ∃ vs' vk' ld' st', MM w' B p q r (memV q) vc vs' vk' vb code R.2.1 R.2.2 ld' st' ∧ ld' + st' ≤ a0 + R.1.2.2 ∧ Kp B q r w w'

theorem heap_set3of {w : World} {g : Nat} {a b c x : Value} {t : TypeId} (h : w.heap[g]? = some (.cells #[a, b, c] t (0, 0))) : (w.setCell ⟨g, 2, none⟩ x).heap[g]? = some (.cells #[a, b, x] t (0, 0)) := by
  simp only [World.setCell, Array.getElem?_modify, h]
  simp
theorem Off.alloc {w : World} {B p q r : Nat} {m vc vs vk vb : Value} {code : List InsL} {s : StL} {b : List Nat} {ld st : Nat} (h : MM w B p q r m vc vs vk vb code s b ld st) : Off B p vc vs vk w.heap.size := h.off

set_option maxRecDepth 20000 in
set_option maxHeartbeats 8000000 in
theorem runM_any (w : World) (B p q r : Nat) (vc vs vk vb : Value) (code : List InsL) (s : StL) (b : List Nat) (ld st : Nat) (h : MM w B p q r (memV q) vc vs vk vb code s b ld st) (hT : Tabs w) (hB : 2 ≤ B) (hq2 : 2 ≤ q) (hr2 : 2 ≤ r) (hbl : b.length ≤ 4611686018427387904)
    (hn : code.length ≤ 1024) (hc : ∀ i ∈ code, mayI code.length i = true) (ho : OkS code.length s) (fuel : Nat) (hf : fuel ≤ 1048576) (ha : ld + st ≤ 1048576 * 1048576) :
    Calls Tryd.prog 26 #[.pointer (some ⟨p, 0, none⟩), .int .i64 (fuel : Int)] w (RunR w B p q r vc vb code (ld + st) (runL code fuel 0 s b)) := by
  obtain ⟨W, hW⟩ : ∃ W, W = w.alloc (.cells #[.int .i64 0, .int .i64 0, .int .i64 0] 33) := ⟨_, rfl⟩
  have hb : Below w.heap.size w W := by rw [hW]; exact below_alloc w _
  have hz : W.heap[w.heap.size]? = some (.cells #[.int .i64 0, .int .i64 0, .int .i64 0] 33 (0, 0)) := by rw [hW]; exact heap_alloc_new w _
  have H0 : Hid (RunAt w B p q r w.heap.size vc vb code s b (ld + st) fuel 0 W) := ⟨vs, vk, s, b, ld, st, h.below hb, by omega, Kp.of (hb.mono h.le), ho, rfl, by simp, hz, h.off, hT.below hb⟩
  have hle := h.le
  unfold RunR
  obtain ⟨R, hR⟩ : ∃ R, R = runL code fuel 0 s b := ⟨_, rfl⟩
  rw [← hR]
  have HR := hid hR
  clear h hb hz hR hT ho
  go_enter Tryd.func26, Tryd.ntmps26
  iterate 6 (first | go_values | go_skip | go_guarded | go_step | go_upon | go_back | go_simp)
  rw [← hW]
  clear hW
  go_wp2_with fail
  go_loopw [8] (fun i wr => ∃ (k : Nat), k ≤ fuel ∧ i = .int .i64 (k : Int) ∧ Hid (RunAt w B p q r w.heap.size vc vb code s b (ld + st) fuel k wr)) (fun i _ => fuel - (intOf i).toNat)
  case atStart => exact ⟨0, Nat.zero_le _, rfl, H0⟩
  case round =>
    obtain ⟨k, hk, rfl, hat⟩ := hrel
    by_cases hlt : k < fuel
    · have hlt' : (k : Int) < (fuel : Int) := by omega
      obtain ⟨vs1, vk1, s1, b1, ld1, st1, m1, a1, kp1, o1, l1, r1, z1, f1, t1⟩ := hat.out
      have hst := step_any wr B p q r vc vs1 vk1 vb code s1 b1 ld1 st1 m1 t1 hB hq2 hr2 (by omega) (by omega) (by omega) hn hc o1
      have hgl := (Array.getElem?_eq_some_iff.1 z1).1
      have hok := step_ok (b := b1) hc o1
      have hrs : runL code (fuel - k) k s1 b1 = if (stepL code s1 b1).1.1 = 0 then runL code (fuel - (k + 1)) (k + 1) (stepL code s1 b1).2.1 (stepL code s1 b1).2.2 else (((stepL code s1 b1).1.1, (stepL code s1 b1).1.2, k + 1), (stepL code s1 b1).2.1, (stepL code s1 b1).2.2) := by
        rw [show fuel - k = (fuel - (k + 1)) + 1 by omega, run_step]
      rw [← r1] at hrs
      unfold StepR stopV at hst
      obtain ⟨⟨⟨kd, tr⟩, s2, b2⟩, hSL⟩ : ∃ SL, SL = stepL code s1 b1 := ⟨_, rfl⟩
      rw [← hSL] at hst hok hrs
      simp only at hst hok hrs
      have HOK := hid hok
      have HRS := hid hrs
      have HF1 := hid f1
      have HZ1 := hid z1
      have HK1 := hid kp1
      have HT1 := hid t1
      clear m1 o1 r1 z1 f1 t1 hok hrs hSL hat kp1
      go_wp2_with fail
      refine hst.mono ?_
      rintro e w2 ⟨rfl, vs2, vk2, ld2, st2, m2, a2, kp2, fr2⟩
      obtain ⟨e1, e2, e3⟩ := fr2 w.heap.size HF1.out.b hgl HF1.out.p HF1.out.s HF1.out.k
      have hO2 : Off B p vc vs2 vk2 w.heap.size := ⟨HF1.out.b, HF1.out.p, HF1.out.c, e2, e3⟩
      have hz2 : w2.heap[w.heap.size]? = some (.cells #[.int .i64 0, .int .i64 0, .int .i64 0] 33 (0, 0)) := by rw [e1]; exact HZ1.out
      have hgl2 := (Array.getElem?_eq_some_iff.1 hz2).1
      obtain ⟨W3, hW3⟩ : ∃ W3, W3 = w2.alloc (.cells #[.int .i64 kd, .int .i64 tr, .int .i64 0] 33) := ⟨_, rfl⟩
      have hb3 : Below w2.heap.size w2 W3 := by rw [hW3]; exact below_alloc w2 _
      have hx3 : W3.heap[w2.heap.size]? = some (.cells #[.int .i64 kd, .int .i64 tr, .int .i64 0] 33 (0, 0)) := by rw [hW3]; exact heap_alloc_new w2 _
      have hz3 : W3.heap[w.heap.size]? = some (.cells #[.int .i64 0, .int .i64 0, .int .i64 0] 33 (0, 0)) := by rw [hb3.block _ hgl2]; exact hz2
      have hT3 := (HT1.out.kp (kp2.mono (Nat.le_refl _)) hB hq2 hr2).below hb3
      have HM3 := hid (m2.below hb3)
      have HA3 : Hid (ld2 + st2 ≤ ld + st + (k + 1)) := by unfold Hid; omega
      have HK3 := hid ((HK1.out.trans kp2).trans (Kp.of (hb3.mono m2.le)))
      have HO3 := hid hO2
      have HX3 := hid hx3
      have HZ3 := hid hz3
      have HT3 := hid hT3
      have hoff3 := m2.off
      have HF3 := hid hoff3
      obtain ⟨x, hx⟩ : ∃ x, x = w2.heap.size := ⟨_, rfl⟩
      have hxg : x ≠ w.heap.size := by omega
      have hxw : w.heap.size ≤ x := by omega
      have y0 : W3.cell? ⟨x, 0, none⟩ = some (.int .i64 kd) := by rw [hx]; simp [World.cell?, hx3]
      have y1 : W3.cell? ⟨x, 1, none⟩ = some (.int .i64 tr) := by rw [hx]; simp [World.cell?, hx3]
      have y2 : W3.cell? ⟨x, 2, none⟩ = some (.int .i64 0) := by rw [hx]; simp [World.cell?, hx3]
      have yf : W3.frozen? ⟨x, 2, none⟩ = false := by rw [hx]; simp [World.frozen?, hx3]
      rw [← hx] at HX3 HF3
      have g0 : W3.cell? ⟨w.heap.size, 0, none⟩ = some (.int .i64 0) := by simp [World.cell?, hz3]
      have g1 : W3.cell? ⟨w.heap.size, 1, none⟩ = some (.int .i64 0) := by simp [World.cell?, hz3]
      have g2 : W3.cell? ⟨w.heap.size, 2, none⟩ = some (.int .i64 0) := by simp [World.cell?, hz3]
      have n0 : W3.frozen? ⟨w.heap.size, 0, none⟩ = false := by simp [World.frozen?, hz3]
      have n1 : W3.frozen? ⟨w.heap.size, 1, none⟩ = false := by simp [World.frozen?, hz3]
      have n2 : W3.frozen? ⟨w.heap.size, 2, none⟩ = false := by simp [World.frozen?, hz3]
      clear hst m2 kp2 fr2 e1 e2 e3 hO2 hz2 hb3 hx3 hz3 hT3 hoff3
      iterate 8 (first | go_values | go_skip | go_guarded | go_step | go_upon | go_back | go_simp)
      rw [← hW3, ← hx]
      clear hW3 hx
      by_cases hkd : kd = 0
      · subst hkd
        have hrs := HRS.out
        rw [if_pos rfl] at hrs
        have HN : Hid (RunAt w B p q r w.heap.size vc vb code s b (ld + st) fuel (k + 1) W3) := ⟨vs2, vk2, s2, b2, ld2, st2, HM3.out, HA3.out, HK3.out, HOK.out.1, HOK.out.2.trans l1, hrs, HZ3.out, HO3.out, HT3.out⟩
        clear hrs HRS
        go_wp2
        go_round
        case rel => exact ⟨k + 1, by omega, by go_num, HN⟩
        case measure => simp [intOf]; omega
      · have hrs := HRS.out
        rw [if_neg hkd, ← HR.out] at hrs
        have hkd' : (kd != 0) = true := by simpa using hkd
        subst hrs
        have HX4 : Hid ((W3.setCell ⟨x, 2, none⟩ (.int .i64 ((k : Int) + 1))).heap[x]? = some (.cells #[.int .i64 kd, .int .i64 tr, .int .i64 ((k : Int) + 1)] 33 (0, 0))) := heap_set3of HX3.out
        have HZ4 : Hid ((W3.setCell ⟨x, 2, none⟩ (.int .i64 ((k : Int) + 1))).heap[w.heap.size]? = some (.cells #[.int .i64 0, .int .i64 0, .int .i64 0] 33 (0, 0))) := by unfold Hid; rw [far_set (fun e => hxg e.symm)]; exact HZ3.out
        have HM4 := hid (HM3.out.aside (k := 2) HF3.out (.int .i64 ((k : Int) + 1)))
        have HK4 : Hid (Kp B q r w (W3.setCell ⟨x, 2, none⟩ (.int .i64 ((k : Int) + 1)))) := HK3.out.trans (Kp.set ⟨x, 2, none⟩ (Or.inr (Or.inr (by show B ≤ x; omega))) _)
        clear HRS
        go_wp2
        refine bodyPost_ret (v := stopV (kd, tr) ((k + 1 : Nat) : Int)) (results_cell_row (fn := Tryd.f26) (p := 4) (ty := 33) rfl _ _ w.heap.size 33 #[.int .i64 kd, .int .i64 tr, .int .i64 ((k : Int) + 1)] (0, 0) _ rfl (heap_fill3 HZ4.out) Tryd.underlying33 rfl rfl) rfl ?_
        exact ⟨rfl, _, _, _, _, HM4.out.fill3 HO3.out _ _ _, HA3.out, HK4.out.trans (Kp.fill3 HO3.out.b _ _ _)⟩
    · have hlt' : ¬ (k : Int) < (fuel : Int) := by omega
      have hke : k = fuel := by omega
      obtain ⟨vs1, vk1, s1, b1, ld1, st1, m1, a1, kp1, o1, l1, r1, z1, f1, t1⟩ := hat.out
      rw [hke, Nat.sub_self] at r1
      have hr2 : R = ((1, 0, fuel), s1, b1) := by rw [HR.out, r1]; rfl
      subst hr2
      have g0 : wr.cell? ⟨w.heap.size, 0, none⟩ = some (.int .i64 0) := by simp [World.cell?, z1]
      have g1 : wr.cell? ⟨w.heap.size, 1, none⟩ = some (.int .i64 0) := by simp [World.cell?, z1]
      have g2 : wr.cell? ⟨w.heap.size, 2, none⟩ = some (.int .i64 0) := by simp [World.cell?, z1]
      have n0 : wr.frozen? ⟨w.heap.size, 0, none⟩ = false := by simp [World.frozen?, z1]
      have n1 : wr.frozen? ⟨w.heap.size, 1, none⟩ = false := by simp [World.frozen?, z1]
      have n2 : wr.frozen? ⟨w.heap.size, 2, none⟩ = false := by simp [World.frozen?, z1]
      have HA1 : Hid (ld1 + st1 ≤ ld + st + fuel) := by unfold Hid; omega
      have HM1 := hid m1
      have HK1 := hid kp1
      have HZ1 := hid z1
      have HF1 := hid f1
      clear m1 kp1 z1 f1 t1 o1 r1 l1 hat HR hke a1
      go_wp2
      refine bodyPost_ret (v := stopV (1, 0) (fuel : Int)) (results_cell_row (fn := Tryd.f26) (p := 4) (ty := 33) rfl _ _ w.heap.size 33 #[.int .i64 1, .int .i64 0, .int .i64 (fuel : Int)] (0, 0) _ rfl (heap_fill3 HZ1.out) Tryd.underlying33 rfl rfl) rfl ?_
      exact ⟨rfl, _, _, _, _, HM1.out.fill3 HF1.out _ _ _, HA1.out, HK1.out.trans (Kp.fill3 HF1.out.b _ _ _)⟩
end Go.Proofs.YtfnojlgmbfocfaaDoor
