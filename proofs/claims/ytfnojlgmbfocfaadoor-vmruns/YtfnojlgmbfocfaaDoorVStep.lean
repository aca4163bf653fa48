/-
  step.
-/
import Derived.Test.YtfnojlgmbfocfaaDoorVDoC
namespace Go.Proofs.YtfnojlgmbfocfaaDoor
open Go.RowKit
set_option linter.unusedVariables false
set_option linter.unusedSimpArgs false

def stopV (k : Int × Int) (u : Int) : Value := .agg #[.int .i64 k.1, .int .i64 k.2, .int .i64 u]

/-- What 'step' leaves. -/
def StepR (w : World) (B p q r : Nat) (vc vs vk vb : Value) (code : List InsL) (s : StL) (b : List Nat) (ld st : Nat) (e : Ending) (w' : World) : Prop :=
  e = .returned (stopV (stepL code s b).1 0) ∧ ∃ vs' vk' ld' st', MM w' B p q r (memV q) vc vs' vk' vb code (stepL code s b).2.1 (stepL code s b).2.2 ld' st' ∧ ld' + st' ≤ ld + st + 1 ∧ Kp B q r w w' ∧ Fr B p vs vk w vs' vk' w'

/-- A block that is none of the machine's. -/
structure Off (B p : Nat) (vc vs vk : Value) (g : Nat) : Prop where
  b : B ≤ g
  p : g ≠ p
  c : vc.ownBlock ≠ some g
  s : vs.ownBlock ≠ some g
  k : vk.ownBlock ≠ some g
theorem MM.off {w : World} {B p q r : Nat} {m vc vs vk vb : Value} {code : List InsL} {s : StL} {b : List Nat} {ld st : Nat} (h : MM w B p q r m vc vs vk vb code s b ld st) : Off B p vc vs vk w.heap.size :=
  ⟨h.le, by have := h.m.lt; omega, fun e => by have := (h.m.oc.lt _ e).2; omega, fun e => by have := (h.m.os.lt _ e).2; omega, fun e => by have := (h.m.ok.lt _ e).2; omega⟩
theorem MM.aside {w : World} {B p q r g k : Nat} {m vc vs vk vb : Value} {code : List InsL} {s : StL} {b : List Nat} {ld st : Nat} (h : MM w B p q r m vc vs vk vb code s b ld st) (o : Off B p vc vs vk g) (x : Value) : MM (w.setCell ⟨g, k, none⟩ x) B p q r m vc vs vk vb code s b ld st := by
  obtain ⟨o1, o2, o3, o4, o5⟩ := o
  have hq := h.q
  have hr := h.r
  have hm := h.m
  exact ⟨⟨by rw [far_set (fun e => o2 e.symm)]; exact hm.blk, hm.base, ownsRow_same hm.oc (fun j hj => far_set (fun e => o3 (by rw [hj, e]))), ownsRow_same hm.os (fun j hj => far_set (fun e => o4 (by rw [hj, e]))), ownsRow_same hm.ok (fun j hj => far_set (fun e => o5 (by rw [hj, e]))), hm.pc, hm.ps, hm.pk, hm.cs, hm.ck, hm.sk⟩, h.h.same (far_set (by omega)) (fun j hj => far_set (by have := (h.h.at_ j hj).1; omega)), hq, hr⟩
theorem heap_fill3 {w : World} {g : Nat} {a b c x y z : Value} {t : TypeId} (h : w.heap[g]? = some (.cells #[a, b, c] t (0, 0))) : (((w.setCell ⟨g, 0, none⟩ x).setCell ⟨g, 1, none⟩ y).setCell ⟨g, 2, none⟩ z).heap[g]? = some (.cells #[x, y, z] t (0, 0)) := by
  simp only [World.setCell, Array.getElem?_modify, h]
  simp
theorem MM.fill3 {w : World} {B p q r g : Nat} {m vc vs vk vb : Value} {code : List InsL} {s : StL} {b : List Nat} {ld st : Nat} (h : MM w B p q r m vc vs vk vb code s b ld st) (o : Off B p vc vs vk g) (x y z : Value) : MM (((w.setCell ⟨g, 0, none⟩ x).setCell ⟨g, 1, none⟩ y).setCell ⟨g, 2, none⟩ z) B p q r m vc vs vk vb code s b ld st := ((h.aside o x).aside o y).aside o z
theorem Kp.fill3 {B q r g : Nat} {w : World} (hg : B ≤ g) (x y z : Value) : Kp B q r w (((w.setCell ⟨g, 0, none⟩ x).setCell ⟨g, 1, none⟩ y).setCell ⟨g, 2, none⟩ z) :=
  ((Kp.set ⟨g, 0, none⟩ (Or.inr (Or.inr hg)) x).trans (Kp.set ⟨g, 1, none⟩ (Or.inr (Or.inr hg)) y)).trans (Kp.set ⟨g, 2, none⟩ (Or.inr (Or.inr hg)) z)

theorem Fr.done {B p g : Nat} {vs vk vs' vk' : Value} {w w' : World} (h : Fr B p vs vk w vs' vk' w') (hg : w.heap.size ≤ g) (x y z : Value) : Fr B p vs vk w vs' vk' (((w'.setCell ⟨g, 0, none⟩ x).setCell ⟨g, 1, none⟩ y).setCell ⟨g, 2, none⟩ z) := fun c h0 hc h1 h2 h3 => by
  obtain ⟨e1, e2, e3⟩ := h c h0 hc h1 h2 h3
  exact ⟨by rw [far_set (by omega), far_set (by omega), far_set (by omega)]; exact e1, e2, e3⟩

set_option maxRecDepth 20000 in
set_option maxHeartbeats 4000000 in
theorem step_end (w : World) (B p q r : Nat) (vc vs vk vb : Value) (code : List InsL) (s : StL) (b : List Nat) (ld st : Nat) (h : MM w B p q r (memV q) vc vs vk vb code s b ld st) (hn : code.length ≤ 1024) (hp : s.pc = code.length) :
    Calls Tryd.prog 34 #[.pointer (some ⟨p, 0, none⟩)] w (StepR w B p q r vc vs vk vb code s b ld st) := by
  have hst : stepL code s b = ((4, 0), s, b) := by
    unfold stepL
    rw [List.getElem?_eq_none (by omega)]
  unfold StepR
  rw [hst]
  obtain ⟨W, hW⟩ : ∃ W, W = w.alloc (.cells #[.int .i64 0, .int .i64 0, .int .i64 0] 33) := ⟨_, rfl⟩
  have hb : Below w.heap.size w W := by rw [hW]; exact below_alloc w _
  have hM := h.below hb
  obtain ⟨c0, c1, c2, c3, c4, f2, f3, f4⟩ := hM.m.cells
  obtain ⟨_, _, ao, cap, hv, _⟩ := hM.m.oc.sees
  subst hv
  rw [hp] at c2
  have hz : W.heap[w.heap.size]? = some (.cells #[.int .i64 0, .int .i64 0, .int .i64 0] 33 (0, 0)) := by rw [hW]; exact heap_alloc_new w _
  have g0 : W.cell? ⟨w.heap.size, 0, none⟩ = some (.int .i64 0) := by simp [World.cell?, hz]
  have g1 : W.cell? ⟨w.heap.size, 1, none⟩ = some (.int .i64 0) := by simp [World.cell?, hz]
  have g2 : W.cell? ⟨w.heap.size, 2, none⟩ = some (.int .i64 0) := by simp [World.cell?, hz]
  have z0 : W.frozen? ⟨w.heap.size, 0, none⟩ = false := by simp [World.frozen?, hz]
  have z1 : W.frozen? ⟨w.heap.size, 1, none⟩ = false := by simp [World.frozen?, hz]
  have z2 : W.frozen? ⟨w.heap.size, 2, none⟩ = false := by simp [World.frozen?, hz]
  have HM := hid hM
  have HB := hid (hb.mono h.le)
  have HB9 := hid hb
  have HO := hid h.off
  have HZ := hid hz
  clear h hb hM hz
  go_enter Tryd.func34, Tryd.ntmps34
  go_wp2
  rw [← hW]
  clear hW
  go_quiet (fail)
  go_wp2
  have hbd : Below W.heap.size W (W.drewN nq) := below_drewN' _ _ _
  refine bodyPost_ret (v := stopV (4, 0) 0) (results_cell_row (fn := Tryd.f34) (p := 2) (ty := 33) rfl _ _ w.heap.size 33 #[.int .i64 4, .int .i64 0, .int .i64 0] (0, 0) _ rfl (heap_fill3 (by rw [hbd.block _ (World.block_lt_of_cell? W _ g0)]; exact HZ.out)) Tryd.underlying33 rfl rfl) rfl ?_
  exact ⟨rfl, _, _, _, _, (HM.out.below hbd).fill3 HO.out _ _ _, by omega, ((Kp.of HB.out).trans (Kp.of (hbd.mono HM.out.le))).trans (Kp.fill3 HO.out.b _ _ _), ((Fr.of HB9.out).trans HB9.out.size (Fr.of hbd)).done (Nat.le_refl _) _ _ _⟩

set_option maxRecDepth 20000 in
set_option maxHeartbeats 8000000 in
theorem step_go (w : World) (B p q r : Nat) (vc vs vk vb : Value) (code : List InsL) (s : StL) (b : List Nat) (ld st : Nat) (h : MM w B p q r (memV q) vc vs vk vb code s b ld st) (hT : Tabs w) (hB : 2 ≤ B) (hq2 : 2 ≤ q) (hr2 : 2 ≤ r) (hld : ld < 4611686018427387904) (hst : st < 4611686018427387904) (hbl : b.length ≤ 4611686018427387904)
    (hn : code.length ≤ 1024) (hc : ∀ i ∈ code, mayI code.length i = true) (ho : OkS code.length s) (hp : s.pc < code.length) :
    Calls Tryd.prog 34 #[.pointer (some ⟨p, 0, none⟩)] w (StepR w B p q r vc vs vk vb code s b ld st) := by
  obtain ⟨k, hk⟩ := Int.eq_ofNat_of_zero_le ho.p0
  have hkl : k < code.length := by omega
  obtain ⟨op, a, hi⟩ : ∃ op a : Int, code[k] = (op, a) := ⟨_, _, rfl⟩
  have hmay : mayI code.length (op, a) = true := by rw [← hi]; exact hc _ (List.getElem_mem hkl)
  obtain ⟨o1, o2⟩ := mayI_op hmay
  simp only at o1 o2
  have hstep : stepL code s b = if fitsL (op, a) s.st.length = true then (match doL (op, a) s b with | none => ((4, 0), s, b) | some r => (kindO (op, a), r.1, r.2)) else ((4, 0), s, b) := by
    have e0 : code[s.pc.toNat]? = some (op, a) := by rw [hk, Int.toNat_natCast, List.getElem?_eq_getElem hkl, hi]
    unfold stepL
    simp only [e0]
    split
    · cases doL (op, a) s b <;> rfl
    · rfl
  unfold StepR
  obtain ⟨SL, hSL⟩ : ∃ SL, SL = stepL code s b := ⟨_, rfl⟩
  rw [← hSL] at hstep ⊢
  have HSL := hid hstep
  clear hstep hSL
  obtain ⟨W, hW⟩ : ∃ W, W = w.alloc (.cells #[.int .i64 0, .int .i64 0, .int .i64 0] 33) := ⟨_, rfl⟩
  have hb : Below w.heap.size w W := by rw [hW]; exact below_alloc w _
  have hM := h.below hb
  obtain ⟨c0, c1, c2, c3, c4, f2, f3, f4⟩ := hM.m.cells
  obtain ⟨cb, co, ao, cap, hv, _, _, hao, hcell⟩ := hM.m.oc.sees
  obtain rfl := hao (by intro e; rw [e] at hkl; simp at hkl)
  subst hv
  obtain ⟨x1, x2⟩ := hcell k hkl
  rw [hi] at x1 x2
  simp only at x1 x2
  rw [hk] at c2
  have hz : W.heap[w.heap.size]? = some (.cells #[.int .i64 0, .int .i64 0, .int .i64 0] 33 (0, 0)) := by rw [hW]; exact heap_alloc_new w _
  have hzl : w.heap.size < W.heap.size := by rw [hW]; simp
  have HM := hid hM
  have HB := hid hb
  have hle := h.le
  have HO := hid h.off
  have HZ := hid hz
  have HT := hid (hT.below hb)
  have hne : ¬ ((k : Int) = (code.length : Int)) := by omega
  have hkl' : (k : Int) < (code.length : Int) := by omega
  have hcbl := World.block_lt_of_cell? W _ x1
  clear h hb hM hz hcell hao hT
  go_enter Tryd.func34, Tryd.ntmps34
  go_wp2
  rw [← hW]
  clear hW
  go_quiet (fail)
  obtain ⟨W1, hW1⟩ : ∃ W1, W1 = W.drewN nq := ⟨_, rfl⟩
  have hb1 : Below W.heap.size W W1 := by rw [hW1]; exact below_drewN' _ _ _
  rw [← hW1]
  clear hW1
  have d0 := (hb1.cell (p := ⟨p, 0, none⟩) HM.out.m.lt).trans c0
  have d2 := (hb1.cell (p := ⟨p, 2, none⟩) HM.out.m.lt).trans c2
  have y1 := (hb1.cell (p := ⟨cb, co + k * 2, none⟩) hcbl).trans x1
  have y2 := (hb1.cell (p := ⟨cb, co + k * 2 + 1, none⟩) hcbl).trans x2
  have HM1 := hid (HM.out.below hb1)
  have HB1 := hid (HB.out.trans (hb1.mono HB.out.size))
  have HT1 := hid (HT.out.below hb1)
  have hz1 : W1.heap[w.heap.size]? = some (.cells #[.int .i64 0, .int .i64 0, .int .i64 0] 33 (0, 0)) := by rw [hb1.block _ hzl]; exact HZ.out
  have HZ1 := hid hz1
  have hzl1 : w.heap.size < W1.heap.size := by have := hb1.size; omega
  have hcb1 := World.block_lt_of_cell? W1 _ y1
  have hpl1 := HM1.out.m.lt
  have q0 := ((below_alloc W1 (.cells #[.int .i64 0, .int .i64 0] 57)).cell (p := ⟨p, 0, none⟩) hpl1).trans d0
  have q2 := ((below_alloc W1 (.cells #[.int .i64 0, .int .i64 0] 57)).cell (p := ⟨p, 2, none⟩) hpl1).trans d2
  have q3 := ((below_alloc W1 (.cells #[.int .i64 0, .int .i64 0] 57)).cell (p := ⟨cb, co + k * 2, none⟩) hcb1).trans y1
  have q4 := ((below_alloc W1 (.cells #[.int .i64 0, .int .i64 0] 57)).cell (p := ⟨cb, co + k * 2 + 1, none⟩) hcb1).trans y2
  clear hz1 hb1 c0 c1 c2 c3 c4 f2 f3 f4 x1 x2 HT HZ HB
  go_wp2
  go_region
  obtain ⟨W2, hW2⟩ : ∃ W2, W2 = (W1.alloc (.cells #[.int .i64 op, .int .i64 a] 57)).drew := ⟨_, rfl⟩
  rw [← hW2]
  have hb2 : Below W1.heap.size W1 W2 := by rw [hW2]; exact below_ad W1 _
  have hbx : W2.heap[W1.heap.size]? = some (.cells #[.int .i64 op, .int .i64 a] 57 (0, 0)) := by rw [hW2]; exact heap_alloc_new W1 _
  have hbxl : W1.heap.size < W2.heap.size := (Array.getElem?_eq_some_iff.1 hbx).1
  have hM2 := HM1.out.below hb2
  have hT2 := HT1.out.below hb2
  have hz2 : W2.heap[w.heap.size]? = some (.cells #[.int .i64 0, .int .i64 0, .int .i64 0] 33 (0, 0)) := by rw [hb2.block _ hzl1]; exact HZ1.out
  have hft := fits_any W2 B p (memV q) _ vs vk code s hM2.m hT2 ho.st op a o1 o2 (fun e => by subst e; exact mayI_dup hmay)
  have HOX := hid HM1.out.off
  have HM2 := hid hM2
  have HT2 := hid hT2
  have HB2 := hid (HB1.out.trans (hb2.mono HB1.out.size))
  have HZ2 := hid hz2
  have HBX := hid hbx
  have u0 : W2.cell? ⟨W1.heap.size, 0, none⟩ = some (.int .i64 op) := by simp [World.cell?, hbx]
  have u1 : W2.cell? ⟨W1.heap.size, 1, none⟩ = some (.int .i64 a) := by simp [World.cell?, hbx]
  have hzx : w.heap.size ≠ W1.heap.size := by omega
  clear hb2 hW2
  generalize W1.heap.size = BX at *
  obtain ⟨FT, hFT⟩ : ∃ FT, FT = fitsL (op, a) s.st.length := ⟨_, rfl⟩
  rw [← hFT] at hft HSL
  have HFT := hid hFT
  clear hM2 hT2 hz2 hbx q0 q2 q3 q4 d0 d2 y1 y2 hFT HM HT1 HZ1 HM1
  go_wp2_with fail
  refine hft.mono ?_
  rintro e W3 ⟨rfl, b3⟩
  have v0 := (b3.cell (p := ⟨BX, 0, none⟩) hbxl).trans u0
  have v1 := (b3.cell (p := ⟨BX, 1, none⟩) hbxl).trans u1
  have hM3 := HM2.out.below b3
  have hz3 : W3.heap[w.heap.size]? = some (.cells #[.int .i64 0, .int .i64 0, .int .i64 0] 33 (0, 0)) := by rw [b3.block _ (by omega)]; exact HZ2.out
  have hbx3 : W3.heap[BX]? = some (.cells #[.int .i64 op, .int .i64 a] 57 (0, 0)) := by rw [b3.block _ hbxl]; exact HBX.out
  have g0 : W3.cell? ⟨w.heap.size, 0, none⟩ = some (.int .i64 0) := by simp [World.cell?, hz3]
  have g1 : W3.cell? ⟨w.heap.size, 1, none⟩ = some (.int .i64 0) := by simp [World.cell?, hz3]
  have g2 : W3.cell? ⟨w.heap.size, 2, none⟩ = some (.int .i64 0) := by simp [World.cell?, hz3]
  have z0 : W3.frozen? ⟨w.heap.size, 0, none⟩ = false := by simp [World.frozen?, hz3]
  have z1 : W3.frozen? ⟨w.heap.size, 1, none⟩ = false := by simp [World.frozen?, hz3]
  have z2 : W3.frozen? ⟨w.heap.size, 2, none⟩ = false := by simp [World.frozen?, hz3]
  have HM3 := hid hM3
  have HB3 := hid (HB2.out.trans (b3.mono HB2.out.size))
  have HZ3 := hid hz3
  have HBX3 := hid hbx3
  have hbxl3 := (Array.getElem?_eq_some_iff.1 hbx3).1
  have hgl3 := (Array.getElem?_eq_some_iff.1 hz3).1
  cases FT with
  | false =>
    have hs := HSL.out
    rw [if_neg (by decide)] at hs
    subst hs
    clear hft b3 hM3 hz3 hbx3 HSL u0 u1
    go_wp2
    refine bodyPost_ret (v := stopV (4, 0) 0) (results_cell_row (fn := Tryd.f34) (p := 2) (ty := 33) rfl _ _ w.heap.size 33 #[.int .i64 4, .int .i64 0, .int .i64 0] (0, 0) _ rfl (heap_fill3 HZ3.out) Tryd.underlying33 rfl rfl) rfl ?_
    exact ⟨rfl, _, _, _, _, HM3.out.fill3 HO.out _ _ _, Nat.le_succ _, (Kp.of (HB3.out.mono hle)).trans (Kp.fill3 HO.out.b _ _ _), (Fr.of HB3.out).done (Nat.le_refl _) _ _ _⟩
  | true =>
    have hdo := do_any W3 B p q r _ vs vk vb code s b ld st hM3 hld hst hbl code.length hn ho hp op a hmay HFT.out.symm
    have hs := HSL.out
    rw [if_pos rfl] at hs
    have HS := hid hs
    clear hft b3 hM3 hz3 hbx3 HSL u0 u1 hs g0 g1 g2 z0 z1 z2
    unfold DoR at hdo
    go_wp2_with fail
    refine hdo.mono ?_
    rintro e W4 ⟨rfl, vs', vk', ld', st', m4, hle4, kp4, fr4⟩
    obtain ⟨fz1, fz2, fz3⟩ := fr4 w.heap.size HO.out.b hgl3 HO.out.p HO.out.s HO.out.k
    obtain ⟨fx1, fx2, fx3⟩ := fr4 BX HOX.out.b hbxl3 HOX.out.p HOX.out.s HOX.out.k
    have hO4 : Off B p (.slice (some ⟨cb, co, none⟩) code.length cap) vs' vk' w.heap.size := ⟨HO.out.b, HO.out.p, HO.out.c, fz2, fz3⟩
    have hz4 : W4.heap[w.heap.size]? = some (.cells #[.int .i64 0, .int .i64 0, .int .i64 0] 33 (0, 0)) := by rw [fz1]; exact HZ3.out
    have hbx4 : W4.heap[BX]? = some (.cells #[.int .i64 op, .int .i64 a] 57 (0, 0)) := by rw [fx1]; exact HBX3.out
    have v0 : W4.cell? ⟨BX, 0, none⟩ = some (.int .i64 op) := by simp [World.cell?, hbx4]
    have v1 : W4.cell? ⟨BX, 1, none⟩ = some (.int .i64 a) := by simp [World.cell?, hbx4]
    have g0 : W4.cell? ⟨w.heap.size, 0, none⟩ = some (.int .i64 0) := by simp [World.cell?, hz4]
    have g1 : W4.cell? ⟨w.heap.size, 1, none⟩ = some (.int .i64 0) := by simp [World.cell?, hz4]
    have g2 : W4.cell? ⟨w.heap.size, 2, none⟩ = some (.int .i64 0) := by simp [World.cell?, hz4]
    have z0 : W4.frozen? ⟨w.heap.size, 0, none⟩ = false := by simp [World.frozen?, hz4]
    have z1 : W4.frozen? ⟨w.heap.size, 1, none⟩ = false := by simp [World.frozen?, hz4]
    have z2 : W4.frozen? ⟨w.heap.size, 2, none⟩ = false := by simp [World.frozen?, hz4]
    have HZ4 := hid hz4
    have HO4 := hid hO4
    have HM4 := hid m4
    have HL4 := hid hle4
    have HF4 : Hid (Fr B p vs vk w vs' vk' W4) := (Fr.of HB3.out).trans HB3.out.size fr4
    have HK4 : Hid (Kp B q r w W4) := (Kp.of (HB3.out.mono hle)).trans kp4
    clear hdo m4 hle4 kp4 fr4 fz1 fz2 fz3 fx1 fx2 fx3 hO4 hz4 hbx4
    cases hd : doL (op, a) s b with
    | none =>
      have hs := HS.out
      rw [hd] at hs HM4
      simp only at hs
      subst hs
      simp only [Option.isSome_none]
      clear HS
      go_wp2
      refine bodyPost_ret (v := stopV (4, 0) 0) (results_cell_row (fn := Tryd.f34) (p := 2) (ty := 33) rfl _ _ w.heap.size 33 #[.int .i64 4, .int .i64 0, .int .i64 0] (0, 0) _ rfl (heap_fill3 HZ4.out) Tryd.underlying33 rfl rfl) rfl ?_
      exact ⟨rfl, _, _, _, _, HM4.out.fill3 HO4.out _ _ _, HL4.out, HK4.out.trans (Kp.fill3 HO.out.b _ _ _), HF4.out.done (Nat.le_refl _) _ _ _⟩
    | some rr =>
      have hs := HS.out
      rw [hd] at hs HM4
      simp only at hs
      subst hs
      simp only [Option.isSome_some]
      clear HS
      by_cases h24 : op = 24
      · subst h24
        go_wp2
        refine bodyPost_ret (v := stopV (2, a) 0) (results_cell_row (fn := Tryd.f34) (p := 2) (ty := 33) rfl _ _ w.heap.size 33 #[.int .i64 2, .int .i64 a, .int .i64 0] (0, 0) _ rfl (heap_fill3 HZ4.out) Tryd.underlying33 rfl rfl) rfl ?_
        exact ⟨rfl, _, _, _, _, HM4.out.fill3 HO4.out _ _ _, HL4.out, HK4.out.trans (Kp.fill3 HO.out.b _ _ _), HF4.out.done (Nat.le_refl _) _ _ _⟩
      · by_cases h25 : op = 25
        · subst h25
          go_wp2
          refine bodyPost_ret (v := stopV (3, 0) 0) (results_cell_row (fn := Tryd.f34) (p := 2) (ty := 33) rfl _ _ w.heap.size 33 #[.int .i64 3, .int .i64 0, .int .i64 0] (0, 0) _ rfl (heap_fill3 HZ4.out) Tryd.underlying33 rfl rfl) rfl ?_
          exact ⟨rfl, _, _, _, _, HM4.out.fill3 HO4.out _ _ _, HL4.out, HK4.out.trans (Kp.fill3 HO.out.b _ _ _), HF4.out.done (Nat.le_refl _) _ _ _⟩
        · have hkd : kindO (op, a) = (0, 0) := by simp [kindO, h24, h25]
          have HKD := hid hkd
          clear hkd
          go_wp2
          rw [HKD.out]
          refine bodyPost_ret (v := stopV (0, 0) 0) (results_cell_row (fn := Tryd.f34) (p := 2) (ty := 33) rfl _ _ w.heap.size 33 #[.int .i64 0, .int .i64 0, .int .i64 0] (0, 0) _ rfl (heap_fill3 HZ4.out) Tryd.underlying33 rfl rfl) rfl ?_
          exact ⟨rfl, _, _, _, _, HM4.out.fill3 HO4.out _ _ _, HL4.out, HK4.out.trans (Kp.fill3 HO.out.b _ _ _), HF4.out.done (Nat.le_refl _) _ _ _⟩
end Go.Proofs.YtfnojlgmbfocfaaDoor
