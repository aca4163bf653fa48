/-
  turn: what goes back.
-/
import Derived.Test.YtfnojlgmbfocfaaDoorVTurn
namespace Go.Proofs.YtfnojlgmbfocfaaDoor
open Go.RowKit
set_option linter.unusedVariables false
set_option linter.unusedSimpArgs false

set_option maxHeartbeats 2000000 in
theorem turn_retF (w : World) (B p : Nat) (m vc vs vk : Value) (code : List InsL) (s : StL) (h : Mach w B p m vc vs vk code s) (a : Int) (hc : s.ca.length = 0) :
    Calls Tryd.prog 45 #[.pointer (some ⟨p, 0, none⟩), .agg #[.int .i64 23, .int .i64 a]] w fun e w' => e = .returned (.bool false) ∧ Mach w' B p m vc vs vk code s ∧ Below B w w' ∧ Fr B p vs vk w vs vk w' := by
  obtain ⟨W, hW⟩ : ∃ W, W = w.alloc (.cells #[.int .i64 23, .int .i64 a] 57) := ⟨_, rfl⟩
  have hb : Below w.heap.size w W := by rw [hW]; exact below_alloc w _
  have hM := h.below hb
  obtain ⟨c0, c1, c2, c3, c4, f2, f3, f4⟩ := hM.cells
  have g0 : W.cell? ⟨w.heap.size, 0, none⟩ = some (.int .i64 23) := by rw [hW]; simp
  have g1 : W.cell? ⟨w.heap.size, 1, none⟩ = some (.int .i64 a) := by rw [hW]; simp
  have hlt := h.lt
  have hbase := h.base
  have hle := h.le
  have hbW := hb.mono hle
  have hsz : w.heap.size < W.heap.size := by rw [hW]; simp
  have HM := hid hM
  have HB := hid hbW
  have HF : Hid (Fr B p vs vk w vs vk W) := Fr.of hb
  obtain ⟨ao, cap, hv, _⟩ := h.ok.shape
  subst hv
  rw [hc] at c4
  clear h hb hM hbW
  go_enter Tryd.func45, Tryd.ntmps45
  iterate 6 (first | go_values | go_skip | go_guarded | go_step | go_upon | go_back | go_simp)
  rw [← hW]
  clear hW
  go_wp2
  go_ret
  exact ⟨rfl, HM.out, HB.out, HF.out⟩

set_option maxRecDepth 20000 in
set_option maxHeartbeats 4000000 in
theorem turn_ret (w : World) (B p : Nat) (m vc vs vk : Value) (code : List InsL) (s : StL) (h : Mach w B p m vc vs vk code s) (a : Int) (hc : 0 < s.ca.length) (hc2 : s.ca.length ≤ 32) :
    Calls Tryd.prog 45 #[.pointer (some ⟨p, 0, none⟩), .agg #[.int .i64 23, .int .i64 a]] w fun e w' => e = .returned (.bool true) ∧ ∃ vk', Mach w' B p m vc vs vk' code ⟨s.ca.getD (s.ca.length - 1) 0, s.st, s.ca.take (s.ca.length - 1)⟩ ∧ Below B w w' ∧ Fr B p vs vk w vs vk' w' := by
  obtain ⟨W, hW⟩ : ∃ W, W = w.alloc (.cells #[.int .i64 23, .int .i64 a] 57) := ⟨_, rfl⟩
  have hb : Below w.heap.size w W := by rw [hW]; exact below_alloc w _
  have hM := h.below hb
  obtain ⟨c0, c1, c2, c3, c4, f2, f3, f4⟩ := hM.cells
  have g0 : W.cell? ⟨w.heap.size, 0, none⟩ = some (.int .i64 23) := by rw [hW]; simp
  have g1 : W.cell? ⟨w.heap.size, 1, none⟩ = some (.int .i64 a) := by rw [hW]; simp
  have hlt := h.lt
  have hbase := h.base
  have hle := h.le
  have hbW := hb.mono hle
  have hsz : w.heap.size < W.heap.size := by rw [hW]; simp
  obtain ⟨b, off, ao, cap, hv, hcap, _, hao, hcell⟩ := hM.ok.sees
  obtain rfl := hao (by intro e; rw [e] at hc; simp at hc)
  subst hv
  have hx := hcell (s.ca.length - 1) (by omega)
  obtain ⟨x, hxx⟩ : ∃ x, x = s.ca.getD (s.ca.length - 1) 0 := ⟨_, rfl⟩
  rw [← hxx] at hx ⊢
  have hM2 := hM.setPc x
  have ho := hM2.ok.cut (s.ca.length - 1) (by simp)
  have hM3 := hM2.setCa (grownBy_refl _ _) ho (Or.inl rfl)
  have HM3 := hid hM3
  have HB := hid (((hbW).setCell (p := ⟨p, 2, none⟩) hbase (.int .i64 x)).setCell (p := ⟨p, 4, none⟩) hbase (.slice (some ⟨b, off, none⟩) (s.ca.length - 1) cap))
  have HF : Hid (Fr B p vs (.slice (some ⟨b, off, none⟩) s.ca.length cap) w vs (.slice (some ⟨b, off, none⟩) (s.ca.length - 1) cap) ((W.setCell ⟨p, 2, none⟩ (.int .i64 x)).setCell ⟨p, 4, none⟩ (.slice (some ⟨b, off, none⟩) (s.ca.length - 1) cap))) := by
    unfold Hid
    refine ((Fr.of hb).trans hb.size (Fr.pc (k := 2) (.int .i64 x))).trans (by simpa using hb.size) (fun z hB hz hzp h1 h2 => ⟨far_set hzp, h1, h2⟩)
  have e1 : (s.ca.length : Int) - 1 = ((s.ca.length - 1 : Nat) : Int) := by omega
  have e2 : IntKind.i64.wrap ((s.ca.length - 1 : Nat) : Int) = ((s.ca.length - 1 : Nat) : Int) := wrap_i64_nat _ (by omega)
  have e3 : ((s.ca.length - 1 : Nat) : Int) < (s.ca.length : Int) := by omega
  have e4 : ((s.ca.length - 1 : Nat) : Int) ≤ (cap : Int) := by omega
  clear h hb hM hbW hM2 ho hM3 hao hcell hxx
  go_enter Tryd.func45, Tryd.ntmps45
  iterate 6 (first | go_values | go_skip | go_guarded | go_step | go_upon | go_back | go_simp)
  rw [← hW]
  clear hW
  go_wp2
  go_ret
  exact ⟨rfl, _, HM3.out, HB.out, HF.out⟩
end Go.Proofs.YtfnojlgmbfocfaaDoor
