/-
  turn: what names the next instruction.
-/
import Derived.Test.YtfnojlgmbfocfaaDoorVRem
namespace Go.Proofs.YtfnojlgmbfocfaaDoor
open Go.RowKit
set_option linter.unusedVariables false
set_option linter.unusedSimpArgs false

theorem Fr.pc {B p k : Nat} {vs vk : Value} {w : World} (v : Value) : Fr B p vs vk w vs vk (w.setCell ⟨p, k, none⟩ v) := fun z _ _ hzp h1 h2 => ⟨far_set hzp, h1, h2⟩

set_option maxHeartbeats 1000000 in
theorem turn_jump (w : World) (B p : Nat) (m vc vs vk : Value) (code : List InsL) (s : StL) (h : Mach w B p m vc vs vk code s) (a : Int) :
    Calls Tryd.prog 45 #[.pointer (some ⟨p, 0, none⟩), .agg #[.int .i64 20, .int .i64 a]] w fun e w' => e = .returned (.bool true) ∧ Mach w' B p m vc vs vk code ⟨a, s.st, s.ca⟩ ∧ Below B w w' ∧ Fr B p vs vk w vs vk w' := by
  obtain ⟨W, hW⟩ : ∃ W, W = w.alloc (.cells #[.int .i64 20, .int .i64 a] 57) := ⟨_, rfl⟩
  have hb : Below w.heap.size w W := by rw [hW]; exact below_alloc w _
  have hM := h.below hb
  obtain ⟨c0, c1, c2, c3, c4, f2, f3, f4⟩ := hM.cells
  have g0 : W.cell? ⟨w.heap.size, 0, none⟩ = some (.int .i64 20) := by rw [hW]; simp
  have g1 : W.cell? ⟨w.heap.size, 1, none⟩ = some (.int .i64 a) := by rw [hW]; simp
  have hlt := h.lt
  have hbase := h.base
  have hle := h.le
  have hbW := hb.mono hle
  have hsz : w.heap.size < W.heap.size := by rw [hW]; simp
  have HM := hid (hM.setPc a)
  have HB := hid (hbW.setCell (p := ⟨p, 2, none⟩) hbase (.int .i64 a))
  have HF : Hid (Fr B p vs vk w vs vk (W.setCell ⟨p, 2, none⟩ (.int .i64 a))) := (Fr.of hb).trans hb.size (Fr.pc _)
  clear h hb hM hbW
  go_enter Tryd.func45, Tryd.ntmps45
  iterate 6 (first | go_values | go_skip | go_guarded | go_step | go_upon | go_back | go_simp)
  rw [← hW]
  clear hW
  go_wp2
  go_ret
  exact ⟨rfl, HM.out, HB.out, HF.out⟩

set_option maxHeartbeats 1000000 in
theorem turn_halt (w : World) (B p : Nat) (m vc vs vk : Value) (code : List InsL) (s : StL) (h : Mach w B p m vc vs vk code s) (a : Int) :
    Calls Tryd.prog 45 #[.pointer (some ⟨p, 0, none⟩), .agg #[.int .i64 25, .int .i64 a]] w fun e w' => e = .returned (.bool true) ∧ Mach w' B p m vc vs vk code s ∧ Below B w w' ∧ Fr B p vs vk w vs vk w' := by
  obtain ⟨W, hW⟩ : ∃ W, W = w.alloc (.cells #[.int .i64 25, .int .i64 a] 57) := ⟨_, rfl⟩
  have hb : Below w.heap.size w W := by rw [hW]; exact below_alloc w _
  have hM := h.below hb
  obtain ⟨c0, c1, c2, c3, c4, f2, f3, f4⟩ := hM.cells
  have g0 : W.cell? ⟨w.heap.size, 0, none⟩ = some (.int .i64 25) := by rw [hW]; simp
  have g1 : W.cell? ⟨w.heap.size, 1, none⟩ = some (.int .i64 a) := by rw [hW]; simp
  have hlt := h.lt
  have hbase := h.base
  have hle := h.le
  have hbW := hb.mono hle
  have hsz : w.heap.size < W.heap.size := by rw [hW]; simp
  have HM := hid hM
  have HB := hid hbW
  have HF : Hid (Fr B p vs vk w vs vk W) := Fr.of hb
  clear h hb hM hbW
  go_enter Tryd.func45, Tryd.ntmps45
  iterate 6 (first | go_values | go_skip | go_guarded | go_step | go_upon | go_back | go_simp)
  rw [← hW]
  clear hW
  go_wp2
  go_ret
  exact ⟨rfl, HM.out, HB.out, HF.out⟩

set_option maxHeartbeats 2000000 in
theorem turn_if (w : World) (B p : Nat) (m vc vs vk : Value) (code : List InsL) (s : StL) (h : Mach w B p m vc vs vk code s) (a : Int) (hl : s.st.length ≤ 64) (h1 : 1 ≤ s.st.length) (hp0 : 0 ≤ s.pc) (hp1 : s.pc ≤ 1024) :
    Calls Tryd.prog 45 #[.pointer (some ⟨p, 0, none⟩), .agg #[.int .i64 21, .int .i64 a]] w fun e w' => e = .returned (.bool true) ∧ ∃ vs', Mach w' B p m vc vs' vk code ⟨if topL s.st 0 = 0 then s.pc + 1 else a, putL s.st 1 [], s.ca⟩ ∧ Below B w w' ∧ Fr B p vs vk w vs' vk w' := by
  obtain ⟨W, hW⟩ : ∃ W, W = w.alloc (.cells #[.int .i64 21, .int .i64 a] 57) := ⟨_, rfl⟩
  have hb : Below w.heap.size w W := by rw [hW]; exact below_alloc w _
  have hM := h.below hb
  obtain ⟨c0, c1, c2, c3, c4, f2, f3, f4⟩ := hM.cells
  have g0 : W.cell? ⟨w.heap.size, 0, none⟩ = some (.int .i64 21) := by rw [hW]; simp
  have g1 : W.cell? ⟨w.heap.size, 1, none⟩ = some (.int .i64 a) := by rw [hW]; simp
  have hlt := h.lt
  have hbase := h.base
  have hle := h.le
  have hbW := hb.mono hle
  have hsz : w.heap.size < W.heap.size := by rw [hW]; simp
  have hla := last_any W B p m vc vs vk code s hM 0 (by omega) hl
  have HM := hid hM
  have HB := hid hb
  have hz : W.heap[w.heap.size]? = some (.cells #[.int .i64 21, .int .i64 a] 57 (0, 0)) := by rw [hW]; exact heap_alloc_new w _
  have HZ := hid hz
  have hpz : ¬ p = w.heap.size := by omega
  have hvs : vs.ownBlock ≠ some w.heap.size := fun e => by have := (h.os.lt _ e).2; omega
  have hvk : vk.ownBlock ≠ some w.heap.size := fun e => by have := (h.ok.lt _ e).2; omega
  have HVS := hid hvs
  have HVK := hid hvk
  obtain ⟨tv, htv⟩ : ∃ tv, tv = topL s.st 0 := ⟨_, rfl⟩
  rw [← htv] at hla ⊢
  obtain ⟨nx, hnx⟩ : ∃ nx : Int, nx = if tv = 0 then s.pc + 1 else a := ⟨_, rfl⟩
  rw [← hnx]
  have HNX := hid hnx
  clear h hb hM hbW hz htv hvs hvk hnx
  go_enter Tryd.func45, Tryd.ntmps45
  iterate 6 (first | go_values | go_skip | go_guarded | go_step | go_upon | go_back | go_simp)
  rw [← hW]
  clear hW
  go_wp2_with fail
  refine hla.mono ?_
  rintro e w1 ⟨rfl, b1⟩
  have hM1 := HM.out.below b1
  have hB1 := HB.out.trans (b1.mono HB.out.size)
  have hz1 : w1.heap[w.heap.size]? = some (.cells #[.int .i64 21, .int .i64 a] 57 (0, 0)) := by rw [b1.block _ hsz]; exact HZ.out
  have hsz1 : w.heap.size < w1.heap.size := by have := b1.size; omega
  have hp := put_any w1 B p m vc vs vk _ code s hM1 1 h1 hl [] (Sees.nil w1) (by simp)
  have HB1 := hid hB1
  have HZ1 := hid hz1
  have HM1 := hid hM1
  clear hla b1 hM1 hB1 hz1 c0 c1 c2 c3 c4 f2 f3 f4 g0 g1
  go_wp2_with fail
  refine hp.mono ?_
  rintro e w2 ⟨rfl, vs', h2, b2, fr2⟩
  obtain ⟨c0, c1, c2, c3, c4, f2, f3, f4⟩ := h2.cells
  have hz2 : w2.heap[w.heap.size]? = some (.cells #[.int .i64 21, .int .i64 a] 57 (0, 0)) := by rw [(fr2 w.heap.size hle hsz1 (fun e => hpz e.symm) HVS.out HVK.out).1]; exact HZ1.out
  have y1 : w2.cell? ⟨w.heap.size, 1, none⟩ = some (.int .i64 a) := by simp [World.cell?, hz2]
  have HF2 : Hid (Fr B p vs vk w vs' vk w2) := (Fr.of HB1.out).trans HB1.out.size fr2
  have HB2 : Hid (Below B w w2) := (HB1.out.mono hle).trans b2
  have hs2 := HB2.out.size
  have hM3 := h2.setPc (s.pc + 1)
  have HM3 := hid hM3
  have HM4 := hid (h2.setPc a)
  obtain ⟨d0, d1, d2, d3, d4, e2, e3, e4⟩ := hM3.cells
  have HM5 := hid (hM3.setPc a)
  have e1 : ¬ s.pc + 1 < 0 := by omega
  clear hp h2 b2 fr2 hz2 hM3
  by_cases ht : tv = 0
  · have hn := HNX.out
    rw [if_pos ht] at hn
    subst ht
    have HN := hid hn
    clear hn HNX
    go_wp2
    go_ret
    rw [HN.out]
    exact ⟨rfl, _, HM3.out, HB2.out.setCell (p := ⟨p, 2, none⟩) hbase _, HF2.out.trans hs2 (Fr.pc _)⟩
  · have hn := HNX.out
    rw [if_neg ht] at hn
    have HN := hid hn
    clear hn HNX
    have ht' : (tv != 0) = true := by simpa using ht
    go_wp2
    go_ret
    rw [HN.out]
    first
      | exact ⟨rfl, _, HM5.out, (HB2.out.setCell (p := ⟨p, 2, none⟩) hbase _).setCell (p := ⟨p, 2, none⟩) hbase _, (HF2.out.trans hs2 (Fr.pc _)).trans (by simpa [World.setCell] using hs2) (Fr.pc _)⟩
      | exact ⟨rfl, _, HM4.out, HB2.out.setCell (p := ⟨p, 2, none⟩) hbase _, HF2.out.trans hs2 (Fr.pc _)⟩

set_option maxHeartbeats 2000000 in
theorem turn_callF (w : World) (B p : Nat) (m vc vs vk : Value) (code : List InsL) (s : StL) (h : Mach w B p m vc vs vk code s) (a : Int) (hc : s.ca.length = 32) :
    Calls Tryd.prog 45 #[.pointer (some ⟨p, 0, none⟩), .agg #[.int .i64 22, .int .i64 a]] w fun e w' => e = .returned (.bool false) ∧ Mach w' B p m vc vs vk code s ∧ Below B w w' ∧ Fr B p vs vk w vs vk w' := by
  obtain ⟨W, hW⟩ : ∃ W, W = w.alloc (.cells #[.int .i64 22, .int .i64 a] 57) := ⟨_, rfl⟩
  have hb : Below w.heap.size w W := by rw [hW]; exact below_alloc w _
  have hM := h.below hb
  obtain ⟨c0, c1, c2, c3, c4, f2, f3, f4⟩ := hM.cells
  have g0 : W.cell? ⟨w.heap.size, 0, none⟩ = some (.int .i64 22) := by rw [hW]; simp
  have g1 : W.cell? ⟨w.heap.size, 1, none⟩ = some (.int .i64 a) := by rw [hW]; simp
  have hlt := h.lt
  have hbase := h.base
  have hle := h.le
  have hbW := hb.mono hle
  have hsz : w.heap.size < W.heap.size := by rw [hW]; simp
  have HM := hid hM
  have HB := hid hbW
  have HF : Hid (Fr B p vs vk w vs vk W) := Fr.of hb
  obtain ⟨ao, cap, hv, _⟩ := h.ok.shape
  subst hv
  rw [hc] at c4
  clear h hb hM hbW
  go_enter Tryd.func45, Tryd.ntmps45
  iterate 6 (first | go_values | go_skip | go_guarded | go_step | go_upon | go_back | go_simp)
  rw [← hW]
  clear hW
  go_wp2
  go_ret
  exact ⟨rfl, HM.out, HB.out, HF.out⟩

set_option maxRecDepth 20000 in
set_option maxHeartbeats 4000000 in
theorem turn_call (w : World) (B p : Nat) (m vc vs vk : Value) (code : List InsL) (s : StL) (h : Mach w B p m vc vs vk code s) (a : Int) (hc : s.ca.length < 32) (hp0 : 0 ≤ s.pc) (hp1 : s.pc ≤ 1024) :
    Calls Tryd.prog 45 #[.pointer (some ⟨p, 0, none⟩), .agg #[.int .i64 22, .int .i64 a]] w fun e w' => e = .returned (.bool true) ∧ ∃ vk', Mach w' B p m vc vs vk' code ⟨a, s.st, s.ca ++ [s.pc + 1]⟩ ∧ Below B w w' ∧ Fr B p vs vk w vs vk' w' := by
  obtain ⟨W, hW⟩ : ∃ W, W = w.alloc (.cells #[.int .i64 22, .int .i64 a] 57) := ⟨_, rfl⟩
  have hb : Below w.heap.size w W := by rw [hW]; exact below_alloc w _
  have hM := h.below hb
  obtain ⟨c0, c1, c2, c3, c4, f2, f3, f4⟩ := hM.cells
  have g0 : W.cell? ⟨w.heap.size, 0, none⟩ = some (.int .i64 22) := by rw [hW]; simp
  have g1 : W.cell? ⟨w.heap.size, 1, none⟩ = some (.int .i64 a) := by rw [hW]; simp
  have hlt := h.lt
  have hbase := h.base
  have hle := h.le
  have hbW := hb.mono hle
  have hsz : w.heap.size < W.heap.size := by rw [hW]; simp
  obtain ⟨ao, cap, hv, _⟩ := h.ok.shape
  subst hv
  obtain ⟨W2, hW2⟩ : ∃ W2, W2 = W.drew.alloc (.cells #[.int .i64 (s.pc + 1)] 3) := ⟨_, rfl⟩
  have hbd : Below W.heap.size W W2 := by rw [hW2]; exact (Below.drew (Below.refl _ W)).alloc (Nat.le_refl _) _
  have hM2 := hM.below hbd
  have hsee : Sees W2 (.slice (some ⟨W.heap.size, 0, none⟩) 1 1) [s.pc + 1] := by rw [hW2]; exact sees_one W.drew _
  obtain ⟨v', w', hr, ho, hg, hv⟩ := run_app W2 23 B _ _ hM2.ok _ _ hsee (by simp; omega) hM2.le
  have hM3 := hM2.setCa hg ho hv
  have d2 : w'.cell? ⟨p, 4, none⟩ = some (.slice ao s.ca.length cap) := (World.cell?_of_block (a := ⟨p, 4, none⟩) (hg.block p hM2.lt (fun e => hM2.pk e.symm))).trans hM2.cells.2.2.2.2.1
  have df : w'.frozen? ⟨p, 4, none⟩ = false := (World.frozen?_of_block (a := ⟨p, 4, none⟩) (hg.block p hM2.lt (fun e => hM2.pk e.symm))).trans hM2.cells.2.2.2.2.2.2.2
  have hbel : Below B w w' := by
    have h0 : Below B w W2 := hbW.trans (hbd.mono hM.le)
    exact h0.grown hg hM2.le (fun j hj => (hM2.ok.lt j hj).1)
  have hfr : Fr B p vs (.slice ao s.ca.length cap) w vs v' (w'.setCell ⟨p, 4, none⟩ v') := by
    refine ((Fr.of hb).trans hb.size (Fr.of hbd)).trans (Nat.le_trans hb.size hbd.size) (fun z hB hz hzp h1 h2 => ⟨?_, h1, ?_⟩)
    · rw [far_set hzp]
      exact hg.block z hz (fun e => h2 e.symm)
    · rcases hv with e | e
      · rw [e]; exact h2
      · rw [e]; intro e2; simp at e2; omega
  obtain ⟨ao', cap', hv', _⟩ := ho.shape
  rw [show (s.ca ++ [s.pc + 1]).length = s.ca.length + 1 by simp] at hv'
  subst hv'
  have HFR := hid hfr
  have HBL := hid (hbel.setCell (p := ⟨p, 4, none⟩) hbase (.slice ao' (s.ca.length + 1) cap'))
  have hM4 := hM3.setPc a
  have HM4 := hid hM4
  have hz : W2.heap[w.heap.size]? = some (.cells #[.int .i64 22, .int .i64 a] 57 (0, 0)) := by
    rw [hbd.block _ hsz, hW]; exact heap_alloc_new w _
  have hvk : (Value.slice ao s.ca.length cap).ownBlock ≠ some w.heap.size := fun e => by have := (h.ok.lt _ e).2; omega
  have hz3 : w'.heap[w.heap.size]? = some (.cells #[.int .i64 22, .int .i64 a] 57 (0, 0)) := by
    rw [hg.block _ (by have := hbd.size; omega) (fun e => hvk e.symm)]; exact hz
  have y0 : w'.cell? ⟨w.heap.size, 1, none⟩ = some (.int .i64 a) := by simp [World.cell?, hz3]
  have d3 : w'.cell? ⟨p, 2, none⟩ = some (.int .i64 s.pc) := (World.cell?_of_block (a := ⟨p, 2, none⟩) (hg.block p hM2.lt (fun e => hM2.pk e.symm))).trans hM2.cells.2.2.1
  have df2 : w'.frozen? ⟨p, 2, none⟩ = false := (World.frozen?_of_block (a := ⟨p, 2, none⟩) (hg.block p hM2.lt (fun e => hM2.pk e.symm))).trans hM2.cells.2.2.2.2.2.1
  have n1 : ¬ ((s.ca.length : Int) = 32) := by omega
  rw [hW2] at hr
  obtain ⟨N, hN⟩ : ∃ N, s.pc + 1 = N := ⟨_, rfl⟩
  rw [hN] at hr
  have hwN : IntKind.i64.wrap N = N := by rw [show N = (N.toNat : Int) by omega]; exact wrap_i64_nat _ (by omega)
  have HR := hid hr
  have k4 : (W.alloc (.cells #[.int .i64 N] 3)).cell? ⟨p, 4, none⟩ = some (.slice ao s.ca.length cap) := ((below_alloc W _).cell (p := ⟨p, 4, none⟩) hM.lt).trans c4
  clear h hb hM hbW hM2 hsee ho hg hv hM3 hbel hfr hM4 hz hz3 hvk hbd hW2 hr
  go_enter Tryd.func45, Tryd.ntmps45
  iterate 6 (first | go_values | go_skip | go_guarded | go_step | go_upon | go_back | go_simp)
  rw [← hW]
  clear hW
  go_wp2_with fail
  go_region_law (refine step_append_run rfl (.tmp 48) (.tmp 54) 23 23 rfl _ _ (by simp [Act.eval, Act.put]) (by simp [Act.eval, Act.put]) HR.out ?_)
  all_goals
    go_wp2
    go_ret
    exact ⟨rfl, _, HM4.out, HBL.out.setCell (p := ⟨p, 2, none⟩) hbase _, HFR.out.trans (by have := HBL.out.size; simpa using this) (Fr.pc _)⟩
end Go.Proofs.YtfnojlgmbfocfaaDoor
