/-
  do: an instruction that fits.
-/
import Derived.Test.YtfnojlgmbfocfaaDoorVFits
namespace Go.Proofs.YtfnojlgmbfocfaaDoor
open Go.RowKit
set_option linter.unusedVariables false
set_option linter.unusedSimpArgs false

/-- What 'do' leaves: the answer, the machine, the memory. -/
def DoR (w : World) (B p q r : Nat) (vc vs vk vb : Value) (code : List InsL) (s : StL) (b : List Nat) (ld st : Nat) (res : Option (StL × List Nat)) (e : Ending) (w' : World) : Prop :=
  e = .returned (.bool res.isSome) ∧ ∃ vs' vk' ld' st', MM w' B p q r (memV q) vc vs' vk' vb code (res.getD (s, b)).1 (res.getD (s, b)).2 ld' st' ∧ ld' + st' ≤ ld + st + 1 ∧ Kp B q r w w' ∧ Fr B p vs vk w vs' vk' w'

set_option maxRecDepth 20000 in
set_option maxHeartbeats 2000000 in
theorem do1 (w : World) (B p q r : Nat) (vc vs vk vb : Value) (code : List InsL) (s : StL) (b : List Nat) (ld st : Nat) (h : MM w B p q r (memV q) vc vs vk vb code s b ld st) (hl : s.st.length ≤ 64) (hp0 : 0 ≤ s.pc) (hp1 : s.pc ≤ 1024) (a : Int) :
    Calls Tryd.prog 41 #[.pointer (some ⟨p, 0, none⟩), .agg #[.int .i64 1, .int .i64 a]] w fun e w' => e = .returned (.bool true) ∧ ∃ vs', MM w' B p q r (memV q) vc vs' vk vb code ⟨s.pc + 1, putL s.st 0 [a], s.ca⟩ b ld st ∧ Below B w w' ∧ Fr B p vs vk w vs' vk w' := by
  obtain ⟨W, hW⟩ : ∃ W, W = w.alloc (.cells #[.int .i64 1, .int .i64 a] 57) := ⟨_, rfl⟩
  have hb : Below w.heap.size w W := by rw [hW]; exact below_alloc w _
  have hM := h.below hb
  obtain ⟨c0, c1, c2, c3, c4, f2, f3, f4⟩ := hM.m.cells
  have g0 : W.cell? ⟨w.heap.size, 0, none⟩ = some (.int .i64 1) := by rw [hW]; simp
  have g1 : W.cell? ⟨w.heap.size, 1, none⟩ = some (.int .i64 a) := by rw [hW]; simp
  have hlt := h.m.lt
  have hbase := h.m.base
  have hle := h.le
  have HM := hid hM
  have HBW := hid (hb.mono hle)
  have HFW : Hid (Fr B p vs vk w vs vk W) := Fr.of hb
  have hsW := hb.size
  have ha := arr_push W B p (memV q) vc vs vk code s hM.m hl a
  clear h hb hM
  go_enter Tryd.func41, Tryd.ntmps41
  iterate 6 (first | go_values | go_skip | go_guarded | go_step | go_upon | go_back | go_simp)
  rw [← hW]
  clear hW
  go_wp2_with fail
  refine ha.mono ?_
  rintro e w1 ⟨rfl, vs', m1, b1, fr1⟩
  obtain ⟨d0, d1, d2, d3, d4, e2, e3, e4⟩ := m1.cells
  have hM1 := HM.out.turned m1 b1
  have HM2 := hid (hM1.turned (m1.setPc (s.pc + 1)) ((Below.refl B _).setCell (p := ⟨p, 2, none⟩) hbase (.int .i64 (s.pc + 1))))
  have HB1 := hid ((HBW.out.trans b1).setCell (p := ⟨p, 2, none⟩) hbase (.int .i64 (s.pc + 1)))
  have hs1 := b1.size
  have HF1 := hid ((HFW.out.trans hsW fr1).trans (Nat.le_trans hsW hs1) (Fr.pc (k := 2) (.int .i64 (s.pc + 1))))
  clear ha m1 b1 fr1 hM1 c0 c1 c2 c3 c4 f2 f3 f4
  go_wp2
  go_ret
  exact ⟨rfl, _, HM2.out, HB1.out, HF1.out⟩

set_option maxRecDepth 20000 in
set_option maxHeartbeats 2000000 in
theorem do2 (w : World) (B p q r : Nat) (vc vs vk vb : Value) (code : List InsL) (s : StL) (b : List Nat) (ld st : Nat) (h : MM w B p q r (memV q) vc vs vk vb code s b ld st) (hl : s.st.length ≤ 64) (hp0 : 0 ≤ s.pc) (hp1 : s.pc ≤ 1024) (a : Int) (h1 : 1 ≤ s.st.length) :
    Calls Tryd.prog 41 #[.pointer (some ⟨p, 0, none⟩), .agg #[.int .i64 2, .int .i64 a]] w fun e w' => e = .returned (.bool true) ∧ ∃ vs', MM w' B p q r (memV q) vc vs' vk vb code ⟨s.pc + 1, putL s.st 1 [], s.ca⟩ b ld st ∧ Below B w w' ∧ Fr B p vs vk w vs' vk w' := by
  obtain ⟨W, hW⟩ : ∃ W, W = w.alloc (.cells #[.int .i64 2, .int .i64 a] 57) := ⟨_, rfl⟩
  have hb : Below w.heap.size w W := by rw [hW]; exact below_alloc w _
  have hM := h.below hb
  obtain ⟨c0, c1, c2, c3, c4, f2, f3, f4⟩ := hM.m.cells
  have g0 : W.cell? ⟨w.heap.size, 0, none⟩ = some (.int .i64 2) := by rw [hW]; simp
  have g1 : W.cell? ⟨w.heap.size, 1, none⟩ = some (.int .i64 a) := by rw [hW]; simp
  have hlt := h.m.lt
  have hbase := h.m.base
  have hle := h.le
  have HM := hid hM
  have HBW := hid (hb.mono hle)
  have HFW : Hid (Fr B p vs vk w vs vk W) := Fr.of hb
  have hsW := hb.size
  have ha := arr_pop W B p (memV q) vc vs vk code s hM.m hl h1 a
  clear h hb hM
  go_enter Tryd.func41, Tryd.ntmps41
  iterate 6 (first | go_values | go_skip | go_guarded | go_step | go_upon | go_back | go_simp)
  rw [← hW]
  clear hW
  go_wp2_with fail
  refine ha.mono ?_
  rintro e w1 ⟨rfl, vs', m1, b1, fr1⟩
  obtain ⟨d0, d1, d2, d3, d4, e2, e3, e4⟩ := m1.cells
  have hM1 := HM.out.turned m1 b1
  have HM2 := hid (hM1.turned (m1.setPc (s.pc + 1)) ((Below.refl B _).setCell (p := ⟨p, 2, none⟩) hbase (.int .i64 (s.pc + 1))))
  have HB1 := hid ((HBW.out.trans b1).setCell (p := ⟨p, 2, none⟩) hbase (.int .i64 (s.pc + 1)))
  have hs1 := b1.size
  have HF1 := hid ((HFW.out.trans hsW fr1).trans (Nat.le_trans hsW hs1) (Fr.pc (k := 2) (.int .i64 (s.pc + 1))))
  clear ha m1 b1 fr1 hM1 c0 c1 c2 c3 c4 f2 f3 f4
  go_wp2
  go_ret
  exact ⟨rfl, _, HM2.out, HB1.out, HF1.out⟩

set_option maxRecDepth 20000 in
set_option maxHeartbeats 2000000 in
theorem do3 (w : World) (B p q r : Nat) (vc vs vk vb : Value) (code : List InsL) (s : StL) (b : List Nat) (ld st : Nat) (h : MM w B p q r (memV q) vc vs vk vb code s b ld st) (hl : s.st.length ≤ 64) (hp0 : 0 ≤ s.pc) (hp1 : s.pc ≤ 1024) (k : Nat) (hk : k < s.st.length) :
    Calls Tryd.prog 41 #[.pointer (some ⟨p, 0, none⟩), .agg #[.int .i64 3, .int .i64 (k : Int)]] w fun e w' => e = .returned (.bool true) ∧ ∃ vs', MM w' B p q r (memV q) vc vs' vk vb code ⟨s.pc + 1, putL s.st 0 [topL s.st k], s.ca⟩ b ld st ∧ Below B w w' ∧ Fr B p vs vk w vs' vk w' := by
  obtain ⟨W, hW⟩ : ∃ W, W = w.alloc (.cells #[.int .i64 3, .int .i64 (k : Int)] 57) := ⟨_, rfl⟩
  have hb : Below w.heap.size w W := by rw [hW]; exact below_alloc w _
  have hM := h.below hb
  obtain ⟨c0, c1, c2, c3, c4, f2, f3, f4⟩ := hM.m.cells
  have g0 : W.cell? ⟨w.heap.size, 0, none⟩ = some (.int .i64 3) := by rw [hW]; simp
  have g1 : W.cell? ⟨w.heap.size, 1, none⟩ = some (.int .i64 (k : Int)) := by rw [hW]; simp
  have hlt := h.m.lt
  have hbase := h.m.base
  have hle := h.le
  have HM := hid hM
  have HBW := hid (hb.mono hle)
  have HFW : Hid (Fr B p vs vk w vs vk W) := Fr.of hb
  have hsW := hb.size
  have ha := arr_dup W B p (memV q) vc vs vk code s hM.m hl k hk
  clear h hb hM
  go_enter Tryd.func41, Tryd.ntmps41
  iterate 6 (first | go_values | go_skip | go_guarded | go_step | go_upon | go_back | go_simp)
  rw [← hW]
  clear hW
  go_wp2_with fail
  refine ha.mono ?_
  rintro e w1 ⟨rfl, vs', m1, b1, fr1⟩
  obtain ⟨d0, d1, d2, d3, d4, e2, e3, e4⟩ := m1.cells
  have hM1 := HM.out.turned m1 b1
  have HM2 := hid (hM1.turned (m1.setPc (s.pc + 1)) ((Below.refl B _).setCell (p := ⟨p, 2, none⟩) hbase (.int .i64 (s.pc + 1))))
  have HB1 := hid ((HBW.out.trans b1).setCell (p := ⟨p, 2, none⟩) hbase (.int .i64 (s.pc + 1)))
  have hs1 := b1.size
  have HF1 := hid ((HFW.out.trans hsW fr1).trans (Nat.le_trans hsW hs1) (Fr.pc (k := 2) (.int .i64 (s.pc + 1))))
  clear ha m1 b1 fr1 hM1 c0 c1 c2 c3 c4 f2 f3 f4
  go_wp2
  go_ret
  exact ⟨rfl, _, HM2.out, HB1.out, HF1.out⟩

set_option maxRecDepth 20000 in
set_option maxHeartbeats 2000000 in
theorem do4 (w : World) (B p q r : Nat) (vc vs vk vb : Value) (code : List InsL) (s : StL) (b : List Nat) (ld st : Nat) (h : MM w B p q r (memV q) vc vs vk vb code s b ld st) (hl : s.st.length ≤ 64) (hp0 : 0 ≤ s.pc) (hp1 : s.pc ≤ 1024) (a : Int) (h2 : 2 ≤ s.st.length) :
    Calls Tryd.prog 41 #[.pointer (some ⟨p, 0, none⟩), .agg #[.int .i64 4, .int .i64 a]] w fun e w' => e = .returned (.bool true) ∧ ∃ vs', MM w' B p q r (memV q) vc vs' vk vb code ⟨s.pc + 1, putL s.st 2 [topL s.st 0, topL s.st 1], s.ca⟩ b ld st ∧ Below B w w' ∧ Fr B p vs vk w vs' vk w' := by
  obtain ⟨W, hW⟩ : ∃ W, W = w.alloc (.cells #[.int .i64 4, .int .i64 a] 57) := ⟨_, rfl⟩
  have hb : Below w.heap.size w W := by rw [hW]; exact below_alloc w _
  have hM := h.below hb
  obtain ⟨c0, c1, c2, c3, c4, f2, f3, f4⟩ := hM.m.cells
  have g0 : W.cell? ⟨w.heap.size, 0, none⟩ = some (.int .i64 4) := by rw [hW]; simp
  have g1 : W.cell? ⟨w.heap.size, 1, none⟩ = some (.int .i64 a) := by rw [hW]; simp
  have hlt := h.m.lt
  have hbase := h.m.base
  have hle := h.le
  have HM := hid hM
  have HBW := hid (hb.mono hle)
  have HFW : Hid (Fr B p vs vk w vs vk W) := Fr.of hb
  have hsW := hb.size
  have ha := arr_swap W B p (memV q) vc vs vk code s hM.m hl h2 a
  clear h hb hM
  go_enter Tryd.func41, Tryd.ntmps41
  iterate 6 (first | go_values | go_skip | go_guarded | go_step | go_upon | go_back | go_simp)
  rw [← hW]
  clear hW
  go_wp2_with fail
  refine ha.mono ?_
  rintro e w1 ⟨rfl, vs', m1, b1, fr1⟩
  obtain ⟨d0, d1, d2, d3, d4, e2, e3, e4⟩ := m1.cells
  have hM1 := HM.out.turned m1 b1
  have HM2 := hid (hM1.turned (m1.setPc (s.pc + 1)) ((Below.refl B _).setCell (p := ⟨p, 2, none⟩) hbase (.int .i64 (s.pc + 1))))
  have HB1 := hid ((HBW.out.trans b1).setCell (p := ⟨p, 2, none⟩) hbase (.int .i64 (s.pc + 1)))
  have hs1 := b1.size
  have HF1 := hid ((HFW.out.trans hsW fr1).trans (Nat.le_trans hsW hs1) (Fr.pc (k := 2) (.int .i64 (s.pc + 1))))
  clear ha m1 b1 fr1 hM1 c0 c1 c2 c3 c4 f2 f3 f4
  go_wp2
  go_ret
  exact ⟨rfl, _, HM2.out, HB1.out, HF1.out⟩

set_option maxRecDepth 20000 in
set_option maxHeartbeats 2000000 in
theorem do24 (w : World) (B p q r : Nat) (vc vs vk vb : Value) (code : List InsL) (s : StL) (b : List Nat) (ld st : Nat) (h : MM w B p q r (memV q) vc vs vk vb code s b ld st) (hl : s.st.length ≤ 64) (hp0 : 0 ≤ s.pc) (hp1 : s.pc ≤ 1024) (a : Int) :
    Calls Tryd.prog 41 #[.pointer (some ⟨p, 0, none⟩), .agg #[.int .i64 24, .int .i64 a]] w fun e w' => e = .returned (.bool true) ∧ MM w' B p q r (memV q) vc vs vk vb code ⟨s.pc + 1, s.st, s.ca⟩ b ld st ∧ Below B w w' ∧ Fr B p vs vk w vs vk w' := by
  obtain ⟨W, hW⟩ : ∃ W, W = w.alloc (.cells #[.int .i64 24, .int .i64 a] 57) := ⟨_, rfl⟩
  have hb : Below w.heap.size w W := by rw [hW]; exact below_alloc w _
  have hM := h.below hb
  obtain ⟨c0, c1, c2, c3, c4, f2, f3, f4⟩ := hM.m.cells
  have g0 : W.cell? ⟨w.heap.size, 0, none⟩ = some (.int .i64 24) := by rw [hW]; simp
  have g1 : W.cell? ⟨w.heap.size, 1, none⟩ = some (.int .i64 a) := by rw [hW]; simp
  have hlt := h.m.lt
  have hbase := h.m.base
  have hle := h.le
  have HM := hid hM
  have HBW := hid (hb.mono hle)
  have HFW : Hid (Fr B p vs vk w vs vk W) := Fr.of hb
  have hsW := hb.size
  have HM2 := hid (hM.turned (hM.m.setPc (s.pc + 1)) ((Below.refl B _).setCell (p := ⟨p, 2, none⟩) hbase (.int .i64 (s.pc + 1))))
  have HB1 := hid (HBW.out.setCell (p := ⟨p, 2, none⟩) hbase (.int .i64 (s.pc + 1)))
  have HF1 := hid (HFW.out.trans hsW (Fr.pc (k := 2) (.int .i64 (s.pc + 1))))
  clear h hb hM
  go_enter Tryd.func41, Tryd.ntmps41
  iterate 6 (first | go_values | go_skip | go_guarded | go_step | go_upon | go_back | go_simp)
  rw [← hW]
  clear hW
  go_wp2
  go_ret
  exact ⟨rfl, HM2.out, HB1.out, HF1.out⟩

set_option maxRecDepth 20000 in
set_option maxHeartbeats 2000000 in
theorem do17 (w : World) (B p q r : Nat) (vc vs vk vb : Value) (code : List InsL) (s : StL) (b : List Nat) (ld st : Nat) (h : MM w B p q r (memV q) vc vs vk vb code s b ld st) (hl : s.st.length ≤ 64) (hp0 : 0 ≤ s.pc) (hp1 : s.pc ≤ 1024) (a : Int) (h1 : 1 ≤ s.st.length) :
    Calls Tryd.prog 41 #[.pointer (some ⟨p, 0, none⟩), .agg #[.int .i64 17, .int .i64 a]] w fun e w' => e = .returned (.bool true) ∧ ∃ vs', MM w' B p q r (memV q) vc vs' vk vb code ⟨s.pc + 1, putL s.st 1 [bitI (decide (topL s.st 0 = 0))], s.ca⟩ b ld st ∧ Below B w w' ∧ Fr B p vs vk w vs' vk w' := by
  obtain ⟨W, hW⟩ : ∃ W, W = w.alloc (.cells #[.int .i64 17, .int .i64 a] 57) := ⟨_, rfl⟩
  have hb : Below w.heap.size w W := by rw [hW]; exact below_alloc w _
  have hM := h.below hb
  obtain ⟨c0, c1, c2, c3, c4, f2, f3, f4⟩ := hM.m.cells
  have g0 : W.cell? ⟨w.heap.size, 0, none⟩ = some (.int .i64 17) := by rw [hW]; simp
  have g1 : W.cell? ⟨w.heap.size, 1, none⟩ = some (.int .i64 a) := by rw [hW]; simp
  have hlt := h.m.lt
  have hbase := h.m.base
  have hle := h.le
  have HM := hid hM
  have HBW := hid (hb.mono hle)
  have HFW : Hid (Fr B p vs vk w vs vk W) := Fr.of hb
  have hsW := hb.size
  have hla := last_any W B p (memV q) vc vs vk code s hM.m 0 (by omega) hl
  obtain ⟨tv, htv⟩ : ∃ tv, tv = topL s.st 0 := ⟨_, rfl⟩
  rw [← htv] at hla ⊢
  have hbq : (tv == 0) = decide (tv = 0) := by by_cases h : tv = 0 <;> simp [h]
  obtain ⟨tb, htb⟩ : ∃ tb, tb = decide (tv = 0) := ⟨_, rfl⟩
  rw [← htb] at hbq ⊢
  clear h hb hM htv htb
  go_enter Tryd.func41, Tryd.ntmps41
  iterate 6 (first | go_values | go_skip | go_guarded | go_step | go_upon | go_back | go_simp)
  rw [← hW]
  clear hW
  go_wp2_with fail
  refine hla.mono ?_
  rintro e w1 ⟨rfl, b1⟩
  have HM1 := hid (HM.out.below b1)
  have HBW1 := hid (HBW.out.trans (b1.mono HM.out.le))
  have HFW1 := hid (HFW.out.trans hsW (Fr.of b1))
  have hs1 := Nat.le_trans hsW b1.size
  have htt := truth_any tb w1
  clear hla b1 c0 c1 c2 c3 c4 f2 f3 f4
  go_wp2_with fail
  refine htt.mono ?_
  rintro e w2 ⟨rfl, hw2⟩
  subst w2
  obtain ⟨W2, hW2⟩ : ∃ W2, W2 = w1.alloc (.cells #[.int .i64 (bitI tb)] 3) := ⟨_, rfl⟩
  have hb2 : Below w1.heap.size w1 W2 := by rw [hW2]; exact below_alloc w1 _
  have hM2 := HM1.out.below hb2
  have hp := put_any W2 B p (memV q) vc vs vk _ code s hM2.m 1 h1 hl [bitI tb] (by rw [hW2]; exact sees_one w1 _) (by simp)
  have HMA := hid hM2
  have HBA := hid (HBW1.out.trans (hb2.mono HM1.out.le))
  have HFA := hid (HFW1.out.trans hs1 (Fr.of hb2))
  have hsA := Nat.le_trans hs1 hb2.size
  clear htt hb2 hM2
  go_wp2_with fail
  rw [← hW2]
  refine hp.mono ?_
  rintro e w3 ⟨rfl, vs', m1, b1, fr1⟩
  obtain ⟨d0, d1, d2, d3, d4, e2, e3, e4⟩ := m1.cells
  have hM1 := HMA.out.turned m1 b1
  have HM2 := hid (hM1.turned (m1.setPc (s.pc + 1)) ((Below.refl B _).setCell (p := ⟨p, 2, none⟩) hbase (.int .i64 (s.pc + 1))))
  have HB1 := hid ((HBA.out.trans b1).setCell (p := ⟨p, 2, none⟩) hbase (.int .i64 (s.pc + 1)))
  have HF1 := hid ((HFA.out.trans hsA fr1).trans (Nat.le_trans hsA b1.size) (Fr.pc (k := 2) (.int .i64 (s.pc + 1))))
  clear hp m1 b1 fr1 hM1 hW2
  go_wp2
  go_ret
  exact ⟨rfl, _, HM2.out, HB1.out, HF1.out⟩

set_option maxRecDepth 20000 in
set_option maxHeartbeats 2000000 in
theorem do20 (w : World) (B p q r : Nat) (vc vs vk vb : Value) (code : List InsL) (s : StL) (b : List Nat) (ld st : Nat) (h : MM w B p q r (memV q) vc vs vk vb code s b ld st) (hl : s.st.length ≤ 64) (hp0 : 0 ≤ s.pc) (hp1 : s.pc ≤ 1024) (a : Int) :
    Calls Tryd.prog 41 #[.pointer (some ⟨p, 0, none⟩), .agg #[.int .i64 20, .int .i64 a]] w fun e w' => e = .returned (.bool true) ∧ MM w' B p q r (memV q) vc vs vk vb code ⟨a, s.st, s.ca⟩ b ld st ∧ Below B w w' ∧ Fr B p vs vk w vs vk w' := by
  obtain ⟨W, hW⟩ : ∃ W, W = w.alloc (.cells #[.int .i64 20, .int .i64 a] 57) := ⟨_, rfl⟩
  have hb : Below w.heap.size w W := by rw [hW]; exact below_alloc w _
  have hM := h.below hb
  obtain ⟨c0, c1, c2, c3, c4, f2, f3, f4⟩ := hM.m.cells
  have g0 : W.cell? ⟨w.heap.size, 0, none⟩ = some (.int .i64 20) := by rw [hW]; simp
  have g1 : W.cell? ⟨w.heap.size, 1, none⟩ = some (.int .i64 a) := by rw [hW]; simp
  have hlt := h.m.lt
  have hbase := h.m.base
  have hle := h.le
  have HM := hid hM
  have HBW := hid (hb.mono hle)
  have HFW : Hid (Fr B p vs vk w vs vk W) := Fr.of hb
  have hsW := hb.size
  have ha := turn_jump W B p (memV q) vc vs vk code s hM.m a
  clear h hb hM
  go_enter Tryd.func41, Tryd.ntmps41
  iterate 6 (first | go_values | go_skip | go_guarded | go_step | go_upon | go_back | go_simp)
  rw [← hW]
  clear hW
  go_wp2_with fail
  refine ha.mono ?_
  rintro e w1 ⟨rfl, m1, b1, fr1⟩
  have HM1 := hid (HM.out.turned m1 b1)
  have HB1 := hid (HBW.out.trans b1)
  have HF1 := hid (HFW.out.trans hsW fr1)
  clear ha m1 b1 fr1 c0 c1 c2 c3 c4 f2 f3 f4
  go_wp2
  go_ret
  exact ⟨rfl, HM1.out, HB1.out, HF1.out⟩

set_option maxRecDepth 20000 in
set_option maxHeartbeats 2000000 in
theorem do25 (w : World) (B p q r : Nat) (vc vs vk vb : Value) (code : List InsL) (s : StL) (b : List Nat) (ld st : Nat) (h : MM w B p q r (memV q) vc vs vk vb code s b ld st) (hl : s.st.length ≤ 64) (hp0 : 0 ≤ s.pc) (hp1 : s.pc ≤ 1024) (a : Int) :
    Calls Tryd.prog 41 #[.pointer (some ⟨p, 0, none⟩), .agg #[.int .i64 25, .int .i64 a]] w fun e w' => e = .returned (.bool true) ∧ MM w' B p q r (memV q) vc vs vk vb code s b ld st ∧ Below B w w' ∧ Fr B p vs vk w vs vk w' := by
  obtain ⟨W, hW⟩ : ∃ W, W = w.alloc (.cells #[.int .i64 25, .int .i64 a] 57) := ⟨_, rfl⟩
  have hb : Below w.heap.size w W := by rw [hW]; exact below_alloc w _
  have hM := h.below hb
  obtain ⟨c0, c1, c2, c3, c4, f2, f3, f4⟩ := hM.m.cells
  have g0 : W.cell? ⟨w.heap.size, 0, none⟩ = some (.int .i64 25) := by rw [hW]; simp
  have g1 : W.cell? ⟨w.heap.size, 1, none⟩ = some (.int .i64 a) := by rw [hW]; simp
  have hlt := h.m.lt
  have hbase := h.m.base
  have hle := h.le
  have HM := hid hM
  have HBW := hid (hb.mono hle)
  have HFW : Hid (Fr B p vs vk w vs vk W) := Fr.of hb
  have hsW := hb.size
  have ha := turn_halt W B p (memV q) vc vs vk code s hM.m a
  clear h hb hM
  go_enter Tryd.func41, Tryd.ntmps41
  iterate 6 (first | go_values | go_skip | go_guarded | go_step | go_upon | go_back | go_simp)
  rw [← hW]
  clear hW
  go_wp2_with fail
  refine ha.mono ?_
  rintro e w1 ⟨rfl, m1, b1, fr1⟩
  have HM1 := hid (HM.out.turned m1 b1)
  have HB1 := hid (HBW.out.trans b1)
  have HF1 := hid (HFW.out.trans hsW fr1)
  clear ha m1 b1 fr1 c0 c1 c2 c3 c4 f2 f3 f4
  go_wp2
  go_ret
  exact ⟨rfl, HM1.out, HB1.out, HF1.out⟩

set_option maxRecDepth 20000 in
set_option maxHeartbeats 2000000 in
theorem do21S (w : World) (B p q r : Nat) (vc vs vk vb : Value) (code : List InsL) (s : StL) (b : List Nat) (ld st : Nat) (h : MM w B p q r (memV q) vc vs vk vb code s b ld st) (hl : s.st.length ≤ 64) (hp0 : 0 ≤ s.pc) (hp1 : s.pc ≤ 1024) (a : Int) (h1 : 1 ≤ s.st.length) (nx : Int) (hnx : nx = if topL s.st 0 = 0 then s.pc + 1 else a) :
    Calls Tryd.prog 41 #[.pointer (some ⟨p, 0, none⟩), .agg #[.int .i64 21, .int .i64 a]] w fun e w' => e = .returned (.bool true) ∧ ∃ vs', MM w' B p q r (memV q) vc vs' vk vb code ⟨nx, putL s.st 1 [], s.ca⟩ b ld st ∧ Below B w w' ∧ Fr B p vs vk w vs' vk w' := by
  obtain ⟨W, hW⟩ : ∃ W, W = w.alloc (.cells #[.int .i64 21, .int .i64 a] 57) := ⟨_, rfl⟩
  have hb : Below w.heap.size w W := by rw [hW]; exact below_alloc w _
  have hM := h.below hb
  obtain ⟨c0, c1, c2, c3, c4, f2, f3, f4⟩ := hM.m.cells
  have g0 : W.cell? ⟨w.heap.size, 0, none⟩ = some (.int .i64 21) := by rw [hW]; simp
  have g1 : W.cell? ⟨w.heap.size, 1, none⟩ = some (.int .i64 a) := by rw [hW]; simp
  have hlt := h.m.lt
  have hbase := h.m.base
  have hle := h.le
  have HM := hid hM
  have HBW := hid (hb.mono hle)
  have HFW : Hid (Fr B p vs vk w vs vk W) := Fr.of hb
  have hsW := hb.size
  have ha := turn_if W B p (memV q) vc vs vk code s hM.m a hl h1 hp0 hp1
  rw [← hnx] at ha
  clear hnx
  clear h hb hM
  go_enter Tryd.func41, Tryd.ntmps41
  iterate 6 (first | go_values | go_skip | go_guarded | go_step | go_upon | go_back | go_simp)
  rw [← hW]
  clear hW
  go_wp2_with fail
  refine ha.mono ?_
  rintro e w1 ⟨rfl, v1, m1, b1, fr1⟩
  have HM1 := hid (HM.out.turned m1 b1)
  have HB1 := hid (HBW.out.trans b1)
  have HF1 := hid (HFW.out.trans hsW fr1)
  clear ha m1 b1 fr1 c0 c1 c2 c3 c4 f2 f3 f4
  go_wp2
  go_ret
  exact ⟨rfl, _, HM1.out, HB1.out, HF1.out⟩

set_option maxRecDepth 20000 in
set_option maxHeartbeats 2000000 in
theorem do22F (w : World) (B p q r : Nat) (vc vs vk vb : Value) (code : List InsL) (s : StL) (b : List Nat) (ld st : Nat) (h : MM w B p q r (memV q) vc vs vk vb code s b ld st) (hl : s.st.length ≤ 64) (hp0 : 0 ≤ s.pc) (hp1 : s.pc ≤ 1024) (a : Int) (hc : s.ca.length = 32) :
    Calls Tryd.prog 41 #[.pointer (some ⟨p, 0, none⟩), .agg #[.int .i64 22, .int .i64 a]] w fun e w' => e = .returned (.bool false) ∧ MM w' B p q r (memV q) vc vs vk vb code s b ld st ∧ Below B w w' ∧ Fr B p vs vk w vs vk w' := by
  obtain ⟨W, hW⟩ : ∃ W, W = w.alloc (.cells #[.int .i64 22, .int .i64 a] 57) := ⟨_, rfl⟩
  have hb : Below w.heap.size w W := by rw [hW]; exact below_alloc w _
  have hM := h.below hb
  obtain ⟨c0, c1, c2, c3, c4, f2, f3, f4⟩ := hM.m.cells
  have g0 : W.cell? ⟨w.heap.size, 0, none⟩ = some (.int .i64 22) := by rw [hW]; simp
  have g1 : W.cell? ⟨w.heap.size, 1, none⟩ = some (.int .i64 a) := by rw [hW]; simp
  have hlt := h.m.lt
  have hbase := h.m.base
  have hle := h.le
  have HM := hid hM
  have HBW := hid (hb.mono hle)
  have HFW : Hid (Fr B p vs vk w vs vk W) := Fr.of hb
  have hsW := hb.size
  have ha := turn_callF W B p (memV q) vc vs vk code s hM.m a hc
  clear h hb hM
  go_enter Tryd.func41, Tryd.ntmps41
  iterate 6 (first | go_values | go_skip | go_guarded | go_step | go_upon | go_back | go_simp)
  rw [← hW]
  clear hW
  go_wp2_with fail
  refine ha.mono ?_
  rintro e w1 ⟨rfl, m1, b1, fr1⟩
  have HM1 := hid (HM.out.turned m1 b1)
  have HB1 := hid (HBW.out.trans b1)
  have HF1 := hid (HFW.out.trans hsW fr1)
  clear ha m1 b1 fr1 c0 c1 c2 c3 c4 f2 f3 f4
  go_wp2
  go_ret
  exact ⟨rfl, HM1.out, HB1.out, HF1.out⟩

set_option maxRecDepth 20000 in
set_option maxHeartbeats 2000000 in
theorem do22S (w : World) (B p q r : Nat) (vc vs vk vb : Value) (code : List InsL) (s : StL) (b : List Nat) (ld st : Nat) (h : MM w B p q r (memV q) vc vs vk vb code s b ld st) (hl : s.st.length ≤ 64) (hp0 : 0 ≤ s.pc) (hp1 : s.pc ≤ 1024) (a : Int) (hc : s.ca.length < 32) :
    Calls Tryd.prog 41 #[.pointer (some ⟨p, 0, none⟩), .agg #[.int .i64 22, .int .i64 a]] w fun e w' => e = .returned (.bool true) ∧ ∃ vk', MM w' B p q r (memV q) vc vs vk' vb code ⟨a, s.st, s.ca ++ [s.pc + 1]⟩ b ld st ∧ Below B w w' ∧ Fr B p vs vk w vs vk' w' := by
  obtain ⟨W, hW⟩ : ∃ W, W = w.alloc (.cells #[.int .i64 22, .int .i64 a] 57) := ⟨_, rfl⟩
  have hb : Below w.heap.size w W := by rw [hW]; exact below_alloc w _
  have hM := h.below hb
  obtain ⟨c0, c1, c2, c3, c4, f2, f3, f4⟩ := hM.m.cells
  have g0 : W.cell? ⟨w.heap.size, 0, none⟩ = some (.int .i64 22) := by rw [hW]; simp
  have g1 : W.cell? ⟨w.heap.size, 1, none⟩ = some (.int .i64 a) := by rw [hW]; simp
  have hlt := h.m.lt
  have hbase := h.m.base
  have hle := h.le
  have HM := hid hM
  have HBW := hid (hb.mono hle)
  have HFW : Hid (Fr B p vs vk w vs vk W) := Fr.of hb
  have hsW := hb.size
  have ha := turn_call W B p (memV q) vc vs vk code s hM.m a hc hp0 hp1
  clear h hb hM
  go_enter Tryd.func41, Tryd.ntmps41
  iterate 6 (first | go_values | go_skip | go_guarded | go_step | go_upon | go_back | go_simp)
  rw [← hW]
  clear hW
  go_wp2_with fail
  refine ha.mono ?_
  rintro e w1 ⟨rfl, v1, m1, b1, fr1⟩
  have HM1 := hid (HM.out.turned m1 b1)
  have HB1 := hid (HBW.out.trans b1)
  have HF1 := hid (HFW.out.trans hsW fr1)
  clear ha m1 b1 fr1 c0 c1 c2 c3 c4 f2 f3 f4
  go_wp2
  go_ret
  exact ⟨rfl, _, HM1.out, HB1.out, HF1.out⟩

set_option maxRecDepth 20000 in
set_option maxHeartbeats 2000000 in
theorem do23F (w : World) (B p q r : Nat) (vc vs vk vb : Value) (code : List InsL) (s : StL) (b : List Nat) (ld st : Nat) (h : MM w B p q r (memV q) vc vs vk vb code s b ld st) (hl : s.st.length ≤ 64) (hp0 : 0 ≤ s.pc) (hp1 : s.pc ≤ 1024) (a : Int) (hc : s.ca.length = 0) :
    Calls Tryd.prog 41 #[.pointer (some ⟨p, 0, none⟩), .agg #[.int .i64 23, .int .i64 a]] w fun e w' => e = .returned (.bool false) ∧ MM w' B p q r (memV q) vc vs vk vb code s b ld st ∧ Below B w w' ∧ Fr B p vs vk w vs vk w' := by
  obtain ⟨W, hW⟩ : ∃ W, W = w.alloc (.cells #[.int .i64 23, .int .i64 a] 57) := ⟨_, rfl⟩
  have hb : Below w.heap.size w W := by rw [hW]; exact below_alloc w _
  have hM := h.below hb
  obtain ⟨c0, c1, c2, c3, c4, f2, f3, f4⟩ := hM.m.cells
  have g0 : W.cell? ⟨w.heap.size, 0, none⟩ = some (.int .i64 23) := by rw [hW]; simp
  have g1 : W.cell? ⟨w.heap.size, 1, none⟩ = some (.int .i64 a) := by rw [hW]; simp
  have hlt := h.m.lt
  have hbase := h.m.base
  have hle := h.le
  have HM := hid hM
  have HBW := hid (hb.mono hle)
  have HFW : Hid (Fr B p vs vk w vs vk W) := Fr.of hb
  have hsW := hb.size
  have ha := turn_retF W B p (memV q) vc vs vk code s hM.m a hc
  clear h hb hM
  go_enter Tryd.func41, Tryd.ntmps41
  iterate 6 (first | go_values | go_skip | go_guarded | go_step | go_upon | go_back | go_simp)
  rw [← hW]
  clear hW
  go_wp2_with fail
  refine ha.mono ?_
  rintro e w1 ⟨rfl, m1, b1, fr1⟩
  have HM1 := hid (HM.out.turned m1 b1)
  have HB1 := hid (HBW.out.trans b1)
  have HF1 := hid (HFW.out.trans hsW fr1)
  clear ha m1 b1 fr1 c0 c1 c2 c3 c4 f2 f3 f4
  go_wp2
  go_ret
  exact ⟨rfl, HM1.out, HB1.out, HF1.out⟩

set_option maxRecDepth 20000 in
set_option maxHeartbeats 2000000 in
theorem do23S (w : World) (B p q r : Nat) (vc vs vk vb : Value) (code : List InsL) (s : StL) (b : List Nat) (ld st : Nat) (h : MM w B p q r (memV q) vc vs vk vb code s b ld st) (hl : s.st.length ≤ 64) (hp0 : 0 ≤ s.pc) (hp1 : s.pc ≤ 1024) (a : Int) (hc : 0 < s.ca.length) (hc2 : s.ca.length ≤ 32) :
    Calls Tryd.prog 41 #[.pointer (some ⟨p, 0, none⟩), .agg #[.int .i64 23, .int .i64 a]] w fun e w' => e = .returned (.bool true) ∧ ∃ vk', MM w' B p q r (memV q) vc vs vk' vb code ⟨s.ca.getD (s.ca.length - 1) 0, s.st, s.ca.take (s.ca.length - 1)⟩ b ld st ∧ Below B w w' ∧ Fr B p vs vk w vs vk' w' := by
  obtain ⟨W, hW⟩ : ∃ W, W = w.alloc (.cells #[.int .i64 23, .int .i64 a] 57) := ⟨_, rfl⟩
  have hb : Below w.heap.size w W := by rw [hW]; exact below_alloc w _
  have hM := h.below hb
  obtain ⟨c0, c1, c2, c3, c4, f2, f3, f4⟩ := hM.m.cells
  have g0 : W.cell? ⟨w.heap.size, 0, none⟩ = some (.int .i64 23) := by rw [hW]; simp
  have g1 : W.cell? ⟨w.heap.size, 1, none⟩ = some (.int .i64 a) := by rw [hW]; simp
  have hlt := h.m.lt
  have hbase := h.m.base
  have hle := h.le
  have HM := hid hM
  have HBW := hid (hb.mono hle)
  have HFW : Hid (Fr B p vs vk w vs vk W) := Fr.of hb
  have hsW := hb.size
  have ha := turn_ret W B p (memV q) vc vs vk code s hM.m a hc hc2
  clear h hb hM
  go_enter Tryd.func41, Tryd.ntmps41
  iterate 6 (first | go_values | go_skip | go_guarded | go_step | go_upon | go_back | go_simp)
  rw [← hW]
  clear hW
  go_wp2_with fail
  refine ha.mono ?_
  rintro e w1 ⟨rfl, v1, m1, b1, fr1⟩
  have HM1 := hid (HM.out.turned m1 b1)
  have HB1 := hid (HBW.out.trans b1)
  have HF1 := hid (HFW.out.trans hsW fr1)
  clear ha m1 b1 fr1 c0 c1 c2 c3 c4 f2 f3 f4
  go_wp2
  go_ret
  exact ⟨rfl, _, HM1.out, HB1.out, HF1.out⟩
end Go.Proofs.YtfnojlgmbfocfaaDoor
