/-
  do: loads, stores, what two numbers make.
-/
import Derived.Test.YtfnojlgmbfocfaaDoorVDo
namespace Go.Proofs.YtfnojlgmbfocfaaDoor
open Go.RowKit
set_option linter.unusedVariables false
set_option linter.unusedSimpArgs false

set_option maxRecDepth 20000 in
set_option maxHeartbeats 2000000 in
theorem do18S (w : World) (B p q r : Nat) (vc vs vk vb : Value) (code : List InsL) (s : StL) (b : List Nat) (ld st : Nat) (h : MM w B p q r (memV q) vc vs vk vb code s b ld st) (hld : ld < 4611686018427387904) (hst : st < 4611686018427387904) (hbl : b.length ≤ 4611686018427387904) (hl : s.st.length ≤ 64) (hp0 : 0 ≤ s.pc) (hp1 : s.pc ≤ 1024) (a : Int) (h1 : 1 ≤ s.st.length) (hc : 0 ≤ topL s.st 0 ∧ topL s.st 0 < b.length) :
    Calls Tryd.prog 41 #[.pointer (some ⟨p, 0, none⟩), .agg #[.int .i64 18, .int .i64 a]] w fun e w' => e = .returned (.bool true) ∧ ∃ vs', MM w' B p q r (memV q) vc vs' vk vb code ⟨s.pc + 1, putL s.st 1 [((b.getD (topL s.st 0).toNat 0 : Nat) : Int)], s.ca⟩ b (ld + 1) st ∧ Kp B q r w w' ∧ Fr B p vs vk w vs' vk w' := by
  obtain ⟨W, hW⟩ : ∃ W, W = w.alloc (.cells #[.int .i64 18, .int .i64 a] 57) := ⟨_, rfl⟩
  have hb : Below w.heap.size w W := by rw [hW]; exact below_alloc w _
  have hM := h.below hb
  obtain ⟨c0, c1, c2, c3, c4, f2, f3, f4⟩ := hM.m.cells
  have g0 : W.cell? ⟨w.heap.size, 0, none⟩ = some (.int .i64 18) := by rw [hW]; simp
  have g1 : W.cell? ⟨w.heap.size, 1, none⟩ = some (.int .i64 a) := by rw [hW]; simp
  have hlt := h.m.lt
  have hbase := h.m.base
  have hle := h.le
  have HM := hid hM
  have HBW := hid (hb.mono hle)
  have HFW : Hid (Fr B p vs vk w vs vk W) := Fr.of hb
  have hsW := hb.size
  have ha := rem_load W B p q r vc vs vk vb code s b ld st hM hl h1 (by omega) hbl
  rw [decide_eq_true hc, if_pos hc] at ha
  clear h hb hM hc
  go_enter Tryd.func41, Tryd.ntmps41
  iterate 6 (first | go_values | go_skip | go_guarded | go_step | go_upon | go_back | go_simp)
  rw [← hW]
  clear hW
  go_wp2_with fail
  refine ha.mono ?_
  rintro e w1 ⟨rfl, vs', m1, b1, fr1⟩
  obtain ⟨d0, d1, d2, d3, d4, e2, e3, e4⟩ := m1.m.cells
  have HM2 := hid (m1.turned (m1.m.setPc (s.pc + 1)) ((Below.refl B _).setCell (p := ⟨p, 2, none⟩) hbase (.int .i64 (s.pc + 1))))
  have HB1 : Hid (Kp B q r w (w1.setCell ⟨p, 2, none⟩ (.int .i64 (s.pc + 1)))) := ((Kp.of HBW.out).trans b1).trans (Kp.set ⟨p, 2, none⟩ (Or.inr (Or.inr hbase)) _)
  have HF1 := hid ((HFW.out.trans hsW fr1).trans (Nat.le_trans hsW b1.size) (Fr.pc (k := 2) (.int .i64 (s.pc + 1))))
  clear ha m1 b1 fr1 c0 c1 c2 c3 c4 f2 f3 f4
  go_wp2
  go_ret
  exact ⟨rfl, _, HM2.out, HB1.out, HF1.out⟩

set_option maxRecDepth 20000 in
set_option maxHeartbeats 2000000 in
theorem do18F (w : World) (B p q r : Nat) (vc vs vk vb : Value) (code : List InsL) (s : StL) (b : List Nat) (ld st : Nat) (h : MM w B p q r (memV q) vc vs vk vb code s b ld st) (hld : ld < 4611686018427387904) (hst : st < 4611686018427387904) (hbl : b.length ≤ 4611686018427387904) (hl : s.st.length ≤ 64) (hp0 : 0 ≤ s.pc) (hp1 : s.pc ≤ 1024) (a : Int) (h1 : 1 ≤ s.st.length) (hc : ¬ (0 ≤ topL s.st 0 ∧ topL s.st 0 < b.length)) :
    Calls Tryd.prog 41 #[.pointer (some ⟨p, 0, none⟩), .agg #[.int .i64 18, .int .i64 a]] w fun e w' => e = .returned (.bool false) ∧ ∃ vs', MM w' B p q r (memV q) vc vs' vk vb code s b (ld + 1) st ∧ Kp B q r w w' ∧ Fr B p vs vk w vs' vk w' := by
  obtain ⟨W, hW⟩ : ∃ W, W = w.alloc (.cells #[.int .i64 18, .int .i64 a] 57) := ⟨_, rfl⟩
  have hb : Below w.heap.size w W := by rw [hW]; exact below_alloc w _
  have hM := h.below hb
  obtain ⟨c0, c1, c2, c3, c4, f2, f3, f4⟩ := hM.m.cells
  have g0 : W.cell? ⟨w.heap.size, 0, none⟩ = some (.int .i64 18) := by rw [hW]; simp
  have g1 : W.cell? ⟨w.heap.size, 1, none⟩ = some (.int .i64 a) := by rw [hW]; simp
  have hlt := h.m.lt
  have hbase := h.m.base
  have hle := h.le
  have HM := hid hM
  have HBW := hid (hb.mono hle)
  have HFW : Hid (Fr B p vs vk w vs vk W) := Fr.of hb
  have hsW := hb.size
  have ha := rem_load W B p q r vc vs vk vb code s b ld st hM hl h1 (by omega) hbl
  rw [decide_eq_false hc, if_neg hc] at ha
  clear h hb hM hc
  go_enter Tryd.func41, Tryd.ntmps41
  iterate 6 (first | go_values | go_skip | go_guarded | go_step | go_upon | go_back | go_simp)
  rw [← hW]
  clear hW
  go_wp2_with fail
  refine ha.mono ?_
  rintro e w1 ⟨rfl, vs', m1, b1, fr1⟩
  have HM2 := hid m1
  have HB1 := hid ((Kp.of HBW.out).trans b1)
  have HF1 := hid (HFW.out.trans hsW fr1)
  clear ha m1 b1 fr1 c0 c1 c2 c3 c4 f2 f3 f4
  go_wp2
  go_ret
  exact ⟨rfl, _, HM2.out, HB1.out, HF1.out⟩

set_option maxRecDepth 20000 in
set_option maxHeartbeats 2000000 in
theorem do19S (w : World) (B p q r : Nat) (vc vs vk vb : Value) (code : List InsL) (s : StL) (b : List Nat) (ld st : Nat) (h : MM w B p q r (memV q) vc vs vk vb code s b ld st) (hld : ld < 4611686018427387904) (hst : st < 4611686018427387904) (hbl : b.length ≤ 4611686018427387904) (hl : s.st.length ≤ 64) (hp0 : 0 ≤ s.pc) (hp1 : s.pc ≤ 1024) (a : Int) (h2 : 2 ≤ s.st.length) (hc : 0 ≤ topL s.st 0 ∧ topL s.st 0 < b.length) :
    Calls Tryd.prog 41 #[.pointer (some ⟨p, 0, none⟩), .agg #[.int .i64 19, .int .i64 a]] w fun e w' => e = .returned (.bool true) ∧ ∃ vs', MM w' B p q r (memV q) vc vs' vk vb code ⟨s.pc + 1, putL s.st 2 [], s.ca⟩ (b.set (topL s.st 0).toNat (topL s.st 1 % 256).toNat) ld (st + 1) ∧ Kp B q r w w' ∧ Fr B p vs vk w vs' vk w' := by
  obtain ⟨W, hW⟩ : ∃ W, W = w.alloc (.cells #[.int .i64 19, .int .i64 a] 57) := ⟨_, rfl⟩
  have hb : Below w.heap.size w W := by rw [hW]; exact below_alloc w _
  have hM := h.below hb
  obtain ⟨c0, c1, c2, c3, c4, f2, f3, f4⟩ := hM.m.cells
  have g0 : W.cell? ⟨w.heap.size, 0, none⟩ = some (.int .i64 19) := by rw [hW]; simp
  have g1 : W.cell? ⟨w.heap.size, 1, none⟩ = some (.int .i64 a) := by rw [hW]; simp
  have hlt := h.m.lt
  have hbase := h.m.base
  have hle := h.le
  have HM := hid hM
  have HBW := hid (hb.mono hle)
  have HFW : Hid (Fr B p vs vk w vs vk W) := Fr.of hb
  have hsW := hb.size
  have ha := rem_store W B p q r vc vs vk vb code s b ld st hM hl h2 (by omega) hbl
  rw [decide_eq_true hc, if_pos hc, if_pos hc] at ha
  clear h hb hM hc
  go_enter Tryd.func41, Tryd.ntmps41
  iterate 6 (first | go_values | go_skip | go_guarded | go_step | go_upon | go_back | go_simp)
  rw [← hW]
  clear hW
  go_wp2_with fail
  refine ha.mono ?_
  rintro e w1 ⟨rfl, vs', m1, b1, fr1⟩
  obtain ⟨d0, d1, d2, d3, d4, e2, e3, e4⟩ := m1.m.cells
  have HM2 := hid (m1.turned (m1.m.setPc (s.pc + 1)) ((Below.refl B _).setCell (p := ⟨p, 2, none⟩) hbase (.int .i64 (s.pc + 1))))
  have HB1 : Hid (Kp B q r w (w1.setCell ⟨p, 2, none⟩ (.int .i64 (s.pc + 1)))) := ((Kp.of HBW.out).trans b1).trans (Kp.set ⟨p, 2, none⟩ (Or.inr (Or.inr hbase)) _)
  have HF1 := hid ((HFW.out.trans hsW fr1).trans (Nat.le_trans hsW b1.size) (Fr.pc (k := 2) (.int .i64 (s.pc + 1))))
  clear ha m1 b1 fr1 c0 c1 c2 c3 c4 f2 f3 f4
  go_wp2
  go_ret
  exact ⟨rfl, _, HM2.out, HB1.out, HF1.out⟩

set_option maxRecDepth 20000 in
set_option maxHeartbeats 2000000 in
theorem do19F (w : World) (B p q r : Nat) (vc vs vk vb : Value) (code : List InsL) (s : StL) (b : List Nat) (ld st : Nat) (h : MM w B p q r (memV q) vc vs vk vb code s b ld st) (hld : ld < 4611686018427387904) (hst : st < 4611686018427387904) (hbl : b.length ≤ 4611686018427387904) (hl : s.st.length ≤ 64) (hp0 : 0 ≤ s.pc) (hp1 : s.pc ≤ 1024) (a : Int) (h2 : 2 ≤ s.st.length) (hc : ¬ (0 ≤ topL s.st 0 ∧ topL s.st 0 < b.length)) :
    Calls Tryd.prog 41 #[.pointer (some ⟨p, 0, none⟩), .agg #[.int .i64 19, .int .i64 a]] w fun e w' => e = .returned (.bool false) ∧ ∃ vs', MM w' B p q r (memV q) vc vs' vk vb code s b ld (st + 1) ∧ Kp B q r w w' ∧ Fr B p vs vk w vs' vk w' := by
  obtain ⟨W, hW⟩ : ∃ W, W = w.alloc (.cells #[.int .i64 19, .int .i64 a] 57) := ⟨_, rfl⟩
  have hb : Below w.heap.size w W := by rw [hW]; exact below_alloc w _
  have hM := h.below hb
  obtain ⟨c0, c1, c2, c3, c4, f2, f3, f4⟩ := hM.m.cells
  have g0 : W.cell? ⟨w.heap.size, 0, none⟩ = some (.int .i64 19) := by rw [hW]; simp
  have g1 : W.cell? ⟨w.heap.size, 1, none⟩ = some (.int .i64 a) := by rw [hW]; simp
  have hlt := h.m.lt
  have hbase := h.m.base
  have hle := h.le
  have HM := hid hM
  have HBW := hid (hb.mono hle)
  have HFW : Hid (Fr B p vs vk w vs vk W) := Fr.of hb
  have hsW := hb.size
  have ha := rem_store W B p q r vc vs vk vb code s b ld st hM hl h2 (by omega) hbl
  rw [decide_eq_false hc, if_neg hc, if_neg hc] at ha
  clear h hb hM hc
  go_enter Tryd.func41, Tryd.ntmps41
  iterate 6 (first | go_values | go_skip | go_guarded | go_step | go_upon | go_back | go_simp)
  rw [← hW]
  clear hW
  go_wp2_with fail
  refine ha.mono ?_
  rintro e w1 ⟨rfl, vs', m1, b1, fr1⟩
  have HM2 := hid m1
  have HB1 := hid ((Kp.of HBW.out).trans b1)
  have HF1 := hid (HFW.out.trans hsW fr1)
  clear ha m1 b1 fr1 c0 c1 c2 c3 c4 f2 f3 f4
  go_wp2
  go_ret
  exact ⟨rfl, _, HM2.out, HB1.out, HF1.out⟩

set_option maxRecDepth 20000 in
set_option maxHeartbeats 4000000 in
theorem doT (w : World) (B p q r : Nat) (vc vs vk vb : Value) (code : List InsL) (s : StL) (b : List Nat) (ld st : Nat) (h : MM w B p q r (memV q) vc vs vk vb code s b ld st) (hl : s.st.length ≤ 64) (hp0 : 0 ≤ s.pc) (hp1 : s.pc ≤ 1024) (op a : Int) (h5 : 5 ≤ op) (h16 : op ≤ 16) (h2 : 2 ≤ s.st.length) (tw : Option Int) (htw : tw = twoL op (topL s.st 1) (topL s.st 0)) :
    Calls Tryd.prog 41 #[.pointer (some ⟨p, 0, none⟩), .agg #[.int .i64 op, .int .i64 a]] w fun e w' => e = .returned (.bool tw.isSome) ∧ ∃ vs', MM w' B p q r (memV q) vc vs' vk vb code ((tw.map fun z => (⟨s.pc + 1, putL s.st 2 [z], s.ca⟩ : StL)).getD s) b ld st ∧ Below B w w' ∧ Fr B p vs vk w vs' vk w' := by
  obtain ⟨W, hW⟩ : ∃ W, W = w.alloc (.cells #[.int .i64 op, .int .i64 a] 57) := ⟨_, rfl⟩
  have hb : Below w.heap.size w W := by rw [hW]; exact below_alloc w _
  have hM := h.below hb
  obtain ⟨c0, c1, c2, c3, c4, f2, f3, f4⟩ := hM.m.cells
  have hz : W.heap[w.heap.size]? = some (.cells #[.int .i64 op, .int .i64 a] 57 (0, 0)) := by rw [hW]; exact heap_alloc_new w _
  have g0 : W.cell? ⟨w.heap.size, 0, none⟩ = some (.int .i64 op) := by rw [hW]; simp
  have hlt := h.m.lt
  have hbase := h.m.base
  have hle := h.le
  have HM := hid hM
  have HBW := hid (hb.mono hle)
  have HFW : Hid (Fr B p vs vk w vs vk W) := Fr.of hb
  have hsW := hb.size
  have hzl : w.heap.size < W.heap.size := by rw [hW]; simp
  have HLA := hid (fun w1 (hm1 : MM w1 B p q r (memV q) vc vs vk vb code s b ld st) => last_any w1 B p (memV q) vc vs vk code s hm1.m 1 (by omega) hl)
  have HLB := hid (fun w1 (hm1 : MM w1 B p q r (memV q) vc vs vk vb code s b ld st) => last_any w1 B p (memV q) vc vs vk code s hm1.m 0 (by omega) hl)
  have HRK := hid (fun w1 => reckon_any op (topL s.st 1) (topL s.st 0) h5 h16 w1)
  rw [← htw] at HRK
  have hla := HLA.out W.drew (hM.below (Below.drew (Below.refl _ W)))
  have g0d : W.drew.cell? ⟨w.heap.size, 0, none⟩ = some (.int .i64 op) := g0
  generalize topL s.st 1 = x at *
  generalize topL s.st 0 = y at *
  have n1 : (op == 1) = false := by rw [beq_eq_false_iff_ne]; omega
  have n2 : (op == 2) = false := by rw [beq_eq_false_iff_ne]; omega
  have n3 : (op == 3) = false := by rw [beq_eq_false_iff_ne]; omega
  have n4 : (op == 4) = false := by rw [beq_eq_false_iff_ne]; omega
  have n18 : (op == 18) = false := by rw [beq_eq_false_iff_ne]; omega
  have n19 : (op == 19) = false := by rw [beq_eq_false_iff_ne]; omega
  have n20 : (op == 20) = false := by rw [beq_eq_false_iff_ne]; omega
  have n21 : (op == 21) = false := by rw [beq_eq_false_iff_ne]; omega
  have n22 : (op == 22) = false := by rw [beq_eq_false_iff_ne]; omega
  have n23 : (op == 23) = false := by rw [beq_eq_false_iff_ne]; omega
  have n25 : (op == 25) = false := by rw [beq_eq_false_iff_ne]; omega
  have n17 : (op == 17) = false := by rw [beq_eq_false_iff_ne]; omega
  have n24 : (op == 24) = false := by rw [beq_eq_false_iff_ne]; omega
  clear h hb hM hz htw h5 h16
  go_enter Tryd.func41, Tryd.ntmps41
  iterate 6 (first | go_values | go_skip | go_guarded | go_step | go_upon | go_back | go_simp)
  rw [← hW]
  clear hW
  go_wp2_with fail
  try go_simp
  go_cut [5, 6] (fun x5 x6 wx => x5 = .int .i64 (tw.getD 0) ∧ x6 = .bool tw.isSome ∧ Hid (MM wx B p q r (memV q) vc vs vk vb code s b ld st ∧ Below W.heap.size W wx))
  case first =>
    go_region_held3 (fun X => X.cell? ⟨w.heap.size, 0, none⟩ = some (.int .i64 op))
      (first | (with_reducible exact g0d) | (with_reducible assumption))
      (first
        | (go_at_call 48
           refine hla.mono ?_
           rintro e w1 ⟨rfl, b1⟩
           have hb1 : Below W.heap.size W w1 := Below.trans (Below.drew (Below.refl W.heap.size W)) b1
           have hm1 := HM.out.below hb1
           have k1 : w1.cell? ⟨w.heap.size, 0, none⟩ = some (.int .i64 op) := (hb1.cell (p := ⟨w.heap.size, 0, none⟩) hzl).trans g0
           have HB1 := hid hb1
           have HM1 := hid hm1
           have hlb := HLB.out w1 hm1
           clear hla b1 hm1 hb1)
        | (go_at_call 48
           refine hlb.mono ?_
           rintro e w2 ⟨rfl, b2⟩
           have hb2 : Below W.heap.size W w2 := HB1.out.trans (b2.mono HB1.out.size)
           have k2 : w2.cell? ⟨w.heap.size, 0, none⟩ = some (.int .i64 op) := (hb2.cell (p := ⟨w.heap.size, 0, none⟩) hzl).trans g0
           have HM2 := hid (HM.out.below hb2)
           have HB2 := hid hb2
           have hrk := HRK.out w2
           clear hlb b2 hb2)
        | (go_at_call 49
           refine hrk.mono ?_
           rintro e w3 ⟨rfl, hw3⟩
           subst w3
           clear hrk))
    all_goals
      go_wp2
      go_meet
      case rel => exact ⟨rfl, rfl, HM2.out, HB2.out⟩
  case rest =>
    obtain ⟨rfl, rfl, hmk⟩ := hcut
    rename_i K2 hK2
    refine hK2 _ _ ?_
    clear c0 c1 c2 c3 c4 f2 f3 f4 g0 g0d hla HLA HLB HRK
    have HBX := hid (HBW.out.trans (hmk.out.2.mono HM.out.le))
    have HFX := hid (HFW.out.trans hsW (Fr.of hmk.out.2))
    have hsX := Nat.le_trans hsW hmk.out.2.size
    cases tw with
    | none =>
      simp only [Option.isSome_none, Option.getD_none, Option.map_none]
      go_wp2
      go_ret
      exact ⟨rfl, _, hmk.out.1, HBX.out, HFX.out⟩
    | some z =>
      simp only [Option.isSome_some, Option.getD_some, Option.map_some]
      obtain ⟨W2, hW2⟩ : ∃ W2, W2 = wc.alloc (.cells #[.int .i64 z] 3) := ⟨_, rfl⟩
      have hb2 : Below wc.heap.size wc W2 := by rw [hW2]; exact below_alloc wc _
      have hM2 := hmk.out.1.below hb2
      have hp := put_any W2 B p (memV q) vc vs vk _ code s hM2.m 2 h2 hl [z] (by rw [hW2]; exact sees_one wc _) (by simp)
      have HMA := hid hM2
      have HBA := hid (HBX.out.trans (hb2.mono hmk.out.1.le))
      have HFA := hid (HFX.out.trans hsX (Fr.of hb2))
      have hsA := Nat.le_trans hsX hb2.size
      clear hb2 hM2
      go_wp2_with fail
      rw [← hW2]
      refine hp.mono ?_
      rintro e w3 ⟨rfl, vs', m1, b1, fr1⟩
      obtain ⟨d0, d1, d2, d3, d4, e2, e3, e4⟩ := m1.cells
      have hM1 := HMA.out.turned m1 b1
      have HM2 := hid (hM1.turned (m1.setPc (s.pc + 1)) ((Below.refl B _).setCell (p := ⟨p, 2, none⟩) hbase (.int .i64 (s.pc + 1))))
      have HB1 := hid ((HBA.out.trans b1).setCell (p := ⟨p, 2, none⟩) hbase (.int .i64 (s.pc + 1)))
      have HF1 := hid ((HFA.out.trans hsA fr1).trans (Nat.le_trans hsA b1.size) (Fr.pc (k := 2) (.int .i64 (s.pc + 1))))
      clear hp m1 b1 fr1 hM1 hW2
      go_wp2
      go_ret
      exact ⟨rfl, _, HM2.out, HB1.out, HF1.out⟩
end Go.Proofs.YtfnojlgmbfocfaaDoor
