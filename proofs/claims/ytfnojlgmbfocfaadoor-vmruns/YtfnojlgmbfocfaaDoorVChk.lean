/-
  Check of the code: of, mayBe, Check.
-/
import Derived.Test.YtfnojlgmbfocfaaDoorVFits
namespace Go.Proofs.YtfnojlgmbfocfaaDoor
open Go.RowKit
set_option linter.unusedVariables false
set_option linter.unusedSimpArgs false

theorem opO_at (k : Nat) (h : k < 25) : opOf ((k : Int) + 1) = some (opT.getD k ([], 0)) := by
  unfold opOf
  rw [if_pos (by omega), show ((k : Int) + 1 - 1).toNat = k by omega]
  have h' : k < opT.length := h
  simp [List.getD, List.getElem?_eq_getElem h']
theorem opO_no {n : Int} (h : ¬ (1 ≤ n ∧ n ≤ 25)) : opOf n = none := by
  unfold opOf
  rw [if_neg h]
theorem results_ct {fn : Func} {p u : Nat} {ty : TypeId} (h : fn.results = #[.cell p ty, .tmp u]) (tmps : Array Value) (w : World) (g : Nat) (t : TypeId) (cs : Array Value) (fr : Nat × Nat) (fs : Array Field) (v : Value)
    (hp : tmps.getD p undef = .pointer (some ⟨g, 0, none⟩)) (hv : tmps.getD u undef = v) (hg : w.heap[g]? = some (.cells cs t fr)) (hu : Tryd.prog.underlying ty = some (.struct fs)) (hi : (Tryd.prog.info? ty).map (·.size) = some cs.size) :
    (results fn tmps).run Tryd.prog w = .ok (.tuple #[.agg cs, v]) w := by
  rw [results_cell_tmp h, hp, hv]
  have h1 : (loadVar ty ⟨g, 0, none⟩).run Tryd.prog w = .ok (.agg cs) w := run_loadVar_row w g t ty cs fr (.struct fs) hg hu rfl hi
  simp [asAddr, h1, Result.andThen]

set_option maxHeartbeats 1000000 in
theorem of_yes (k : Nat) (hk : k < 25) (w : World) (hT : Tabs w) :
    Calls Tryd.prog 42 #[.int .i64 ((k : Int) + 1)] w fun e w' => e = .returned (.tuple #[.agg #[.string ⟨(opT.getD k ([], 0)).1.toArray⟩, .int .i64 (opT.getD k ([], 0)).2], .bool true]) ∧ Below w.heap.size w w' := by
  obtain ⟨x1, x2⟩ := hT.o k hk
  have hl := hT.lt.2
  have n1 : ¬ ((k : Int) + 1 < 1) := by omega
  have n1' : decide ((k : Int) + 1 < 1) = false := decide_eq_false n1
  have n2 : ¬ (25 < (k : Int) + 1) := by omega
  have ex : (k : Int) + 1 - 1 = (k : Int) := by omega
  have hk' : (k : Int) < 25 := by omega
  generalize (opT.getD k ([], 0)).1 = nm at *
  generalize (opT.getD k ([], 0)).2 = wi at *
  clear hT
  go_enter Tryd.func42, Tryd.ntmps42
  go_wp2
  refine bodyPost_ret (v := .tuple #[.agg #[.string ⟨nm.toArray⟩, .int .i64 wi], .bool true]) (results_ct (fn := Tryd.f42) (p := 2) (u := 3) rfl _ _ w.heap.size 81 #[.string ⟨nm.toArray⟩, .int .i64 wi] (0, 0) _ _ rfl rfl ?_ Tryd.underlying81 rfl) rfl ?_
  · exact heap_alloc_new w _
  · exact ⟨rfl, below_alloc w _⟩
set_option maxHeartbeats 1000000 in
theorem of_no (n : Int) (hn : ¬ (1 ≤ n ∧ n ≤ 25)) (w : World) :
    Calls Tryd.prog 42 #[.int .i64 n] w fun e w' => e = .returned (.tuple #[.agg #[.string ⟨#[]⟩, .int .i64 0], .bool false]) ∧ Below w.heap.size w w' := by
  by_cases h1 : n < 1
  · go_enter Tryd.func42, Tryd.ntmps42
    go_wp2
    refine bodyPost_ret (v := .tuple #[.agg #[.string ⟨#[]⟩, .int .i64 0], .bool false]) (results_ct (fn := Tryd.f42) (p := 2) (u := 3) rfl _ _ w.heap.size 81 #[.string ⟨#[]⟩, .int .i64 0] (0, 0) _ _ rfl rfl ?_ Tryd.underlying81 rfl) rfl ?_
    · exact heap_alloc_new w _
    · exact ⟨rfl, below_alloc w _⟩
  · have h1' : decide (n < 1) = false := decide_eq_false h1
    have h2 : 25 < n := by omega
    go_enter Tryd.func42, Tryd.ntmps42
    go_wp2
    refine bodyPost_ret (v := .tuple #[.agg #[.string ⟨#[]⟩, .int .i64 0], .bool false]) (results_ct (fn := Tryd.f42) (p := 2) (u := 3) rfl _ _ w.heap.size 81 #[.string ⟨#[]⟩, .int .i64 0] (0, 0) _ _ rfl rfl ?_ Tryd.underlying81 rfl) rfl ?_
    · exact heap_alloc_new w _
    · exact ⟨rfl, below_alloc w _⟩
theorem op_with : ∀ k, k < 25 → (opT.getD k ([], 0)).2 = 0 ∨ (opT.getD k ([], 0)).2 = 1 ∨ (opT.getD k ([], 0)).2 = 2 ∨ (opT.getD k ([], 0)).2 = 3 ∨ (opT.getD k ([], 0)).2 = 4 := by decide
theorem ret_bool {a b : Bool} (h : a = b) : (Ending.returned (.bool a) : Ending) = .returned (.bool b) := by rw [h]

set_option maxHeartbeats 2000000 in
theorem mayBeW (k : Nat) (a : Int) (n : Nat) (hn : n ≤ 4611686018427387904) (nm : List UInt8) (wi : Int) (hw : wi = 0 ∨ wi = 1 ∨ wi = 2 ∨ wi = 3 ∨ wi = 4) (w : World)
    (hof : ∀ w1, Below w.heap.size w w1 → Calls Tryd.prog 42 #[.int .i64 ((k : Int) + 1)] w1 fun e w' => e = .returned (.tuple #[.agg #[.string ⟨nm.toArray⟩, .int .i64 wi], .bool true]) ∧ Below w1.heap.size w1 w') :
    Calls Tryd.prog 39 #[.agg #[.int .i64 ((k : Int) + 1), .int .i64 a], .int .i64 (n : Int)] w fun e w' => e = .returned (.bool (mayW wi a n)) ∧ Below w.heap.size w w' := by
  obtain ⟨W, hW⟩ : ∃ W, W = w.alloc (.cells #[.int .i64 ((k : Int) + 1), .int .i64 a] 57) := ⟨_, rfl⟩
  have hb : Below w.heap.size w W := by rw [hW]; exact below_alloc w _
  have hof1 := hof W hb
  have hz : W.heap[w.heap.size]? = some (.cells #[.int .i64 ((k : Int) + 1), .int .i64 a] 57 (0, 0)) := by rw [hW]; exact heap_alloc_new w _
  have hzl : w.heap.size < W.heap.size := (Array.getElem?_eq_some_iff.1 hz).1
  have HB := hid hb
  have HZ := hid hz
  obtain ⟨R, hR⟩ : ∃ R, R = mayW wi a n := ⟨_, rfl⟩
  rw [← hR]
  unfold mayW at hR
  have HRR := hid hR
  clear hb hz hof hR
  go_enter Tryd.func39, Tryd.ntmps39
  go_wp2_with fail
  rw [← hW]
  clear hW
  refine hof1.mono ?_
  rintro e w1 ⟨rfl, b1⟩
  have g1 : w1.cell? ⟨w.heap.size, 1, none⟩ = some (.int .i64 a) := by rw [(b1.cell (p := ⟨w.heap.size, 1, none⟩) hzl)]; simp [World.cell?, HZ.out]
  have hs1 := b1.size
  have hl1 : w.heap.size < w1.heap.size := by omega
  have HB1 : Hid (Below w.heap.size w (w1.alloc (.cells #[.string ⟨nm.toArray⟩, .int .i64 wi] 81))) := (HB.out.trans (b1.mono HB.out.size)).alloc (by omega) _
  clear hof1 b1
  have hr := HRR.out
  rcases hw with rfl | rfl | rfl | rfl | rfl
  · simp at hr
    have HR := hid hr
    clear hr HRR
    go_wp2
    go_ret
    exact ⟨by rw [HR.out]; rfl, HB1.out⟩
  · simp at hr
    have HR := hid hr
    clear hr HRR
    go_wp2
    go_ret
    exact ⟨ret_bool HR.out.symm, HB1.out⟩
  · have hr2 : R = decide (0 ≤ a ∧ a < 64) := by simpa using hr
    by_cases hA : 0 ≤ a
    · have hr3 : R = decide (a < 64) := by rw [hr2]; simp [hA]
      have HR := hid hr3
      clear hr hr2 hr3 HRR
      go_wp2
      go_ret
      exact ⟨ret_bool HR.out.symm, HB1.out⟩
    · have hA' : decide (0 ≤ a) = false := decide_eq_false hA
      have hr3 : R = false := by rw [hr2]; simp [hA]
      have HR := hid hr3
      clear hr hr2 hr3 HRR
      go_wp2
      go_ret
      exact ⟨ret_bool HR.out.symm, HB1.out⟩
  · have hr2 : R = decide (0 ≤ a ∧ a < (n : Int)) := by simpa using hr
    by_cases hA : 0 ≤ a
    · have hr3 : R = decide (a < (n : Int)) := by rw [hr2]; simp [hA]
      have HR := hid hr3
      clear hr hr2 hr3 HRR
      go_wp2
      go_ret
      exact ⟨ret_bool HR.out.symm, HB1.out⟩
    · have hA' : decide (0 ≤ a) = false := decide_eq_false hA
      have hr3 : R = false := by rw [hr2]; simp [hA]
      have HR := hid hr3
      clear hr hr2 hr3 HRR
      go_wp2
      go_ret
      exact ⟨ret_bool HR.out.symm, HB1.out⟩
  · have hr2 : R = decide (1 ≤ a ∧ a ≤ 99) := by simpa using hr
    by_cases hA : 1 ≤ a
    · have hr3 : R = decide (a ≤ 99) := by rw [hr2]; simp [hA]
      have HR := hid hr3
      clear hr hr2 hr3 HRR
      go_wp2
      go_ret
      exact ⟨ret_bool HR.out.symm, HB1.out⟩
    · have hA' : decide (1 ≤ a) = false := decide_eq_false hA
      have hr3 : R = false := by rw [hr2]; simp [hA]
      have HR := hid hr3
      clear hr hr2 hr3 HRR
      go_wp2
      go_ret
      exact ⟨ret_bool HR.out.symm, HB1.out⟩

set_option maxHeartbeats 2000000 in
theorem mayBe_bad (op a : Int) (n : Nat) (ho : ¬ (1 ≤ op ∧ op ≤ 25)) (w : World) :
    Calls Tryd.prog 39 #[.agg #[.int .i64 op, .int .i64 a], .int .i64 (n : Int)] w fun e w' => e = .returned (.bool false) ∧ Below w.heap.size w w' := by
  obtain ⟨W, hW⟩ : ∃ W, W = w.alloc (.cells #[.int .i64 op, .int .i64 a] 57) := ⟨_, rfl⟩
  have hb : Below w.heap.size w W := by rw [hW]; exact below_alloc w _
  have hof1 := of_no op ho W
  have HB := hid hb
  clear hb ho
  go_enter Tryd.func39, Tryd.ntmps39
  go_wp2_with fail
  rw [← hW]
  clear hW
  refine hof1.mono ?_
  rintro e w1 ⟨rfl, b1⟩
  have hs1 := b1.size
  have HB1 : Hid (Below w.heap.size w (w1.alloc (.cells #[.string ⟨#[]⟩, .int .i64 0] 81))) := (HB.out.trans (b1.mono HB.out.size)).alloc (by have := HB.out.size; omega) _
  clear hof1 b1
  go_wp2
  go_ret
  exact ⟨rfl, HB1.out⟩

theorem mayBeI_any (op a : Int) (n : Nat) (hn : n ≤ 4611686018427387904) (w : World) (hT : Tabs w) :
    Calls Tryd.prog 39 #[.agg #[.int .i64 op, .int .i64 a], .int .i64 (n : Int)] w fun e w' => e = .returned (.bool (mayI n (op, a))) ∧ Below w.heap.size w w' := by
  by_cases ho : 1 ≤ op ∧ op ≤ 25
  · obtain ⟨k, rfl⟩ : ∃ k : Nat, op = (k : Int) + 1 := ⟨(op - 1).toNat, by omega⟩
    have hk : k < 25 := by omega
    have e : mayI n ((k : Int) + 1, a) = mayW (opT.getD k ([], 0)).2 a n := by
      unfold mayI
      simp only [opO_at k hk]
    rw [e]
    exact mayBeW k a n hn _ _ (op_with k hk) w (fun w1 h1 => of_yes k hk w1 (hT.below h1))
  · have e : mayI n (op, a) = false := by
      unfold mayI
      simp only [opO_no ho]
    rw [e]
    exact mayBe_bad op a n ho w

set_option maxRecDepth 20000 in
set_option maxHeartbeats 2000000 in
theorem check_any (v : Value) (l : List InsL) (w : World) (hS : SeesI w v l) (hT : Tabs w) (hlen : l.length ≤ 140737488355328) :
    Calls Tryd.prog 31 #[v] w fun e w' => e = .returned (.tuple #[.int .i64 (checkL l).1, .int .i64 ((checkL l).2 : Nat)]) ∧ Below w.heap.size w w' := by
  have hS0 := hS
  obtain ⟨b, off, ao, cap, rfl, hcap, hnil, hao, hcell⟩ := hS
  obtain ⟨R, hR⟩ : ∃ R, R = checkL l := ⟨_, rfl⟩
  rw [← hR]
  by_cases h0 : l.length = 0
  · have hr : R = (2, 0) := by rw [hR, checkL, if_pos (Or.inl h0)]
    rw [h0, hr]
    clear hS0 hcell hR hr
    go_enter Tryd.func31, Tryd.ntmps31
    go_wp2
    go_ret2
    exact ⟨rfl, Below.refl _ _⟩
  have h0' : ((l.length : Int) == 0) = false := by rw [beq_eq_false_iff_ne]; omega
  by_cases h1 : 1024 < l.length
  · have hr : R = (2, 0) := by rw [hR, checkL, if_pos (Or.inr h1)]
    have h1' : (1024 : Int) < (l.length : Int) := by omega
    rw [hr]
    clear hS0 hcell hR hr
    go_enter Tryd.func31, Tryd.ntmps31
    go_wp2
    go_ret2
    exact ⟨rfl, Below.refl _ _⟩
  have hr : R = if badAt l.length l < l.length then (130, badAt l.length l) else (0, 0) := by rw [hR, checkL, if_neg (by omega)]
  have h1' : ¬ (1024 : Int) < (l.length : Int) := by omega
  have HRR := hid hr
  have HS := hid (fun w1 (h1 : Below w.heap.size w w1) => hS0.below h1)
  have HT := hid (fun w1 (h1 : Below w.heap.size w w1) => hT.below h1)
  have HBL := hid (badAt_le l.length l)
  obtain rfl := hao (by intro e; rw [e] at h0; simp at h0)
  clear hS0 hR hr hT hcell hnil hao
  go_enter Tryd.func31, Tryd.ntmps31
  go_wp2
  go_loopw [16] (fun i wr => ∃ (k : Nat), k ≤ l.length ∧ i = .int .i64 (k : Int) ∧ Hid (badAt l.length l = badAt l.length (l.drop k) + k ∧ Below w.heap.size w wr)) (fun i _ => l.length - (intOf i).toNat)
  case atStart => exact ⟨0, Nat.zero_le _, rfl, by simp, Below.refl _ _⟩
  case round =>
    obtain ⟨k, hk, rfl, hrr⟩ := hrel
    by_cases hlt : k < l.length
    · have hlt' : (k : Int) < (l.length : Int) := by omega
      obtain ⟨b', off', ao', cap', hv, _, _, hao', hcell⟩ := HS.out wr hrr.out.2
      cases hv
      have hao2 := hao' (by intro e; rw [e] at h0; simp at h0)
      cases hao2
      obtain ⟨x1, x2⟩ := hcell k hlt
      have hd := badAt_drop (n := l.length) hlt
      have HD := hid hd
      obtain ⟨op, a, hi⟩ : ∃ op a : Int, l[k] = (op, a) := ⟨_, _, rfl⟩
      rw [hi] at x1 x2 HD
      simp only at x1 x2
      obtain ⟨W, hW⟩ : ∃ W, W = wr.alloc (.cells #[.int .i64 op, .int .i64 a] 57) := ⟨_, rfl⟩
      have hbW : Below wr.heap.size wr W := by rw [hW]; exact below_alloc wr _
      have hBW : Below w.heap.size w W := hrr.out.2.trans (hbW.mono hrr.out.2.size)
      have hmb := mayBeI_any op a l.length (by omega) W (HT.out W hBW)
      have HBW := hid hBW
      clear hcell hd hi hbW hBW hao'
      obtain ⟨M, hM⟩ : ∃ M, M = mayI l.length (op, a) := ⟨_, rfl⟩
      rw [← hM] at hmb HD
      clear hM
      go_wp2_with fail
      rw [← hW]
      clear hW
      refine hmb.mono ?_
      rintro e w1 ⟨rfl, b1⟩
      have HB1 := hid (HBW.out.trans (b1.mono HBW.out.size))
      clear hmb b1 x1 x2
      cases M with
      | true =>
        have h2 := HD.out
        rw [if_pos rfl] at h2
        have HN : Hid (badAt l.length l = badAt l.length (l.drop (k + 1)) + (k + 1)) := by
          unfold Hid
          rw [hrr.out.1, h2]
          omega
        clear h2 HD
        go_wp2
        go_round
        case rel => exact ⟨k + 1, by omega, by go_num, HN.out, HB1.out⟩
        case measure => simp [intOf]; omega
      | false =>
        have h2 := HD.out
        rw [if_neg (by decide)] at h2
        have HN : Hid (R = (130, k)) := by
          unfold Hid
          have e : badAt l.length l = k := by rw [hrr.out.1, h2]; omega
          rw [HRR.out, e, if_pos hlt]
        clear h2 HD
        go_wp2
        go_ret2
        exact ⟨by rw [HN.out]; rfl, HB1.out⟩
    · have hlt' : ¬ (k : Int) < (l.length : Int) := by omega
      have HN : Hid (R = (0, 0)) := by
        unfold Hid
        have e : badAt l.length l = k := by rw [hrr.out.1, List.drop_of_length_le (by omega)]; simp [badAt]
        rw [HRR.out, e, if_neg (by omega)]
      go_wp2
      go_ret2
      exact ⟨by rw [HN.out]; rfl, hrr.out.2⟩
end Go.Proofs.YtfnojlgmbfocfaaDoor
