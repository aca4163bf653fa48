/-
  An event process that nobody made: what each call answers.
-/
import Derived.Test.YtkaffbchlngfaaaDoorEBase
namespace Go.Proofs.YtkaffbchlngfaaaDoor
open Go.RowKit
set_option linter.unusedVariables false
set_option linter.unusedSimpArgs false

set_option maxRecDepth 100000 in
set_option maxHeartbeats 1000000 in
theorem asked_no (v : Value) (w : World) (h : ENo w v) :
    Calls Tryd.prog 49 #[v] w fun e w' => e = .returned (.int .i64 1) ∧ w' = w := by
  have hg := given_no v w h
  clear h
  go_enter Tryd.func49, Tryd.ntmps49
  go_wp2_with fail
  refine hg.mono ?_
  rintro e w1 ⟨rfl, hw1⟩
  subst w1
  clear hg
  go_wp2
  go_ret
  exact ⟨rfl, rfl⟩
set_option maxRecDepth 100000 in
set_option maxHeartbeats 1000000 in
theorem busy_no (v : Value) (w : World) (h : ENo w v) :
    Calls Tryd.prog 15 #[v] w fun e w' => e = .returned (.bool false) ∧ w' = w := by
  have hg := given_no v w h
  clear h
  go_enter Tryd.func15, Tryd.ntmps15
  go_wp2_with fail
  refine hg.mono ?_
  rintro e w1 ⟨rfl, hw1⟩
  subst w1
  clear hg
  go_wp2
  go_ret
  exact ⟨rfl, rfl⟩
set_option maxRecDepth 100000 in
set_option maxHeartbeats 1000000 in
theorem begin_no (v : Value) (w : World) (h : ENo w v) (x : ByteArray) (n : Int) :
    Calls Tryd.prog 18 #[v, .string x, .int .i64 n] w fun e w' => e = .returned (.int .i64 1) ∧ w' = w := by
  have hg := given_no v w h
  clear h
  go_enter Tryd.func18, Tryd.ntmps18
  go_wp2_with fail
  refine hg.mono ?_
  rintro e w1 ⟨rfl, hw1⟩
  subst w1
  clear hg
  go_wp2
  go_ret
  exact ⟨rfl, rfl⟩
set_option maxRecDepth 100000 in
set_option maxHeartbeats 1000000 in
theorem args_no (v : Value) (w : World) (h : ENo w v) (n : Int) :
    Calls Tryd.prog 21 #[v, .int .i64 n] w fun e w' => e = .returned (.tuple #[.slice none 0 0, .int .i64 1]) ∧ w' = w := by
  have hg := asked_no v w h
  clear h
  go_enter Tryd.func21, Tryd.ntmps21
  go_wp2_with fail
  refine hg.mono ?_
  rintro e w1 ⟨rfl, hw1⟩
  subst w1
  clear hg
  go_wp2
  go_ret2
  exact ⟨rfl, rfl⟩
set_option maxRecDepth 100000 in
set_option maxHeartbeats 1000000 in
theorem give_no (v : Value) (w : World) (h : ENo w v) (n : Int) :
    Calls Tryd.prog 22 #[v, .int .i64 n] w fun e w' => e = .returned (.int .i64 1) ∧ w' = w := by
  have hg := asked_no v w h
  clear h
  go_enter Tryd.func22, Tryd.ntmps22
  go_wp2_with fail
  refine hg.mono ?_
  rintro e w1 ⟨rfl, hw1⟩
  subst w1
  clear hg
  go_wp2
  go_ret
  exact ⟨rfl, rfl⟩
set_option maxRecDepth 100000 in
set_option maxHeartbeats 1000000 in
theorem end_no (v : Value) (w : World) (h : ENo w v) :
    Calls Tryd.prog 17 #[v] w fun e w' => e = .returned (.tuple #[]) ∧ w' = w := by
  have hg := given_no v w h
  clear h
  go_enter Tryd.func17, Tryd.ntmps17
  go_wp2_with fail
  refine hg.mono ?_
  rintro e w1 ⟨rfl, hw1⟩
  subst w1
  clear hg
  go_wp2
  go_end0
  exact ⟨rfl, rfl⟩
set_option maxRecDepth 100000 in
set_option maxHeartbeats 1000000 in
theorem input_no (v : Value) (w : World) (h : ENo w v) :
    Calls Tryd.prog 23 #[v] w fun e w' => e = .returned (.string ⟨#[]⟩) ∧ w' = w := by
  have hg := busy_no v w h
  clear h
  go_enter Tryd.func23, Tryd.ntmps23
  go_wp2_with fail
  refine hg.mono ?_
  rintro e w1 ⟨rfl, hw1⟩
  subst w1
  clear hg
  go_wp2
  go_ret
  exact ⟨rfl, rfl⟩
set_option maxRecDepth 100000 in
set_option maxHeartbeats 1000000 in
theorem fuel_no (v : Value) (w : World) (h : ENo w v) :
    Calls Tryd.prog 20 #[v] w fun e w' => e = .returned (.int .i64 0) ∧ w' = w := by
  have hg := busy_no v w h
  clear h
  go_enter Tryd.func20, Tryd.ntmps20
  go_wp2_with fail
  refine hg.mono ?_
  rintro e w1 ⟨rfl, hw1⟩
  subst w1
  clear hg
  go_wp2
  go_ret
  exact ⟨rfl, rfl⟩
set_option maxRecDepth 100000 in
set_option maxHeartbeats 1000000 in
theorem text_no (v : Value) (w : World) (h : ENo w v) (a n : Int) :
    Calls Tryd.prog 14 #[v, .int .i64 a, .int .i64 n] w fun e w' => e = .returned (.tuple #[.string ⟨#[]⟩, .bool false]) ∧ w' = w := by
  have hg := given_no v w h
  clear h
  go_enter Tryd.func14, Tryd.ntmps14
  go_wp2_with fail
  refine hg.mono ?_
  rintro e w1 ⟨rfl, hw1⟩
  subst w1
  clear hg
  go_wp2
  go_ret2
  exact ⟨rfl, rfl⟩
set_option maxRecDepth 100000 in
set_option maxHeartbeats 1000000 in
theorem lay_no (v : Value) (w : World) (h : ENo w v) (a : Int) (x : ByteArray) :
    Calls Tryd.prog 24 #[v, .int .i64 a, .string x] w fun e w' => e = .returned (.bool false) ∧ w' = w := by
  have hg := given_no v w h
  clear h
  go_enter Tryd.func24, Tryd.ntmps24
  go_wp2_with fail
  refine hg.mono ?_
  rintro e w1 ⟨rfl, hw1⟩
  subst w1
  clear hg
  go_wp2
  go_ret
  exact ⟨rfl, rfl⟩
set_option maxRecDepth 100000 in
set_option maxHeartbeats 1000000 in
theorem pages_no (v : Value) (w : World) (h : ENo w v) :
    Calls Tryd.prog 16 #[v] w fun e w' => e = .returned (.slice none 0 0) ∧ w' = w := by
  have hg := given_no v w h
  clear h
  go_enter Tryd.func16, Tryd.ntmps16
  go_wp2_with fail
  refine hg.mono ?_
  rintro e w1 ⟨rfl, hw1⟩
  subst w1
  clear hg
  go_wp2
  go_ret
  exact ⟨rfl, rfl⟩
set_option maxRecDepth 100000 in
set_option maxHeartbeats 1000000 in
theorem copy_no (v : Value) (w : World) (h : ENo w v) :
    Calls Tryd.prog 13 #[v] w fun e w' => e = .returned (.pointer none) ∧ w' = w := by
  have hg := given_no v w h
  clear h
  go_enter Tryd.func13, Tryd.ntmps13
  go_wp2_with fail
  refine hg.mono ?_
  rintro e w1 ⟨rfl, hw1⟩
  subst w1
  clear hg
  go_wp2
  go_ret
  exact ⟨rfl, rfl⟩
set_option maxRecDepth 100000 in
set_option maxHeartbeats 1000000 in
theorem run_no (v : Value) (w : World) (h : ENo w v) (n : Int) :
    Calls Tryd.prog 19 #[v, .int .i64 n] w fun e w' => e = .returned (.tuple #[.agg #[.int .i64 0, .int .i64 0, .int .i64 0], .int .i64 1]) ∧ Below w.heap.size w w' := by
  obtain ⟨W, hW⟩ : ∃ W, W = w.alloc (.cells #[.int .i64 0, .int .i64 0, .int .i64 0] 52) := ⟨_, rfl⟩
  have hb : Below w.heap.size w W := by rw [hW]; exact below_alloc w _
  have hz : W.heap[w.heap.size]? = some (.cells #[.int .i64 0, .int .i64 0, .int .i64 0] 52 (0, 0)) := by rw [hW]; exact heap_alloc_new w _
  have hg := given_no v W (h.below hb)
  have c0 : W.cell? ⟨w.heap.size, 0, none⟩ = some (.int .i64 0) := by simp [World.cell?, hz]
  have c1 : W.cell? ⟨w.heap.size, 1, none⟩ = some (.int .i64 0) := by simp [World.cell?, hz]
  have c2 : W.cell? ⟨w.heap.size, 2, none⟩ = some (.int .i64 0) := by simp [World.cell?, hz]
  have f0 : W.frozen? ⟨w.heap.size, 0, none⟩ = false := by simp [World.frozen?, hz]
  have f1 : W.frozen? ⟨w.heap.size, 1, none⟩ = false := by simp [World.frozen?, hz]
  have f2 : W.frozen? ⟨w.heap.size, 2, none⟩ = false := by simp [World.frozen?, hz]
  have HB := hid hb
  have HZ := hid hz
  clear h hb hz
  go_enter Tryd.func19, Tryd.ntmps19
  go_wp2_with fail
  rw [← hW]
  clear hW
  refine hg.mono ?_
  rintro e w1 ⟨rfl, hw1⟩
  subst w1
  clear hg
  go_wp2
  refine bodyPost_ret (results_ct (fn := Tryd.f19) (p := 4) (u := 5) rfl _ _ w.heap.size 52 #[.int .i64 0, .int .i64 0, .int .i64 0] (0, 0) _ (.int .i64 1) rfl rfl (heap_fill3 HZ.out) Tryd.underlying52 rfl) rfl ?_
  exact ⟨rfl, ((HB.out.setCell (p := ⟨w.heap.size, 0, none⟩) (Nat.le_refl _) _).setCell (p := ⟨w.heap.size, 1, none⟩) (Nat.le_refl _) _).setCell (p := ⟨w.heap.size, 2, none⟩) (Nat.le_refl _) _⟩
end Go.Proofs.YtkaffbchlngfaaaDoor
