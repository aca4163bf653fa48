/-
  An event process in memory; its small functions.
-/
import Derived.Test.YtkaffbchlngfaaaDoorVRunB
namespace Go.Proofs.YtkaffbchlngfaaaDoor
open Go.RowKit
set_option linter.unusedVariables false
set_option linter.unusedSimpArgs false

def ptrV (o : Option Nat) : Value := .pointer (o.map fun g => ⟨g, 0, none⟩)
/-- At p lies an event process that New or Copy gave. -/
def EpAt (w : World) (p : Nat) (vc : Value) (q : Nat) (r : Option Nat) : Prop := w.heap[p]? = some (.cells #[.pointer (some ⟨p, 0, none⟩), vc, .pointer (some ⟨q, 0, none⟩), ptrV r] 60 (0, 0))
/-- At g lies a request. -/
def ReqAt (w : World) (g : Nat) (x : ByteArray) (n pc : Int) (vs vk : Value) (t : Bool) : Prop := w.heap[g]? = some (.cells #[.string x, .int .i64 n, .int .i64 pc, vs, vk, .bool t] 94 (0, 0))
theorem EpAt.cells {w : World} {p : Nat} {vc : Value} {q : Nat} {r : Option Nat} (h : EpAt w p vc q r) :
    w.cell? ⟨p, 0, none⟩ = some (.pointer (some ⟨p, 0, none⟩)) ∧ w.cell? ⟨p, 1, none⟩ = some vc ∧ w.cell? ⟨p, 2, none⟩ = some (.pointer (some ⟨q, 0, none⟩)) ∧ w.cell? ⟨p, 3, none⟩ = some (ptrV r) ∧ w.frozen? ⟨p, 3, none⟩ = false := by
  unfold EpAt at h
  refine ⟨?_, ?_, ?_, ?_, ?_⟩ <;> simp [World.cell?, World.frozen?, h]
theorem ReqAt.cells {w : World} {g : Nat} {x : ByteArray} {n pc : Int} {vs vk : Value} {t : Bool} (h : ReqAt w g x n pc vs vk t) :
    w.cell? ⟨g, 0, none⟩ = some (.string x) ∧ w.cell? ⟨g, 1, none⟩ = some (.int .i64 n) ∧ w.cell? ⟨g, 2, none⟩ = some (.int .i64 pc) ∧ w.cell? ⟨g, 3, none⟩ = some vs ∧ w.cell? ⟨g, 4, none⟩ = some vk ∧ w.cell? ⟨g, 5, none⟩ = some (.bool t) ∧ w.frozen? ⟨g, 1, none⟩ = false ∧ w.frozen? ⟨g, 2, none⟩ = false ∧ w.frozen? ⟨g, 3, none⟩ = false ∧ w.frozen? ⟨g, 4, none⟩ = false ∧ w.frozen? ⟨g, 5, none⟩ = false := by
  unfold ReqAt at h
  refine ⟨?_, ?_, ?_, ?_, ?_, ?_, ?_, ?_, ?_, ?_, ?_⟩ <;> simp [World.cell?, World.frozen?, h]
theorem EpAt.below {w w' : World} {p : Nat} {vc : Value} {q : Nat} {r : Option Nat} (h : EpAt w p vc q r) (b : Below w.heap.size w w') : EpAt w' p vc q r := (b.block p (Array.getElem?_eq_some_iff.1 h).1).trans h
theorem ReqAt.below {w w' : World} {g : Nat} {x : ByteArray} {n pc : Int} {vs vk : Value} {t : Bool} (h : ReqAt w g x n pc vs vk t) (b : Below w.heap.size w w') : ReqAt w' g x n pc vs vk t := (b.block g (Array.getElem?_eq_some_iff.1 h).1).trans h

theorem Tryd.infoEp : (Tryd.prog.info? 60).map (fun i => i.size) = some 4 := by kernel_rfl
theorem eqlE_self (a : Addr) (w : World) : (binOp .eql 24 (.pointer (some a)) (.pointer (some a))).run Tryd.prog w = .ok (.bool true) w := by
  obtain ⟨j, hj, _⟩ := Option.map_eq_some_iff.1 Tryd.infoEp
  exact run_eql_ptr_same w a Tryd.underlying24 hj
theorem eqlE_nil_some (a : Addr) (w : World) : (binOp .eql 24 (.pointer none) (.pointer (some a))).run Tryd.prog w = .ok (.bool false) w := by
  have h : ∀ d : Nat, (Op.equalIn (d + 1) 24 (.pointer none) (.pointer (some a))).run Tryd.prog w = .ok false w := fun d => by
    simp [Op.equalIn, run_underlying Tryd.underlying24]
  simp only [binOp]
  simp [Op.equal, Op.maxDepth, h 9999]
set_option maxHeartbeats 1000000 in
theorem given_yes (w : World) (p : Nat) (vc : Value) (q : Nat) (r : Option Nat) (h : EpAt w p vc q r) :
    Calls Tryd.prog 39 #[.pointer (some ⟨p, 0, none⟩)] w fun e w' => e = .returned (.bool true) ∧ w' = w := by
  obtain ⟨c0, _, _, _, _⟩ := h.cells
  have he := eqlE_self ⟨p, 0, none⟩ w
  clear h
  go_enter Tryd.func39, Tryd.ntmps39
  go_wp2
  go_ret
  exact ⟨rfl, rfl⟩
/-- An event process that neither New nor Copy gave. -/
def ENo (w : World) (v : Value) : Prop := v = .pointer none ∨ ∃ q, v = .pointer (some ⟨q, 0, none⟩) ∧ w.cell? ⟨q, 0, none⟩ = some (.pointer none)
theorem ENo.below {w w' : World} {v : Value} (h : ENo w v) (hb : Below w.heap.size w w') : ENo w' v := by
  rcases h with h | ⟨q, h1, h2⟩
  · exact .inl h
  · exact .inr ⟨q, h1, (hb.cell (World.block_lt_of_cell? w _ h2)).trans h2⟩
set_option maxHeartbeats 1000000 in
theorem given_no (v : Value) (w : World) (h : ENo w v) :
    Calls Tryd.prog 39 #[v] w fun e w' => e = .returned (.bool false) ∧ w' = w := by
  rcases h with rfl | ⟨q, rfl, h⟩
  · go_enter Tryd.func39, Tryd.ntmps39
    go_wp2
    go_ret
    exact ⟨rfl, rfl⟩
  · have he := eqlE_nil_some ⟨q, 0, none⟩ w
    go_enter Tryd.func39, Tryd.ntmps39
    go_wp2
    go_ret
    exact ⟨rfl, rfl⟩
set_option maxRecDepth 100000 in
set_option maxHeartbeats 1000000 in
theorem isFuel_any (n : Int) (w : World) : Calls Tryd.prog 45 #[.int .i64 n] w fun e w' => e = .returned (.bool (decide (1 ≤ n ∧ n ≤ 1048576))) ∧ w' = w := by
  by_cases h1 : 1 ≤ n
  · by_cases h2 : n ≤ 1048576
    · rw [decide_eq_true ⟨h1, h2⟩]
      go_enter Tryd.func45, Tryd.ntmps45
      go_wp2
      go_ret
      exact ⟨rfl, rfl⟩
    · rw [decide_eq_false (by omega)]
      have h3 : decide (n ≤ 1048576) = false := decide_eq_false h2
      go_enter Tryd.func45, Tryd.ntmps45
      go_wp2
      go_ret
      exact ⟨rfl, rfl⟩
  · rw [decide_eq_false (by omega)]
    have h3 : decide (1 ≤ n) = false := decide_eq_false h1
    go_enter Tryd.func45, Tryd.ntmps45
    go_wp2
    go_ret
    exact ⟨rfl, rfl⟩
set_option maxRecDepth 100000 in
set_option maxHeartbeats 1000000 in
theorem isPart_yes (a n : Nat) (h : a + n ≤ 4096) (w : World) : Calls Tryd.prog 42 #[.int .i64 (a : Int), .int .i64 (n : Int)] w fun e w' => e = .returned (.bool true) ∧ w' = w := by
  have h1 : (0 : Int) ≤ (a : Int) := by omega
  have h2 : (0 : Int) ≤ (n : Int) := by omega
  have h3 : (a : Int) ≤ 4096 := by omega
  have h4 : (n : Int) ≤ 4096 - (a : Int) := by omega
  have h5 : IntKind.i64.wrap (4096 - (a : Int)) = 4096 - (a : Int) := by
    rw [show (4096 : Int) - (a : Int) = ((4096 - a : Nat) : Int) by omega]
    exact wrap_i64_nat _ (by omega)
  go_enter Tryd.func42, Tryd.ntmps42
  go_wp2
  go_ret
  exact ⟨rfl, rfl⟩
set_option maxRecDepth 100000 in
set_option maxHeartbeats 1000000 in
theorem busy_any (w : World) (p : Nat) (vc : Value) (q : Nat) (r : Option Nat) (h : EpAt w p vc q r) :
    Calls Tryd.prog 15 #[.pointer (some ⟨p, 0, none⟩)] w fun e w' => e = .returned (.bool r.isSome) ∧ w' = w := by
  have hg := given_yes w p vc q r h
  obtain ⟨_, _, _, c3, _⟩ := h.cells
  clear h
  cases r with
  | none =>
    unfold ptrV at c3
    simp only [Option.map_none] at c3
    go_enter Tryd.func15, Tryd.ntmps15
    go_wp2_with fail
    refine hg.mono ?_
    rintro e w1 ⟨rfl, hw1⟩
    subst w1
    go_wp2
    go_ret
    exact ⟨rfl, rfl⟩
  | some g =>
    unfold ptrV at c3
    simp only [Option.map_some] at c3
    go_enter Tryd.func15, Tryd.ntmps15
    go_wp2_with fail
    refine hg.mono ?_
    rintro e w1 ⟨rfl, hw1⟩
    subst w1
    go_wp2
    go_ret
    exact ⟨rfl, rfl⟩
set_option maxRecDepth 100000 in
set_option maxHeartbeats 1000000 in
theorem fuel_any (w : World) (p : Nat) (vc : Value) (q g : Nat) (h : EpAt w p vc q (some g)) (x : ByteArray) (n pc : Int) (vs vk : Value) (t : Bool) (hr : ReqAt w g x n pc vs vk t) :
    Calls Tryd.prog 20 #[.pointer (some ⟨p, 0, none⟩)] w fun e w' => e = .returned (.int .i64 n) ∧ w' = w := by
  have hg := busy_any w p vc q (some g) h
  obtain ⟨_, _, _, c3, _⟩ := h.cells
  obtain ⟨_, d1, _⟩ := hr.cells
  unfold ptrV at c3
  simp only [Option.map_some] at c3
  clear h hr
  go_enter Tryd.func20, Tryd.ntmps20
  go_wp2_with fail
  refine hg.mono ?_
  rintro e w1 ⟨rfl, hw1⟩
  subst w1
  go_wp2
  go_ret
  exact ⟨rfl, rfl⟩
set_option maxRecDepth 100000 in
set_option maxHeartbeats 1000000 in
theorem asked_yes (w : World) (p : Nat) (vc : Value) (q g : Nat) (h : EpAt w p vc q (some g)) (x : ByteArray) (n pc : Int) (vs vk : Value) (hr : ReqAt w g x n pc vs vk true) :
    Calls Tryd.prog 49 #[.pointer (some ⟨p, 0, none⟩)] w fun e w' => e = .returned (.int .i64 0) ∧ w' = w := by
  have hg := given_yes w p vc q (some g) h
  obtain ⟨_, _, _, c3, _⟩ := h.cells
  obtain ⟨_, _, _, _, _, d5, _⟩ := hr.cells
  unfold ptrV at c3
  simp only [Option.map_some] at c3
  clear h hr
  go_enter Tryd.func49, Tryd.ntmps49
  go_wp2_with fail
  refine hg.mono ?_
  rintro e w1 ⟨rfl, hw1⟩
  subst w1
  go_wp2
  go_ret
  exact ⟨rfl, rfl⟩
end Go.Proofs.YtkaffbchlngfaaaDoor
