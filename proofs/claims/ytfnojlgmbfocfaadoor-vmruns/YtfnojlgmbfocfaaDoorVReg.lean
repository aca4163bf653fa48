/-
  The document's run beside three new variables, in whatever order: a lemma for each set of what has come up.
-/
import Derived.Test.YtfnojlgmbfocfaaDoorVAft
import Derived.Deep.RegionHeld3
namespace Go.Proofs.YtfnojlgmbfocfaaDoor
open Go.RowKit
set_option linter.unusedVariables false
set_option linter.unusedSimpArgs false
set_option maxRecDepth 100000

/-- What is shown with more can be shown with less. -/
theorem wpAnyH_weak {P : Program} {md : Region.Mode} {ops : Array Oper} {Q : Exit → Act → World → Prop} {S S2 : World → Prop} (h : ∀ w, S2 w → S w) : ∀ (fuel : Nat) (listed : Array Bool) (a : Act) (w : World), wpAnyH P md ops Q S2 fuel listed a w → wpAnyH P md ops Q S fuel listed a w
  | 0, _, _, _, hh => hh
  | fuel + 1, _, _, _, hh => ⟨hh.1, fun i hi => wpOp_mono (fun a' w' h' => ⟨h w' h'.1, wpAnyH_weak h fuel _ a' w' h'.2⟩) (hh.2 i hi)⟩

abbrev opsR : Array Oper := #[{ dst := some 41, op := Op.fieldAddr 27 (Operand.tmp 2) 0, type := 0, pos := "law.go:71", after := #[], guard := none }, { dst := some 42, op := Op.load 22 (Operand.tmp 41), type := 22, pos := "law.go:71", after := #[{ on := 0, ground := Ground.data }], guard := none }, { dst := some 43, op := Op.fieldAddr 27 (Operand.tmp 2) 1, type := 0, pos := "law.go:71", after := #[], guard := none }, { dst := some 44, op := Op.load 25 (Operand.tmp 43), type := 25, pos := "law.go:71", after := #[{ on := 2, ground := Ground.data }], guard := none }, { dst := some 45, op := Op.fieldAddr 27 (Operand.tmp 2) 2, type := 0, pos := "law.go:71", after := #[], guard := none }, { dst := some 46, op := Op.load 9 (Operand.tmp 45), type := 9, pos := "law.go:71", after := #[{ on := 4, ground := Ground.data }], guard := none }, { dst := some 47, op := Op.call { callee := Callee.value (Operand.func 11), args := #[Operand.tmp 46], argTypes := #[9] }, type := 29, pos := "law.go:71", after := #[{ on := 5, ground := Ground.data }], guard := none }, { dst := some 48, op := Op.nilCheck (Operand.tmp 47), type := 0, pos := "law.go:71", after := #[{ on := 6, ground := Ground.data }], guard := none }, { dst := some 49, op := Op.fieldAddr 43 (Operand.tmp 48) 0, type := 0, pos := "law.go:71", after := #[{ on := 7, ground := Ground.data }], guard := none }, { dst := some 50, op := Op.load 37 (Operand.tmp 49), type := 37, pos := "law.go:71", after := #[{ on := 8, ground := Ground.data }], guard := none }, { dst := some 51, op := Op.build 39 #[(0, Operand.tmp 50)], type := 39, pos := "law.go:71", after := #[{ on := 9, ground := Ground.data }], guard := none }, { dst := some 52, op := Op.move (Operand.tmp 1), type := 3, pos := "law.go:71", after := #[], guard := none }, { dst := some 53, op := Op.call { callee := Callee.value (Operand.func 14), args := #[Operand.tmp 42, Operand.tmp 44, Operand.tmp 51, Operand.tmp 52], argTypes := #[22, 25, 39, 3] }, type := 40, pos := "law.go:71", after := #[{ on := 1, ground := Ground.data }, { on := 3, ground := Ground.data }, { on := 10, ground := Ground.data }, { on := 11, ground := Ground.data }, { on := 6, ground := Ground.chain }], guard := none }, { dst := some 40, op := Op.move (Operand.tmp 53), type := 40, pos := "law.go:71", after := #[{ on := 12, ground := Ground.data }], guard := none }, { dst := some 54, op := Op.extract (Operand.tmp 40) 0, type := 25, pos := "law.go:71", after := #[{ on := 13, ground := Ground.data }], guard := none }, { dst := some 55, op := Op.extract (Operand.tmp 40) 1, type := 39, pos := "law.go:71", after := #[{ on := 13, ground := Ground.data }, { on := 21, ground := Ground.gcOnly Departure.lateStores }], guard := none }, { dst := some 56, op := Op.extract (Operand.tmp 40) 2, type := 33, pos := "law.go:71", after := #[{ on := 13, ground := Ground.data }, { on := 22, ground := Ground.gcOnly Departure.lateStores }], guard := none }, { dst := some 57, op := Op.extract (Operand.tmp 40) 3, type := 34, pos := "law.go:71", after := #[{ on := 13, ground := Ground.data }, { on := 23, ground := Ground.gcOnly Departure.lateStores }], guard := none }, { dst := some 10, op := Op.alloc 25, type := 0, pos := "law.go:71", after := #[], guard := none }, { dst := some 11, op := Op.alloc 39, type := 0, pos := "law.go:71", after := #[], guard := none }, { dst := some 12, op := Op.alloc 33, type := 0, pos := "law.go:71", after := #[], guard := none }, { dst := none, op := Op.store 25 (Operand.tmp 10) (Operand.tmp 54), type := 0, pos := "law.go:71", after := #[{ on := 18, ground := Ground.data }, { on := 14, ground := Ground.data }, { on := 12, ground := Ground.chain }, { on := 0, ground := Ground.phase }, { on := 1, ground := Ground.phase }, { on := 2, ground := Ground.phase }, { on := 3, ground := Ground.phase }, { on := 4, ground := Ground.phase }, { on := 5, ground := Ground.phase }, { on := 6, ground := Ground.phase }, { on := 7, ground := Ground.phase }, { on := 8, ground := Ground.phase }, { on := 9, ground := Ground.phase }, { on := 10, ground := Ground.phase }, { on := 11, ground := Ground.phase }, { on := 12, ground := Ground.phase }, { on := 13, ground := Ground.phase }, { on := 14, ground := Ground.phase }, { on := 15, ground := Ground.textOnly Departure.lateStores }, { on := 16, ground := Ground.textOnly Departure.lateStores }, { on := 17, ground := Ground.textOnly Departure.lateStores }, { on := 18, ground := Ground.phase }, { on := 19, ground := Ground.phase }, { on := 20, ground := Ground.phase }], guard := none }, { dst := none, op := Op.store 39 (Operand.tmp 11) (Operand.tmp 55), type := 0, pos := "law.go:71", after := #[{ on := 19, ground := Ground.data }, { on := 15, ground := Ground.data }, { on := 21, ground := Ground.chain }, { on := 0, ground := Ground.phase }, { on := 1, ground := Ground.phase }, { on := 2, ground := Ground.phase }, { on := 3, ground := Ground.phase }, { on := 4, ground := Ground.phase }, { on := 5, ground := Ground.phase }, { on := 6, ground := Ground.phase }, { on := 7, ground := Ground.phase }, { on := 8, ground := Ground.phase }, { on := 9, ground := Ground.phase }, { on := 10, ground := Ground.phase }, { on := 11, ground := Ground.phase }, { on := 12, ground := Ground.phase }, { on := 13, ground := Ground.phase }, { on := 14, ground := Ground.phase }, { on := 15, ground := Ground.phase }, { on := 16, ground := Ground.textOnly Departure.lateStores }, { on := 17, ground := Ground.textOnly Departure.lateStores }, { on := 18, ground := Ground.phase }, { on := 19, ground := Ground.phase }, { on := 20, ground := Ground.phase }, { on := 21, ground := Ground.phase }], guard := none }, { dst := none, op := Op.store 33 (Operand.tmp 12) (Operand.tmp 56), type := 0, pos := "law.go:71", after := #[{ on := 20, ground := Ground.data }, { on := 16, ground := Ground.data }, { on := 22, ground := Ground.chain }, { on := 0, ground := Ground.phase }, { on := 1, ground := Ground.phase }, { on := 2, ground := Ground.phase }, { on := 3, ground := Ground.phase }, { on := 4, ground := Ground.phase }, { on := 5, ground := Ground.phase }, { on := 6, ground := Ground.phase }, { on := 7, ground := Ground.phase }, { on := 8, ground := Ground.phase }, { on := 9, ground := Ground.phase }, { on := 10, ground := Ground.phase }, { on := 11, ground := Ground.phase }, { on := 12, ground := Ground.phase }, { on := 13, ground := Ground.phase }, { on := 14, ground := Ground.phase }, { on := 15, ground := Ground.phase }, { on := 16, ground := Ground.phase }, { on := 17, ground := Ground.textOnly Departure.lateStores }, { on := 18, ground := Ground.phase }, { on := 19, ground := Ground.phase }, { on := 20, ground := Ground.phase }, { on := 21, ground := Ground.phase }, { on := 22, ground := Ground.phase }], guard := none }, { dst := some 13, op := Op.assign (Operand.tmp 57), type := 34, pos := "law.go:71", after := #[{ on := 17, ground := Ground.data }, { on := 23, ground := Ground.chain }, { on := 0, ground := Ground.phase }, { on := 1, ground := Ground.phase }, { on := 2, ground := Ground.phase }, { on := 3, ground := Ground.phase }, { on := 4, ground := Ground.phase }, { on := 5, ground := Ground.phase }, { on := 6, ground := Ground.phase }, { on := 7, ground := Ground.phase }, { on := 8, ground := Ground.phase }, { on := 9, ground := Ground.phase }, { on := 10, ground := Ground.phase }, { on := 11, ground := Ground.phase }, { on := 12, ground := Ground.phase }, { on := 13, ground := Ground.phase }, { on := 14, ground := Ground.phase }, { on := 15, ground := Ground.phase }, { on := 16, ground := Ground.phase }, { on := 17, ground := Ground.phase }, { on := 18, ground := Ground.phase }, { on := 19, ground := Ground.phase }, { on := 20, ground := Ground.phase }, { on := 21, ground := Ground.phase }, { on := 22, ground := Ground.phase }, { on := 23, ground := Ground.phase }], guard := none }]

/-- What the region leans on. -/
structure CtxR (W : World) (z : Nat) (c : Value) (pc : Int) (vs vk : Value) (m : ByteArray) (fuel E kd tr : Int) (un : Nat) (pc2 : Int) (st2 ca2 : List Int) (b2 : List Nat) : Prop where
  work : WorkAt W z c pc vs vk m
  fil : ∀ X, Calls Tryd.prog 11 #[.string m] X (FilR X m)
  doc : ∀ vb X, Below W.heap.size W X → SeesN .u8 X vb (bytesOf m) → Calls Tryd.prog 14 #[c, .agg #[.int .i64 pc, vs, vk], .agg #[vb], .int .i64 fuel] X (RunQ X vb E ((kd, tr, un), ⟨pc2, st2, ca2⟩, b2))
  sl : ∀ Y, Below W.heap.size W Y → Y.cell? ⟨z, 0, none⟩ = some c
theorem cell_far {w : World} {p o k j : Nat} {x : Value} (h : j ≠ p) : (w.setCell ⟨p, o, none⟩ x).cell? ⟨j, k, none⟩ = w.cell? ⟨j, k, none⟩ := by simp only [World.cell?, far_set h]
def S0 (W : World) : World → Prop := fun Y => Below W.heap.size W Y
def S1 (W : World) (q : Nat) (vb : Value) : World → Prop := fun Y => Below W.heap.size W Y ∧ Y.cell? ⟨q, 0, none⟩ = some vb
theorem sees_lt {X : World} {v : Value} {xs : List Int} (h : Sees X v xs) (hne : xs ≠ []) : ∀ j, v.ownBlock = some j → j < X.heap.size := by
  obtain ⟨b, off, ao, cap, hv, hc, hn, ha, hcell⟩ := h
  intro j hj
  rw [hv, ha hne] at hj
  simp only [Value.ownBlock, Option.some.injEq] at hj
  subst hj
  exact World.block_lt_of_cell? X _ (hcell 0 (List.length_pos_iff.2 hne))
theorem seesN_lt {q : IntKind} {X : World} {v : Value} {xs : List Nat} (h : SeesN q X v xs) (hne : xs ≠ []) : ∀ j, v.ownBlock = some j → j < X.heap.size := by
  obtain ⟨b, off, ao, cap, hv, hc, hn, ha, hcell⟩ := h
  intro j hj
  rw [hv, ha hne] at hj
  simp only [Value.ownBlock, Option.some.injEq] at hj
  subst hj
  exact World.block_lt_of_cell? X _ (hcell 0 (List.length_pos_iff.2 hne))
def FinR (Q : Exit → Act → World → Prop) (t : Nat → Value) (W : World) (z : Nat) (c : Value) (pc : Int) (vs vk : Value) (m : ByteArray) (fuel E kd tr : Int) (un : Nat) (pc2 : Int) (st2 ca2 : List Int) (b2 : List Nat) : Prop :=
  ∀ (a n y q vn vc2 : Nat) (va : Option Addr) (us uk ub : Value) (X : World), AftD W X a n y us uk ub ((kd, tr, un), ⟨pc2, st2, ca2⟩, b2) → Q .normal { tmps := #[t 0, .int .i64 fuel, .pointer (some ⟨z, 0, none⟩), t 3, t 4, t 5, t 6, t 7, t 8, t 9, .pointer (some ⟨a, 0, none⟩), .pointer (some ⟨n, 0, none⟩), .pointer (some ⟨y, 0, none⟩), .int .i64 E, t 14, t 15, t 16, t 17, t 18, t 19, t 20, t 21, t 22, t 23, t 24, t 25, t 26, t 27, t 28, t 29, t 30, t 31, t 32, t 33, t 34, t 35, t 36, t 37, t 38, t 39, .tuple #[.agg #[.int .i64 pc2, us, uk], .agg #[ub], .agg #[.int .i64 kd, .int .i64 tr, .int .i64 (un : Nat)], .int .i64 E], .pointer (some ⟨z, 0, none⟩), c, .pointer (some ⟨z, 1, none⟩), .agg #[.int .i64 pc, vs, vk], .pointer (some ⟨z, 4, none⟩), .string m, .pointer (some ⟨q, 0, none⟩), .pointer (some ⟨q, 0, none⟩), .pointer (some ⟨q, 0, none⟩), .slice va vn vc2, .agg #[.slice va vn vc2], .int .i64 fuel, .tuple #[.agg #[.int .i64 pc2, us, uk], .agg #[ub], .agg #[.int .i64 kd, .int .i64 tr, .int .i64 (un : Nat)], .int .i64 E], .agg #[.int .i64 pc2, us, uk], .agg #[ub], .agg #[.int .i64 kd, .int .i64 tr, .int .i64 (un : Nat)], .int .i64 E, t 58, t 59, t 60, t 61, t 62, t 63, t 64, t 65, t 66, t 67, t 68, t 69, t 70, t 71, t 72, t 73, t 74, t 75, t 76, t 77, t 78, t 79, t 80, t 81, t 82, t 83, t 84, t 85, t 86, t 87, t 88, t 89, t 90, t 91, t 92, t 93, t 94, t 95, t 96, t 97, t 98, t 99, t 100, t 101, t 102, t 103, t 104, t 105, t 106, t 107, t 108], defers := [] } X

set_option maxHeartbeats 8000000 in
theorem nd2any {Q : Exit → Act → World → Prop} (t : Nat → Value) (W : World) (z : Nat) (c : Value) (pc : Int) (vs vk : Value) (m : ByteArray) (fuel E kd tr : Int) (un : Nat) (pc2 : Int) (st2 ca2 : List Int) (b2 : List Nat) (HC : CtxR W z c pc vs vk m fuel E kd tr un pc2 st2 ca2 b2) (HQ : FinR Q t W z c pc vs vk m fuel E kd tr un pc2 st2 ca2 b2) (X : World) (hX : Below W.heap.size W X) (a : Nat) (oa : X.heap[a]? = some (.cells #[.int .i64 0, .slice none 0 0, .slice none 0 0] 25 (0, 0))) (ga : W.heap.size ≤ a) (n : Nat) (on : X.heap[n]? = some (.cells #[.slice none 0 0] 39 (0, 0))) (gn : W.heap.size ≤ n) (y : Nat) (oy : X.heap[y]? = some (.cells #[.int .i64 0, .int .i64 0, .int .i64 0] 33 (0, 0))) (gy : W.heap.size ≤ y) (dan : a ≠ n) (day : a ≠ y) (dny : n ≠ y) (q vn vc2 : Nat) (va : Option Addr) (hq : X.cell? ⟨q, 0, none⟩ = some (.slice va vn vc2)) (hn : SeesN .u8 X (.slice va vn vc2) (bytesOf m)) (fb : ∀ j, (Value.slice va vn vc2).ownBlock = some j → W.heap.size ≤ j ∧ j < X.heap.size ∧ j ≠ a ∧ j ≠ n ∧ j ≠ y) (ea : q ≠ a) (en : q ≠ n) (ey : q ≠ y) (us uk ub : Value) (hs : Sees X us st2) (hk : Sees X uk ca2) (hu : SeesN .u8 X ub b2) (fu : st2 ≠ [] → ∀ j, us.ownBlock = some j → j < X.heap.size ∧ j ≠ a ∧ j ≠ n ∧ j ≠ y) (fk : ca2 ≠ [] → ∀ j, uk.ownBlock = some j → j < X.heap.size ∧ j ≠ a ∧ j ≠ n ∧ j ≠ y) (fy : b2 ≠ [] → ∀ j, ub.ownBlock = some j → j < X.heap.size ∧ j ≠ a ∧ j ≠ n ∧ j ≠ y) (v13 : Value) (listed : Array Bool) (hl : listed = #[true, true, true, true, true, true, true, true, true, true, true, true, true, true, true, true, true, true, true, true, true, false, false, false, false]) :
    wpAnyH Tryd.prog .any opsR (NoPanic Q) (S1 W q (.slice va vn vc2)) 4 listed { tmps := #[t 0, .int .i64 fuel, .pointer (some ⟨z, 0, none⟩), t 3, t 4, t 5, t 6, t 7, t 8, t 9, .pointer (some ⟨a, 0, none⟩), .pointer (some ⟨n, 0, none⟩), .pointer (some ⟨y, 0, none⟩), v13, t 14, t 15, t 16, t 17, t 18, t 19, t 20, t 21, t 22, t 23, t 24, t 25, t 26, t 27, t 28, t 29, t 30, t 31, t 32, t 33, t 34, t 35, t 36, t 37, t 38, t 39, .tuple #[.agg #[.int .i64 pc2, us, uk], .agg #[ub], .agg #[.int .i64 kd, .int .i64 tr, .int .i64 (un : Nat)], .int .i64 E], .pointer (some ⟨z, 0, none⟩), c, .pointer (some ⟨z, 1, none⟩), .agg #[.int .i64 pc, vs, vk], .pointer (some ⟨z, 4, none⟩), .string m, .pointer (some ⟨q, 0, none⟩), .pointer (some ⟨q, 0, none⟩), .pointer (some ⟨q, 0, none⟩), .slice va vn vc2, .agg #[.slice va vn vc2], .int .i64 fuel, .tuple #[.agg #[.int .i64 pc2, us, uk], .agg #[ub], .agg #[.int .i64 kd, .int .i64 tr, .int .i64 (un : Nat)], .int .i64 E], .agg #[.int .i64 pc2, us, uk], .agg #[ub], .agg #[.int .i64 kd, .int .i64 tr, .int .i64 (un : Nat)], .int .i64 E, t 58, t 59, t 60, t 61, t 62, t 63, t 64, t 65, t 66, t 67, t 68, t 69, t 70, t 71, t 72, t 73, t 74, t 75, t 76, t 77, t 78, t 79, t 80, t 81, t 82, t 83, t 84, t 85, t 86, t 87, t 88, t 89, t 90, t 91, t 92, t 93, t 94, t 95, t 96, t 97, t 98, t 99, t 100, t 101, t 102, t 103, t 104, t 105, t 106, t 107, t 108], defers := [] } X := by
  subst hl
  dsimp only
  have hsz := hX.size
  have hSX : (S1 W q (.slice va vn vc2)) X := ⟨hX, hq⟩
  have hql := World.block_lt_of_cell? X _ hq
  simp only at hql
  have la := (Array.getElem?_eq_some_iff.1 oa).1
  have ln := (Array.getElem?_eq_some_iff.1 on).1
  have ly := (Array.getElem?_eq_some_iff.1 oy).1
  have xa0 : X.cell? ⟨a, 0, none⟩ = some (.int .i64 0) := by simp [World.cell?, oa]
  have fa0 : X.frozen? ⟨a, 0, none⟩ = false := by simp [World.frozen?, oa]
  have xa1 : X.cell? ⟨a, 1, none⟩ = some (.slice none 0 0) := by simp [World.cell?, oa]
  have fa1 : X.frozen? ⟨a, 1, none⟩ = false := by simp [World.frozen?, oa]
  have xa2 : X.cell? ⟨a, 2, none⟩ = some (.slice none 0 0) := by simp [World.cell?, oa]
  have fa2 : X.frozen? ⟨a, 2, none⟩ = false := by simp [World.frozen?, oa]
  have xn0 : X.cell? ⟨n, 0, none⟩ = some (.slice none 0 0) := by simp [World.cell?, on]
  have fn0 : X.frozen? ⟨n, 0, none⟩ = false := by simp [World.frozen?, on]
  have xy0 : X.cell? ⟨y, 0, none⟩ = some (.int .i64 0) := by simp [World.cell?, oy]
  have fy0 : X.frozen? ⟨y, 0, none⟩ = false := by simp [World.frozen?, oy]
  have xy1 : X.cell? ⟨y, 1, none⟩ = some (.int .i64 0) := by simp [World.cell?, oy]
  have fy1 : X.frozen? ⟨y, 1, none⟩ = false := by simp [World.frozen?, oy]
  have xy2 : X.cell? ⟨y, 2, none⟩ = some (.int .i64 0) := by simp [World.cell?, oy]
  have fy2 : X.frozen? ⟨y, 2, none⟩ = false := by simp [World.frozen?, oy]
  obtain ⟨ua, ud, hue⟩ : ∃ ao cap, us = .slice ao st2.length cap := by obtain ⟨_, _, ao, cap, e, _⟩ := hs; exact ⟨ao, cap, e⟩
  obtain ⟨ka, kd2, hke⟩ : ∃ ao cap, uk = .slice ao ca2.length cap := by obtain ⟨_, _, ao, cap, e, _⟩ := hk; exact ⟨ao, cap, e⟩
  obtain ⟨ba, bd, hbe⟩ : ∃ ao cap, ub = .slice ao b2.length cap := by obtain ⟨_, _, ao, cap, e, _⟩ := hu; exact ⟨ao, cap, e⟩
  obtain ⟨L1, hL1⟩ : ∃ L, L = st2.length := ⟨_, rfl⟩
  obtain ⟨L2, hL2⟩ : ∃ L, L = ca2.length := ⟨_, rfl⟩
  obtain ⟨L3, hL3⟩ : ∃ L, L = b2.length := ⟨_, rfl⟩
  rw [← hL1] at hue
  rw [← hL2] at hke
  rw [← hL3] at hbe
  subst hue hke hbe
  have HL1 := hid hL1
  have HL2 := hid hL2
  have HL3 := hid hL3
  clear hL1 hL2 hL3
  have HH := hid (aftD_of (R := ((kd, tr, un), ⟨pc2, st2, ca2⟩, b2)) hX oa on oy ga gn gy dan day dny hs hk hu)
  have HFU := hid fu
  have HFK := hid fk
  have HFY := hid fy
  have HQQ := hid HQ
  have HCC := hid HC
  have i1 : ¬ n = a := fun e => dan e.symm
  have i2 : ¬ y = a := fun e => day e.symm
  have i3 : ¬ y = n := fun e => dny e.symm
  have i4 : ¬ q = a := ea
  have i5 : ¬ q = n := en
  have i6 : ¬ q = y := ey
  have b1 := ((hX.setCell (p := ⟨a, 0, none⟩) ga (.int .i64 pc2)).setCell (p := ⟨a, 1, none⟩) ga (.slice ua L1 ud)).setCell (p := ⟨a, 2, none⟩) ga (.slice ka L2 kd2)
  have b2x := b1.setCell (p := ⟨n, 0, none⟩) gn (.slice ba L3 bd)
  have b3 := ((b2x.setCell (p := ⟨y, 0, none⟩) gy (.int .i64 kd)).setCell (p := ⟨y, 1, none⟩) gy (.int .i64 tr)).setCell (p := ⟨y, 2, none⟩) gy (.int .i64 (un : Nat))
  have HB1 := hid b1
  have HB2 := hid b2x
  have HB3 := hid b3
  have HQ0 := hid hq
  clear hs hk hu fu fk fy fb hn HQ HC b1 b2x b3 hSX hX oa on oy
  refine wpAnyH_ready (rs := [21]) (by kernel_rfl) (by simp) ?_
  refine AllReadyH.cons (o := { dst := none, op := Op.store 25 (Operand.tmp 10) (Operand.tmp 54), type := 0, pos := "law.go:71", after := #[{ on := 18, ground := Ground.data }, { on := 14, ground := Ground.data }, { on := 12, ground := Ground.chain }, { on := 0, ground := Ground.phase }, { on := 1, ground := Ground.phase }, { on := 2, ground := Ground.phase }, { on := 3, ground := Ground.phase }, { on := 4, ground := Ground.phase }, { on := 5, ground := Ground.phase }, { on := 6, ground := Ground.phase }, { on := 7, ground := Ground.phase }, { on := 8, ground := Ground.phase }, { on := 9, ground := Ground.phase }, { on := 10, ground := Ground.phase }, { on := 11, ground := Ground.phase }, { on := 12, ground := Ground.phase }, { on := 13, ground := Ground.phase }, { on := 14, ground := Ground.phase }, { on := 15, ground := Ground.textOnly Departure.lateStores }, { on := 16, ground := Ground.textOnly Departure.lateStores }, { on := 17, ground := Ground.textOnly Departure.lateStores }, { on := 18, ground := Ground.phase }, { on := 19, ground := Ground.phase }, { on := 20, ground := Ground.phase }], guard := none }) rfl (fun K hK => ?_) AllReadyH.nil
  go_simp
  try go_wp2_with fail
  refine hK.out _ _ ⟨HB1.out, by rw [cell_far ea, cell_far ea, cell_far ea]; exact HQ0.out⟩ (fun _ => ?_)
  clear hK K
  try simp only [Act.put, List.setIfInBounds_toArray, List.set_cons_zero, List.set_cons_succ]
  refine wpAnyH_ready (rs := [22]) (by kernel_rfl) (by simp) ?_
  refine AllReadyH.cons (o := { dst := none, op := Op.store 39 (Operand.tmp 11) (Operand.tmp 55), type := 0, pos := "law.go:71", after := #[{ on := 19, ground := Ground.data }, { on := 15, ground := Ground.data }, { on := 21, ground := Ground.chain }, { on := 0, ground := Ground.phase }, { on := 1, ground := Ground.phase }, { on := 2, ground := Ground.phase }, { on := 3, ground := Ground.phase }, { on := 4, ground := Ground.phase }, { on := 5, ground := Ground.phase }, { on := 6, ground := Ground.phase }, { on := 7, ground := Ground.phase }, { on := 8, ground := Ground.phase }, { on := 9, ground := Ground.phase }, { on := 10, ground := Ground.phase }, { on := 11, ground := Ground.phase }, { on := 12, ground := Ground.phase }, { on := 13, ground := Ground.phase }, { on := 14, ground := Ground.phase }, { on := 15, ground := Ground.phase }, { on := 16, ground := Ground.textOnly Departure.lateStores }, { on := 17, ground := Ground.textOnly Departure.lateStores }, { on := 18, ground := Ground.phase }, { on := 19, ground := Ground.phase }, { on := 20, ground := Ground.phase }, { on := 21, ground := Ground.phase }], guard := none }) rfl (fun K hK => ?_) AllReadyH.nil
  go_simp
  try go_wp2_with fail
  refine hK.out _ _ ⟨HB2.out, by rw [cell_far en, cell_far ea, cell_far ea, cell_far ea]; exact HQ0.out⟩ (fun _ => ?_)
  clear hK K
  try simp only [Act.put, List.setIfInBounds_toArray, List.set_cons_zero, List.set_cons_succ]
  refine wpAnyH_ready (rs := [23]) (by kernel_rfl) (by simp) ?_
  refine AllReadyH.cons (o := { dst := none, op := Op.store 33 (Operand.tmp 12) (Operand.tmp 56), type := 0, pos := "law.go:71", after := #[{ on := 20, ground := Ground.data }, { on := 16, ground := Ground.data }, { on := 22, ground := Ground.chain }, { on := 0, ground := Ground.phase }, { on := 1, ground := Ground.phase }, { on := 2, ground := Ground.phase }, { on := 3, ground := Ground.phase }, { on := 4, ground := Ground.phase }, { on := 5, ground := Ground.phase }, { on := 6, ground := Ground.phase }, { on := 7, ground := Ground.phase }, { on := 8, ground := Ground.phase }, { on := 9, ground := Ground.phase }, { on := 10, ground := Ground.phase }, { on := 11, ground := Ground.phase }, { on := 12, ground := Ground.phase }, { on := 13, ground := Ground.phase }, { on := 14, ground := Ground.phase }, { on := 15, ground := Ground.phase }, { on := 16, ground := Ground.phase }, { on := 17, ground := Ground.textOnly Departure.lateStores }, { on := 18, ground := Ground.phase }, { on := 19, ground := Ground.phase }, { on := 20, ground := Ground.phase }, { on := 21, ground := Ground.phase }, { on := 22, ground := Ground.phase }], guard := none }) rfl (fun K hK => ?_) AllReadyH.nil
  go_simp
  try go_wp2_with fail
  refine hK.out _ _ ⟨HB3.out, by rw [cell_far ey, cell_far ey, cell_far ey, cell_far en, cell_far ea, cell_far ea, cell_far ea]; exact HQ0.out⟩ (fun _ => ?_)
  clear hK K
  try simp only [Act.put, List.setIfInBounds_toArray, List.set_cons_zero, List.set_cons_succ]
  refine wpAnyH_ready (rs := [24]) (by kernel_rfl) (by simp) ?_
  refine AllReadyH.cons (o := { dst := some 13, op := Op.assign (Operand.tmp 57), type := 34, pos := "law.go:71", after := #[{ on := 17, ground := Ground.data }, { on := 23, ground := Ground.chain }, { on := 0, ground := Ground.phase }, { on := 1, ground := Ground.phase }, { on := 2, ground := Ground.phase }, { on := 3, ground := Ground.phase }, { on := 4, ground := Ground.phase }, { on := 5, ground := Ground.phase }, { on := 6, ground := Ground.phase }, { on := 7, ground := Ground.phase }, { on := 8, ground := Ground.phase }, { on := 9, ground := Ground.phase }, { on := 10, ground := Ground.phase }, { on := 11, ground := Ground.phase }, { on := 12, ground := Ground.phase }, { on := 13, ground := Ground.phase }, { on := 14, ground := Ground.phase }, { on := 15, ground := Ground.phase }, { on := 16, ground := Ground.phase }, { on := 17, ground := Ground.phase }, { on := 18, ground := Ground.phase }, { on := 19, ground := Ground.phase }, { on := 20, ground := Ground.phase }, { on := 21, ground := Ground.phase }, { on := 22, ground := Ground.phase }, { on := 23, ground := Ground.phase }], guard := none }) rfl (fun K hK => ?_) AllReadyH.nil
  go_simp
  try go_wp2_with fail
  refine hK.out _ _ ⟨HB3.out, by rw [cell_far ey, cell_far ey, cell_far ey, cell_far en, cell_far ea, cell_far ea, cell_far ea]; exact HQ0.out⟩ (fun _ => ?_)
  clear hK K
  try simp only [Act.put, List.setIfInBounds_toArray, List.set_cons_zero, List.set_cons_succ]
  refine wpAnyH_done (by kernel_rfl) ?_ _
  refine NoPanic.normal ?_
  refine HQQ.out a n y q vn vc2 va (.slice ua L1 ud) (.slice ka L2 kd2) (.slice ba L3 bd) _ ?_
  exact HH.out HFU.out HFK.out HFY.out

set_option maxHeartbeats 8000000 in
theorem nd2an {Q : Exit → Act → World → Prop} (t : Nat → Value) (W : World) (z : Nat) (c : Value) (pc : Int) (vs vk : Value) (m : ByteArray) (fuel E kd tr : Int) (un : Nat) (pc2 : Int) (st2 ca2 : List Int) (b2 : List Nat) (HC : CtxR W z c pc vs vk m fuel E kd tr un pc2 st2 ca2 b2) (HQ : FinR Q t W z c pc vs vk m fuel E kd tr un pc2 st2 ca2 b2) (X : World) (hX : Below W.heap.size W X) (a : Nat) (oa : X.heap[a]? = some (.cells #[.int .i64 0, .slice none 0 0, .slice none 0 0] 25 (0, 0))) (ga : W.heap.size ≤ a) (n : Nat) (on : X.heap[n]? = some (.cells #[.slice none 0 0] 39 (0, 0))) (gn : W.heap.size ≤ n) (dan : a ≠ n) (q vn vc2 : Nat) (va : Option Addr) (hq : X.cell? ⟨q, 0, none⟩ = some (.slice va vn vc2)) (hn : SeesN .u8 X (.slice va vn vc2) (bytesOf m)) (fb : ∀ j, (Value.slice va vn vc2).ownBlock = some j → W.heap.size ≤ j ∧ j < X.heap.size ∧ j ≠ a ∧ j ≠ n) (ea : q ≠ a) (en : q ≠ n) (us uk ub : Value) (hs : Sees X us st2) (hk : Sees X uk ca2) (hu : SeesN .u8 X ub b2) (fu : st2 ≠ [] → ∀ j, us.ownBlock = some j → j < X.heap.size ∧ j ≠ a ∧ j ≠ n) (fk : ca2 ≠ [] → ∀ j, uk.ownBlock = some j → j < X.heap.size ∧ j ≠ a ∧ j ≠ n) (fy : b2 ≠ [] → ∀ j, ub.ownBlock = some j → j < X.heap.size ∧ j ≠ a ∧ j ≠ n) (v12 v13 : Value) (listed : Array Bool) (hl : listed = #[true, true, true, true, true, true, true, true, true, true, true, true, true, true, true, true, true, true, true, true, false, false, false, false, false]) :
    wpAnyH Tryd.prog .any opsR (NoPanic Q) (S1 W q (.slice va vn vc2)) 5 listed { tmps := #[t 0, .int .i64 fuel, .pointer (some ⟨z, 0, none⟩), t 3, t 4, t 5, t 6, t 7, t 8, t 9, .pointer (some ⟨a, 0, none⟩), .pointer (some ⟨n, 0, none⟩), v12, v13, t 14, t 15, t 16, t 17, t 18, t 19, t 20, t 21, t 22, t 23, t 24, t 25, t 26, t 27, t 28, t 29, t 30, t 31, t 32, t 33, t 34, t 35, t 36, t 37, t 38, t 39, .tuple #[.agg #[.int .i64 pc2, us, uk], .agg #[ub], .agg #[.int .i64 kd, .int .i64 tr, .int .i64 (un : Nat)], .int .i64 E], .pointer (some ⟨z, 0, none⟩), c, .pointer (some ⟨z, 1, none⟩), .agg #[.int .i64 pc, vs, vk], .pointer (some ⟨z, 4, none⟩), .string m, .pointer (some ⟨q, 0, none⟩), .pointer (some ⟨q, 0, none⟩), .pointer (some ⟨q, 0, none⟩), .slice va vn vc2, .agg #[.slice va vn vc2], .int .i64 fuel, .tuple #[.agg #[.int .i64 pc2, us, uk], .agg #[ub], .agg #[.int .i64 kd, .int .i64 tr, .int .i64 (un : Nat)], .int .i64 E], .agg #[.int .i64 pc2, us, uk], .agg #[ub], .agg #[.int .i64 kd, .int .i64 tr, .int .i64 (un : Nat)], .int .i64 E, t 58, t 59, t 60, t 61, t 62, t 63, t 64, t 65, t 66, t 67, t 68, t 69, t 70, t 71, t 72, t 73, t 74, t 75, t 76, t 77, t 78, t 79, t 80, t 81, t 82, t 83, t 84, t 85, t 86, t 87, t 88, t 89, t 90, t 91, t 92, t 93, t 94, t 95, t 96, t 97, t 98, t 99, t 100, t 101, t 102, t 103, t 104, t 105, t 106, t 107, t 108], defers := [] } X := by
  subst hl
  dsimp only
  have hsz := hX.size
  have hSX : (S1 W q (.slice va vn vc2)) X := ⟨hX, hq⟩
  have hql := World.block_lt_of_cell? X _ hq
  simp only at hql
  have la := (Array.getElem?_eq_some_iff.1 oa).1
  have ln := (Array.getElem?_eq_some_iff.1 on).1
  refine wpAnyH_ready (rs := [20]) (by kernel_rfl) (by simp) ?_
  refine (AllReadyH.cons (o := { dst := some 12, op := Op.alloc 33, type := 0, pos := "law.go:71", after := #[], guard := none }) rfl (fun K hK => ?_) AllReadyH.nil)
  · go_simp
    try go_wp2_with fail
    have hb1 : Below X.heap.size X (X.alloc (.cells #[.int .i64 0, .int .i64 0, .int .i64 0] 33)) := below_alloc X _
    have hz1 : (X.alloc (.cells #[.int .i64 0, .int .i64 0, .int .i64 0] 33)).heap.size = X.heap.size + 1 := by simp
    have hX2 : Below W.heap.size W (X.alloc (.cells #[.int .i64 0, .int .i64 0, .int .i64 0] 33)) := hX.trans (hb1.mono hsz)
    have hq1 : (X.alloc (.cells #[.int .i64 0, .int .i64 0, .int .i64 0] 33)).cell? ⟨q, 0, none⟩ = some (.slice va vn vc2) := (hb1.cell (p := ⟨q, 0, none⟩) hql).trans hq
    refine hK.out _ _ ⟨hX2, hq1⟩ (fun _ => ?_)
    clear hK K
    try simp only [Act.put, List.setIfInBounds_toArray, List.set_cons_zero, List.set_cons_succ]
    exact nd2any t W z c pc vs vk m fuel E kd tr un pc2 st2 ca2 b2 HC HQ (X.alloc (.cells #[.int .i64 0, .int .i64 0, .int .i64 0] 33)) hX2 a (by rw [heap_alloc_old X _ la]; exact oa) ga n (by rw [heap_alloc_old X _ ln]; exact on) gn X.heap.size (heap_alloc_new X _) hsz dan (by omega) (by omega) q vn vc2 va hq1 (hn.below hb1) (fun j hj => by have := fb j hj; omega) (by omega) (by omega) (by omega) us uk ub (hs.below hb1) (hk.below hb1) (hu.below hb1) (fun hne j hj => by have := fu hne j hj; omega) (fun hne j hj => by have := fk hne j hj; omega) (fun hne j hj => by have := fy hne j hj; omega) _ _ (by kernel_rfl)

set_option maxHeartbeats 8000000 in
theorem nd2ay {Q : Exit → Act → World → Prop} (t : Nat → Value) (W : World) (z : Nat) (c : Value) (pc : Int) (vs vk : Value) (m : ByteArray) (fuel E kd tr : Int) (un : Nat) (pc2 : Int) (st2 ca2 : List Int) (b2 : List Nat) (HC : CtxR W z c pc vs vk m fuel E kd tr un pc2 st2 ca2 b2) (HQ : FinR Q t W z c pc vs vk m fuel E kd tr un pc2 st2 ca2 b2) (X : World) (hX : Below W.heap.size W X) (a : Nat) (oa : X.heap[a]? = some (.cells #[.int .i64 0, .slice none 0 0, .slice none 0 0] 25 (0, 0))) (ga : W.heap.size ≤ a) (y : Nat) (oy : X.heap[y]? = some (.cells #[.int .i64 0, .int .i64 0, .int .i64 0] 33 (0, 0))) (gy : W.heap.size ≤ y) (day : a ≠ y) (q vn vc2 : Nat) (va : Option Addr) (hq : X.cell? ⟨q, 0, none⟩ = some (.slice va vn vc2)) (hn : SeesN .u8 X (.slice va vn vc2) (bytesOf m)) (fb : ∀ j, (Value.slice va vn vc2).ownBlock = some j → W.heap.size ≤ j ∧ j < X.heap.size ∧ j ≠ a ∧ j ≠ y) (ea : q ≠ a) (ey : q ≠ y) (us uk ub : Value) (hs : Sees X us st2) (hk : Sees X uk ca2) (hu : SeesN .u8 X ub b2) (fu : st2 ≠ [] → ∀ j, us.ownBlock = some j → j < X.heap.size ∧ j ≠ a ∧ j ≠ y) (fk : ca2 ≠ [] → ∀ j, uk.ownBlock = some j → j < X.heap.size ∧ j ≠ a ∧ j ≠ y) (fy : b2 ≠ [] → ∀ j, ub.ownBlock = some j → j < X.heap.size ∧ j ≠ a ∧ j ≠ y) (v11 v13 : Value) (listed : Array Bool) (hl : listed = #[true, true, true, true, true, true, true, true, true, true, true, true, true, true, true, true, true, true, true, false, true, false, false, false, false]) :
    wpAnyH Tryd.prog .any opsR (NoPanic Q) (S1 W q (.slice va vn vc2)) 5 listed { tmps := #[t 0, .int .i64 fuel, .pointer (some ⟨z, 0, none⟩), t 3, t 4, t 5, t 6, t 7, t 8, t 9, .pointer (some ⟨a, 0, none⟩), v11, .pointer (some ⟨y, 0, none⟩), v13, t 14, t 15, t 16, t 17, t 18, t 19, t 20, t 21, t 22, t 23, t 24, t 25, t 26, t 27, t 28, t 29, t 30, t 31, t 32, t 33, t 34, t 35, t 36, t 37, t 38, t 39, .tuple #[.agg #[.int .i64 pc2, us, uk], .agg #[ub], .agg #[.int .i64 kd, .int .i64 tr, .int .i64 (un : Nat)], .int .i64 E], .pointer (some ⟨z, 0, none⟩), c, .pointer (some ⟨z, 1, none⟩), .agg #[.int .i64 pc, vs, vk], .pointer (some ⟨z, 4, none⟩), .string m, .pointer (some ⟨q, 0, none⟩), .pointer (some ⟨q, 0, none⟩), .pointer (some ⟨q, 0, none⟩), .slice va vn vc2, .agg #[.slice va vn vc2], .int .i64 fuel, .tuple #[.agg #[.int .i64 pc2, us, uk], .agg #[ub], .agg #[.int .i64 kd, .int .i64 tr, .int .i64 (un : Nat)], .int .i64 E], .agg #[.int .i64 pc2, us, uk], .agg #[ub], .agg #[.int .i64 kd, .int .i64 tr, .int .i64 (un : Nat)], .int .i64 E, t 58, t 59, t 60, t 61, t 62, t 63, t 64, t 65, t 66, t 67, t 68, t 69, t 70, t 71, t 72, t 73, t 74, t 75, t 76, t 77, t 78, t 79, t 80, t 81, t 82, t 83, t 84, t 85, t 86, t 87, t 88, t 89, t 90, t 91, t 92, t 93, t 94, t 95, t 96, t 97, t 98, t 99, t 100, t 101, t 102, t 103, t 104, t 105, t 106, t 107, t 108], defers := [] } X := by
  subst hl
  dsimp only
  have hsz := hX.size
  have hSX : (S1 W q (.slice va vn vc2)) X := ⟨hX, hq⟩
  have hql := World.block_lt_of_cell? X _ hq
  simp only at hql
  have la := (Array.getElem?_eq_some_iff.1 oa).1
  have ly := (Array.getElem?_eq_some_iff.1 oy).1
  refine wpAnyH_ready (rs := [19]) (by kernel_rfl) (by simp) ?_
  refine (AllReadyH.cons (o := { dst := some 11, op := Op.alloc 39, type := 0, pos := "law.go:71", after := #[], guard := none }) rfl (fun K hK => ?_) AllReadyH.nil)
  · go_simp
    try go_wp2_with fail
    have hb1 : Below X.heap.size X (X.alloc (.cells #[.slice none 0 0] 39)) := below_alloc X _
    have hz1 : (X.alloc (.cells #[.slice none 0 0] 39)).heap.size = X.heap.size + 1 := by simp
    have hX2 : Below W.heap.size W (X.alloc (.cells #[.slice none 0 0] 39)) := hX.trans (hb1.mono hsz)
    have hq1 : (X.alloc (.cells #[.slice none 0 0] 39)).cell? ⟨q, 0, none⟩ = some (.slice va vn vc2) := (hb1.cell (p := ⟨q, 0, none⟩) hql).trans hq
    refine hK.out _ _ ⟨hX2, hq1⟩ (fun _ => ?_)
    clear hK K
    try simp only [Act.put, List.setIfInBounds_toArray, List.set_cons_zero, List.set_cons_succ]
    exact nd2any t W z c pc vs vk m fuel E kd tr un pc2 st2 ca2 b2 HC HQ (X.alloc (.cells #[.slice none 0 0] 39)) hX2 a (by rw [heap_alloc_old X _ la]; exact oa) ga X.heap.size (heap_alloc_new X _) hsz y (by rw [heap_alloc_old X _ ly]; exact oy) gy (by omega) day (by omega) q vn vc2 va hq1 (hn.below hb1) (fun j hj => by have := fb j hj; omega) (by omega) (by omega) (by omega) us uk ub (hs.below hb1) (hk.below hb1) (hu.below hb1) (fun hne j hj => by have := fu hne j hj; omega) (fun hne j hj => by have := fk hne j hj; omega) (fun hne j hj => by have := fy hne j hj; omega) _ _ (by kernel_rfl)

set_option maxHeartbeats 8000000 in
theorem nd2ny {Q : Exit → Act → World → Prop} (t : Nat → Value) (W : World) (z : Nat) (c : Value) (pc : Int) (vs vk : Value) (m : ByteArray) (fuel E kd tr : Int) (un : Nat) (pc2 : Int) (st2 ca2 : List Int) (b2 : List Nat) (HC : CtxR W z c pc vs vk m fuel E kd tr un pc2 st2 ca2 b2) (HQ : FinR Q t W z c pc vs vk m fuel E kd tr un pc2 st2 ca2 b2) (X : World) (hX : Below W.heap.size W X) (n : Nat) (on : X.heap[n]? = some (.cells #[.slice none 0 0] 39 (0, 0))) (gn : W.heap.size ≤ n) (y : Nat) (oy : X.heap[y]? = some (.cells #[.int .i64 0, .int .i64 0, .int .i64 0] 33 (0, 0))) (gy : W.heap.size ≤ y) (dny : n ≠ y) (q vn vc2 : Nat) (va : Option Addr) (hq : X.cell? ⟨q, 0, none⟩ = some (.slice va vn vc2)) (hn : SeesN .u8 X (.slice va vn vc2) (bytesOf m)) (fb : ∀ j, (Value.slice va vn vc2).ownBlock = some j → W.heap.size ≤ j ∧ j < X.heap.size ∧ j ≠ n ∧ j ≠ y) (en : q ≠ n) (ey : q ≠ y) (us uk ub : Value) (hs : Sees X us st2) (hk : Sees X uk ca2) (hu : SeesN .u8 X ub b2) (fu : st2 ≠ [] → ∀ j, us.ownBlock = some j → j < X.heap.size ∧ j ≠ n ∧ j ≠ y) (fk : ca2 ≠ [] → ∀ j, uk.ownBlock = some j → j < X.heap.size ∧ j ≠ n ∧ j ≠ y) (fy : b2 ≠ [] → ∀ j, ub.ownBlock = some j → j < X.heap.size ∧ j ≠ n ∧ j ≠ y) (v10 v13 : Value) (listed : Array Bool) (hl : listed = #[true, true, true, true, true, true, true, true, true, true, true, true, true, true, true, true, true, true, false, true, true, false, false, false, false]) :
    wpAnyH Tryd.prog .any opsR (NoPanic Q) (S1 W q (.slice va vn vc2)) 5 listed { tmps := #[t 0, .int .i64 fuel, .pointer (some ⟨z, 0, none⟩), t 3, t 4, t 5, t 6, t 7, t 8, t 9, v10, .pointer (some ⟨n, 0, none⟩), .pointer (some ⟨y, 0, none⟩), v13, t 14, t 15, t 16, t 17, t 18, t 19, t 20, t 21, t 22, t 23, t 24, t 25, t 26, t 27, t 28, t 29, t 30, t 31, t 32, t 33, t 34, t 35, t 36, t 37, t 38, t 39, .tuple #[.agg #[.int .i64 pc2, us, uk], .agg #[ub], .agg #[.int .i64 kd, .int .i64 tr, .int .i64 (un : Nat)], .int .i64 E], .pointer (some ⟨z, 0, none⟩), c, .pointer (some ⟨z, 1, none⟩), .agg #[.int .i64 pc, vs, vk], .pointer (some ⟨z, 4, none⟩), .string m, .pointer (some ⟨q, 0, none⟩), .pointer (some ⟨q, 0, none⟩), .pointer (some ⟨q, 0, none⟩), .slice va vn vc2, .agg #[.slice va vn vc2], .int .i64 fuel, .tuple #[.agg #[.int .i64 pc2, us, uk], .agg #[ub], .agg #[.int .i64 kd, .int .i64 tr, .int .i64 (un : Nat)], .int .i64 E], .agg #[.int .i64 pc2, us, uk], .agg #[ub], .agg #[.int .i64 kd, .int .i64 tr, .int .i64 (un : Nat)], .int .i64 E, t 58, t 59, t 60, t 61, t 62, t 63, t 64, t 65, t 66, t 67, t 68, t 69, t 70, t 71, t 72, t 73, t 74, t 75, t 76, t 77, t 78, t 79, t 80, t 81, t 82, t 83, t 84, t 85, t 86, t 87, t 88, t 89, t 90, t 91, t 92, t 93, t 94, t 95, t 96, t 97, t 98, t 99, t 100, t 101, t 102, t 103, t 104, t 105, t 106, t 107, t 108], defers := [] } X := by
  subst hl
  dsimp only
  have hsz := hX.size
  have hSX : (S1 W q (.slice va vn vc2)) X := ⟨hX, hq⟩
  have hql := World.block_lt_of_cell? X _ hq
  simp only at hql
  have ln := (Array.getElem?_eq_some_iff.1 on).1
  have ly := (Array.getElem?_eq_some_iff.1 oy).1
  refine wpAnyH_ready (rs := [18]) (by kernel_rfl) (by simp) ?_
  refine (AllReadyH.cons (o := { dst := some 10, op := Op.alloc 25, type := 0, pos := "law.go:71", after := #[], guard := none }) rfl (fun K hK => ?_) AllReadyH.nil)
  · go_simp
    try go_wp2_with fail
    have hb1 : Below X.heap.size X (X.alloc (.cells #[.int .i64 0, .slice none 0 0, .slice none 0 0] 25)) := below_alloc X _
    have hz1 : (X.alloc (.cells #[.int .i64 0, .slice none 0 0, .slice none 0 0] 25)).heap.size = X.heap.size + 1 := by simp
    have hX2 : Below W.heap.size W (X.alloc (.cells #[.int .i64 0, .slice none 0 0, .slice none 0 0] 25)) := hX.trans (hb1.mono hsz)
    have hq1 : (X.alloc (.cells #[.int .i64 0, .slice none 0 0, .slice none 0 0] 25)).cell? ⟨q, 0, none⟩ = some (.slice va vn vc2) := (hb1.cell (p := ⟨q, 0, none⟩) hql).trans hq
    refine hK.out _ _ ⟨hX2, hq1⟩ (fun _ => ?_)
    clear hK K
    try simp only [Act.put, List.setIfInBounds_toArray, List.set_cons_zero, List.set_cons_succ]
    exact nd2any t W z c pc vs vk m fuel E kd tr un pc2 st2 ca2 b2 HC HQ (X.alloc (.cells #[.int .i64 0, .slice none 0 0, .slice none 0 0] 25)) hX2 X.heap.size (heap_alloc_new X _) hsz n (by rw [heap_alloc_old X _ ln]; exact on) gn y (by rw [heap_alloc_old X _ ly]; exact oy) gy (by omega) (by omega) dny q vn vc2 va hq1 (hn.below hb1) (fun j hj => by have := fb j hj; omega) (by omega) (by omega) (by omega) us uk ub (hs.below hb1) (hk.below hb1) (hu.below hb1) (fun hne j hj => by have := fu hne j hj; omega) (fun hne j hj => by have := fk hne j hj; omega) (fun hne j hj => by have := fy hne j hj; omega) _ _ (by kernel_rfl)

set_option maxHeartbeats 8000000 in
theorem nd2a {Q : Exit → Act → World → Prop} (t : Nat → Value) (W : World) (z : Nat) (c : Value) (pc : Int) (vs vk : Value) (m : ByteArray) (fuel E kd tr : Int) (un : Nat) (pc2 : Int) (st2 ca2 : List Int) (b2 : List Nat) (HC : CtxR W z c pc vs vk m fuel E kd tr un pc2 st2 ca2 b2) (HQ : FinR Q t W z c pc vs vk m fuel E kd tr un pc2 st2 ca2 b2) (X : World) (hX : Below W.heap.size W X) (a : Nat) (oa : X.heap[a]? = some (.cells #[.int .i64 0, .slice none 0 0, .slice none 0 0] 25 (0, 0))) (ga : W.heap.size ≤ a) (q vn vc2 : Nat) (va : Option Addr) (hq : X.cell? ⟨q, 0, none⟩ = some (.slice va vn vc2)) (hn : SeesN .u8 X (.slice va vn vc2) (bytesOf m)) (fb : ∀ j, (Value.slice va vn vc2).ownBlock = some j → W.heap.size ≤ j ∧ j < X.heap.size ∧ j ≠ a) (ea : q ≠ a) (us uk ub : Value) (hs : Sees X us st2) (hk : Sees X uk ca2) (hu : SeesN .u8 X ub b2) (fu : st2 ≠ [] → ∀ j, us.ownBlock = some j → j < X.heap.size ∧ j ≠ a) (fk : ca2 ≠ [] → ∀ j, uk.ownBlock = some j → j < X.heap.size ∧ j ≠ a) (fy : b2 ≠ [] → ∀ j, ub.ownBlock = some j → j < X.heap.size ∧ j ≠ a) (v11 v12 v13 : Value) (listed : Array Bool) (hl : listed = #[true, true, true, true, true, true, true, true, true, true, true, true, true, true, true, true, true, true, true, false, false, false, false, false, false]) :
    wpAnyH Tryd.prog .any opsR (NoPanic Q) (S1 W q (.slice va vn vc2)) 6 listed { tmps := #[t 0, .int .i64 fuel, .pointer (some ⟨z, 0, none⟩), t 3, t 4, t 5, t 6, t 7, t 8, t 9, .pointer (some ⟨a, 0, none⟩), v11, v12, v13, t 14, t 15, t 16, t 17, t 18, t 19, t 20, t 21, t 22, t 23, t 24, t 25, t 26, t 27, t 28, t 29, t 30, t 31, t 32, t 33, t 34, t 35, t 36, t 37, t 38, t 39, .tuple #[.agg #[.int .i64 pc2, us, uk], .agg #[ub], .agg #[.int .i64 kd, .int .i64 tr, .int .i64 (un : Nat)], .int .i64 E], .pointer (some ⟨z, 0, none⟩), c, .pointer (some ⟨z, 1, none⟩), .agg #[.int .i64 pc, vs, vk], .pointer (some ⟨z, 4, none⟩), .string m, .pointer (some ⟨q, 0, none⟩), .pointer (some ⟨q, 0, none⟩), .pointer (some ⟨q, 0, none⟩), .slice va vn vc2, .agg #[.slice va vn vc2], .int .i64 fuel, .tuple #[.agg #[.int .i64 pc2, us, uk], .agg #[ub], .agg #[.int .i64 kd, .int .i64 tr, .int .i64 (un : Nat)], .int .i64 E], .agg #[.int .i64 pc2, us, uk], .agg #[ub], .agg #[.int .i64 kd, .int .i64 tr, .int .i64 (un : Nat)], .int .i64 E, t 58, t 59, t 60, t 61, t 62, t 63, t 64, t 65, t 66, t 67, t 68, t 69, t 70, t 71, t 72, t 73, t 74, t 75, t 76, t 77, t 78, t 79, t 80, t 81, t 82, t 83, t 84, t 85, t 86, t 87, t 88, t 89, t 90, t 91, t 92, t 93, t 94, t 95, t 96, t 97, t 98, t 99, t 100, t 101, t 102, t 103, t 104, t 105, t 106, t 107, t 108], defers := [] } X := by
  subst hl
  dsimp only
  have hsz := hX.size
  have hSX : (S1 W q (.slice va vn vc2)) X := ⟨hX, hq⟩
  have hql := World.block_lt_of_cell? X _ hq
  simp only at hql
  have la := (Array.getElem?_eq_some_iff.1 oa).1
  refine wpAnyH_ready (rs := [19, 20]) (by kernel_rfl) (by simp) ?_
  refine (AllReadyH.cons (o := { dst := some 11, op := Op.alloc 39, type := 0, pos := "law.go:71", after := #[], guard := none }) rfl (fun K hK => ?_) (AllReadyH.cons (o := { dst := some 12, op := Op.alloc 33, type := 0, pos := "law.go:71", after := #[], guard := none }) rfl (fun K hK => ?_) AllReadyH.nil))
  · go_simp
    try go_wp2_with fail
    have hb1 : Below X.heap.size X (X.alloc (.cells #[.slice none 0 0] 39)) := below_alloc X _
    have hz1 : (X.alloc (.cells #[.slice none 0 0] 39)).heap.size = X.heap.size + 1 := by simp
    have hX2 : Below W.heap.size W (X.alloc (.cells #[.slice none 0 0] 39)) := hX.trans (hb1.mono hsz)
    have hq1 : (X.alloc (.cells #[.slice none 0 0] 39)).cell? ⟨q, 0, none⟩ = some (.slice va vn vc2) := (hb1.cell (p := ⟨q, 0, none⟩) hql).trans hq
    refine hK.out _ _ ⟨hX2, hq1⟩ (fun _ => ?_)
    clear hK K
    try simp only [Act.put, List.setIfInBounds_toArray, List.set_cons_zero, List.set_cons_succ]
    exact nd2an t W z c pc vs vk m fuel E kd tr un pc2 st2 ca2 b2 HC HQ (X.alloc (.cells #[.slice none 0 0] 39)) hX2 a (by rw [heap_alloc_old X _ la]; exact oa) ga X.heap.size (heap_alloc_new X _) hsz (by omega) q vn vc2 va hq1 (hn.below hb1) (fun j hj => by have := fb j hj; omega) (by omega) (by omega) us uk ub (hs.below hb1) (hk.below hb1) (hu.below hb1) (fun hne j hj => by have := fu hne j hj; omega) (fun hne j hj => by have := fk hne j hj; omega) (fun hne j hj => by have := fy hne j hj; omega) _ _ _ (by kernel_rfl)
  · go_simp
    try go_wp2_with fail
    have hb1 : Below X.heap.size X (X.alloc (.cells #[.int .i64 0, .int .i64 0, .int .i64 0] 33)) := below_alloc X _
    have hz1 : (X.alloc (.cells #[.int .i64 0, .int .i64 0, .int .i64 0] 33)).heap.size = X.heap.size + 1 := by simp
    have hX2 : Below W.heap.size W (X.alloc (.cells #[.int .i64 0, .int .i64 0, .int .i64 0] 33)) := hX.trans (hb1.mono hsz)
    have hq1 : (X.alloc (.cells #[.int .i64 0, .int .i64 0, .int .i64 0] 33)).cell? ⟨q, 0, none⟩ = some (.slice va vn vc2) := (hb1.cell (p := ⟨q, 0, none⟩) hql).trans hq
    refine hK.out _ _ ⟨hX2, hq1⟩ (fun _ => ?_)
    clear hK K
    try simp only [Act.put, List.setIfInBounds_toArray, List.set_cons_zero, List.set_cons_succ]
    exact nd2ay t W z c pc vs vk m fuel E kd tr un pc2 st2 ca2 b2 HC HQ (X.alloc (.cells #[.int .i64 0, .int .i64 0, .int .i64 0] 33)) hX2 a (by rw [heap_alloc_old X _ la]; exact oa) ga X.heap.size (heap_alloc_new X _) hsz (by omega) q vn vc2 va hq1 (hn.below hb1) (fun j hj => by have := fb j hj; omega) (by omega) (by omega) us uk ub (hs.below hb1) (hk.below hb1) (hu.below hb1) (fun hne j hj => by have := fu hne j hj; omega) (fun hne j hj => by have := fk hne j hj; omega) (fun hne j hj => by have := fy hne j hj; omega) _ _ _ (by kernel_rfl)

set_option maxHeartbeats 8000000 in
theorem nd2n {Q : Exit → Act → World → Prop} (t : Nat → Value) (W : World) (z : Nat) (c : Value) (pc : Int) (vs vk : Value) (m : ByteArray) (fuel E kd tr : Int) (un : Nat) (pc2 : Int) (st2 ca2 : List Int) (b2 : List Nat) (HC : CtxR W z c pc vs vk m fuel E kd tr un pc2 st2 ca2 b2) (HQ : FinR Q t W z c pc vs vk m fuel E kd tr un pc2 st2 ca2 b2) (X : World) (hX : Below W.heap.size W X) (n : Nat) (on : X.heap[n]? = some (.cells #[.slice none 0 0] 39 (0, 0))) (gn : W.heap.size ≤ n) (q vn vc2 : Nat) (va : Option Addr) (hq : X.cell? ⟨q, 0, none⟩ = some (.slice va vn vc2)) (hn : SeesN .u8 X (.slice va vn vc2) (bytesOf m)) (fb : ∀ j, (Value.slice va vn vc2).ownBlock = some j → W.heap.size ≤ j ∧ j < X.heap.size ∧ j ≠ n) (en : q ≠ n) (us uk ub : Value) (hs : Sees X us st2) (hk : Sees X uk ca2) (hu : SeesN .u8 X ub b2) (fu : st2 ≠ [] → ∀ j, us.ownBlock = some j → j < X.heap.size ∧ j ≠ n) (fk : ca2 ≠ [] → ∀ j, uk.ownBlock = some j → j < X.heap.size ∧ j ≠ n) (fy : b2 ≠ [] → ∀ j, ub.ownBlock = some j → j < X.heap.size ∧ j ≠ n) (v10 v12 v13 : Value) (listed : Array Bool) (hl : listed = #[true, true, true, true, true, true, true, true, true, true, true, true, true, true, true, true, true, true, false, true, false, false, false, false, false]) :
    wpAnyH Tryd.prog .any opsR (NoPanic Q) (S1 W q (.slice va vn vc2)) 6 listed { tmps := #[t 0, .int .i64 fuel, .pointer (some ⟨z, 0, none⟩), t 3, t 4, t 5, t 6, t 7, t 8, t 9, v10, .pointer (some ⟨n, 0, none⟩), v12, v13, t 14, t 15, t 16, t 17, t 18, t 19, t 20, t 21, t 22, t 23, t 24, t 25, t 26, t 27, t 28, t 29, t 30, t 31, t 32, t 33, t 34, t 35, t 36, t 37, t 38, t 39, .tuple #[.agg #[.int .i64 pc2, us, uk], .agg #[ub], .agg #[.int .i64 kd, .int .i64 tr, .int .i64 (un : Nat)], .int .i64 E], .pointer (some ⟨z, 0, none⟩), c, .pointer (some ⟨z, 1, none⟩), .agg #[.int .i64 pc, vs, vk], .pointer (some ⟨z, 4, none⟩), .string m, .pointer (some ⟨q, 0, none⟩), .pointer (some ⟨q, 0, none⟩), .pointer (some ⟨q, 0, none⟩), .slice va vn vc2, .agg #[.slice va vn vc2], .int .i64 fuel, .tuple #[.agg #[.int .i64 pc2, us, uk], .agg #[ub], .agg #[.int .i64 kd, .int .i64 tr, .int .i64 (un : Nat)], .int .i64 E], .agg #[.int .i64 pc2, us, uk], .agg #[ub], .agg #[.int .i64 kd, .int .i64 tr, .int .i64 (un : Nat)], .int .i64 E, t 58, t 59, t 60, t 61, t 62, t 63, t 64, t 65, t 66, t 67, t 68, t 69, t 70, t 71, t 72, t 73, t 74, t 75, t 76, t 77, t 78, t 79, t 80, t 81, t 82, t 83, t 84, t 85, t 86, t 87, t 88, t 89, t 90, t 91, t 92, t 93, t 94, t 95, t 96, t 97, t 98, t 99, t 100, t 101, t 102, t 103, t 104, t 105, t 106, t 107, t 108], defers := [] } X := by
  subst hl
  dsimp only
  have hsz := hX.size
  have hSX : (S1 W q (.slice va vn vc2)) X := ⟨hX, hq⟩
  have hql := World.block_lt_of_cell? X _ hq
  simp only at hql
  have ln := (Array.getElem?_eq_some_iff.1 on).1
  refine wpAnyH_ready (rs := [18, 20]) (by kernel_rfl) (by simp) ?_
  refine (AllReadyH.cons (o := { dst := some 10, op := Op.alloc 25, type := 0, pos := "law.go:71", after := #[], guard := none }) rfl (fun K hK => ?_) (AllReadyH.cons (o := { dst := some 12, op := Op.alloc 33, type := 0, pos := "law.go:71", after := #[], guard := none }) rfl (fun K hK => ?_) AllReadyH.nil))
  · go_simp
    try go_wp2_with fail
    have hb1 : Below X.heap.size X (X.alloc (.cells #[.int .i64 0, .slice none 0 0, .slice none 0 0] 25)) := below_alloc X _
    have hz1 : (X.alloc (.cells #[.int .i64 0, .slice none 0 0, .slice none 0 0] 25)).heap.size = X.heap.size + 1 := by simp
    have hX2 : Below W.heap.size W (X.alloc (.cells #[.int .i64 0, .slice none 0 0, .slice none 0 0] 25)) := hX.trans (hb1.mono hsz)
    have hq1 : (X.alloc (.cells #[.int .i64 0, .slice none 0 0, .slice none 0 0] 25)).cell? ⟨q, 0, none⟩ = some (.slice va vn vc2) := (hb1.cell (p := ⟨q, 0, none⟩) hql).trans hq
    refine hK.out _ _ ⟨hX2, hq1⟩ (fun _ => ?_)
    clear hK K
    try simp only [Act.put, List.setIfInBounds_toArray, List.set_cons_zero, List.set_cons_succ]
    exact nd2an t W z c pc vs vk m fuel E kd tr un pc2 st2 ca2 b2 HC HQ (X.alloc (.cells #[.int .i64 0, .slice none 0 0, .slice none 0 0] 25)) hX2 X.heap.size (heap_alloc_new X _) hsz n (by rw [heap_alloc_old X _ ln]; exact on) gn (by omega) q vn vc2 va hq1 (hn.below hb1) (fun j hj => by have := fb j hj; omega) (by omega) (by omega) us uk ub (hs.below hb1) (hk.below hb1) (hu.below hb1) (fun hne j hj => by have := fu hne j hj; omega) (fun hne j hj => by have := fk hne j hj; omega) (fun hne j hj => by have := fy hne j hj; omega) _ _ _ (by kernel_rfl)
  · go_simp
    try go_wp2_with fail
    have hb1 : Below X.heap.size X (X.alloc (.cells #[.int .i64 0, .int .i64 0, .int .i64 0] 33)) := below_alloc X _
    have hz1 : (X.alloc (.cells #[.int .i64 0, .int .i64 0, .int .i64 0] 33)).heap.size = X.heap.size + 1 := by simp
    have hX2 : Below W.heap.size W (X.alloc (.cells #[.int .i64 0, .int .i64 0, .int .i64 0] 33)) := hX.trans (hb1.mono hsz)
    have hq1 : (X.alloc (.cells #[.int .i64 0, .int .i64 0, .int .i64 0] 33)).cell? ⟨q, 0, none⟩ = some (.slice va vn vc2) := (hb1.cell (p := ⟨q, 0, none⟩) hql).trans hq
    refine hK.out _ _ ⟨hX2, hq1⟩ (fun _ => ?_)
    clear hK K
    try simp only [Act.put, List.setIfInBounds_toArray, List.set_cons_zero, List.set_cons_succ]
    exact nd2ny t W z c pc vs vk m fuel E kd tr un pc2 st2 ca2 b2 HC HQ (X.alloc (.cells #[.int .i64 0, .int .i64 0, .int .i64 0] 33)) hX2 n (by rw [heap_alloc_old X _ ln]; exact on) gn X.heap.size (heap_alloc_new X _) hsz (by omega) q vn vc2 va hq1 (hn.below hb1) (fun j hj => by have := fb j hj; omega) (by omega) (by omega) us uk ub (hs.below hb1) (hk.below hb1) (hu.below hb1) (fun hne j hj => by have := fu hne j hj; omega) (fun hne j hj => by have := fk hne j hj; omega) (fun hne j hj => by have := fy hne j hj; omega) _ _ _ (by kernel_rfl)

set_option maxHeartbeats 8000000 in
theorem nd2y {Q : Exit → Act → World → Prop} (t : Nat → Value) (W : World) (z : Nat) (c : Value) (pc : Int) (vs vk : Value) (m : ByteArray) (fuel E kd tr : Int) (un : Nat) (pc2 : Int) (st2 ca2 : List Int) (b2 : List Nat) (HC : CtxR W z c pc vs vk m fuel E kd tr un pc2 st2 ca2 b2) (HQ : FinR Q t W z c pc vs vk m fuel E kd tr un pc2 st2 ca2 b2) (X : World) (hX : Below W.heap.size W X) (y : Nat) (oy : X.heap[y]? = some (.cells #[.int .i64 0, .int .i64 0, .int .i64 0] 33 (0, 0))) (gy : W.heap.size ≤ y) (q vn vc2 : Nat) (va : Option Addr) (hq : X.cell? ⟨q, 0, none⟩ = some (.slice va vn vc2)) (hn : SeesN .u8 X (.slice va vn vc2) (bytesOf m)) (fb : ∀ j, (Value.slice va vn vc2).ownBlock = some j → W.heap.size ≤ j ∧ j < X.heap.size ∧ j ≠ y) (ey : q ≠ y) (us uk ub : Value) (hs : Sees X us st2) (hk : Sees X uk ca2) (hu : SeesN .u8 X ub b2) (fu : st2 ≠ [] → ∀ j, us.ownBlock = some j → j < X.heap.size ∧ j ≠ y) (fk : ca2 ≠ [] → ∀ j, uk.ownBlock = some j → j < X.heap.size ∧ j ≠ y) (fy : b2 ≠ [] → ∀ j, ub.ownBlock = some j → j < X.heap.size ∧ j ≠ y) (v10 v11 v13 : Value) (listed : Array Bool) (hl : listed = #[true, true, true, true, true, true, true, true, true, true, true, true, true, true, true, true, true, true, false, false, true, false, false, false, false]) :
    wpAnyH Tryd.prog .any opsR (NoPanic Q) (S1 W q (.slice va vn vc2)) 6 listed { tmps := #[t 0, .int .i64 fuel, .pointer (some ⟨z, 0, none⟩), t 3, t 4, t 5, t 6, t 7, t 8, t 9, v10, v11, .pointer (some ⟨y, 0, none⟩), v13, t 14, t 15, t 16, t 17, t 18, t 19, t 20, t 21, t 22, t 23, t 24, t 25, t 26, t 27, t 28, t 29, t 30, t 31, t 32, t 33, t 34, t 35, t 36, t 37, t 38, t 39, .tuple #[.agg #[.int .i64 pc2, us, uk], .agg #[ub], .agg #[.int .i64 kd, .int .i64 tr, .int .i64 (un : Nat)], .int .i64 E], .pointer (some ⟨z, 0, none⟩), c, .pointer (some ⟨z, 1, none⟩), .agg #[.int .i64 pc, vs, vk], .pointer (some ⟨z, 4, none⟩), .string m, .pointer (some ⟨q, 0, none⟩), .pointer (some ⟨q, 0, none⟩), .pointer (some ⟨q, 0, none⟩), .slice va vn vc2, .agg #[.slice va vn vc2], .int .i64 fuel, .tuple #[.agg #[.int .i64 pc2, us, uk], .agg #[ub], .agg #[.int .i64 kd, .int .i64 tr, .int .i64 (un : Nat)], .int .i64 E], .agg #[.int .i64 pc2, us, uk], .agg #[ub], .agg #[.int .i64 kd, .int .i64 tr, .int .i64 (un : Nat)], .int .i64 E, t 58, t 59, t 60, t 61, t 62, t 63, t 64, t 65, t 66, t 67, t 68, t 69, t 70, t 71, t 72, t 73, t 74, t 75, t 76, t 77, t 78, t 79, t 80, t 81, t 82, t 83, t 84, t 85, t 86, t 87, t 88, t 89, t 90, t 91, t 92, t 93, t 94, t 95, t 96, t 97, t 98, t 99, t 100, t 101, t 102, t 103, t 104, t 105, t 106, t 107, t 108], defers := [] } X := by
  subst hl
  dsimp only
  have hsz := hX.size
  have hSX : (S1 W q (.slice va vn vc2)) X := ⟨hX, hq⟩
  have hql := World.block_lt_of_cell? X _ hq
  simp only at hql
  have ly := (Array.getElem?_eq_some_iff.1 oy).1
  refine wpAnyH_ready (rs := [18, 19]) (by kernel_rfl) (by simp) ?_
  refine (AllReadyH.cons (o := { dst := some 10, op := Op.alloc 25, type := 0, pos := "law.go:71", after := #[], guard := none }) rfl (fun K hK => ?_) (AllReadyH.cons (o := { dst := some 11, op := Op.alloc 39, type := 0, pos := "law.go:71", after := #[], guard := none }) rfl (fun K hK => ?_) AllReadyH.nil))
  · go_simp
    try go_wp2_with fail
    have hb1 : Below X.heap.size X (X.alloc (.cells #[.int .i64 0, .slice none 0 0, .slice none 0 0] 25)) := below_alloc X _
    have hz1 : (X.alloc (.cells #[.int .i64 0, .slice none 0 0, .slice none 0 0] 25)).heap.size = X.heap.size + 1 := by simp
    have hX2 : Below W.heap.size W (X.alloc (.cells #[.int .i64 0, .slice none 0 0, .slice none 0 0] 25)) := hX.trans (hb1.mono hsz)
    have hq1 : (X.alloc (.cells #[.int .i64 0, .slice none 0 0, .slice none 0 0] 25)).cell? ⟨q, 0, none⟩ = some (.slice va vn vc2) := (hb1.cell (p := ⟨q, 0, none⟩) hql).trans hq
    refine hK.out _ _ ⟨hX2, hq1⟩ (fun _ => ?_)
    clear hK K
    try simp only [Act.put, List.setIfInBounds_toArray, List.set_cons_zero, List.set_cons_succ]
    exact nd2ay t W z c pc vs vk m fuel E kd tr un pc2 st2 ca2 b2 HC HQ (X.alloc (.cells #[.int .i64 0, .slice none 0 0, .slice none 0 0] 25)) hX2 X.heap.size (heap_alloc_new X _) hsz y (by rw [heap_alloc_old X _ ly]; exact oy) gy (by omega) q vn vc2 va hq1 (hn.below hb1) (fun j hj => by have := fb j hj; omega) (by omega) (by omega) us uk ub (hs.below hb1) (hk.below hb1) (hu.below hb1) (fun hne j hj => by have := fu hne j hj; omega) (fun hne j hj => by have := fk hne j hj; omega) (fun hne j hj => by have := fy hne j hj; omega) _ _ _ (by kernel_rfl)
  · go_simp
    try go_wp2_with fail
    have hb1 : Below X.heap.size X (X.alloc (.cells #[.slice none 0 0] 39)) := below_alloc X _
    have hz1 : (X.alloc (.cells #[.slice none 0 0] 39)).heap.size = X.heap.size + 1 := by simp
    have hX2 : Below W.heap.size W (X.alloc (.cells #[.slice none 0 0] 39)) := hX.trans (hb1.mono hsz)
    have hq1 : (X.alloc (.cells #[.slice none 0 0] 39)).cell? ⟨q, 0, none⟩ = some (.slice va vn vc2) := (hb1.cell (p := ⟨q, 0, none⟩) hql).trans hq
    refine hK.out _ _ ⟨hX2, hq1⟩ (fun _ => ?_)
    clear hK K
    try simp only [Act.put, List.setIfInBounds_toArray, List.set_cons_zero, List.set_cons_succ]
    exact nd2ny t W z c pc vs vk m fuel E kd tr un pc2 st2 ca2 b2 HC HQ (X.alloc (.cells #[.slice none 0 0] 39)) hX2 X.heap.size (heap_alloc_new X _) hsz y (by rw [heap_alloc_old X _ ly]; exact oy) gy (by omega) q vn vc2 va hq1 (hn.below hb1) (fun j hj => by have := fb j hj; omega) (by omega) (by omega) us uk ub (hs.below hb1) (hk.below hb1) (hu.below hb1) (fun hne j hj => by have := fu hne j hj; omega) (fun hne j hj => by have := fk hne j hj; omega) (fun hne j hj => by have := fy hne j hj; omega) _ _ _ (by kernel_rfl)

set_option maxHeartbeats 8000000 in
theorem nd2o {Q : Exit → Act → World → Prop} (t : Nat → Value) (W : World) (z : Nat) (c : Value) (pc : Int) (vs vk : Value) (m : ByteArray) (fuel E kd tr : Int) (un : Nat) (pc2 : Int) (st2 ca2 : List Int) (b2 : List Nat) (HC : CtxR W z c pc vs vk m fuel E kd tr un pc2 st2 ca2 b2) (HQ : FinR Q t W z c pc vs vk m fuel E kd tr un pc2 st2 ca2 b2) (X : World) (hX : Below W.heap.size W X) (q vn vc2 : Nat) (va : Option Addr) (hq : X.cell? ⟨q, 0, none⟩ = some (.slice va vn vc2)) (hn : SeesN .u8 X (.slice va vn vc2) (bytesOf m)) (fb : ∀ j, (Value.slice va vn vc2).ownBlock = some j → W.heap.size ≤ j ∧ j < X.heap.size) (us uk ub : Value) (hs : Sees X us st2) (hk : Sees X uk ca2) (hu : SeesN .u8 X ub b2) (fu : st2 ≠ [] → ∀ j, us.ownBlock = some j → j < X.heap.size) (fk : ca2 ≠ [] → ∀ j, uk.ownBlock = some j → j < X.heap.size) (fy : b2 ≠ [] → ∀ j, ub.ownBlock = some j → j < X.heap.size) (v10 v11 v12 v13 : Value) (listed : Array Bool) (hl : listed = #[true, true, true, true, true, true, true, true, true, true, true, true, true, true, true, true, true, true, false, false, false, false, false, false, false]) :
    wpAnyH Tryd.prog .any opsR (NoPanic Q) (S1 W q (.slice va vn vc2)) 7 listed { tmps := #[t 0, .int .i64 fuel, .pointer (some ⟨z, 0, none⟩), t 3, t 4, t 5, t 6, t 7, t 8, t 9, v10, v11, v12, v13, t 14, t 15, t 16, t 17, t 18, t 19, t 20, t 21, t 22, t 23, t 24, t 25, t 26, t 27, t 28, t 29, t 30, t 31, t 32, t 33, t 34, t 35, t 36, t 37, t 38, t 39, .tuple #[.agg #[.int .i64 pc2, us, uk], .agg #[ub], .agg #[.int .i64 kd, .int .i64 tr, .int .i64 (un : Nat)], .int .i64 E], .pointer (some ⟨z, 0, none⟩), c, .pointer (some ⟨z, 1, none⟩), .agg #[.int .i64 pc, vs, vk], .pointer (some ⟨z, 4, none⟩), .string m, .pointer (some ⟨q, 0, none⟩), .pointer (some ⟨q, 0, none⟩), .pointer (some ⟨q, 0, none⟩), .slice va vn vc2, .agg #[.slice va vn vc2], .int .i64 fuel, .tuple #[.agg #[.int .i64 pc2, us, uk], .agg #[ub], .agg #[.int .i64 kd, .int .i64 tr, .int .i64 (un : Nat)], .int .i64 E], .agg #[.int .i64 pc2, us, uk], .agg #[ub], .agg #[.int .i64 kd, .int .i64 tr, .int .i64 (un : Nat)], .int .i64 E, t 58, t 59, t 60, t 61, t 62, t 63, t 64, t 65, t 66, t 67, t 68, t 69, t 70, t 71, t 72, t 73, t 74, t 75, t 76, t 77, t 78, t 79, t 80, t 81, t 82, t 83, t 84, t 85, t 86, t 87, t 88, t 89, t 90, t 91, t 92, t 93, t 94, t 95, t 96, t 97, t 98, t 99, t 100, t 101, t 102, t 103, t 104, t 105, t 106, t 107, t 108], defers := [] } X := by
  subst hl
  dsimp only
  have hsz := hX.size
  have hSX : (S1 W q (.slice va vn vc2)) X := ⟨hX, hq⟩
  have hql := World.block_lt_of_cell? X _ hq
  simp only at hql
  refine wpAnyH_ready (rs := [18, 19, 20]) (by kernel_rfl) (by simp) ?_
  refine (AllReadyH.cons (o := { dst := some 10, op := Op.alloc 25, type := 0, pos := "law.go:71", after := #[], guard := none }) rfl (fun K hK => ?_) (AllReadyH.cons (o := { dst := some 11, op := Op.alloc 39, type := 0, pos := "law.go:71", after := #[], guard := none }) rfl (fun K hK => ?_) (AllReadyH.cons (o := { dst := some 12, op := Op.alloc 33, type := 0, pos := "law.go:71", after := #[], guard := none }) rfl (fun K hK => ?_) AllReadyH.nil)))
  · go_simp
    try go_wp2_with fail
    have hb1 : Below X.heap.size X (X.alloc (.cells #[.int .i64 0, .slice none 0 0, .slice none 0 0] 25)) := below_alloc X _
    have hz1 : (X.alloc (.cells #[.int .i64 0, .slice none 0 0, .slice none 0 0] 25)).heap.size = X.heap.size + 1 := by simp
    have hX2 : Below W.heap.size W (X.alloc (.cells #[.int .i64 0, .slice none 0 0, .slice none 0 0] 25)) := hX.trans (hb1.mono hsz)
    have hq1 : (X.alloc (.cells #[.int .i64 0, .slice none 0 0, .slice none 0 0] 25)).cell? ⟨q, 0, none⟩ = some (.slice va vn vc2) := (hb1.cell (p := ⟨q, 0, none⟩) hql).trans hq
    refine hK.out _ _ ⟨hX2, hq1⟩ (fun _ => ?_)
    clear hK K
    try simp only [Act.put, List.setIfInBounds_toArray, List.set_cons_zero, List.set_cons_succ]
    exact nd2a t W z c pc vs vk m fuel E kd tr un pc2 st2 ca2 b2 HC HQ (X.alloc (.cells #[.int .i64 0, .slice none 0 0, .slice none 0 0] 25)) hX2 X.heap.size (heap_alloc_new X _) hsz q vn vc2 va hq1 (hn.below hb1) (fun j hj => by have := fb j hj; omega) (by omega) us uk ub (hs.below hb1) (hk.below hb1) (hu.below hb1) (fun hne j hj => by have := fu hne j hj; omega) (fun hne j hj => by have := fk hne j hj; omega) (fun hne j hj => by have := fy hne j hj; omega) _ _ _ _ (by kernel_rfl)
  · go_simp
    try go_wp2_with fail
    have hb1 : Below X.heap.size X (X.alloc (.cells #[.slice none 0 0] 39)) := below_alloc X _
    have hz1 : (X.alloc (.cells #[.slice none 0 0] 39)).heap.size = X.heap.size + 1 := by simp
    have hX2 : Below W.heap.size W (X.alloc (.cells #[.slice none 0 0] 39)) := hX.trans (hb1.mono hsz)
    have hq1 : (X.alloc (.cells #[.slice none 0 0] 39)).cell? ⟨q, 0, none⟩ = some (.slice va vn vc2) := (hb1.cell (p := ⟨q, 0, none⟩) hql).trans hq
    refine hK.out _ _ ⟨hX2, hq1⟩ (fun _ => ?_)
    clear hK K
    try simp only [Act.put, List.setIfInBounds_toArray, List.set_cons_zero, List.set_cons_succ]
    exact nd2n t W z c pc vs vk m fuel E kd tr un pc2 st2 ca2 b2 HC HQ (X.alloc (.cells #[.slice none 0 0] 39)) hX2 X.heap.size (heap_alloc_new X _) hsz q vn vc2 va hq1 (hn.below hb1) (fun j hj => by have := fb j hj; omega) (by omega) us uk ub (hs.below hb1) (hk.below hb1) (hu.below hb1) (fun hne j hj => by have := fu hne j hj; omega) (fun hne j hj => by have := fk hne j hj; omega) (fun hne j hj => by have := fy hne j hj; omega) _ _ _ _ (by kernel_rfl)
  · go_simp
    try go_wp2_with fail
    have hb1 : Below X.heap.size X (X.alloc (.cells #[.int .i64 0, .int .i64 0, .int .i64 0] 33)) := below_alloc X _
    have hz1 : (X.alloc (.cells #[.int .i64 0, .int .i64 0, .int .i64 0] 33)).heap.size = X.heap.size + 1 := by simp
    have hX2 : Below W.heap.size W (X.alloc (.cells #[.int .i64 0, .int .i64 0, .int .i64 0] 33)) := hX.trans (hb1.mono hsz)
    have hq1 : (X.alloc (.cells #[.int .i64 0, .int .i64 0, .int .i64 0] 33)).cell? ⟨q, 0, none⟩ = some (.slice va vn vc2) := (hb1.cell (p := ⟨q, 0, none⟩) hql).trans hq
    refine hK.out _ _ ⟨hX2, hq1⟩ (fun _ => ?_)
    clear hK K
    try simp only [Act.put, List.setIfInBounds_toArray, List.set_cons_zero, List.set_cons_succ]
    exact nd2y t W z c pc vs vk m fuel E kd tr un pc2 st2 ca2 b2 HC HQ (X.alloc (.cells #[.int .i64 0, .int .i64 0, .int .i64 0] 33)) hX2 X.heap.size (heap_alloc_new X _) hsz q vn vc2 va hq1 (hn.below hb1) (fun j hj => by have := fb j hj; omega) (by omega) us uk ub (hs.below hb1) (hk.below hb1) (hu.below hb1) (fun hne j hj => by have := fu hne j hj; omega) (fun hne j hj => by have := fk hne j hj; omega) (fun hne j hj => by have := fy hne j hj; omega) _ _ _ _ (by kernel_rfl)

set_option maxHeartbeats 8000000 in
theorem nd1any {Q : Exit → Act → World → Prop} (t : Nat → Value) (W : World) (z : Nat) (c : Value) (pc : Int) (vs vk : Value) (m : ByteArray) (fuel E kd tr : Int) (un : Nat) (pc2 : Int) (st2 ca2 : List Int) (b2 : List Nat) (HC : CtxR W z c pc vs vk m fuel E kd tr un pc2 st2 ca2 b2) (HQ : FinR Q t W z c pc vs vk m fuel E kd tr un pc2 st2 ca2 b2) (X : World) (hX : Below W.heap.size W X) (a : Nat) (oa : X.heap[a]? = some (.cells #[.int .i64 0, .slice none 0 0, .slice none 0 0] 25 (0, 0))) (ga : W.heap.size ≤ a) (n : Nat) (on : X.heap[n]? = some (.cells #[.slice none 0 0] 39 (0, 0))) (gn : W.heap.size ≤ n) (y : Nat) (oy : X.heap[y]? = some (.cells #[.int .i64 0, .int .i64 0, .int .i64 0] 33 (0, 0))) (gy : W.heap.size ≤ y) (dan : a ≠ n) (day : a ≠ y) (dny : n ≠ y) (q vn vc2 : Nat) (va : Option Addr) (hq : X.cell? ⟨q, 0, none⟩ = some (.slice va vn vc2)) (hn : SeesN .u8 X (.slice va vn vc2) (bytesOf m)) (fb : ∀ j, (Value.slice va vn vc2).ownBlock = some j → W.heap.size ≤ j ∧ j < X.heap.size ∧ j ≠ a ∧ j ≠ n ∧ j ≠ y) (ea : q ≠ a) (en : q ≠ n) (ey : q ≠ y) (v13 v40 v53 v54 v55 v56 v57 : Value) (listed : Array Bool) (hl : listed = #[true, true, true, true, true, true, true, true, true, true, true, true, false, false, false, false, false, false, true, true, true, false, false, false, false]) :
    wpAnyH Tryd.prog .any opsR (NoPanic Q) (S1 W q (.slice va vn vc2)) 10 listed { tmps := #[t 0, .int .i64 fuel, .pointer (some ⟨z, 0, none⟩), t 3, t 4, t 5, t 6, t 7, t 8, t 9, .pointer (some ⟨a, 0, none⟩), .pointer (some ⟨n, 0, none⟩), .pointer (some ⟨y, 0, none⟩), v13, t 14, t 15, t 16, t 17, t 18, t 19, t 20, t 21, t 22, t 23, t 24, t 25, t 26, t 27, t 28, t 29, t 30, t 31, t 32, t 33, t 34, t 35, t 36, t 37, t 38, t 39, v40, .pointer (some ⟨z, 0, none⟩), c, .pointer (some ⟨z, 1, none⟩), .agg #[.int .i64 pc, vs, vk], .pointer (some ⟨z, 4, none⟩), .string m, .pointer (some ⟨q, 0, none⟩), .pointer (some ⟨q, 0, none⟩), .pointer (some ⟨q, 0, none⟩), .slice va vn vc2, .agg #[.slice va vn vc2], .int .i64 fuel, v53, v54, v55, v56, v57, t 58, t 59, t 60, t 61, t 62, t 63, t 64, t 65, t 66, t 67, t 68, t 69, t 70, t 71, t 72, t 73, t 74, t 75, t 76, t 77, t 78, t 79, t 80, t 81, t 82, t 83, t 84, t 85, t 86, t 87, t 88, t 89, t 90, t 91, t 92, t 93, t 94, t 95, t 96, t 97, t 98, t 99, t 100, t 101, t 102, t 103, t 104, t 105, t 106, t 107, t 108], defers := [] } X := by
  subst hl
  dsimp only
  have hsz := hX.size
  have hSX : (S1 W q (.slice va vn vc2)) X := ⟨hX, hq⟩
  have hql := World.block_lt_of_cell? X _ hq
  simp only at hql
  have la := (Array.getElem?_eq_some_iff.1 oa).1
  have ln := (Array.getElem?_eq_some_iff.1 on).1
  have ly := (Array.getElem?_eq_some_iff.1 oy).1
  refine wpAnyH_ready (rs := [12]) (by kernel_rfl) (by simp) ?_
  refine (AllReadyH.cons (o := { dst := some 53, op := Op.call { callee := Callee.value (Operand.func 14), args := #[Operand.tmp 42, Operand.tmp 44, Operand.tmp 51, Operand.tmp 52], argTypes := #[22, 25, 39, 3] }, type := 40, pos := "law.go:71", after := #[{ on := 1, ground := Ground.data }, { on := 3, ground := Ground.data }, { on := 10, ground := Ground.data }, { on := 11, ground := Ground.data }, { on := 6, ground := Ground.chain }], guard := none }) rfl (fun K hK => ?_) AllReadyH.nil)
  · go_simp
    refine (HC.doc (.slice va vn vc2) X hX hn).mono ?_
    rintro e X1 ⟨us, uk, ub, rfl, hs1, hk1, hu1, hb1, fu1, fk1, nb⟩
    try go_wp2_with fail
    have hX1 := hb1.size
    have hX2 : Below W.heap.size W X1 := hX.trans (hb1.mono hsz)
    have hq1 : X1.cell? ⟨q, 0, none⟩ = some (.slice va vn vc2) := (hb1.cell (p := ⟨q, 0, none⟩) hql).trans hq
    refine hK.out _ _ ⟨hX2, hq1⟩ (fun _ => ?_)
    clear hK K
    try simp only [Act.put, List.setIfInBounds_toArray, List.set_cons_zero, List.set_cons_succ]
    have hS1 : S1 W q (.slice va vn vc2) X1 := ⟨hX2, hq1⟩
    refine wpAnyH_take (i := 13) (oi := { dst := some 40, op := Op.move (Operand.tmp 53), type := 40, pos := "law.go:71", after := #[{ on := 12, ground := Ground.data }], guard := none }) (v := (.tuple #[.agg #[.int .i64 pc2, us, uk], .agg #[ub], .agg #[.int .i64 kd, .int .i64 tr, .int .i64 (un : Nat)], .int .i64 E])) rfl (by kernel_rfl) (by kernel_rfl) (by kernel_rfl) (fun _ _ _ h => h) (Or.inl ⟨by rfl, ?_⟩) hS1 ?_
    · intro w hSw
      go_simp
    try simp only [Act.put, List.setIfInBounds_toArray, List.set_cons_zero, List.set_cons_succ]
    refine wpAnyH_take (i := 14) (oi := { dst := some 54, op := Op.extract (Operand.tmp 40) 0, type := 25, pos := "law.go:71", after := #[{ on := 13, ground := Ground.data }], guard := none }) (v := (.agg #[.int .i64 pc2, us, uk])) rfl (by kernel_rfl) (by kernel_rfl) (by kernel_rfl) (fun _ _ _ h => h) (Or.inl ⟨by rfl, ?_⟩) hS1 ?_
    · intro w hSw
      go_simp
    try simp only [Act.put, List.setIfInBounds_toArray, List.set_cons_zero, List.set_cons_succ]
    refine wpAnyH_take (i := 15) (oi := { dst := some 55, op := Op.extract (Operand.tmp 40) 1, type := 39, pos := "law.go:71", after := #[{ on := 13, ground := Ground.data }, { on := 21, ground := Ground.gcOnly Departure.lateStores }], guard := none }) (v := (.agg #[ub])) rfl (by kernel_rfl) (by kernel_rfl) (by kernel_rfl) (fun _ _ _ h => h) (Or.inl ⟨by rfl, ?_⟩) hS1 ?_
    · intro w hSw
      go_simp
    try simp only [Act.put, List.setIfInBounds_toArray, List.set_cons_zero, List.set_cons_succ]
    refine wpAnyH_take (i := 16) (oi := { dst := some 56, op := Op.extract (Operand.tmp 40) 2, type := 33, pos := "law.go:71", after := #[{ on := 13, ground := Ground.data }, { on := 22, ground := Ground.gcOnly Departure.lateStores }], guard := none }) (v := (.agg #[.int .i64 kd, .int .i64 tr, .int .i64 (un : Nat)])) rfl (by kernel_rfl) (by kernel_rfl) (by kernel_rfl) (fun _ _ _ h => h) (Or.inl ⟨by rfl, ?_⟩) hS1 ?_
    · intro w hSw
      go_simp
    try simp only [Act.put, List.setIfInBounds_toArray, List.set_cons_zero, List.set_cons_succ]
    refine wpAnyH_take (i := 17) (oi := { dst := some 57, op := Op.extract (Operand.tmp 40) 3, type := 34, pos := "law.go:71", after := #[{ on := 13, ground := Ground.data }, { on := 23, ground := Ground.gcOnly Departure.lateStores }], guard := none }) (v := (.int .i64 E)) rfl (by kernel_rfl) (by kernel_rfl) (by kernel_rfl) (fun _ _ _ h => h) (Or.inl ⟨by rfl, ?_⟩) hS1 ?_
    · intro w hSw
      go_simp
    try simp only [Act.put, List.setIfInBounds_toArray, List.set_cons_zero, List.set_cons_succ]
    exact nd2any t W z c pc vs vk m fuel E kd tr un pc2 st2 ca2 b2 HC HQ X1 hX2 a (by rw [hb1.block _ la]; exact oa) ga n (by rw [hb1.block _ ln]; exact on) gn y (by rw [hb1.block _ ly]; exact oy) gy dan day dny q vn vc2 va hq1 (hn.below hb1) (fun j hj => by have := fb j hj; omega) (by omega) (by omega) (by omega) us uk ub hs1 hk1 hu1 (fun hne j hj => by have := sees_lt hs1 hne j hj; have := fu1 j hj; omega) (fun hne j hj => by have := sees_lt hk1 hne j hj; have := fk1 j hj; omega) (fun hne j hj => by have h3 := seesN_lt hu1 hne j hj; rcases nb with h2 | h2; (· rw [h2] at hj; have := fb j hj; omega); (· have := h2 j hj; omega)) _ _ (by kernel_rfl)

set_option maxHeartbeats 8000000 in
theorem nd1an {Q : Exit → Act → World → Prop} (t : Nat → Value) (W : World) (z : Nat) (c : Value) (pc : Int) (vs vk : Value) (m : ByteArray) (fuel E kd tr : Int) (un : Nat) (pc2 : Int) (st2 ca2 : List Int) (b2 : List Nat) (HC : CtxR W z c pc vs vk m fuel E kd tr un pc2 st2 ca2 b2) (HQ : FinR Q t W z c pc vs vk m fuel E kd tr un pc2 st2 ca2 b2) (X : World) (hX : Below W.heap.size W X) (a : Nat) (oa : X.heap[a]? = some (.cells #[.int .i64 0, .slice none 0 0, .slice none 0 0] 25 (0, 0))) (ga : W.heap.size ≤ a) (n : Nat) (on : X.heap[n]? = some (.cells #[.slice none 0 0] 39 (0, 0))) (gn : W.heap.size ≤ n) (dan : a ≠ n) (q vn vc2 : Nat) (va : Option Addr) (hq : X.cell? ⟨q, 0, none⟩ = some (.slice va vn vc2)) (hn : SeesN .u8 X (.slice va vn vc2) (bytesOf m)) (fb : ∀ j, (Value.slice va vn vc2).ownBlock = some j → W.heap.size ≤ j ∧ j < X.heap.size ∧ j ≠ a ∧ j ≠ n) (ea : q ≠ a) (en : q ≠ n) (v12 v13 v40 v53 v54 v55 v56 v57 : Value) (listed : Array Bool) (hl : listed = #[true, true, true, true, true, true, true, true, true, true, true, true, false, false, false, false, false, false, true, true, false, false, false, false, false]) :
    wpAnyH Tryd.prog .any opsR (NoPanic Q) (S1 W q (.slice va vn vc2)) 11 listed { tmps := #[t 0, .int .i64 fuel, .pointer (some ⟨z, 0, none⟩), t 3, t 4, t 5, t 6, t 7, t 8, t 9, .pointer (some ⟨a, 0, none⟩), .pointer (some ⟨n, 0, none⟩), v12, v13, t 14, t 15, t 16, t 17, t 18, t 19, t 20, t 21, t 22, t 23, t 24, t 25, t 26, t 27, t 28, t 29, t 30, t 31, t 32, t 33, t 34, t 35, t 36, t 37, t 38, t 39, v40, .pointer (some ⟨z, 0, none⟩), c, .pointer (some ⟨z, 1, none⟩), .agg #[.int .i64 pc, vs, vk], .pointer (some ⟨z, 4, none⟩), .string m, .pointer (some ⟨q, 0, none⟩), .pointer (some ⟨q, 0, none⟩), .pointer (some ⟨q, 0, none⟩), .slice va vn vc2, .agg #[.slice va vn vc2], .int .i64 fuel, v53, v54, v55, v56, v57, t 58, t 59, t 60, t 61, t 62, t 63, t 64, t 65, t 66, t 67, t 68, t 69, t 70, t 71, t 72, t 73, t 74, t 75, t 76, t 77, t 78, t 79, t 80, t 81, t 82, t 83, t 84, t 85, t 86, t 87, t 88, t 89, t 90, t 91, t 92, t 93, t 94, t 95, t 96, t 97, t 98, t 99, t 100, t 101, t 102, t 103, t 104, t 105, t 106, t 107, t 108], defers := [] } X := by
  subst hl
  dsimp only
  have hsz := hX.size
  have hSX : (S1 W q (.slice va vn vc2)) X := ⟨hX, hq⟩
  have hql := World.block_lt_of_cell? X _ hq
  simp only at hql
  have la := (Array.getElem?_eq_some_iff.1 oa).1
  have ln := (Array.getElem?_eq_some_iff.1 on).1
  refine wpAnyH_ready (rs := [12, 20]) (by kernel_rfl) (by simp) ?_
  refine (AllReadyH.cons (o := { dst := some 53, op := Op.call { callee := Callee.value (Operand.func 14), args := #[Operand.tmp 42, Operand.tmp 44, Operand.tmp 51, Operand.tmp 52], argTypes := #[22, 25, 39, 3] }, type := 40, pos := "law.go:71", after := #[{ on := 1, ground := Ground.data }, { on := 3, ground := Ground.data }, { on := 10, ground := Ground.data }, { on := 11, ground := Ground.data }, { on := 6, ground := Ground.chain }], guard := none }) rfl (fun K hK => ?_) (AllReadyH.cons (o := { dst := some 12, op := Op.alloc 33, type := 0, pos := "law.go:71", after := #[], guard := none }) rfl (fun K hK => ?_) AllReadyH.nil))
  · go_simp
    refine (HC.doc (.slice va vn vc2) X hX hn).mono ?_
    rintro e X1 ⟨us, uk, ub, rfl, hs1, hk1, hu1, hb1, fu1, fk1, nb⟩
    try go_wp2_with fail
    have hX1 := hb1.size
    have hX2 : Below W.heap.size W X1 := hX.trans (hb1.mono hsz)
    have hq1 : X1.cell? ⟨q, 0, none⟩ = some (.slice va vn vc2) := (hb1.cell (p := ⟨q, 0, none⟩) hql).trans hq
    refine hK.out _ _ ⟨hX2, hq1⟩ (fun _ => ?_)
    clear hK K
    try simp only [Act.put, List.setIfInBounds_toArray, List.set_cons_zero, List.set_cons_succ]
    have hS1 : S1 W q (.slice va vn vc2) X1 := ⟨hX2, hq1⟩
    refine wpAnyH_take (i := 13) (oi := { dst := some 40, op := Op.move (Operand.tmp 53), type := 40, pos := "law.go:71", after := #[{ on := 12, ground := Ground.data }], guard := none }) (v := (.tuple #[.agg #[.int .i64 pc2, us, uk], .agg #[ub], .agg #[.int .i64 kd, .int .i64 tr, .int .i64 (un : Nat)], .int .i64 E])) rfl (by kernel_rfl) (by kernel_rfl) (by kernel_rfl) (fun _ _ _ h => h) (Or.inl ⟨by rfl, ?_⟩) hS1 ?_
    · intro w hSw
      go_simp
    try simp only [Act.put, List.setIfInBounds_toArray, List.set_cons_zero, List.set_cons_succ]
    refine wpAnyH_take (i := 14) (oi := { dst := some 54, op := Op.extract (Operand.tmp 40) 0, type := 25, pos := "law.go:71", after := #[{ on := 13, ground := Ground.data }], guard := none }) (v := (.agg #[.int .i64 pc2, us, uk])) rfl (by kernel_rfl) (by kernel_rfl) (by kernel_rfl) (fun _ _ _ h => h) (Or.inl ⟨by rfl, ?_⟩) hS1 ?_
    · intro w hSw
      go_simp
    try simp only [Act.put, List.setIfInBounds_toArray, List.set_cons_zero, List.set_cons_succ]
    refine wpAnyH_take (i := 15) (oi := { dst := some 55, op := Op.extract (Operand.tmp 40) 1, type := 39, pos := "law.go:71", after := #[{ on := 13, ground := Ground.data }, { on := 21, ground := Ground.gcOnly Departure.lateStores }], guard := none }) (v := (.agg #[ub])) rfl (by kernel_rfl) (by kernel_rfl) (by kernel_rfl) (fun _ _ _ h => h) (Or.inl ⟨by rfl, ?_⟩) hS1 ?_
    · intro w hSw
      go_simp
    try simp only [Act.put, List.setIfInBounds_toArray, List.set_cons_zero, List.set_cons_succ]
    refine wpAnyH_take (i := 16) (oi := { dst := some 56, op := Op.extract (Operand.tmp 40) 2, type := 33, pos := "law.go:71", after := #[{ on := 13, ground := Ground.data }, { on := 22, ground := Ground.gcOnly Departure.lateStores }], guard := none }) (v := (.agg #[.int .i64 kd, .int .i64 tr, .int .i64 (un : Nat)])) rfl (by kernel_rfl) (by kernel_rfl) (by kernel_rfl) (fun _ _ _ h => h) (Or.inl ⟨by rfl, ?_⟩) hS1 ?_
    · intro w hSw
      go_simp
    try simp only [Act.put, List.setIfInBounds_toArray, List.set_cons_zero, List.set_cons_succ]
    refine wpAnyH_take (i := 17) (oi := { dst := some 57, op := Op.extract (Operand.tmp 40) 3, type := 34, pos := "law.go:71", after := #[{ on := 13, ground := Ground.data }, { on := 23, ground := Ground.gcOnly Departure.lateStores }], guard := none }) (v := (.int .i64 E)) rfl (by kernel_rfl) (by kernel_rfl) (by kernel_rfl) (fun _ _ _ h => h) (Or.inl ⟨by rfl, ?_⟩) hS1 ?_
    · intro w hSw
      go_simp
    try simp only [Act.put, List.setIfInBounds_toArray, List.set_cons_zero, List.set_cons_succ]
    exact nd2an t W z c pc vs vk m fuel E kd tr un pc2 st2 ca2 b2 HC HQ X1 hX2 a (by rw [hb1.block _ la]; exact oa) ga n (by rw [hb1.block _ ln]; exact on) gn dan q vn vc2 va hq1 (hn.below hb1) (fun j hj => by have := fb j hj; omega) (by omega) (by omega) us uk ub hs1 hk1 hu1 (fun hne j hj => by have := sees_lt hs1 hne j hj; have := fu1 j hj; omega) (fun hne j hj => by have := sees_lt hk1 hne j hj; have := fk1 j hj; omega) (fun hne j hj => by have h3 := seesN_lt hu1 hne j hj; rcases nb with h2 | h2; (· rw [h2] at hj; have := fb j hj; omega); (· have := h2 j hj; omega)) _ _ _ (by kernel_rfl)
  · go_simp
    try go_wp2_with fail
    have hb1 : Below X.heap.size X (X.alloc (.cells #[.int .i64 0, .int .i64 0, .int .i64 0] 33)) := below_alloc X _
    have hz1 : (X.alloc (.cells #[.int .i64 0, .int .i64 0, .int .i64 0] 33)).heap.size = X.heap.size + 1 := by simp
    have hX2 : Below W.heap.size W (X.alloc (.cells #[.int .i64 0, .int .i64 0, .int .i64 0] 33)) := hX.trans (hb1.mono hsz)
    have hq1 : (X.alloc (.cells #[.int .i64 0, .int .i64 0, .int .i64 0] 33)).cell? ⟨q, 0, none⟩ = some (.slice va vn vc2) := (hb1.cell (p := ⟨q, 0, none⟩) hql).trans hq
    refine hK.out _ _ ⟨hX2, hq1⟩ (fun _ => ?_)
    clear hK K
    try simp only [Act.put, List.setIfInBounds_toArray, List.set_cons_zero, List.set_cons_succ]
    exact nd1any t W z c pc vs vk m fuel E kd tr un pc2 st2 ca2 b2 HC HQ (X.alloc (.cells #[.int .i64 0, .int .i64 0, .int .i64 0] 33)) hX2 a (by rw [heap_alloc_old X _ la]; exact oa) ga n (by rw [heap_alloc_old X _ ln]; exact on) gn X.heap.size (heap_alloc_new X _) hsz dan (by omega) (by omega) q vn vc2 va hq1 (hn.below hb1) (fun j hj => by have := fb j hj; omega) (by omega) (by omega) (by omega) _ _ _ _ _ _ _ _ (by kernel_rfl)

set_option maxHeartbeats 8000000 in
theorem nd1ay {Q : Exit → Act → World → Prop} (t : Nat → Value) (W : World) (z : Nat) (c : Value) (pc : Int) (vs vk : Value) (m : ByteArray) (fuel E kd tr : Int) (un : Nat) (pc2 : Int) (st2 ca2 : List Int) (b2 : List Nat) (HC : CtxR W z c pc vs vk m fuel E kd tr un pc2 st2 ca2 b2) (HQ : FinR Q t W z c pc vs vk m fuel E kd tr un pc2 st2 ca2 b2) (X : World) (hX : Below W.heap.size W X) (a : Nat) (oa : X.heap[a]? = some (.cells #[.int .i64 0, .slice none 0 0, .slice none 0 0] 25 (0, 0))) (ga : W.heap.size ≤ a) (y : Nat) (oy : X.heap[y]? = some (.cells #[.int .i64 0, .int .i64 0, .int .i64 0] 33 (0, 0))) (gy : W.heap.size ≤ y) (day : a ≠ y) (q vn vc2 : Nat) (va : Option Addr) (hq : X.cell? ⟨q, 0, none⟩ = some (.slice va vn vc2)) (hn : SeesN .u8 X (.slice va vn vc2) (bytesOf m)) (fb : ∀ j, (Value.slice va vn vc2).ownBlock = some j → W.heap.size ≤ j ∧ j < X.heap.size ∧ j ≠ a ∧ j ≠ y) (ea : q ≠ a) (ey : q ≠ y) (v11 v13 v40 v53 v54 v55 v56 v57 : Value) (listed : Array Bool) (hl : listed = #[true, true, true, true, true, true, true, true, true, true, true, true, false, false, false, false, false, false, true, false, true, false, false, false, false]) :
    wpAnyH Tryd.prog .any opsR (NoPanic Q) (S1 W q (.slice va vn vc2)) 11 listed { tmps := #[t 0, .int .i64 fuel, .pointer (some ⟨z, 0, none⟩), t 3, t 4, t 5, t 6, t 7, t 8, t 9, .pointer (some ⟨a, 0, none⟩), v11, .pointer (some ⟨y, 0, none⟩), v13, t 14, t 15, t 16, t 17, t 18, t 19, t 20, t 21, t 22, t 23, t 24, t 25, t 26, t 27, t 28, t 29, t 30, t 31, t 32, t 33, t 34, t 35, t 36, t 37, t 38, t 39, v40, .pointer (some ⟨z, 0, none⟩), c, .pointer (some ⟨z, 1, none⟩), .agg #[.int .i64 pc, vs, vk], .pointer (some ⟨z, 4, none⟩), .string m, .pointer (some ⟨q, 0, none⟩), .pointer (some ⟨q, 0, none⟩), .pointer (some ⟨q, 0, none⟩), .slice va vn vc2, .agg #[.slice va vn vc2], .int .i64 fuel, v53, v54, v55, v56, v57, t 58, t 59, t 60, t 61, t 62, t 63, t 64, t 65, t 66, t 67, t 68, t 69, t 70, t 71, t 72, t 73, t 74, t 75, t 76, t 77, t 78, t 79, t 80, t 81, t 82, t 83, t 84, t 85, t 86, t 87, t 88, t 89, t 90, t 91, t 92, t 93, t 94, t 95, t 96, t 97, t 98, t 99, t 100, t 101, t 102, t 103, t 104, t 105, t 106, t 107, t 108], defers := [] } X := by
  subst hl
  dsimp only
  have hsz := hX.size
  have hSX : (S1 W q (.slice va vn vc2)) X := ⟨hX, hq⟩
  have hql := World.block_lt_of_cell? X _ hq
  simp only at hql
  have la := (Array.getElem?_eq_some_iff.1 oa).1
  have ly := (Array.getElem?_eq_some_iff.1 oy).1
  refine wpAnyH_ready (rs := [12, 19]) (by kernel_rfl) (by simp) ?_
  refine (AllReadyH.cons (o := { dst := some 53, op := Op.call { callee := Callee.value (Operand.func 14), args := #[Operand.tmp 42, Operand.tmp 44, Operand.tmp 51, Operand.tmp 52], argTypes := #[22, 25, 39, 3] }, type := 40, pos := "law.go:71", after := #[{ on := 1, ground := Ground.data }, { on := 3, ground := Ground.data }, { on := 10, ground := Ground.data }, { on := 11, ground := Ground.data }, { on := 6, ground := Ground.chain }], guard := none }) rfl (fun K hK => ?_) (AllReadyH.cons (o := { dst := some 11, op := Op.alloc 39, type := 0, pos := "law.go:71", after := #[], guard := none }) rfl (fun K hK => ?_) AllReadyH.nil))
  · go_simp
    refine (HC.doc (.slice va vn vc2) X hX hn).mono ?_
    rintro e X1 ⟨us, uk, ub, rfl, hs1, hk1, hu1, hb1, fu1, fk1, nb⟩
    try go_wp2_with fail
    have hX1 := hb1.size
    have hX2 : Below W.heap.size W X1 := hX.trans (hb1.mono hsz)
    have hq1 : X1.cell? ⟨q, 0, none⟩ = some (.slice va vn vc2) := (hb1.cell (p := ⟨q, 0, none⟩) hql).trans hq
    refine hK.out _ _ ⟨hX2, hq1⟩ (fun _ => ?_)
    clear hK K
    try simp only [Act.put, List.setIfInBounds_toArray, List.set_cons_zero, List.set_cons_succ]
    have hS1 : S1 W q (.slice va vn vc2) X1 := ⟨hX2, hq1⟩
    refine wpAnyH_take (i := 13) (oi := { dst := some 40, op := Op.move (Operand.tmp 53), type := 40, pos := "law.go:71", after := #[{ on := 12, ground := Ground.data }], guard := none }) (v := (.tuple #[.agg #[.int .i64 pc2, us, uk], .agg #[ub], .agg #[.int .i64 kd, .int .i64 tr, .int .i64 (un : Nat)], .int .i64 E])) rfl (by kernel_rfl) (by kernel_rfl) (by kernel_rfl) (fun _ _ _ h => h) (Or.inl ⟨by rfl, ?_⟩) hS1 ?_
    · intro w hSw
      go_simp
    try simp only [Act.put, List.setIfInBounds_toArray, List.set_cons_zero, List.set_cons_succ]
    refine wpAnyH_take (i := 14) (oi := { dst := some 54, op := Op.extract (Operand.tmp 40) 0, type := 25, pos := "law.go:71", after := #[{ on := 13, ground := Ground.data }], guard := none }) (v := (.agg #[.int .i64 pc2, us, uk])) rfl (by kernel_rfl) (by kernel_rfl) (by kernel_rfl) (fun _ _ _ h => h) (Or.inl ⟨by rfl, ?_⟩) hS1 ?_
    · intro w hSw
      go_simp
    try simp only [Act.put, List.setIfInBounds_toArray, List.set_cons_zero, List.set_cons_succ]
    refine wpAnyH_take (i := 15) (oi := { dst := some 55, op := Op.extract (Operand.tmp 40) 1, type := 39, pos := "law.go:71", after := #[{ on := 13, ground := Ground.data }, { on := 21, ground := Ground.gcOnly Departure.lateStores }], guard := none }) (v := (.agg #[ub])) rfl (by kernel_rfl) (by kernel_rfl) (by kernel_rfl) (fun _ _ _ h => h) (Or.inl ⟨by rfl, ?_⟩) hS1 ?_
    · intro w hSw
      go_simp
    try simp only [Act.put, List.setIfInBounds_toArray, List.set_cons_zero, List.set_cons_succ]
    refine wpAnyH_take (i := 16) (oi := { dst := some 56, op := Op.extract (Operand.tmp 40) 2, type := 33, pos := "law.go:71", after := #[{ on := 13, ground := Ground.data }, { on := 22, ground := Ground.gcOnly Departure.lateStores }], guard := none }) (v := (.agg #[.int .i64 kd, .int .i64 tr, .int .i64 (un : Nat)])) rfl (by kernel_rfl) (by kernel_rfl) (by kernel_rfl) (fun _ _ _ h => h) (Or.inl ⟨by rfl, ?_⟩) hS1 ?_
    · intro w hSw
      go_simp
    try simp only [Act.put, List.setIfInBounds_toArray, List.set_cons_zero, List.set_cons_succ]
    refine wpAnyH_take (i := 17) (oi := { dst := some 57, op := Op.extract (Operand.tmp 40) 3, type := 34, pos := "law.go:71", after := #[{ on := 13, ground := Ground.data }, { on := 23, ground := Ground.gcOnly Departure.lateStores }], guard := none }) (v := (.int .i64 E)) rfl (by kernel_rfl) (by kernel_rfl) (by kernel_rfl) (fun _ _ _ h => h) (Or.inl ⟨by rfl, ?_⟩) hS1 ?_
    · intro w hSw
      go_simp
    try simp only [Act.put, List.setIfInBounds_toArray, List.set_cons_zero, List.set_cons_succ]
    exact nd2ay t W z c pc vs vk m fuel E kd tr un pc2 st2 ca2 b2 HC HQ X1 hX2 a (by rw [hb1.block _ la]; exact oa) ga y (by rw [hb1.block _ ly]; exact oy) gy day q vn vc2 va hq1 (hn.below hb1) (fun j hj => by have := fb j hj; omega) (by omega) (by omega) us uk ub hs1 hk1 hu1 (fun hne j hj => by have := sees_lt hs1 hne j hj; have := fu1 j hj; omega) (fun hne j hj => by have := sees_lt hk1 hne j hj; have := fk1 j hj; omega) (fun hne j hj => by have h3 := seesN_lt hu1 hne j hj; rcases nb with h2 | h2; (· rw [h2] at hj; have := fb j hj; omega); (· have := h2 j hj; omega)) _ _ _ (by kernel_rfl)
  · go_simp
    try go_wp2_with fail
    have hb1 : Below X.heap.size X (X.alloc (.cells #[.slice none 0 0] 39)) := below_alloc X _
    have hz1 : (X.alloc (.cells #[.slice none 0 0] 39)).heap.size = X.heap.size + 1 := by simp
    have hX2 : Below W.heap.size W (X.alloc (.cells #[.slice none 0 0] 39)) := hX.trans (hb1.mono hsz)
    have hq1 : (X.alloc (.cells #[.slice none 0 0] 39)).cell? ⟨q, 0, none⟩ = some (.slice va vn vc2) := (hb1.cell (p := ⟨q, 0, none⟩) hql).trans hq
    refine hK.out _ _ ⟨hX2, hq1⟩ (fun _ => ?_)
    clear hK K
    try simp only [Act.put, List.setIfInBounds_toArray, List.set_cons_zero, List.set_cons_succ]
    exact nd1any t W z c pc vs vk m fuel E kd tr un pc2 st2 ca2 b2 HC HQ (X.alloc (.cells #[.slice none 0 0] 39)) hX2 a (by rw [heap_alloc_old X _ la]; exact oa) ga X.heap.size (heap_alloc_new X _) hsz y (by rw [heap_alloc_old X _ ly]; exact oy) gy (by omega) day (by omega) q vn vc2 va hq1 (hn.below hb1) (fun j hj => by have := fb j hj; omega) (by omega) (by omega) (by omega) _ _ _ _ _ _ _ _ (by kernel_rfl)

set_option maxHeartbeats 8000000 in
theorem nd1ny {Q : Exit → Act → World → Prop} (t : Nat → Value) (W : World) (z : Nat) (c : Value) (pc : Int) (vs vk : Value) (m : ByteArray) (fuel E kd tr : Int) (un : Nat) (pc2 : Int) (st2 ca2 : List Int) (b2 : List Nat) (HC : CtxR W z c pc vs vk m fuel E kd tr un pc2 st2 ca2 b2) (HQ : FinR Q t W z c pc vs vk m fuel E kd tr un pc2 st2 ca2 b2) (X : World) (hX : Below W.heap.size W X) (n : Nat) (on : X.heap[n]? = some (.cells #[.slice none 0 0] 39 (0, 0))) (gn : W.heap.size ≤ n) (y : Nat) (oy : X.heap[y]? = some (.cells #[.int .i64 0, .int .i64 0, .int .i64 0] 33 (0, 0))) (gy : W.heap.size ≤ y) (dny : n ≠ y) (q vn vc2 : Nat) (va : Option Addr) (hq : X.cell? ⟨q, 0, none⟩ = some (.slice va vn vc2)) (hn : SeesN .u8 X (.slice va vn vc2) (bytesOf m)) (fb : ∀ j, (Value.slice va vn vc2).ownBlock = some j → W.heap.size ≤ j ∧ j < X.heap.size ∧ j ≠ n ∧ j ≠ y) (en : q ≠ n) (ey : q ≠ y) (v10 v13 v40 v53 v54 v55 v56 v57 : Value) (listed : Array Bool) (hl : listed = #[true, true, true, true, true, true, true, true, true, true, true, true, false, false, false, false, false, false, false, true, true, false, false, false, false]) :
    wpAnyH Tryd.prog .any opsR (NoPanic Q) (S1 W q (.slice va vn vc2)) 11 listed { tmps := #[t 0, .int .i64 fuel, .pointer (some ⟨z, 0, none⟩), t 3, t 4, t 5, t 6, t 7, t 8, t 9, v10, .pointer (some ⟨n, 0, none⟩), .pointer (some ⟨y, 0, none⟩), v13, t 14, t 15, t 16, t 17, t 18, t 19, t 20, t 21, t 22, t 23, t 24, t 25, t 26, t 27, t 28, t 29, t 30, t 31, t 32, t 33, t 34, t 35, t 36, t 37, t 38, t 39, v40, .pointer (some ⟨z, 0, none⟩), c, .pointer (some ⟨z, 1, none⟩), .agg #[.int .i64 pc, vs, vk], .pointer (some ⟨z, 4, none⟩), .string m, .pointer (some ⟨q, 0, none⟩), .pointer (some ⟨q, 0, none⟩), .pointer (some ⟨q, 0, none⟩), .slice va vn vc2, .agg #[.slice va vn vc2], .int .i64 fuel, v53, v54, v55, v56, v57, t 58, t 59, t 60, t 61, t 62, t 63, t 64, t 65, t 66, t 67, t 68, t 69, t 70, t 71, t 72, t 73, t 74, t 75, t 76, t 77, t 78, t 79, t 80, t 81, t 82, t 83, t 84, t 85, t 86, t 87, t 88, t 89, t 90, t 91, t 92, t 93, t 94, t 95, t 96, t 97, t 98, t 99, t 100, t 101, t 102, t 103, t 104, t 105, t 106, t 107, t 108], defers := [] } X := by
  subst hl
  dsimp only
  have hsz := hX.size
  have hSX : (S1 W q (.slice va vn vc2)) X := ⟨hX, hq⟩
  have hql := World.block_lt_of_cell? X _ hq
  simp only at hql
  have ln := (Array.getElem?_eq_some_iff.1 on).1
  have ly := (Array.getElem?_eq_some_iff.1 oy).1
  refine wpAnyH_ready (rs := [12, 18]) (by kernel_rfl) (by simp) ?_
  refine (AllReadyH.cons (o := { dst := some 53, op := Op.call { callee := Callee.value (Operand.func 14), args := #[Operand.tmp 42, Operand.tmp 44, Operand.tmp 51, Operand.tmp 52], argTypes := #[22, 25, 39, 3] }, type := 40, pos := "law.go:71", after := #[{ on := 1, ground := Ground.data }, { on := 3, ground := Ground.data }, { on := 10, ground := Ground.data }, { on := 11, ground := Ground.data }, { on := 6, ground := Ground.chain }], guard := none }) rfl (fun K hK => ?_) (AllReadyH.cons (o := { dst := some 10, op := Op.alloc 25, type := 0, pos := "law.go:71", after := #[], guard := none }) rfl (fun K hK => ?_) AllReadyH.nil))
  · go_simp
    refine (HC.doc (.slice va vn vc2) X hX hn).mono ?_
    rintro e X1 ⟨us, uk, ub, rfl, hs1, hk1, hu1, hb1, fu1, fk1, nb⟩
    try go_wp2_with fail
    have hX1 := hb1.size
    have hX2 : Below W.heap.size W X1 := hX.trans (hb1.mono hsz)
    have hq1 : X1.cell? ⟨q, 0, none⟩ = some (.slice va vn vc2) := (hb1.cell (p := ⟨q, 0, none⟩) hql).trans hq
    refine hK.out _ _ ⟨hX2, hq1⟩ (fun _ => ?_)
    clear hK K
    try simp only [Act.put, List.setIfInBounds_toArray, List.set_cons_zero, List.set_cons_succ]
    have hS1 : S1 W q (.slice va vn vc2) X1 := ⟨hX2, hq1⟩
    refine wpAnyH_take (i := 13) (oi := { dst := some 40, op := Op.move (Operand.tmp 53), type := 40, pos := "law.go:71", after := #[{ on := 12, ground := Ground.data }], guard := none }) (v := (.tuple #[.agg #[.int .i64 pc2, us, uk], .agg #[ub], .agg #[.int .i64 kd, .int .i64 tr, .int .i64 (un : Nat)], .int .i64 E])) rfl (by kernel_rfl) (by kernel_rfl) (by kernel_rfl) (fun _ _ _ h => h) (Or.inl ⟨by rfl, ?_⟩) hS1 ?_
    · intro w hSw
      go_simp
    try simp only [Act.put, List.setIfInBounds_toArray, List.set_cons_zero, List.set_cons_succ]
    refine wpAnyH_take (i := 14) (oi := { dst := some 54, op := Op.extract (Operand.tmp 40) 0, type := 25, pos := "law.go:71", after := #[{ on := 13, ground := Ground.data }], guard := none }) (v := (.agg #[.int .i64 pc2, us, uk])) rfl (by kernel_rfl) (by kernel_rfl) (by kernel_rfl) (fun _ _ _ h => h) (Or.inl ⟨by rfl, ?_⟩) hS1 ?_
    · intro w hSw
      go_simp
    try simp only [Act.put, List.setIfInBounds_toArray, List.set_cons_zero, List.set_cons_succ]
    refine wpAnyH_take (i := 15) (oi := { dst := some 55, op := Op.extract (Operand.tmp 40) 1, type := 39, pos := "law.go:71", after := #[{ on := 13, ground := Ground.data }, { on := 21, ground := Ground.gcOnly Departure.lateStores }], guard := none }) (v := (.agg #[ub])) rfl (by kernel_rfl) (by kernel_rfl) (by kernel_rfl) (fun _ _ _ h => h) (Or.inl ⟨by rfl, ?_⟩) hS1 ?_
    · intro w hSw
      go_simp
    try simp only [Act.put, List.setIfInBounds_toArray, List.set_cons_zero, List.set_cons_succ]
    refine wpAnyH_take (i := 16) (oi := { dst := some 56, op := Op.extract (Operand.tmp 40) 2, type := 33, pos := "law.go:71", after := #[{ on := 13, ground := Ground.data }, { on := 22, ground := Ground.gcOnly Departure.lateStores }], guard := none }) (v := (.agg #[.int .i64 kd, .int .i64 tr, .int .i64 (un : Nat)])) rfl (by kernel_rfl) (by kernel_rfl) (by kernel_rfl) (fun _ _ _ h => h) (Or.inl ⟨by rfl, ?_⟩) hS1 ?_
    · intro w hSw
      go_simp
    try simp only [Act.put, List.setIfInBounds_toArray, List.set_cons_zero, List.set_cons_succ]
    refine wpAnyH_take (i := 17) (oi := { dst := some 57, op := Op.extract (Operand.tmp 40) 3, type := 34, pos := "law.go:71", after := #[{ on := 13, ground := Ground.data }, { on := 23, ground := Ground.gcOnly Departure.lateStores }], guard := none }) (v := (.int .i64 E)) rfl (by kernel_rfl) (by kernel_rfl) (by kernel_rfl) (fun _ _ _ h => h) (Or.inl ⟨by rfl, ?_⟩) hS1 ?_
    · intro w hSw
      go_simp
    try simp only [Act.put, List.setIfInBounds_toArray, List.set_cons_zero, List.set_cons_succ]
    exact nd2ny t W z c pc vs vk m fuel E kd tr un pc2 st2 ca2 b2 HC HQ X1 hX2 n (by rw [hb1.block _ ln]; exact on) gn y (by rw [hb1.block _ ly]; exact oy) gy dny q vn vc2 va hq1 (hn.below hb1) (fun j hj => by have := fb j hj; omega) (by omega) (by omega) us uk ub hs1 hk1 hu1 (fun hne j hj => by have := sees_lt hs1 hne j hj; have := fu1 j hj; omega) (fun hne j hj => by have := sees_lt hk1 hne j hj; have := fk1 j hj; omega) (fun hne j hj => by have h3 := seesN_lt hu1 hne j hj; rcases nb with h2 | h2; (· rw [h2] at hj; have := fb j hj; omega); (· have := h2 j hj; omega)) _ _ _ (by kernel_rfl)
  · go_simp
    try go_wp2_with fail
    have hb1 : Below X.heap.size X (X.alloc (.cells #[.int .i64 0, .slice none 0 0, .slice none 0 0] 25)) := below_alloc X _
    have hz1 : (X.alloc (.cells #[.int .i64 0, .slice none 0 0, .slice none 0 0] 25)).heap.size = X.heap.size + 1 := by simp
    have hX2 : Below W.heap.size W (X.alloc (.cells #[.int .i64 0, .slice none 0 0, .slice none 0 0] 25)) := hX.trans (hb1.mono hsz)
    have hq1 : (X.alloc (.cells #[.int .i64 0, .slice none 0 0, .slice none 0 0] 25)).cell? ⟨q, 0, none⟩ = some (.slice va vn vc2) := (hb1.cell (p := ⟨q, 0, none⟩) hql).trans hq
    refine hK.out _ _ ⟨hX2, hq1⟩ (fun _ => ?_)
    clear hK K
    try simp only [Act.put, List.setIfInBounds_toArray, List.set_cons_zero, List.set_cons_succ]
    exact nd1any t W z c pc vs vk m fuel E kd tr un pc2 st2 ca2 b2 HC HQ (X.alloc (.cells #[.int .i64 0, .slice none 0 0, .slice none 0 0] 25)) hX2 X.heap.size (heap_alloc_new X _) hsz n (by rw [heap_alloc_old X _ ln]; exact on) gn y (by rw [heap_alloc_old X _ ly]; exact oy) gy (by omega) (by omega) dny q vn vc2 va hq1 (hn.below hb1) (fun j hj => by have := fb j hj; omega) (by omega) (by omega) (by omega) _ _ _ _ _ _ _ _ (by kernel_rfl)

set_option maxHeartbeats 8000000 in
theorem nd1a {Q : Exit → Act → World → Prop} (t : Nat → Value) (W : World) (z : Nat) (c : Value) (pc : Int) (vs vk : Value) (m : ByteArray) (fuel E kd tr : Int) (un : Nat) (pc2 : Int) (st2 ca2 : List Int) (b2 : List Nat) (HC : CtxR W z c pc vs vk m fuel E kd tr un pc2 st2 ca2 b2) (HQ : FinR Q t W z c pc vs vk m fuel E kd tr un pc2 st2 ca2 b2) (X : World) (hX : Below W.heap.size W X) (a : Nat) (oa : X.heap[a]? = some (.cells #[.int .i64 0, .slice none 0 0, .slice none 0 0] 25 (0, 0))) (ga : W.heap.size ≤ a) (q vn vc2 : Nat) (va : Option Addr) (hq : X.cell? ⟨q, 0, none⟩ = some (.slice va vn vc2)) (hn : SeesN .u8 X (.slice va vn vc2) (bytesOf m)) (fb : ∀ j, (Value.slice va vn vc2).ownBlock = some j → W.heap.size ≤ j ∧ j < X.heap.size ∧ j ≠ a) (ea : q ≠ a) (v11 v12 v13 v40 v53 v54 v55 v56 v57 : Value) (listed : Array Bool) (hl : listed = #[true, true, true, true, true, true, true, true, true, true, true, true, false, false, false, false, false, false, true, false, false, false, false, false, false]) :
    wpAnyH Tryd.prog .any opsR (NoPanic Q) (S1 W q (.slice va vn vc2)) 12 listed { tmps := #[t 0, .int .i64 fuel, .pointer (some ⟨z, 0, none⟩), t 3, t 4, t 5, t 6, t 7, t 8, t 9, .pointer (some ⟨a, 0, none⟩), v11, v12, v13, t 14, t 15, t 16, t 17, t 18, t 19, t 20, t 21, t 22, t 23, t 24, t 25, t 26, t 27, t 28, t 29, t 30, t 31, t 32, t 33, t 34, t 35, t 36, t 37, t 38, t 39, v40, .pointer (some ⟨z, 0, none⟩), c, .pointer (some ⟨z, 1, none⟩), .agg #[.int .i64 pc, vs, vk], .pointer (some ⟨z, 4, none⟩), .string m, .pointer (some ⟨q, 0, none⟩), .pointer (some ⟨q, 0, none⟩), .pointer (some ⟨q, 0, none⟩), .slice va vn vc2, .agg #[.slice va vn vc2], .int .i64 fuel, v53, v54, v55, v56, v57, t 58, t 59, t 60, t 61, t 62, t 63, t 64, t 65, t 66, t 67, t 68, t 69, t 70, t 71, t 72, t 73, t 74, t 75, t 76, t 77, t 78, t 79, t 80, t 81, t 82, t 83, t 84, t 85, t 86, t 87, t 88, t 89, t 90, t 91, t 92, t 93, t 94, t 95, t 96, t 97, t 98, t 99, t 100, t 101, t 102, t 103, t 104, t 105, t 106, t 107, t 108], defers := [] } X := by
  subst hl
  dsimp only
  have hsz := hX.size
  have hSX : (S1 W q (.slice va vn vc2)) X := ⟨hX, hq⟩
  have hql := World.block_lt_of_cell? X _ hq
  simp only at hql
  have la := (Array.getElem?_eq_some_iff.1 oa).1
  refine wpAnyH_ready (rs := [12, 19, 20]) (by kernel_rfl) (by simp) ?_
  refine (AllReadyH.cons (o := { dst := some 53, op := Op.call { callee := Callee.value (Operand.func 14), args := #[Operand.tmp 42, Operand.tmp 44, Operand.tmp 51, Operand.tmp 52], argTypes := #[22, 25, 39, 3] }, type := 40, pos := "law.go:71", after := #[{ on := 1, ground := Ground.data }, { on := 3, ground := Ground.data }, { on := 10, ground := Ground.data }, { on := 11, ground := Ground.data }, { on := 6, ground := Ground.chain }], guard := none }) rfl (fun K hK => ?_) (AllReadyH.cons (o := { dst := some 11, op := Op.alloc 39, type := 0, pos := "law.go:71", after := #[], guard := none }) rfl (fun K hK => ?_) (AllReadyH.cons (o := { dst := some 12, op := Op.alloc 33, type := 0, pos := "law.go:71", after := #[], guard := none }) rfl (fun K hK => ?_) AllReadyH.nil)))
  · go_simp
    refine (HC.doc (.slice va vn vc2) X hX hn).mono ?_
    rintro e X1 ⟨us, uk, ub, rfl, hs1, hk1, hu1, hb1, fu1, fk1, nb⟩
    try go_wp2_with fail
    have hX1 := hb1.size
    have hX2 : Below W.heap.size W X1 := hX.trans (hb1.mono hsz)
    have hq1 : X1.cell? ⟨q, 0, none⟩ = some (.slice va vn vc2) := (hb1.cell (p := ⟨q, 0, none⟩) hql).trans hq
    refine hK.out _ _ ⟨hX2, hq1⟩ (fun _ => ?_)
    clear hK K
    try simp only [Act.put, List.setIfInBounds_toArray, List.set_cons_zero, List.set_cons_succ]
    have hS1 : S1 W q (.slice va vn vc2) X1 := ⟨hX2, hq1⟩
    refine wpAnyH_take (i := 13) (oi := { dst := some 40, op := Op.move (Operand.tmp 53), type := 40, pos := "law.go:71", after := #[{ on := 12, ground := Ground.data }], guard := none }) (v := (.tuple #[.agg #[.int .i64 pc2, us, uk], .agg #[ub], .agg #[.int .i64 kd, .int .i64 tr, .int .i64 (un : Nat)], .int .i64 E])) rfl (by kernel_rfl) (by kernel_rfl) (by kernel_rfl) (fun _ _ _ h => h) (Or.inl ⟨by rfl, ?_⟩) hS1 ?_
    · intro w hSw
      go_simp
    try simp only [Act.put, List.setIfInBounds_toArray, List.set_cons_zero, List.set_cons_succ]
    refine wpAnyH_take (i := 14) (oi := { dst := some 54, op := Op.extract (Operand.tmp 40) 0, type := 25, pos := "law.go:71", after := #[{ on := 13, ground := Ground.data }], guard := none }) (v := (.agg #[.int .i64 pc2, us, uk])) rfl (by kernel_rfl) (by kernel_rfl) (by kernel_rfl) (fun _ _ _ h => h) (Or.inl ⟨by rfl, ?_⟩) hS1 ?_
    · intro w hSw
      go_simp
    try simp only [Act.put, List.setIfInBounds_toArray, List.set_cons_zero, List.set_cons_succ]
    refine wpAnyH_take (i := 15) (oi := { dst := some 55, op := Op.extract (Operand.tmp 40) 1, type := 39, pos := "law.go:71", after := #[{ on := 13, ground := Ground.data }, { on := 21, ground := Ground.gcOnly Departure.lateStores }], guard := none }) (v := (.agg #[ub])) rfl (by kernel_rfl) (by kernel_rfl) (by kernel_rfl) (fun _ _ _ h => h) (Or.inl ⟨by rfl, ?_⟩) hS1 ?_
    · intro w hSw
      go_simp
    try simp only [Act.put, List.setIfInBounds_toArray, List.set_cons_zero, List.set_cons_succ]
    refine wpAnyH_take (i := 16) (oi := { dst := some 56, op := Op.extract (Operand.tmp 40) 2, type := 33, pos := "law.go:71", after := #[{ on := 13, ground := Ground.data }, { on := 22, ground := Ground.gcOnly Departure.lateStores }], guard := none }) (v := (.agg #[.int .i64 kd, .int .i64 tr, .int .i64 (un : Nat)])) rfl (by kernel_rfl) (by kernel_rfl) (by kernel_rfl) (fun _ _ _ h => h) (Or.inl ⟨by rfl, ?_⟩) hS1 ?_
    · intro w hSw
      go_simp
    try simp only [Act.put, List.setIfInBounds_toArray, List.set_cons_zero, List.set_cons_succ]
    refine wpAnyH_take (i := 17) (oi := { dst := some 57, op := Op.extract (Operand.tmp 40) 3, type := 34, pos := "law.go:71", after := #[{ on := 13, ground := Ground.data }, { on := 23, ground := Ground.gcOnly Departure.lateStores }], guard := none }) (v := (.int .i64 E)) rfl (by kernel_rfl) (by kernel_rfl) (by kernel_rfl) (fun _ _ _ h => h) (Or.inl ⟨by rfl, ?_⟩) hS1 ?_
    · intro w hSw
      go_simp
    try simp only [Act.put, List.setIfInBounds_toArray, List.set_cons_zero, List.set_cons_succ]
    exact nd2a t W z c pc vs vk m fuel E kd tr un pc2 st2 ca2 b2 HC HQ X1 hX2 a (by rw [hb1.block _ la]; exact oa) ga q vn vc2 va hq1 (hn.below hb1) (fun j hj => by have := fb j hj; omega) (by omega) us uk ub hs1 hk1 hu1 (fun hne j hj => by have := sees_lt hs1 hne j hj; have := fu1 j hj; omega) (fun hne j hj => by have := sees_lt hk1 hne j hj; have := fk1 j hj; omega) (fun hne j hj => by have h3 := seesN_lt hu1 hne j hj; rcases nb with h2 | h2; (· rw [h2] at hj; have := fb j hj; omega); (· have := h2 j hj; omega)) _ _ _ _ (by kernel_rfl)
  · go_simp
    try go_wp2_with fail
    have hb1 : Below X.heap.size X (X.alloc (.cells #[.slice none 0 0] 39)) := below_alloc X _
    have hz1 : (X.alloc (.cells #[.slice none 0 0] 39)).heap.size = X.heap.size + 1 := by simp
    have hX2 : Below W.heap.size W (X.alloc (.cells #[.slice none 0 0] 39)) := hX.trans (hb1.mono hsz)
    have hq1 : (X.alloc (.cells #[.slice none 0 0] 39)).cell? ⟨q, 0, none⟩ = some (.slice va vn vc2) := (hb1.cell (p := ⟨q, 0, none⟩) hql).trans hq
    refine hK.out _ _ ⟨hX2, hq1⟩ (fun _ => ?_)
    clear hK K
    try simp only [Act.put, List.setIfInBounds_toArray, List.set_cons_zero, List.set_cons_succ]
    exact nd1an t W z c pc vs vk m fuel E kd tr un pc2 st2 ca2 b2 HC HQ (X.alloc (.cells #[.slice none 0 0] 39)) hX2 a (by rw [heap_alloc_old X _ la]; exact oa) ga X.heap.size (heap_alloc_new X _) hsz (by omega) q vn vc2 va hq1 (hn.below hb1) (fun j hj => by have := fb j hj; omega) (by omega) (by omega) _ _ _ _ _ _ _ _ _ (by kernel_rfl)
  · go_simp
    try go_wp2_with fail
    have hb1 : Below X.heap.size X (X.alloc (.cells #[.int .i64 0, .int .i64 0, .int .i64 0] 33)) := below_alloc X _
    have hz1 : (X.alloc (.cells #[.int .i64 0, .int .i64 0, .int .i64 0] 33)).heap.size = X.heap.size + 1 := by simp
    have hX2 : Below W.heap.size W (X.alloc (.cells #[.int .i64 0, .int .i64 0, .int .i64 0] 33)) := hX.trans (hb1.mono hsz)
    have hq1 : (X.alloc (.cells #[.int .i64 0, .int .i64 0, .int .i64 0] 33)).cell? ⟨q, 0, none⟩ = some (.slice va vn vc2) := (hb1.cell (p := ⟨q, 0, none⟩) hql).trans hq
    refine hK.out _ _ ⟨hX2, hq1⟩ (fun _ => ?_)
    clear hK K
    try simp only [Act.put, List.setIfInBounds_toArray, List.set_cons_zero, List.set_cons_succ]
    exact nd1ay t W z c pc vs vk m fuel E kd tr un pc2 st2 ca2 b2 HC HQ (X.alloc (.cells #[.int .i64 0, .int .i64 0, .int .i64 0] 33)) hX2 a (by rw [heap_alloc_old X _ la]; exact oa) ga X.heap.size (heap_alloc_new X _) hsz (by omega) q vn vc2 va hq1 (hn.below hb1) (fun j hj => by have := fb j hj; omega) (by omega) (by omega) _ _ _ _ _ _ _ _ _ (by kernel_rfl)

set_option maxHeartbeats 8000000 in
theorem nd1n {Q : Exit → Act → World → Prop} (t : Nat → Value) (W : World) (z : Nat) (c : Value) (pc : Int) (vs vk : Value) (m : ByteArray) (fuel E kd tr : Int) (un : Nat) (pc2 : Int) (st2 ca2 : List Int) (b2 : List Nat) (HC : CtxR W z c pc vs vk m fuel E kd tr un pc2 st2 ca2 b2) (HQ : FinR Q t W z c pc vs vk m fuel E kd tr un pc2 st2 ca2 b2) (X : World) (hX : Below W.heap.size W X) (n : Nat) (on : X.heap[n]? = some (.cells #[.slice none 0 0] 39 (0, 0))) (gn : W.heap.size ≤ n) (q vn vc2 : Nat) (va : Option Addr) (hq : X.cell? ⟨q, 0, none⟩ = some (.slice va vn vc2)) (hn : SeesN .u8 X (.slice va vn vc2) (bytesOf m)) (fb : ∀ j, (Value.slice va vn vc2).ownBlock = some j → W.heap.size ≤ j ∧ j < X.heap.size ∧ j ≠ n) (en : q ≠ n) (v10 v12 v13 v40 v53 v54 v55 v56 v57 : Value) (listed : Array Bool) (hl : listed = #[true, true, true, true, true, true, true, true, true, true, true, true, false, false, false, false, false, false, false, true, false, false, false, false, false]) :
    wpAnyH Tryd.prog .any opsR (NoPanic Q) (S1 W q (.slice va vn vc2)) 12 listed { tmps := #[t 0, .int .i64 fuel, .pointer (some ⟨z, 0, none⟩), t 3, t 4, t 5, t 6, t 7, t 8, t 9, v10, .pointer (some ⟨n, 0, none⟩), v12, v13, t 14, t 15, t 16, t 17, t 18, t 19, t 20, t 21, t 22, t 23, t 24, t 25, t 26, t 27, t 28, t 29, t 30, t 31, t 32, t 33, t 34, t 35, t 36, t 37, t 38, t 39, v40, .pointer (some ⟨z, 0, none⟩), c, .pointer (some ⟨z, 1, none⟩), .agg #[.int .i64 pc, vs, vk], .pointer (some ⟨z, 4, none⟩), .string m, .pointer (some ⟨q, 0, none⟩), .pointer (some ⟨q, 0, none⟩), .pointer (some ⟨q, 0, none⟩), .slice va vn vc2, .agg #[.slice va vn vc2], .int .i64 fuel, v53, v54, v55, v56, v57, t 58, t 59, t 60, t 61, t 62, t 63, t 64, t 65, t 66, t 67, t 68, t 69, t 70, t 71, t 72, t 73, t 74, t 75, t 76, t 77, t 78, t 79, t 80, t 81, t 82, t 83, t 84, t 85, t 86, t 87, t 88, t 89, t 90, t 91, t 92, t 93, t 94, t 95, t 96, t 97, t 98, t 99, t 100, t 101, t 102, t 103, t 104, t 105, t 106, t 107, t 108], defers := [] } X := by
  subst hl
  dsimp only
  have hsz := hX.size
  have hSX : (S1 W q (.slice va vn vc2)) X := ⟨hX, hq⟩
  have hql := World.block_lt_of_cell? X _ hq
  simp only at hql
  have ln := (Array.getElem?_eq_some_iff.1 on).1
  refine wpAnyH_ready (rs := [12, 18, 20]) (by kernel_rfl) (by simp) ?_
  refine (AllReadyH.cons (o := { dst := some 53, op := Op.call { callee := Callee.value (Operand.func 14), args := #[Operand.tmp 42, Operand.tmp 44, Operand.tmp 51, Operand.tmp 52], argTypes := #[22, 25, 39, 3] }, type := 40, pos := "law.go:71", after := #[{ on := 1, ground := Ground.data }, { on := 3, ground := Ground.data }, { on := 10, ground := Ground.data }, { on := 11, ground := Ground.data }, { on := 6, ground := Ground.chain }], guard := none }) rfl (fun K hK => ?_) (AllReadyH.cons (o := { dst := some 10, op := Op.alloc 25, type := 0, pos := "law.go:71", after := #[], guard := none }) rfl (fun K hK => ?_) (AllReadyH.cons (o := { dst := some 12, op := Op.alloc 33, type := 0, pos := "law.go:71", after := #[], guard := none }) rfl (fun K hK => ?_) AllReadyH.nil)))
  · go_simp
    refine (HC.doc (.slice va vn vc2) X hX hn).mono ?_
    rintro e X1 ⟨us, uk, ub, rfl, hs1, hk1, hu1, hb1, fu1, fk1, nb⟩
    try go_wp2_with fail
    have hX1 := hb1.size
    have hX2 : Below W.heap.size W X1 := hX.trans (hb1.mono hsz)
    have hq1 : X1.cell? ⟨q, 0, none⟩ = some (.slice va vn vc2) := (hb1.cell (p := ⟨q, 0, none⟩) hql).trans hq
    refine hK.out _ _ ⟨hX2, hq1⟩ (fun _ => ?_)
    clear hK K
    try simp only [Act.put, List.setIfInBounds_toArray, List.set_cons_zero, List.set_cons_succ]
    have hS1 : S1 W q (.slice va vn vc2) X1 := ⟨hX2, hq1⟩
    refine wpAnyH_take (i := 13) (oi := { dst := some 40, op := Op.move (Operand.tmp 53), type := 40, pos := "law.go:71", after := #[{ on := 12, ground := Ground.data }], guard := none }) (v := (.tuple #[.agg #[.int .i64 pc2, us, uk], .agg #[ub], .agg #[.int .i64 kd, .int .i64 tr, .int .i64 (un : Nat)], .int .i64 E])) rfl (by kernel_rfl) (by kernel_rfl) (by kernel_rfl) (fun _ _ _ h => h) (Or.inl ⟨by rfl, ?_⟩) hS1 ?_
    · intro w hSw
      go_simp
    try simp only [Act.put, List.setIfInBounds_toArray, List.set_cons_zero, List.set_cons_succ]
    refine wpAnyH_take (i := 14) (oi := { dst := some 54, op := Op.extract (Operand.tmp 40) 0, type := 25, pos := "law.go:71", after := #[{ on := 13, ground := Ground.data }], guard := none }) (v := (.agg #[.int .i64 pc2, us, uk])) rfl (by kernel_rfl) (by kernel_rfl) (by kernel_rfl) (fun _ _ _ h => h) (Or.inl ⟨by rfl, ?_⟩) hS1 ?_
    · intro w hSw
      go_simp
    try simp only [Act.put, List.setIfInBounds_toArray, List.set_cons_zero, List.set_cons_succ]
    refine wpAnyH_take (i := 15) (oi := { dst := some 55, op := Op.extract (Operand.tmp 40) 1, type := 39, pos := "law.go:71", after := #[{ on := 13, ground := Ground.data }, { on := 21, ground := Ground.gcOnly Departure.lateStores }], guard := none }) (v := (.agg #[ub])) rfl (by kernel_rfl) (by kernel_rfl) (by kernel_rfl) (fun _ _ _ h => h) (Or.inl ⟨by rfl, ?_⟩) hS1 ?_
    · intro w hSw
      go_simp
    try simp only [Act.put, List.setIfInBounds_toArray, List.set_cons_zero, List.set_cons_succ]
    refine wpAnyH_take (i := 16) (oi := { dst := some 56, op := Op.extract (Operand.tmp 40) 2, type := 33, pos := "law.go:71", after := #[{ on := 13, ground := Ground.data }, { on := 22, ground := Ground.gcOnly Departure.lateStores }], guard := none }) (v := (.agg #[.int .i64 kd, .int .i64 tr, .int .i64 (un : Nat)])) rfl (by kernel_rfl) (by kernel_rfl) (by kernel_rfl) (fun _ _ _ h => h) (Or.inl ⟨by rfl, ?_⟩) hS1 ?_
    · intro w hSw
      go_simp
    try simp only [Act.put, List.setIfInBounds_toArray, List.set_cons_zero, List.set_cons_succ]
    refine wpAnyH_take (i := 17) (oi := { dst := some 57, op := Op.extract (Operand.tmp 40) 3, type := 34, pos := "law.go:71", after := #[{ on := 13, ground := Ground.data }, { on := 23, ground := Ground.gcOnly Departure.lateStores }], guard := none }) (v := (.int .i64 E)) rfl (by kernel_rfl) (by kernel_rfl) (by kernel_rfl) (fun _ _ _ h => h) (Or.inl ⟨by rfl, ?_⟩) hS1 ?_
    · intro w hSw
      go_simp
    try simp only [Act.put, List.setIfInBounds_toArray, List.set_cons_zero, List.set_cons_succ]
    exact nd2n t W z c pc vs vk m fuel E kd tr un pc2 st2 ca2 b2 HC HQ X1 hX2 n (by rw [hb1.block _ ln]; exact on) gn q vn vc2 va hq1 (hn.below hb1) (fun j hj => by have := fb j hj; omega) (by omega) us uk ub hs1 hk1 hu1 (fun hne j hj => by have := sees_lt hs1 hne j hj; have := fu1 j hj; omega) (fun hne j hj => by have := sees_lt hk1 hne j hj; have := fk1 j hj; omega) (fun hne j hj => by have h3 := seesN_lt hu1 hne j hj; rcases nb with h2 | h2; (· rw [h2] at hj; have := fb j hj; omega); (· have := h2 j hj; omega)) _ _ _ _ (by kernel_rfl)
  · go_simp
    try go_wp2_with fail
    have hb1 : Below X.heap.size X (X.alloc (.cells #[.int .i64 0, .slice none 0 0, .slice none 0 0] 25)) := below_alloc X _
    have hz1 : (X.alloc (.cells #[.int .i64 0, .slice none 0 0, .slice none 0 0] 25)).heap.size = X.heap.size + 1 := by simp
    have hX2 : Below W.heap.size W (X.alloc (.cells #[.int .i64 0, .slice none 0 0, .slice none 0 0] 25)) := hX.trans (hb1.mono hsz)
    have hq1 : (X.alloc (.cells #[.int .i64 0, .slice none 0 0, .slice none 0 0] 25)).cell? ⟨q, 0, none⟩ = some (.slice va vn vc2) := (hb1.cell (p := ⟨q, 0, none⟩) hql).trans hq
    refine hK.out _ _ ⟨hX2, hq1⟩ (fun _ => ?_)
    clear hK K
    try simp only [Act.put, List.setIfInBounds_toArray, List.set_cons_zero, List.set_cons_succ]
    exact nd1an t W z c pc vs vk m fuel E kd tr un pc2 st2 ca2 b2 HC HQ (X.alloc (.cells #[.int .i64 0, .slice none 0 0, .slice none 0 0] 25)) hX2 X.heap.size (heap_alloc_new X _) hsz n (by rw [heap_alloc_old X _ ln]; exact on) gn (by omega) q vn vc2 va hq1 (hn.below hb1) (fun j hj => by have := fb j hj; omega) (by omega) (by omega) _ _ _ _ _ _ _ _ _ (by kernel_rfl)
  · go_simp
    try go_wp2_with fail
    have hb1 : Below X.heap.size X (X.alloc (.cells #[.int .i64 0, .int .i64 0, .int .i64 0] 33)) := below_alloc X _
    have hz1 : (X.alloc (.cells #[.int .i64 0, .int .i64 0, .int .i64 0] 33)).heap.size = X.heap.size + 1 := by simp
    have hX2 : Below W.heap.size W (X.alloc (.cells #[.int .i64 0, .int .i64 0, .int .i64 0] 33)) := hX.trans (hb1.mono hsz)
    have hq1 : (X.alloc (.cells #[.int .i64 0, .int .i64 0, .int .i64 0] 33)).cell? ⟨q, 0, none⟩ = some (.slice va vn vc2) := (hb1.cell (p := ⟨q, 0, none⟩) hql).trans hq
    refine hK.out _ _ ⟨hX2, hq1⟩ (fun _ => ?_)
    clear hK K
    try simp only [Act.put, List.setIfInBounds_toArray, List.set_cons_zero, List.set_cons_succ]
    exact nd1ny t W z c pc vs vk m fuel E kd tr un pc2 st2 ca2 b2 HC HQ (X.alloc (.cells #[.int .i64 0, .int .i64 0, .int .i64 0] 33)) hX2 n (by rw [heap_alloc_old X _ ln]; exact on) gn X.heap.size (heap_alloc_new X _) hsz (by omega) q vn vc2 va hq1 (hn.below hb1) (fun j hj => by have := fb j hj; omega) (by omega) (by omega) _ _ _ _ _ _ _ _ _ (by kernel_rfl)

set_option maxHeartbeats 8000000 in
theorem nd1y {Q : Exit → Act → World → Prop} (t : Nat → Value) (W : World) (z : Nat) (c : Value) (pc : Int) (vs vk : Value) (m : ByteArray) (fuel E kd tr : Int) (un : Nat) (pc2 : Int) (st2 ca2 : List Int) (b2 : List Nat) (HC : CtxR W z c pc vs vk m fuel E kd tr un pc2 st2 ca2 b2) (HQ : FinR Q t W z c pc vs vk m fuel E kd tr un pc2 st2 ca2 b2) (X : World) (hX : Below W.heap.size W X) (y : Nat) (oy : X.heap[y]? = some (.cells #[.int .i64 0, .int .i64 0, .int .i64 0] 33 (0, 0))) (gy : W.heap.size ≤ y) (q vn vc2 : Nat) (va : Option Addr) (hq : X.cell? ⟨q, 0, none⟩ = some (.slice va vn vc2)) (hn : SeesN .u8 X (.slice va vn vc2) (bytesOf m)) (fb : ∀ j, (Value.slice va vn vc2).ownBlock = some j → W.heap.size ≤ j ∧ j < X.heap.size ∧ j ≠ y) (ey : q ≠ y) (v10 v11 v13 v40 v53 v54 v55 v56 v57 : Value) (listed : Array Bool) (hl : listed = #[true, true, true, true, true, true, true, true, true, true, true, true, false, false, false, false, false, false, false, false, true, false, false, false, false]) :
    wpAnyH Tryd.prog .any opsR (NoPanic Q) (S1 W q (.slice va vn vc2)) 12 listed { tmps := #[t 0, .int .i64 fuel, .pointer (some ⟨z, 0, none⟩), t 3, t 4, t 5, t 6, t 7, t 8, t 9, v10, v11, .pointer (some ⟨y, 0, none⟩), v13, t 14, t 15, t 16, t 17, t 18, t 19, t 20, t 21, t 22, t 23, t 24, t 25, t 26, t 27, t 28, t 29, t 30, t 31, t 32, t 33, t 34, t 35, t 36, t 37, t 38, t 39, v40, .pointer (some ⟨z, 0, none⟩), c, .pointer (some ⟨z, 1, none⟩), .agg #[.int .i64 pc, vs, vk], .pointer (some ⟨z, 4, none⟩), .string m, .pointer (some ⟨q, 0, none⟩), .pointer (some ⟨q, 0, none⟩), .pointer (some ⟨q, 0, none⟩), .slice va vn vc2, .agg #[.slice va vn vc2], .int .i64 fuel, v53, v54, v55, v56, v57, t 58, t 59, t 60, t 61, t 62, t 63, t 64, t 65, t 66, t 67, t 68, t 69, t 70, t 71, t 72, t 73, t 74, t 75, t 76, t 77, t 78, t 79, t 80, t 81, t 82, t 83, t 84, t 85, t 86, t 87, t 88, t 89, t 90, t 91, t 92, t 93, t 94, t 95, t 96, t 97, t 98, t 99, t 100, t 101, t 102, t 103, t 104, t 105, t 106, t 107, t 108], defers := [] } X := by
  subst hl
  dsimp only
  have hsz := hX.size
  have hSX : (S1 W q (.slice va vn vc2)) X := ⟨hX, hq⟩
  have hql := World.block_lt_of_cell? X _ hq
  simp only at hql
  have ly := (Array.getElem?_eq_some_iff.1 oy).1
  refine wpAnyH_ready (rs := [12, 18, 19]) (by kernel_rfl) (by simp) ?_
  refine (AllReadyH.cons (o := { dst := some 53, op := Op.call { callee := Callee.value (Operand.func 14), args := #[Operand.tmp 42, Operand.tmp 44, Operand.tmp 51, Operand.tmp 52], argTypes := #[22, 25, 39, 3] }, type := 40, pos := "law.go:71", after := #[{ on := 1, ground := Ground.data }, { on := 3, ground := Ground.data }, { on := 10, ground := Ground.data }, { on := 11, ground := Ground.data }, { on := 6, ground := Ground.chain }], guard := none }) rfl (fun K hK => ?_) (AllReadyH.cons (o := { dst := some 10, op := Op.alloc 25, type := 0, pos := "law.go:71", after := #[], guard := none }) rfl (fun K hK => ?_) (AllReadyH.cons (o := { dst := some 11, op := Op.alloc 39, type := 0, pos := "law.go:71", after := #[], guard := none }) rfl (fun K hK => ?_) AllReadyH.nil)))
  · go_simp
    refine (HC.doc (.slice va vn vc2) X hX hn).mono ?_
    rintro e X1 ⟨us, uk, ub, rfl, hs1, hk1, hu1, hb1, fu1, fk1, nb⟩
    try go_wp2_with fail
    have hX1 := hb1.size
    have hX2 : Below W.heap.size W X1 := hX.trans (hb1.mono hsz)
    have hq1 : X1.cell? ⟨q, 0, none⟩ = some (.slice va vn vc2) := (hb1.cell (p := ⟨q, 0, none⟩) hql).trans hq
    refine hK.out _ _ ⟨hX2, hq1⟩ (fun _ => ?_)
    clear hK K
    try simp only [Act.put, List.setIfInBounds_toArray, List.set_cons_zero, List.set_cons_succ]
    have hS1 : S1 W q (.slice va vn vc2) X1 := ⟨hX2, hq1⟩
    refine wpAnyH_take (i := 13) (oi := { dst := some 40, op := Op.move (Operand.tmp 53), type := 40, pos := "law.go:71", after := #[{ on := 12, ground := Ground.data }], guard := none }) (v := (.tuple #[.agg #[.int .i64 pc2, us, uk], .agg #[ub], .agg #[.int .i64 kd, .int .i64 tr, .int .i64 (un : Nat)], .int .i64 E])) rfl (by kernel_rfl) (by kernel_rfl) (by kernel_rfl) (fun _ _ _ h => h) (Or.inl ⟨by rfl, ?_⟩) hS1 ?_
    · intro w hSw
      go_simp
    try simp only [Act.put, List.setIfInBounds_toArray, List.set_cons_zero, List.set_cons_succ]
    refine wpAnyH_take (i := 14) (oi := { dst := some 54, op := Op.extract (Operand.tmp 40) 0, type := 25, pos := "law.go:71", after := #[{ on := 13, ground := Ground.data }], guard := none }) (v := (.agg #[.int .i64 pc2, us, uk])) rfl (by kernel_rfl) (by kernel_rfl) (by kernel_rfl) (fun _ _ _ h => h) (Or.inl ⟨by rfl, ?_⟩) hS1 ?_
    · intro w hSw
      go_simp
    try simp only [Act.put, List.setIfInBounds_toArray, List.set_cons_zero, List.set_cons_succ]
    refine wpAnyH_take (i := 15) (oi := { dst := some 55, op := Op.extract (Operand.tmp 40) 1, type := 39, pos := "law.go:71", after := #[{ on := 13, ground := Ground.data }, { on := 21, ground := Ground.gcOnly Departure.lateStores }], guard := none }) (v := (.agg #[ub])) rfl (by kernel_rfl) (by kernel_rfl) (by kernel_rfl) (fun _ _ _ h => h) (Or.inl ⟨by rfl, ?_⟩) hS1 ?_
    · intro w hSw
      go_simp
    try simp only [Act.put, List.setIfInBounds_toArray, List.set_cons_zero, List.set_cons_succ]
    refine wpAnyH_take (i := 16) (oi := { dst := some 56, op := Op.extract (Operand.tmp 40) 2, type := 33, pos := "law.go:71", after := #[{ on := 13, ground := Ground.data }, { on := 22, ground := Ground.gcOnly Departure.lateStores }], guard := none }) (v := (.agg #[.int .i64 kd, .int .i64 tr, .int .i64 (un : Nat)])) rfl (by kernel_rfl) (by kernel_rfl) (by kernel_rfl) (fun _ _ _ h => h) (Or.inl ⟨by rfl, ?_⟩) hS1 ?_
    · intro w hSw
      go_simp
    try simp only [Act.put, List.setIfInBounds_toArray, List.set_cons_zero, List.set_cons_succ]
    refine wpAnyH_take (i := 17) (oi := { dst := some 57, op := Op.extract (Operand.tmp 40) 3, type := 34, pos := "law.go:71", after := #[{ on := 13, ground := Ground.data }, { on := 23, ground := Ground.gcOnly Departure.lateStores }], guard := none }) (v := (.int .i64 E)) rfl (by kernel_rfl) (by kernel_rfl) (by kernel_rfl) (fun _ _ _ h => h) (Or.inl ⟨by rfl, ?_⟩) hS1 ?_
    · intro w hSw
      go_simp
    try simp only [Act.put, List.setIfInBounds_toArray, List.set_cons_zero, List.set_cons_succ]
    exact nd2y t W z c pc vs vk m fuel E kd tr un pc2 st2 ca2 b2 HC HQ X1 hX2 y (by rw [hb1.block _ ly]; exact oy) gy q vn vc2 va hq1 (hn.below hb1) (fun j hj => by have := fb j hj; omega) (by omega) us uk ub hs1 hk1 hu1 (fun hne j hj => by have := sees_lt hs1 hne j hj; have := fu1 j hj; omega) (fun hne j hj => by have := sees_lt hk1 hne j hj; have := fk1 j hj; omega) (fun hne j hj => by have h3 := seesN_lt hu1 hne j hj; rcases nb with h2 | h2; (· rw [h2] at hj; have := fb j hj; omega); (· have := h2 j hj; omega)) _ _ _ _ (by kernel_rfl)
  · go_simp
    try go_wp2_with fail
    have hb1 : Below X.heap.size X (X.alloc (.cells #[.int .i64 0, .slice none 0 0, .slice none 0 0] 25)) := below_alloc X _
    have hz1 : (X.alloc (.cells #[.int .i64 0, .slice none 0 0, .slice none 0 0] 25)).heap.size = X.heap.size + 1 := by simp
    have hX2 : Below W.heap.size W (X.alloc (.cells #[.int .i64 0, .slice none 0 0, .slice none 0 0] 25)) := hX.trans (hb1.mono hsz)
    have hq1 : (X.alloc (.cells #[.int .i64 0, .slice none 0 0, .slice none 0 0] 25)).cell? ⟨q, 0, none⟩ = some (.slice va vn vc2) := (hb1.cell (p := ⟨q, 0, none⟩) hql).trans hq
    refine hK.out _ _ ⟨hX2, hq1⟩ (fun _ => ?_)
    clear hK K
    try simp only [Act.put, List.setIfInBounds_toArray, List.set_cons_zero, List.set_cons_succ]
    exact nd1ay t W z c pc vs vk m fuel E kd tr un pc2 st2 ca2 b2 HC HQ (X.alloc (.cells #[.int .i64 0, .slice none 0 0, .slice none 0 0] 25)) hX2 X.heap.size (heap_alloc_new X _) hsz y (by rw [heap_alloc_old X _ ly]; exact oy) gy (by omega) q vn vc2 va hq1 (hn.below hb1) (fun j hj => by have := fb j hj; omega) (by omega) (by omega) _ _ _ _ _ _ _ _ _ (by kernel_rfl)
  · go_simp
    try go_wp2_with fail
    have hb1 : Below X.heap.size X (X.alloc (.cells #[.slice none 0 0] 39)) := below_alloc X _
    have hz1 : (X.alloc (.cells #[.slice none 0 0] 39)).heap.size = X.heap.size + 1 := by simp
    have hX2 : Below W.heap.size W (X.alloc (.cells #[.slice none 0 0] 39)) := hX.trans (hb1.mono hsz)
    have hq1 : (X.alloc (.cells #[.slice none 0 0] 39)).cell? ⟨q, 0, none⟩ = some (.slice va vn vc2) := (hb1.cell (p := ⟨q, 0, none⟩) hql).trans hq
    refine hK.out _ _ ⟨hX2, hq1⟩ (fun _ => ?_)
    clear hK K
    try simp only [Act.put, List.setIfInBounds_toArray, List.set_cons_zero, List.set_cons_succ]
    exact nd1ny t W z c pc vs vk m fuel E kd tr un pc2 st2 ca2 b2 HC HQ (X.alloc (.cells #[.slice none 0 0] 39)) hX2 X.heap.size (heap_alloc_new X _) hsz y (by rw [heap_alloc_old X _ ly]; exact oy) gy (by omega) q vn vc2 va hq1 (hn.below hb1) (fun j hj => by have := fb j hj; omega) (by omega) (by omega) _ _ _ _ _ _ _ _ _ (by kernel_rfl)

set_option maxHeartbeats 8000000 in
theorem nd1o {Q : Exit → Act → World → Prop} (t : Nat → Value) (W : World) (z : Nat) (c : Value) (pc : Int) (vs vk : Value) (m : ByteArray) (fuel E kd tr : Int) (un : Nat) (pc2 : Int) (st2 ca2 : List Int) (b2 : List Nat) (HC : CtxR W z c pc vs vk m fuel E kd tr un pc2 st2 ca2 b2) (HQ : FinR Q t W z c pc vs vk m fuel E kd tr un pc2 st2 ca2 b2) (X : World) (hX : Below W.heap.size W X) (q vn vc2 : Nat) (va : Option Addr) (hq : X.cell? ⟨q, 0, none⟩ = some (.slice va vn vc2)) (hn : SeesN .u8 X (.slice va vn vc2) (bytesOf m)) (fb : ∀ j, (Value.slice va vn vc2).ownBlock = some j → W.heap.size ≤ j ∧ j < X.heap.size) (v10 v11 v12 v13 v40 v53 v54 v55 v56 v57 : Value) (listed : Array Bool) (hl : listed = #[true, true, true, true, true, true, true, true, true, true, true, true, false, false, false, false, false, false, false, false, false, false, false, false, false]) :
    wpAnyH Tryd.prog .any opsR (NoPanic Q) (S1 W q (.slice va vn vc2)) 13 listed { tmps := #[t 0, .int .i64 fuel, .pointer (some ⟨z, 0, none⟩), t 3, t 4, t 5, t 6, t 7, t 8, t 9, v10, v11, v12, v13, t 14, t 15, t 16, t 17, t 18, t 19, t 20, t 21, t 22, t 23, t 24, t 25, t 26, t 27, t 28, t 29, t 30, t 31, t 32, t 33, t 34, t 35, t 36, t 37, t 38, t 39, v40, .pointer (some ⟨z, 0, none⟩), c, .pointer (some ⟨z, 1, none⟩), .agg #[.int .i64 pc, vs, vk], .pointer (some ⟨z, 4, none⟩), .string m, .pointer (some ⟨q, 0, none⟩), .pointer (some ⟨q, 0, none⟩), .pointer (some ⟨q, 0, none⟩), .slice va vn vc2, .agg #[.slice va vn vc2], .int .i64 fuel, v53, v54, v55, v56, v57, t 58, t 59, t 60, t 61, t 62, t 63, t 64, t 65, t 66, t 67, t 68, t 69, t 70, t 71, t 72, t 73, t 74, t 75, t 76, t 77, t 78, t 79, t 80, t 81, t 82, t 83, t 84, t 85, t 86, t 87, t 88, t 89, t 90, t 91, t 92, t 93, t 94, t 95, t 96, t 97, t 98, t 99, t 100, t 101, t 102, t 103, t 104, t 105, t 106, t 107, t 108], defers := [] } X := by
  subst hl
  dsimp only
  have hsz := hX.size
  have hSX : (S1 W q (.slice va vn vc2)) X := ⟨hX, hq⟩
  have hql := World.block_lt_of_cell? X _ hq
  simp only at hql
  refine wpAnyH_ready (rs := [12, 18, 19, 20]) (by kernel_rfl) (by simp) ?_
  refine (AllReadyH.cons (o := { dst := some 53, op := Op.call { callee := Callee.value (Operand.func 14), args := #[Operand.tmp 42, Operand.tmp 44, Operand.tmp 51, Operand.tmp 52], argTypes := #[22, 25, 39, 3] }, type := 40, pos := "law.go:71", after := #[{ on := 1, ground := Ground.data }, { on := 3, ground := Ground.data }, { on := 10, ground := Ground.data }, { on := 11, ground := Ground.data }, { on := 6, ground := Ground.chain }], guard := none }) rfl (fun K hK => ?_) (AllReadyH.cons (o := { dst := some 10, op := Op.alloc 25, type := 0, pos := "law.go:71", after := #[], guard := none }) rfl (fun K hK => ?_) (AllReadyH.cons (o := { dst := some 11, op := Op.alloc 39, type := 0, pos := "law.go:71", after := #[], guard := none }) rfl (fun K hK => ?_) (AllReadyH.cons (o := { dst := some 12, op := Op.alloc 33, type := 0, pos := "law.go:71", after := #[], guard := none }) rfl (fun K hK => ?_) AllReadyH.nil))))
  · go_simp
    refine (HC.doc (.slice va vn vc2) X hX hn).mono ?_
    rintro e X1 ⟨us, uk, ub, rfl, hs1, hk1, hu1, hb1, fu1, fk1, nb⟩
    try go_wp2_with fail
    have hX1 := hb1.size
    have hX2 : Below W.heap.size W X1 := hX.trans (hb1.mono hsz)
    have hq1 : X1.cell? ⟨q, 0, none⟩ = some (.slice va vn vc2) := (hb1.cell (p := ⟨q, 0, none⟩) hql).trans hq
    refine hK.out _ _ ⟨hX2, hq1⟩ (fun _ => ?_)
    clear hK K
    try simp only [Act.put, List.setIfInBounds_toArray, List.set_cons_zero, List.set_cons_succ]
    have hS1 : S1 W q (.slice va vn vc2) X1 := ⟨hX2, hq1⟩
    refine wpAnyH_take (i := 13) (oi := { dst := some 40, op := Op.move (Operand.tmp 53), type := 40, pos := "law.go:71", after := #[{ on := 12, ground := Ground.data }], guard := none }) (v := (.tuple #[.agg #[.int .i64 pc2, us, uk], .agg #[ub], .agg #[.int .i64 kd, .int .i64 tr, .int .i64 (un : Nat)], .int .i64 E])) rfl (by kernel_rfl) (by kernel_rfl) (by kernel_rfl) (fun _ _ _ h => h) (Or.inl ⟨by rfl, ?_⟩) hS1 ?_
    · intro w hSw
      go_simp
    try simp only [Act.put, List.setIfInBounds_toArray, List.set_cons_zero, List.set_cons_succ]
    refine wpAnyH_take (i := 14) (oi := { dst := some 54, op := Op.extract (Operand.tmp 40) 0, type := 25, pos := "law.go:71", after := #[{ on := 13, ground := Ground.data }], guard := none }) (v := (.agg #[.int .i64 pc2, us, uk])) rfl (by kernel_rfl) (by kernel_rfl) (by kernel_rfl) (fun _ _ _ h => h) (Or.inl ⟨by rfl, ?_⟩) hS1 ?_
    · intro w hSw
      go_simp
    try simp only [Act.put, List.setIfInBounds_toArray, List.set_cons_zero, List.set_cons_succ]
    refine wpAnyH_take (i := 15) (oi := { dst := some 55, op := Op.extract (Operand.tmp 40) 1, type := 39, pos := "law.go:71", after := #[{ on := 13, ground := Ground.data }, { on := 21, ground := Ground.gcOnly Departure.lateStores }], guard := none }) (v := (.agg #[ub])) rfl (by kernel_rfl) (by kernel_rfl) (by kernel_rfl) (fun _ _ _ h => h) (Or.inl ⟨by rfl, ?_⟩) hS1 ?_
    · intro w hSw
      go_simp
    try simp only [Act.put, List.setIfInBounds_toArray, List.set_cons_zero, List.set_cons_succ]
    refine wpAnyH_take (i := 16) (oi := { dst := some 56, op := Op.extract (Operand.tmp 40) 2, type := 33, pos := "law.go:71", after := #[{ on := 13, ground := Ground.data }, { on := 22, ground := Ground.gcOnly Departure.lateStores }], guard := none }) (v := (.agg #[.int .i64 kd, .int .i64 tr, .int .i64 (un : Nat)])) rfl (by kernel_rfl) (by kernel_rfl) (by kernel_rfl) (fun _ _ _ h => h) (Or.inl ⟨by rfl, ?_⟩) hS1 ?_
    · intro w hSw
      go_simp
    try simp only [Act.put, List.setIfInBounds_toArray, List.set_cons_zero, List.set_cons_succ]
    refine wpAnyH_take (i := 17) (oi := { dst := some 57, op := Op.extract (Operand.tmp 40) 3, type := 34, pos := "law.go:71", after := #[{ on := 13, ground := Ground.data }, { on := 23, ground := Ground.gcOnly Departure.lateStores }], guard := none }) (v := (.int .i64 E)) rfl (by kernel_rfl) (by kernel_rfl) (by kernel_rfl) (fun _ _ _ h => h) (Or.inl ⟨by rfl, ?_⟩) hS1 ?_
    · intro w hSw
      go_simp
    try simp only [Act.put, List.setIfInBounds_toArray, List.set_cons_zero, List.set_cons_succ]
    exact nd2o t W z c pc vs vk m fuel E kd tr un pc2 st2 ca2 b2 HC HQ X1 hX2 q vn vc2 va hq1 (hn.below hb1) (fun j hj => by have := fb j hj; omega) us uk ub hs1 hk1 hu1 (fun hne j hj => by have := sees_lt hs1 hne j hj; have := fu1 j hj; omega) (fun hne j hj => by have := sees_lt hk1 hne j hj; have := fk1 j hj; omega) (fun hne j hj => by have h3 := seesN_lt hu1 hne j hj; rcases nb with h2 | h2; (· rw [h2] at hj; have := fb j hj; omega); (· have := h2 j hj; omega)) _ _ _ _ _ (by kernel_rfl)
  · go_simp
    try go_wp2_with fail
    have hb1 : Below X.heap.size X (X.alloc (.cells #[.int .i64 0, .slice none 0 0, .slice none 0 0] 25)) := below_alloc X _
    have hz1 : (X.alloc (.cells #[.int .i64 0, .slice none 0 0, .slice none 0 0] 25)).heap.size = X.heap.size + 1 := by simp
    have hX2 : Below W.heap.size W (X.alloc (.cells #[.int .i64 0, .slice none 0 0, .slice none 0 0] 25)) := hX.trans (hb1.mono hsz)
    have hq1 : (X.alloc (.cells #[.int .i64 0, .slice none 0 0, .slice none 0 0] 25)).cell? ⟨q, 0, none⟩ = some (.slice va vn vc2) := (hb1.cell (p := ⟨q, 0, none⟩) hql).trans hq
    refine hK.out _ _ ⟨hX2, hq1⟩ (fun _ => ?_)
    clear hK K
    try simp only [Act.put, List.setIfInBounds_toArray, List.set_cons_zero, List.set_cons_succ]
    exact nd1a t W z c pc vs vk m fuel E kd tr un pc2 st2 ca2 b2 HC HQ (X.alloc (.cells #[.int .i64 0, .slice none 0 0, .slice none 0 0] 25)) hX2 X.heap.size (heap_alloc_new X _) hsz q vn vc2 va hq1 (hn.below hb1) (fun j hj => by have := fb j hj; omega) (by omega) _ _ _ _ _ _ _ _ _ _ (by kernel_rfl)
  · go_simp
    try go_wp2_with fail
    have hb1 : Below X.heap.size X (X.alloc (.cells #[.slice none 0 0] 39)) := below_alloc X _
    have hz1 : (X.alloc (.cells #[.slice none 0 0] 39)).heap.size = X.heap.size + 1 := by simp
    have hX2 : Below W.heap.size W (X.alloc (.cells #[.slice none 0 0] 39)) := hX.trans (hb1.mono hsz)
    have hq1 : (X.alloc (.cells #[.slice none 0 0] 39)).cell? ⟨q, 0, none⟩ = some (.slice va vn vc2) := (hb1.cell (p := ⟨q, 0, none⟩) hql).trans hq
    refine hK.out _ _ ⟨hX2, hq1⟩ (fun _ => ?_)
    clear hK K
    try simp only [Act.put, List.setIfInBounds_toArray, List.set_cons_zero, List.set_cons_succ]
    exact nd1n t W z c pc vs vk m fuel E kd tr un pc2 st2 ca2 b2 HC HQ (X.alloc (.cells #[.slice none 0 0] 39)) hX2 X.heap.size (heap_alloc_new X _) hsz q vn vc2 va hq1 (hn.below hb1) (fun j hj => by have := fb j hj; omega) (by omega) _ _ _ _ _ _ _ _ _ _ (by kernel_rfl)
  · go_simp
    try go_wp2_with fail
    have hb1 : Below X.heap.size X (X.alloc (.cells #[.int .i64 0, .int .i64 0, .int .i64 0] 33)) := below_alloc X _
    have hz1 : (X.alloc (.cells #[.int .i64 0, .int .i64 0, .int .i64 0] 33)).heap.size = X.heap.size + 1 := by simp
    have hX2 : Below W.heap.size W (X.alloc (.cells #[.int .i64 0, .int .i64 0, .int .i64 0] 33)) := hX.trans (hb1.mono hsz)
    have hq1 : (X.alloc (.cells #[.int .i64 0, .int .i64 0, .int .i64 0] 33)).cell? ⟨q, 0, none⟩ = some (.slice va vn vc2) := (hb1.cell (p := ⟨q, 0, none⟩) hql).trans hq
    refine hK.out _ _ ⟨hX2, hq1⟩ (fun _ => ?_)
    clear hK K
    try simp only [Act.put, List.setIfInBounds_toArray, List.set_cons_zero, List.set_cons_succ]
    exact nd1y t W z c pc vs vk m fuel E kd tr un pc2 st2 ca2 b2 HC HQ (X.alloc (.cells #[.int .i64 0, .int .i64 0, .int .i64 0] 33)) hX2 X.heap.size (heap_alloc_new X _) hsz q vn vc2 va hq1 (hn.below hb1) (fun j hj => by have := fb j hj; omega) (by omega) _ _ _ _ _ _ _ _ _ _ (by kernel_rfl)

set_option maxHeartbeats 8000000 in
theorem nd0any {Q : Exit → Act → World → Prop} (t : Nat → Value) (W : World) (z : Nat) (c : Value) (pc : Int) (vs vk : Value) (m : ByteArray) (fuel E kd tr : Int) (un : Nat) (pc2 : Int) (st2 ca2 : List Int) (b2 : List Nat) (HC : CtxR W z c pc vs vk m fuel E kd tr un pc2 st2 ca2 b2) (HQ : FinR Q t W z c pc vs vk m fuel E kd tr un pc2 st2 ca2 b2) (X : World) (hX : Below W.heap.size W X) (a : Nat) (oa : X.heap[a]? = some (.cells #[.int .i64 0, .slice none 0 0, .slice none 0 0] 25 (0, 0))) (ga : W.heap.size ≤ a) (n : Nat) (on : X.heap[n]? = some (.cells #[.slice none 0 0] 39 (0, 0))) (gn : W.heap.size ≤ n) (y : Nat) (oy : X.heap[y]? = some (.cells #[.int .i64 0, .int .i64 0, .int .i64 0] 33 (0, 0))) (gy : W.heap.size ≤ y) (dan : a ≠ n) (day : a ≠ y) (dny : n ≠ y) (v13 v40 v47 v48 v49 v50 v51 v53 v54 v55 v56 v57 : Value) (listed : Array Bool) (hl : listed = #[true, true, true, true, true, true, false, false, false, false, false, true, false, false, false, false, false, false, true, true, true, false, false, false, false]) :
    wpAnyH Tryd.prog .any opsR (NoPanic Q) (S0 W) 15 listed { tmps := #[t 0, .int .i64 fuel, .pointer (some ⟨z, 0, none⟩), t 3, t 4, t 5, t 6, t 7, t 8, t 9, .pointer (some ⟨a, 0, none⟩), .pointer (some ⟨n, 0, none⟩), .pointer (some ⟨y, 0, none⟩), v13, t 14, t 15, t 16, t 17, t 18, t 19, t 20, t 21, t 22, t 23, t 24, t 25, t 26, t 27, t 28, t 29, t 30, t 31, t 32, t 33, t 34, t 35, t 36, t 37, t 38, t 39, v40, .pointer (some ⟨z, 0, none⟩), c, .pointer (some ⟨z, 1, none⟩), .agg #[.int .i64 pc, vs, vk], .pointer (some ⟨z, 4, none⟩), .string m, v47, v48, v49, v50, v51, .int .i64 fuel, v53, v54, v55, v56, v57, t 58, t 59, t 60, t 61, t 62, t 63, t 64, t 65, t 66, t 67, t 68, t 69, t 70, t 71, t 72, t 73, t 74, t 75, t 76, t 77, t 78, t 79, t 80, t 81, t 82, t 83, t 84, t 85, t 86, t 87, t 88, t 89, t 90, t 91, t 92, t 93, t 94, t 95, t 96, t 97, t 98, t 99, t 100, t 101, t 102, t 103, t 104, t 105, t 106, t 107, t 108], defers := [] } X := by
  subst hl
  dsimp only
  have hsz := hX.size
  have hSX : (S0 W) X := hX
  have la := (Array.getElem?_eq_some_iff.1 oa).1
  have ln := (Array.getElem?_eq_some_iff.1 on).1
  have ly := (Array.getElem?_eq_some_iff.1 oy).1
  refine wpAnyH_ready (rs := [6]) (by kernel_rfl) (by simp) ?_
  refine (AllReadyH.cons (o := { dst := some 47, op := Op.call { callee := Callee.value (Operand.func 11), args := #[Operand.tmp 46], argTypes := #[9] }, type := 29, pos := "law.go:71", after := #[{ on := 5, ground := Ground.data }], guard := none }) rfl (fun K hK => ?_) AllReadyH.nil)
  · go_simp
    refine (HC.fil X).mono ?_
    rintro e X1 ⟨q, r, vb, rfl, m1, x1, x2, x3, hb1⟩
    obtain ⟨va, vc2, hvb⟩ := OwnsN.shape m1.own
    obtain ⟨vn, hvn⟩ : ∃ vn, vn = (bytesOf m).length := ⟨_, rfl⟩
    rw [← hvn] at hvb
    subst hvb
    try go_wp2_with fail
    have hX1 := hb1.size
    have mq := m1.lt
    have hX2 : Below W.heap.size W X1 := hX.trans (hb1.mono hsz)
    refine hK.out _ _ hX2 (fun _ => ?_)
    clear hK K
    try simp only [Act.put, List.setIfInBounds_toArray, List.set_cons_zero, List.set_cons_succ]
    have hS1 : S1 W q (.slice va vn vc2) X1 := ⟨hX2, m1.cells.1⟩
    refine wpAnyH_weak (S2 := S1 W q (.slice va vn vc2)) (fun _ h => h.1) _ _ _ _ ?_
    refine wpAnyH_take (i := 7) (oi := { dst := some 48, op := Op.nilCheck (Operand.tmp 47), type := 0, pos := "law.go:71", after := #[{ on := 6, ground := Ground.data }], guard := none }) (v := .pointer (some ⟨q, 0, none⟩)) rfl (by kernel_rfl) (by kernel_rfl) (by kernel_rfl) (fun _ _ _ h => h) (Or.inl ⟨by rfl, ?_⟩) hS1 ?_
    · intro w hSw
      go_simp
    try simp only [Act.put, List.setIfInBounds_toArray, List.set_cons_zero, List.set_cons_succ]
    refine wpAnyH_take (i := 8) (oi := { dst := some 49, op := Op.fieldAddr 43 (Operand.tmp 48) 0, type := 0, pos := "law.go:71", after := #[{ on := 7, ground := Ground.data }], guard := none }) (v := .pointer (some ⟨q, 0, none⟩)) rfl (by kernel_rfl) (by kernel_rfl) (by kernel_rfl) (fun _ _ _ h => h) (Or.inl ⟨by rfl, ?_⟩) hS1 ?_
    · intro w hSw
      go_simp
    try simp only [Act.put, List.setIfInBounds_toArray, List.set_cons_zero, List.set_cons_succ]
    refine wpAnyH_take (i := 9) (oi := { dst := some 50, op := Op.load 37 (Operand.tmp 49), type := 37, pos := "law.go:71", after := #[{ on := 8, ground := Ground.data }], guard := none }) (v := (.slice va vn vc2)) rfl (by kernel_rfl) (by kernel_rfl) (by kernel_rfl) (fun _ _ _ h => h) (Or.inl ⟨by rfl, ?_⟩) hS1 ?_
    · intro w hSw
      have hc := hSw.2
      go_simp
    try simp only [Act.put, List.setIfInBounds_toArray, List.set_cons_zero, List.set_cons_succ]
    refine wpAnyH_take (i := 10) (oi := { dst := some 51, op := Op.build 39 #[(0, Operand.tmp 50)], type := 39, pos := "law.go:71", after := #[{ on := 9, ground := Ground.data }], guard := none }) (v := (.agg #[.slice va vn vc2])) rfl (by kernel_rfl) (by kernel_rfl) (by kernel_rfl) (fun _ _ _ h => h) (Or.inl ⟨by rfl, ?_⟩) hS1 ?_
    · intro w hSw
      go_simp
    try simp only [Act.put, List.setIfInBounds_toArray, List.set_cons_zero, List.set_cons_succ]
    exact nd1any t W z c pc vs vk m fuel E kd tr un pc2 st2 ca2 b2 HC HQ X1 hX2 a (by rw [hb1.block _ la]; exact oa) ga n (by rw [hb1.block _ ln]; exact on) gn y (by rw [hb1.block _ ly]; exact oy) gy dan day dny q vn vc2 va m1.cells.1 m1.own.sees (fun j hj => by have e := (m1.at_ j hj).1; have := m1.rlt j hj; omega) (by omega) (by omega) (by omega) _ _ _ _ _ _ _ _ (by kernel_rfl)

set_option maxHeartbeats 8000000 in
theorem nd0an {Q : Exit → Act → World → Prop} (t : Nat → Value) (W : World) (z : Nat) (c : Value) (pc : Int) (vs vk : Value) (m : ByteArray) (fuel E kd tr : Int) (un : Nat) (pc2 : Int) (st2 ca2 : List Int) (b2 : List Nat) (HC : CtxR W z c pc vs vk m fuel E kd tr un pc2 st2 ca2 b2) (HQ : FinR Q t W z c pc vs vk m fuel E kd tr un pc2 st2 ca2 b2) (X : World) (hX : Below W.heap.size W X) (a : Nat) (oa : X.heap[a]? = some (.cells #[.int .i64 0, .slice none 0 0, .slice none 0 0] 25 (0, 0))) (ga : W.heap.size ≤ a) (n : Nat) (on : X.heap[n]? = some (.cells #[.slice none 0 0] 39 (0, 0))) (gn : W.heap.size ≤ n) (dan : a ≠ n) (v12 v13 v40 v47 v48 v49 v50 v51 v53 v54 v55 v56 v57 : Value) (listed : Array Bool) (hl : listed = #[true, true, true, true, true, true, false, false, false, false, false, true, false, false, false, false, false, false, true, true, false, false, false, false, false]) :
    wpAnyH Tryd.prog .any opsR (NoPanic Q) (S0 W) 16 listed { tmps := #[t 0, .int .i64 fuel, .pointer (some ⟨z, 0, none⟩), t 3, t 4, t 5, t 6, t 7, t 8, t 9, .pointer (some ⟨a, 0, none⟩), .pointer (some ⟨n, 0, none⟩), v12, v13, t 14, t 15, t 16, t 17, t 18, t 19, t 20, t 21, t 22, t 23, t 24, t 25, t 26, t 27, t 28, t 29, t 30, t 31, t 32, t 33, t 34, t 35, t 36, t 37, t 38, t 39, v40, .pointer (some ⟨z, 0, none⟩), c, .pointer (some ⟨z, 1, none⟩), .agg #[.int .i64 pc, vs, vk], .pointer (some ⟨z, 4, none⟩), .string m, v47, v48, v49, v50, v51, .int .i64 fuel, v53, v54, v55, v56, v57, t 58, t 59, t 60, t 61, t 62, t 63, t 64, t 65, t 66, t 67, t 68, t 69, t 70, t 71, t 72, t 73, t 74, t 75, t 76, t 77, t 78, t 79, t 80, t 81, t 82, t 83, t 84, t 85, t 86, t 87, t 88, t 89, t 90, t 91, t 92, t 93, t 94, t 95, t 96, t 97, t 98, t 99, t 100, t 101, t 102, t 103, t 104, t 105, t 106, t 107, t 108], defers := [] } X := by
  subst hl
  dsimp only
  have hsz := hX.size
  have hSX : (S0 W) X := hX
  have la := (Array.getElem?_eq_some_iff.1 oa).1
  have ln := (Array.getElem?_eq_some_iff.1 on).1
  refine wpAnyH_ready (rs := [6, 20]) (by kernel_rfl) (by simp) ?_
  refine (AllReadyH.cons (o := { dst := some 47, op := Op.call { callee := Callee.value (Operand.func 11), args := #[Operand.tmp 46], argTypes := #[9] }, type := 29, pos := "law.go:71", after := #[{ on := 5, ground := Ground.data }], guard := none }) rfl (fun K hK => ?_) (AllReadyH.cons (o := { dst := some 12, op := Op.alloc 33, type := 0, pos := "law.go:71", after := #[], guard := none }) rfl (fun K hK => ?_) AllReadyH.nil))
  · go_simp
    refine (HC.fil X).mono ?_
    rintro e X1 ⟨q, r, vb, rfl, m1, x1, x2, x3, hb1⟩
    obtain ⟨va, vc2, hvb⟩ := OwnsN.shape m1.own
    obtain ⟨vn, hvn⟩ : ∃ vn, vn = (bytesOf m).length := ⟨_, rfl⟩
    rw [← hvn] at hvb
    subst hvb
    try go_wp2_with fail
    have hX1 := hb1.size
    have mq := m1.lt
    have hX2 : Below W.heap.size W X1 := hX.trans (hb1.mono hsz)
    refine hK.out _ _ hX2 (fun _ => ?_)
    clear hK K
    try simp only [Act.put, List.setIfInBounds_toArray, List.set_cons_zero, List.set_cons_succ]
    have hS1 : S1 W q (.slice va vn vc2) X1 := ⟨hX2, m1.cells.1⟩
    refine wpAnyH_weak (S2 := S1 W q (.slice va vn vc2)) (fun _ h => h.1) _ _ _ _ ?_
    refine wpAnyH_take (i := 7) (oi := { dst := some 48, op := Op.nilCheck (Operand.tmp 47), type := 0, pos := "law.go:71", after := #[{ on := 6, ground := Ground.data }], guard := none }) (v := .pointer (some ⟨q, 0, none⟩)) rfl (by kernel_rfl) (by kernel_rfl) (by kernel_rfl) (fun _ _ _ h => h) (Or.inl ⟨by rfl, ?_⟩) hS1 ?_
    · intro w hSw
      go_simp
    try simp only [Act.put, List.setIfInBounds_toArray, List.set_cons_zero, List.set_cons_succ]
    refine wpAnyH_take (i := 8) (oi := { dst := some 49, op := Op.fieldAddr 43 (Operand.tmp 48) 0, type := 0, pos := "law.go:71", after := #[{ on := 7, ground := Ground.data }], guard := none }) (v := .pointer (some ⟨q, 0, none⟩)) rfl (by kernel_rfl) (by kernel_rfl) (by kernel_rfl) (fun _ _ _ h => h) (Or.inl ⟨by rfl, ?_⟩) hS1 ?_
    · intro w hSw
      go_simp
    try simp only [Act.put, List.setIfInBounds_toArray, List.set_cons_zero, List.set_cons_succ]
    refine wpAnyH_take (i := 9) (oi := { dst := some 50, op := Op.load 37 (Operand.tmp 49), type := 37, pos := "law.go:71", after := #[{ on := 8, ground := Ground.data }], guard := none }) (v := (.slice va vn vc2)) rfl (by kernel_rfl) (by kernel_rfl) (by kernel_rfl) (fun _ _ _ h => h) (Or.inl ⟨by rfl, ?_⟩) hS1 ?_
    · intro w hSw
      have hc := hSw.2
      go_simp
    try simp only [Act.put, List.setIfInBounds_toArray, List.set_cons_zero, List.set_cons_succ]
    refine wpAnyH_take (i := 10) (oi := { dst := some 51, op := Op.build 39 #[(0, Operand.tmp 50)], type := 39, pos := "law.go:71", after := #[{ on := 9, ground := Ground.data }], guard := none }) (v := (.agg #[.slice va vn vc2])) rfl (by kernel_rfl) (by kernel_rfl) (by kernel_rfl) (fun _ _ _ h => h) (Or.inl ⟨by rfl, ?_⟩) hS1 ?_
    · intro w hSw
      go_simp
    try simp only [Act.put, List.setIfInBounds_toArray, List.set_cons_zero, List.set_cons_succ]
    exact nd1an t W z c pc vs vk m fuel E kd tr un pc2 st2 ca2 b2 HC HQ X1 hX2 a (by rw [hb1.block _ la]; exact oa) ga n (by rw [hb1.block _ ln]; exact on) gn dan q vn vc2 va m1.cells.1 m1.own.sees (fun j hj => by have e := (m1.at_ j hj).1; have := m1.rlt j hj; omega) (by omega) (by omega) _ _ _ _ _ _ _ _ _ (by kernel_rfl)
  · go_simp
    try go_wp2_with fail
    have hb1 : Below X.heap.size X (X.alloc (.cells #[.int .i64 0, .int .i64 0, .int .i64 0] 33)) := below_alloc X _
    have hz1 : (X.alloc (.cells #[.int .i64 0, .int .i64 0, .int .i64 0] 33)).heap.size = X.heap.size + 1 := by simp
    have hX2 : Below W.heap.size W (X.alloc (.cells #[.int .i64 0, .int .i64 0, .int .i64 0] 33)) := hX.trans (hb1.mono hsz)
    refine hK.out _ _ hX2 (fun _ => ?_)
    clear hK K
    try simp only [Act.put, List.setIfInBounds_toArray, List.set_cons_zero, List.set_cons_succ]
    exact nd0any t W z c pc vs vk m fuel E kd tr un pc2 st2 ca2 b2 HC HQ (X.alloc (.cells #[.int .i64 0, .int .i64 0, .int .i64 0] 33)) hX2 a (by rw [heap_alloc_old X _ la]; exact oa) ga n (by rw [heap_alloc_old X _ ln]; exact on) gn X.heap.size (heap_alloc_new X _) hsz dan (by omega) (by omega) _ _ _ _ _ _ _ _ _ _ _ _ _ (by kernel_rfl)

set_option maxHeartbeats 8000000 in
theorem nd0ay {Q : Exit → Act → World → Prop} (t : Nat → Value) (W : World) (z : Nat) (c : Value) (pc : Int) (vs vk : Value) (m : ByteArray) (fuel E kd tr : Int) (un : Nat) (pc2 : Int) (st2 ca2 : List Int) (b2 : List Nat) (HC : CtxR W z c pc vs vk m fuel E kd tr un pc2 st2 ca2 b2) (HQ : FinR Q t W z c pc vs vk m fuel E kd tr un pc2 st2 ca2 b2) (X : World) (hX : Below W.heap.size W X) (a : Nat) (oa : X.heap[a]? = some (.cells #[.int .i64 0, .slice none 0 0, .slice none 0 0] 25 (0, 0))) (ga : W.heap.size ≤ a) (y : Nat) (oy : X.heap[y]? = some (.cells #[.int .i64 0, .int .i64 0, .int .i64 0] 33 (0, 0))) (gy : W.heap.size ≤ y) (day : a ≠ y) (v11 v13 v40 v47 v48 v49 v50 v51 v53 v54 v55 v56 v57 : Value) (listed : Array Bool) (hl : listed = #[true, true, true, true, true, true, false, false, false, false, false, true, false, false, false, false, false, false, true, false, true, false, false, false, false]) :
    wpAnyH Tryd.prog .any opsR (NoPanic Q) (S0 W) 16 listed { tmps := #[t 0, .int .i64 fuel, .pointer (some ⟨z, 0, none⟩), t 3, t 4, t 5, t 6, t 7, t 8, t 9, .pointer (some ⟨a, 0, none⟩), v11, .pointer (some ⟨y, 0, none⟩), v13, t 14, t 15, t 16, t 17, t 18, t 19, t 20, t 21, t 22, t 23, t 24, t 25, t 26, t 27, t 28, t 29, t 30, t 31, t 32, t 33, t 34, t 35, t 36, t 37, t 38, t 39, v40, .pointer (some ⟨z, 0, none⟩), c, .pointer (some ⟨z, 1, none⟩), .agg #[.int .i64 pc, vs, vk], .pointer (some ⟨z, 4, none⟩), .string m, v47, v48, v49, v50, v51, .int .i64 fuel, v53, v54, v55, v56, v57, t 58, t 59, t 60, t 61, t 62, t 63, t 64, t 65, t 66, t 67, t 68, t 69, t 70, t 71, t 72, t 73, t 74, t 75, t 76, t 77, t 78, t 79, t 80, t 81, t 82, t 83, t 84, t 85, t 86, t 87, t 88, t 89, t 90, t 91, t 92, t 93, t 94, t 95, t 96, t 97, t 98, t 99, t 100, t 101, t 102, t 103, t 104, t 105, t 106, t 107, t 108], defers := [] } X := by
  subst hl
  dsimp only
  have hsz := hX.size
  have hSX : (S0 W) X := hX
  have la := (Array.getElem?_eq_some_iff.1 oa).1
  have ly := (Array.getElem?_eq_some_iff.1 oy).1
  refine wpAnyH_ready (rs := [6, 19]) (by kernel_rfl) (by simp) ?_
  refine (AllReadyH.cons (o := { dst := some 47, op := Op.call { callee := Callee.value (Operand.func 11), args := #[Operand.tmp 46], argTypes := #[9] }, type := 29, pos := "law.go:71", after := #[{ on := 5, ground := Ground.data }], guard := none }) rfl (fun K hK => ?_) (AllReadyH.cons (o := { dst := some 11, op := Op.alloc 39, type := 0, pos := "law.go:71", after := #[], guard := none }) rfl (fun K hK => ?_) AllReadyH.nil))
  · go_simp
    refine (HC.fil X).mono ?_
    rintro e X1 ⟨q, r, vb, rfl, m1, x1, x2, x3, hb1⟩
    obtain ⟨va, vc2, hvb⟩ := OwnsN.shape m1.own
    obtain ⟨vn, hvn⟩ : ∃ vn, vn = (bytesOf m).length := ⟨_, rfl⟩
    rw [← hvn] at hvb
    subst hvb
    try go_wp2_with fail
    have hX1 := hb1.size
    have mq := m1.lt
    have hX2 : Below W.heap.size W X1 := hX.trans (hb1.mono hsz)
    refine hK.out _ _ hX2 (fun _ => ?_)
    clear hK K
    try simp only [Act.put, List.setIfInBounds_toArray, List.set_cons_zero, List.set_cons_succ]
    have hS1 : S1 W q (.slice va vn vc2) X1 := ⟨hX2, m1.cells.1⟩
    refine wpAnyH_weak (S2 := S1 W q (.slice va vn vc2)) (fun _ h => h.1) _ _ _ _ ?_
    refine wpAnyH_take (i := 7) (oi := { dst := some 48, op := Op.nilCheck (Operand.tmp 47), type := 0, pos := "law.go:71", after := #[{ on := 6, ground := Ground.data }], guard := none }) (v := .pointer (some ⟨q, 0, none⟩)) rfl (by kernel_rfl) (by kernel_rfl) (by kernel_rfl) (fun _ _ _ h => h) (Or.inl ⟨by rfl, ?_⟩) hS1 ?_
    · intro w hSw
      go_simp
    try simp only [Act.put, List.setIfInBounds_toArray, List.set_cons_zero, List.set_cons_succ]
    refine wpAnyH_take (i := 8) (oi := { dst := some 49, op := Op.fieldAddr 43 (Operand.tmp 48) 0, type := 0, pos := "law.go:71", after := #[{ on := 7, ground := Ground.data }], guard := none }) (v := .pointer (some ⟨q, 0, none⟩)) rfl (by kernel_rfl) (by kernel_rfl) (by kernel_rfl) (fun _ _ _ h => h) (Or.inl ⟨by rfl, ?_⟩) hS1 ?_
    · intro w hSw
      go_simp
    try simp only [Act.put, List.setIfInBounds_toArray, List.set_cons_zero, List.set_cons_succ]
    refine wpAnyH_take (i := 9) (oi := { dst := some 50, op := Op.load 37 (Operand.tmp 49), type := 37, pos := "law.go:71", after := #[{ on := 8, ground := Ground.data }], guard := none }) (v := (.slice va vn vc2)) rfl (by kernel_rfl) (by kernel_rfl) (by kernel_rfl) (fun _ _ _ h => h) (Or.inl ⟨by rfl, ?_⟩) hS1 ?_
    · intro w hSw
      have hc := hSw.2
      go_simp
    try simp only [Act.put, List.setIfInBounds_toArray, List.set_cons_zero, List.set_cons_succ]
    refine wpAnyH_take (i := 10) (oi := { dst := some 51, op := Op.build 39 #[(0, Operand.tmp 50)], type := 39, pos := "law.go:71", after := #[{ on := 9, ground := Ground.data }], guard := none }) (v := (.agg #[.slice va vn vc2])) rfl (by kernel_rfl) (by kernel_rfl) (by kernel_rfl) (fun _ _ _ h => h) (Or.inl ⟨by rfl, ?_⟩) hS1 ?_
    · intro w hSw
      go_simp
    try simp only [Act.put, List.setIfInBounds_toArray, List.set_cons_zero, List.set_cons_succ]
    exact nd1ay t W z c pc vs vk m fuel E kd tr un pc2 st2 ca2 b2 HC HQ X1 hX2 a (by rw [hb1.block _ la]; exact oa) ga y (by rw [hb1.block _ ly]; exact oy) gy day q vn vc2 va m1.cells.1 m1.own.sees (fun j hj => by have e := (m1.at_ j hj).1; have := m1.rlt j hj; omega) (by omega) (by omega) _ _ _ _ _ _ _ _ _ (by kernel_rfl)
  · go_simp
    try go_wp2_with fail
    have hb1 : Below X.heap.size X (X.alloc (.cells #[.slice none 0 0] 39)) := below_alloc X _
    have hz1 : (X.alloc (.cells #[.slice none 0 0] 39)).heap.size = X.heap.size + 1 := by simp
    have hX2 : Below W.heap.size W (X.alloc (.cells #[.slice none 0 0] 39)) := hX.trans (hb1.mono hsz)
    refine hK.out _ _ hX2 (fun _ => ?_)
    clear hK K
    try simp only [Act.put, List.setIfInBounds_toArray, List.set_cons_zero, List.set_cons_succ]
    exact nd0any t W z c pc vs vk m fuel E kd tr un pc2 st2 ca2 b2 HC HQ (X.alloc (.cells #[.slice none 0 0] 39)) hX2 a (by rw [heap_alloc_old X _ la]; exact oa) ga X.heap.size (heap_alloc_new X _) hsz y (by rw [heap_alloc_old X _ ly]; exact oy) gy (by omega) day (by omega) _ _ _ _ _ _ _ _ _ _ _ _ _ (by kernel_rfl)

set_option maxHeartbeats 8000000 in
theorem nd0ny {Q : Exit → Act → World → Prop} (t : Nat → Value) (W : World) (z : Nat) (c : Value) (pc : Int) (vs vk : Value) (m : ByteArray) (fuel E kd tr : Int) (un : Nat) (pc2 : Int) (st2 ca2 : List Int) (b2 : List Nat) (HC : CtxR W z c pc vs vk m fuel E kd tr un pc2 st2 ca2 b2) (HQ : FinR Q t W z c pc vs vk m fuel E kd tr un pc2 st2 ca2 b2) (X : World) (hX : Below W.heap.size W X) (n : Nat) (on : X.heap[n]? = some (.cells #[.slice none 0 0] 39 (0, 0))) (gn : W.heap.size ≤ n) (y : Nat) (oy : X.heap[y]? = some (.cells #[.int .i64 0, .int .i64 0, .int .i64 0] 33 (0, 0))) (gy : W.heap.size ≤ y) (dny : n ≠ y) (v10 v13 v40 v47 v48 v49 v50 v51 v53 v54 v55 v56 v57 : Value) (listed : Array Bool) (hl : listed = #[true, true, true, true, true, true, false, false, false, false, false, true, false, false, false, false, false, false, false, true, true, false, false, false, false]) :
    wpAnyH Tryd.prog .any opsR (NoPanic Q) (S0 W) 16 listed { tmps := #[t 0, .int .i64 fuel, .pointer (some ⟨z, 0, none⟩), t 3, t 4, t 5, t 6, t 7, t 8, t 9, v10, .pointer (some ⟨n, 0, none⟩), .pointer (some ⟨y, 0, none⟩), v13, t 14, t 15, t 16, t 17, t 18, t 19, t 20, t 21, t 22, t 23, t 24, t 25, t 26, t 27, t 28, t 29, t 30, t 31, t 32, t 33, t 34, t 35, t 36, t 37, t 38, t 39, v40, .pointer (some ⟨z, 0, none⟩), c, .pointer (some ⟨z, 1, none⟩), .agg #[.int .i64 pc, vs, vk], .pointer (some ⟨z, 4, none⟩), .string m, v47, v48, v49, v50, v51, .int .i64 fuel, v53, v54, v55, v56, v57, t 58, t 59, t 60, t 61, t 62, t 63, t 64, t 65, t 66, t 67, t 68, t 69, t 70, t 71, t 72, t 73, t 74, t 75, t 76, t 77, t 78, t 79, t 80, t 81, t 82, t 83, t 84, t 85, t 86, t 87, t 88, t 89, t 90, t 91, t 92, t 93, t 94, t 95, t 96, t 97, t 98, t 99, t 100, t 101, t 102, t 103, t 104, t 105, t 106, t 107, t 108], defers := [] } X := by
  subst hl
  dsimp only
  have hsz := hX.size
  have hSX : (S0 W) X := hX
  have ln := (Array.getElem?_eq_some_iff.1 on).1
  have ly := (Array.getElem?_eq_some_iff.1 oy).1
  refine wpAnyH_ready (rs := [6, 18]) (by kernel_rfl) (by simp) ?_
  refine (AllReadyH.cons (o := { dst := some 47, op := Op.call { callee := Callee.value (Operand.func 11), args := #[Operand.tmp 46], argTypes := #[9] }, type := 29, pos := "law.go:71", after := #[{ on := 5, ground := Ground.data }], guard := none }) rfl (fun K hK => ?_) (AllReadyH.cons (o := { dst := some 10, op := Op.alloc 25, type := 0, pos := "law.go:71", after := #[], guard := none }) rfl (fun K hK => ?_) AllReadyH.nil))
  · go_simp
    refine (HC.fil X).mono ?_
    rintro e X1 ⟨q, r, vb, rfl, m1, x1, x2, x3, hb1⟩
    obtain ⟨va, vc2, hvb⟩ := OwnsN.shape m1.own
    obtain ⟨vn, hvn⟩ : ∃ vn, vn = (bytesOf m).length := ⟨_, rfl⟩
    rw [← hvn] at hvb
    subst hvb
    try go_wp2_with fail
    have hX1 := hb1.size
    have mq := m1.lt
    have hX2 : Below W.heap.size W X1 := hX.trans (hb1.mono hsz)
    refine hK.out _ _ hX2 (fun _ => ?_)
    clear hK K
    try simp only [Act.put, List.setIfInBounds_toArray, List.set_cons_zero, List.set_cons_succ]
    have hS1 : S1 W q (.slice va vn vc2) X1 := ⟨hX2, m1.cells.1⟩
    refine wpAnyH_weak (S2 := S1 W q (.slice va vn vc2)) (fun _ h => h.1) _ _ _ _ ?_
    refine wpAnyH_take (i := 7) (oi := { dst := some 48, op := Op.nilCheck (Operand.tmp 47), type := 0, pos := "law.go:71", after := #[{ on := 6, ground := Ground.data }], guard := none }) (v := .pointer (some ⟨q, 0, none⟩)) rfl (by kernel_rfl) (by kernel_rfl) (by kernel_rfl) (fun _ _ _ h => h) (Or.inl ⟨by rfl, ?_⟩) hS1 ?_
    · intro w hSw
      go_simp
    try simp only [Act.put, List.setIfInBounds_toArray, List.set_cons_zero, List.set_cons_succ]
    refine wpAnyH_take (i := 8) (oi := { dst := some 49, op := Op.fieldAddr 43 (Operand.tmp 48) 0, type := 0, pos := "law.go:71", after := #[{ on := 7, ground := Ground.data }], guard := none }) (v := .pointer (some ⟨q, 0, none⟩)) rfl (by kernel_rfl) (by kernel_rfl) (by kernel_rfl) (fun _ _ _ h => h) (Or.inl ⟨by rfl, ?_⟩) hS1 ?_
    · intro w hSw
      go_simp
    try simp only [Act.put, List.setIfInBounds_toArray, List.set_cons_zero, List.set_cons_succ]
    refine wpAnyH_take (i := 9) (oi := { dst := some 50, op := Op.load 37 (Operand.tmp 49), type := 37, pos := "law.go:71", after := #[{ on := 8, ground := Ground.data }], guard := none }) (v := (.slice va vn vc2)) rfl (by kernel_rfl) (by kernel_rfl) (by kernel_rfl) (fun _ _ _ h => h) (Or.inl ⟨by rfl, ?_⟩) hS1 ?_
    · intro w hSw
      have hc := hSw.2
      go_simp
    try simp only [Act.put, List.setIfInBounds_toArray, List.set_cons_zero, List.set_cons_succ]
    refine wpAnyH_take (i := 10) (oi := { dst := some 51, op := Op.build 39 #[(0, Operand.tmp 50)], type := 39, pos := "law.go:71", after := #[{ on := 9, ground := Ground.data }], guard := none }) (v := (.agg #[.slice va vn vc2])) rfl (by kernel_rfl) (by kernel_rfl) (by kernel_rfl) (fun _ _ _ h => h) (Or.inl ⟨by rfl, ?_⟩) hS1 ?_
    · intro w hSw
      go_simp
    try simp only [Act.put, List.setIfInBounds_toArray, List.set_cons_zero, List.set_cons_succ]
    exact nd1ny t W z c pc vs vk m fuel E kd tr un pc2 st2 ca2 b2 HC HQ X1 hX2 n (by rw [hb1.block _ ln]; exact on) gn y (by rw [hb1.block _ ly]; exact oy) gy dny q vn vc2 va m1.cells.1 m1.own.sees (fun j hj => by have e := (m1.at_ j hj).1; have := m1.rlt j hj; omega) (by omega) (by omega) _ _ _ _ _ _ _ _ _ (by kernel_rfl)
  · go_simp
    try go_wp2_with fail
    have hb1 : Below X.heap.size X (X.alloc (.cells #[.int .i64 0, .slice none 0 0, .slice none 0 0] 25)) := below_alloc X _
    have hz1 : (X.alloc (.cells #[.int .i64 0, .slice none 0 0, .slice none 0 0] 25)).heap.size = X.heap.size + 1 := by simp
    have hX2 : Below W.heap.size W (X.alloc (.cells #[.int .i64 0, .slice none 0 0, .slice none 0 0] 25)) := hX.trans (hb1.mono hsz)
    refine hK.out _ _ hX2 (fun _ => ?_)
    clear hK K
    try simp only [Act.put, List.setIfInBounds_toArray, List.set_cons_zero, List.set_cons_succ]
    exact nd0any t W z c pc vs vk m fuel E kd tr un pc2 st2 ca2 b2 HC HQ (X.alloc (.cells #[.int .i64 0, .slice none 0 0, .slice none 0 0] 25)) hX2 X.heap.size (heap_alloc_new X _) hsz n (by rw [heap_alloc_old X _ ln]; exact on) gn y (by rw [heap_alloc_old X _ ly]; exact oy) gy (by omega) (by omega) dny _ _ _ _ _ _ _ _ _ _ _ _ _ (by kernel_rfl)

set_option maxHeartbeats 8000000 in
theorem nd0a {Q : Exit → Act → World → Prop} (t : Nat → Value) (W : World) (z : Nat) (c : Value) (pc : Int) (vs vk : Value) (m : ByteArray) (fuel E kd tr : Int) (un : Nat) (pc2 : Int) (st2 ca2 : List Int) (b2 : List Nat) (HC : CtxR W z c pc vs vk m fuel E kd tr un pc2 st2 ca2 b2) (HQ : FinR Q t W z c pc vs vk m fuel E kd tr un pc2 st2 ca2 b2) (X : World) (hX : Below W.heap.size W X) (a : Nat) (oa : X.heap[a]? = some (.cells #[.int .i64 0, .slice none 0 0, .slice none 0 0] 25 (0, 0))) (ga : W.heap.size ≤ a) (v11 v12 v13 v40 v47 v48 v49 v50 v51 v53 v54 v55 v56 v57 : Value) (listed : Array Bool) (hl : listed = #[true, true, true, true, true, true, false, false, false, false, false, true, false, false, false, false, false, false, true, false, false, false, false, false, false]) :
    wpAnyH Tryd.prog .any opsR (NoPanic Q) (S0 W) 17 listed { tmps := #[t 0, .int .i64 fuel, .pointer (some ⟨z, 0, none⟩), t 3, t 4, t 5, t 6, t 7, t 8, t 9, .pointer (some ⟨a, 0, none⟩), v11, v12, v13, t 14, t 15, t 16, t 17, t 18, t 19, t 20, t 21, t 22, t 23, t 24, t 25, t 26, t 27, t 28, t 29, t 30, t 31, t 32, t 33, t 34, t 35, t 36, t 37, t 38, t 39, v40, .pointer (some ⟨z, 0, none⟩), c, .pointer (some ⟨z, 1, none⟩), .agg #[.int .i64 pc, vs, vk], .pointer (some ⟨z, 4, none⟩), .string m, v47, v48, v49, v50, v51, .int .i64 fuel, v53, v54, v55, v56, v57, t 58, t 59, t 60, t 61, t 62, t 63, t 64, t 65, t 66, t 67, t 68, t 69, t 70, t 71, t 72, t 73, t 74, t 75, t 76, t 77, t 78, t 79, t 80, t 81, t 82, t 83, t 84, t 85, t 86, t 87, t 88, t 89, t 90, t 91, t 92, t 93, t 94, t 95, t 96, t 97, t 98, t 99, t 100, t 101, t 102, t 103, t 104, t 105, t 106, t 107, t 108], defers := [] } X := by
  subst hl
  dsimp only
  have hsz := hX.size
  have hSX : (S0 W) X := hX
  have la := (Array.getElem?_eq_some_iff.1 oa).1
  refine wpAnyH_ready (rs := [6, 19, 20]) (by kernel_rfl) (by simp) ?_
  refine (AllReadyH.cons (o := { dst := some 47, op := Op.call { callee := Callee.value (Operand.func 11), args := #[Operand.tmp 46], argTypes := #[9] }, type := 29, pos := "law.go:71", after := #[{ on := 5, ground := Ground.data }], guard := none }) rfl (fun K hK => ?_) (AllReadyH.cons (o := { dst := some 11, op := Op.alloc 39, type := 0, pos := "law.go:71", after := #[], guard := none }) rfl (fun K hK => ?_) (AllReadyH.cons (o := { dst := some 12, op := Op.alloc 33, type := 0, pos := "law.go:71", after := #[], guard := none }) rfl (fun K hK => ?_) AllReadyH.nil)))
  · go_simp
    refine (HC.fil X).mono ?_
    rintro e X1 ⟨q, r, vb, rfl, m1, x1, x2, x3, hb1⟩
    obtain ⟨va, vc2, hvb⟩ := OwnsN.shape m1.own
    obtain ⟨vn, hvn⟩ : ∃ vn, vn = (bytesOf m).length := ⟨_, rfl⟩
    rw [← hvn] at hvb
    subst hvb
    try go_wp2_with fail
    have hX1 := hb1.size
    have mq := m1.lt
    have hX2 : Below W.heap.size W X1 := hX.trans (hb1.mono hsz)
    refine hK.out _ _ hX2 (fun _ => ?_)
    clear hK K
    try simp only [Act.put, List.setIfInBounds_toArray, List.set_cons_zero, List.set_cons_succ]
    have hS1 : S1 W q (.slice va vn vc2) X1 := ⟨hX2, m1.cells.1⟩
    refine wpAnyH_weak (S2 := S1 W q (.slice va vn vc2)) (fun _ h => h.1) _ _ _ _ ?_
    refine wpAnyH_take (i := 7) (oi := { dst := some 48, op := Op.nilCheck (Operand.tmp 47), type := 0, pos := "law.go:71", after := #[{ on := 6, ground := Ground.data }], guard := none }) (v := .pointer (some ⟨q, 0, none⟩)) rfl (by kernel_rfl) (by kernel_rfl) (by kernel_rfl) (fun _ _ _ h => h) (Or.inl ⟨by rfl, ?_⟩) hS1 ?_
    · intro w hSw
      go_simp
    try simp only [Act.put, List.setIfInBounds_toArray, List.set_cons_zero, List.set_cons_succ]
    refine wpAnyH_take (i := 8) (oi := { dst := some 49, op := Op.fieldAddr 43 (Operand.tmp 48) 0, type := 0, pos := "law.go:71", after := #[{ on := 7, ground := Ground.data }], guard := none }) (v := .pointer (some ⟨q, 0, none⟩)) rfl (by kernel_rfl) (by kernel_rfl) (by kernel_rfl) (fun _ _ _ h => h) (Or.inl ⟨by rfl, ?_⟩) hS1 ?_
    · intro w hSw
      go_simp
    try simp only [Act.put, List.setIfInBounds_toArray, List.set_cons_zero, List.set_cons_succ]
    refine wpAnyH_take (i := 9) (oi := { dst := some 50, op := Op.load 37 (Operand.tmp 49), type := 37, pos := "law.go:71", after := #[{ on := 8, ground := Ground.data }], guard := none }) (v := (.slice va vn vc2)) rfl (by kernel_rfl) (by kernel_rfl) (by kernel_rfl) (fun _ _ _ h => h) (Or.inl ⟨by rfl, ?_⟩) hS1 ?_
    · intro w hSw
      have hc := hSw.2
      go_simp
    try simp only [Act.put, List.setIfInBounds_toArray, List.set_cons_zero, List.set_cons_succ]
    refine wpAnyH_take (i := 10) (oi := { dst := some 51, op := Op.build 39 #[(0, Operand.tmp 50)], type := 39, pos := "law.go:71", after := #[{ on := 9, ground := Ground.data }], guard := none }) (v := (.agg #[.slice va vn vc2])) rfl (by kernel_rfl) (by kernel_rfl) (by kernel_rfl) (fun _ _ _ h => h) (Or.inl ⟨by rfl, ?_⟩) hS1 ?_
    · intro w hSw
      go_simp
    try simp only [Act.put, List.setIfInBounds_toArray, List.set_cons_zero, List.set_cons_succ]
    exact nd1a t W z c pc vs vk m fuel E kd tr un pc2 st2 ca2 b2 HC HQ X1 hX2 a (by rw [hb1.block _ la]; exact oa) ga q vn vc2 va m1.cells.1 m1.own.sees (fun j hj => by have e := (m1.at_ j hj).1; have := m1.rlt j hj; omega) (by omega) _ _ _ _ _ _ _ _ _ _ (by kernel_rfl)
  · go_simp
    try go_wp2_with fail
    have hb1 : Below X.heap.size X (X.alloc (.cells #[.slice none 0 0] 39)) := below_alloc X _
    have hz1 : (X.alloc (.cells #[.slice none 0 0] 39)).heap.size = X.heap.size + 1 := by simp
    have hX2 : Below W.heap.size W (X.alloc (.cells #[.slice none 0 0] 39)) := hX.trans (hb1.mono hsz)
    refine hK.out _ _ hX2 (fun _ => ?_)
    clear hK K
    try simp only [Act.put, List.setIfInBounds_toArray, List.set_cons_zero, List.set_cons_succ]
    exact nd0an t W z c pc vs vk m fuel E kd tr un pc2 st2 ca2 b2 HC HQ (X.alloc (.cells #[.slice none 0 0] 39)) hX2 a (by rw [heap_alloc_old X _ la]; exact oa) ga X.heap.size (heap_alloc_new X _) hsz (by omega) _ _ _ _ _ _ _ _ _ _ _ _ _ _ (by kernel_rfl)
  · go_simp
    try go_wp2_with fail
    have hb1 : Below X.heap.size X (X.alloc (.cells #[.int .i64 0, .int .i64 0, .int .i64 0] 33)) := below_alloc X _
    have hz1 : (X.alloc (.cells #[.int .i64 0, .int .i64 0, .int .i64 0] 33)).heap.size = X.heap.size + 1 := by simp
    have hX2 : Below W.heap.size W (X.alloc (.cells #[.int .i64 0, .int .i64 0, .int .i64 0] 33)) := hX.trans (hb1.mono hsz)
    refine hK.out _ _ hX2 (fun _ => ?_)
    clear hK K
    try simp only [Act.put, List.setIfInBounds_toArray, List.set_cons_zero, List.set_cons_succ]
    exact nd0ay t W z c pc vs vk m fuel E kd tr un pc2 st2 ca2 b2 HC HQ (X.alloc (.cells #[.int .i64 0, .int .i64 0, .int .i64 0] 33)) hX2 a (by rw [heap_alloc_old X _ la]; exact oa) ga X.heap.size (heap_alloc_new X _) hsz (by omega) _ _ _ _ _ _ _ _ _ _ _ _ _ _ (by kernel_rfl)

set_option maxHeartbeats 8000000 in
theorem nd0n {Q : Exit → Act → World → Prop} (t : Nat → Value) (W : World) (z : Nat) (c : Value) (pc : Int) (vs vk : Value) (m : ByteArray) (fuel E kd tr : Int) (un : Nat) (pc2 : Int) (st2 ca2 : List Int) (b2 : List Nat) (HC : CtxR W z c pc vs vk m fuel E kd tr un pc2 st2 ca2 b2) (HQ : FinR Q t W z c pc vs vk m fuel E kd tr un pc2 st2 ca2 b2) (X : World) (hX : Below W.heap.size W X) (n : Nat) (on : X.heap[n]? = some (.cells #[.slice none 0 0] 39 (0, 0))) (gn : W.heap.size ≤ n) (v10 v12 v13 v40 v47 v48 v49 v50 v51 v53 v54 v55 v56 v57 : Value) (listed : Array Bool) (hl : listed = #[true, true, true, true, true, true, false, false, false, false, false, true, false, false, false, false, false, false, false, true, false, false, false, false, false]) :
    wpAnyH Tryd.prog .any opsR (NoPanic Q) (S0 W) 17 listed { tmps := #[t 0, .int .i64 fuel, .pointer (some ⟨z, 0, none⟩), t 3, t 4, t 5, t 6, t 7, t 8, t 9, v10, .pointer (some ⟨n, 0, none⟩), v12, v13, t 14, t 15, t 16, t 17, t 18, t 19, t 20, t 21, t 22, t 23, t 24, t 25, t 26, t 27, t 28, t 29, t 30, t 31, t 32, t 33, t 34, t 35, t 36, t 37, t 38, t 39, v40, .pointer (some ⟨z, 0, none⟩), c, .pointer (some ⟨z, 1, none⟩), .agg #[.int .i64 pc, vs, vk], .pointer (some ⟨z, 4, none⟩), .string m, v47, v48, v49, v50, v51, .int .i64 fuel, v53, v54, v55, v56, v57, t 58, t 59, t 60, t 61, t 62, t 63, t 64, t 65, t 66, t 67, t 68, t 69, t 70, t 71, t 72, t 73, t 74, t 75, t 76, t 77, t 78, t 79, t 80, t 81, t 82, t 83, t 84, t 85, t 86, t 87, t 88, t 89, t 90, t 91, t 92, t 93, t 94, t 95, t 96, t 97, t 98, t 99, t 100, t 101, t 102, t 103, t 104, t 105, t 106, t 107, t 108], defers := [] } X := by
  subst hl
  dsimp only
  have hsz := hX.size
  have hSX : (S0 W) X := hX
  have ln := (Array.getElem?_eq_some_iff.1 on).1
  refine wpAnyH_ready (rs := [6, 18, 20]) (by kernel_rfl) (by simp) ?_
  refine (AllReadyH.cons (o := { dst := some 47, op := Op.call { callee := Callee.value (Operand.func 11), args := #[Operand.tmp 46], argTypes := #[9] }, type := 29, pos := "law.go:71", after := #[{ on := 5, ground := Ground.data }], guard := none }) rfl (fun K hK => ?_) (AllReadyH.cons (o := { dst := some 10, op := Op.alloc 25, type := 0, pos := "law.go:71", after := #[], guard := none }) rfl (fun K hK => ?_) (AllReadyH.cons (o := { dst := some 12, op := Op.alloc 33, type := 0, pos := "law.go:71", after := #[], guard := none }) rfl (fun K hK => ?_) AllReadyH.nil)))
  · go_simp
    refine (HC.fil X).mono ?_
    rintro e X1 ⟨q, r, vb, rfl, m1, x1, x2, x3, hb1⟩
    obtain ⟨va, vc2, hvb⟩ := OwnsN.shape m1.own
    obtain ⟨vn, hvn⟩ : ∃ vn, vn = (bytesOf m).length := ⟨_, rfl⟩
    rw [← hvn] at hvb
    subst hvb
    try go_wp2_with fail
    have hX1 := hb1.size
    have mq := m1.lt
    have hX2 : Below W.heap.size W X1 := hX.trans (hb1.mono hsz)
    refine hK.out _ _ hX2 (fun _ => ?_)
    clear hK K
    try simp only [Act.put, List.setIfInBounds_toArray, List.set_cons_zero, List.set_cons_succ]
    have hS1 : S1 W q (.slice va vn vc2) X1 := ⟨hX2, m1.cells.1⟩
    refine wpAnyH_weak (S2 := S1 W q (.slice va vn vc2)) (fun _ h => h.1) _ _ _ _ ?_
    refine wpAnyH_take (i := 7) (oi := { dst := some 48, op := Op.nilCheck (Operand.tmp 47), type := 0, pos := "law.go:71", after := #[{ on := 6, ground := Ground.data }], guard := none }) (v := .pointer (some ⟨q, 0, none⟩)) rfl (by kernel_rfl) (by kernel_rfl) (by kernel_rfl) (fun _ _ _ h => h) (Or.inl ⟨by rfl, ?_⟩) hS1 ?_
    · intro w hSw
      go_simp
    try simp only [Act.put, List.setIfInBounds_toArray, List.set_cons_zero, List.set_cons_succ]
    refine wpAnyH_take (i := 8) (oi := { dst := some 49, op := Op.fieldAddr 43 (Operand.tmp 48) 0, type := 0, pos := "law.go:71", after := #[{ on := 7, ground := Ground.data }], guard := none }) (v := .pointer (some ⟨q, 0, none⟩)) rfl (by kernel_rfl) (by kernel_rfl) (by kernel_rfl) (fun _ _ _ h => h) (Or.inl ⟨by rfl, ?_⟩) hS1 ?_
    · intro w hSw
      go_simp
    try simp only [Act.put, List.setIfInBounds_toArray, List.set_cons_zero, List.set_cons_succ]
    refine wpAnyH_take (i := 9) (oi := { dst := some 50, op := Op.load 37 (Operand.tmp 49), type := 37, pos := "law.go:71", after := #[{ on := 8, ground := Ground.data }], guard := none }) (v := (.slice va vn vc2)) rfl (by kernel_rfl) (by kernel_rfl) (by kernel_rfl) (fun _ _ _ h => h) (Or.inl ⟨by rfl, ?_⟩) hS1 ?_
    · intro w hSw
      have hc := hSw.2
      go_simp
    try simp only [Act.put, List.setIfInBounds_toArray, List.set_cons_zero, List.set_cons_succ]
    refine wpAnyH_take (i := 10) (oi := { dst := some 51, op := Op.build 39 #[(0, Operand.tmp 50)], type := 39, pos := "law.go:71", after := #[{ on := 9, ground := Ground.data }], guard := none }) (v := (.agg #[.slice va vn vc2])) rfl (by kernel_rfl) (by kernel_rfl) (by kernel_rfl) (fun _ _ _ h => h) (Or.inl ⟨by rfl, ?_⟩) hS1 ?_
    · intro w hSw
      go_simp
    try simp only [Act.put, List.setIfInBounds_toArray, List.set_cons_zero, List.set_cons_succ]
    exact nd1n t W z c pc vs vk m fuel E kd tr un pc2 st2 ca2 b2 HC HQ X1 hX2 n (by rw [hb1.block _ ln]; exact on) gn q vn vc2 va m1.cells.1 m1.own.sees (fun j hj => by have e := (m1.at_ j hj).1; have := m1.rlt j hj; omega) (by omega) _ _ _ _ _ _ _ _ _ _ (by kernel_rfl)
  · go_simp
    try go_wp2_with fail
    have hb1 : Below X.heap.size X (X.alloc (.cells #[.int .i64 0, .slice none 0 0, .slice none 0 0] 25)) := below_alloc X _
    have hz1 : (X.alloc (.cells #[.int .i64 0, .slice none 0 0, .slice none 0 0] 25)).heap.size = X.heap.size + 1 := by simp
    have hX2 : Below W.heap.size W (X.alloc (.cells #[.int .i64 0, .slice none 0 0, .slice none 0 0] 25)) := hX.trans (hb1.mono hsz)
    refine hK.out _ _ hX2 (fun _ => ?_)
    clear hK K
    try simp only [Act.put, List.setIfInBounds_toArray, List.set_cons_zero, List.set_cons_succ]
    exact nd0an t W z c pc vs vk m fuel E kd tr un pc2 st2 ca2 b2 HC HQ (X.alloc (.cells #[.int .i64 0, .slice none 0 0, .slice none 0 0] 25)) hX2 X.heap.size (heap_alloc_new X _) hsz n (by rw [heap_alloc_old X _ ln]; exact on) gn (by omega) _ _ _ _ _ _ _ _ _ _ _ _ _ _ (by kernel_rfl)
  · go_simp
    try go_wp2_with fail
    have hb1 : Below X.heap.size X (X.alloc (.cells #[.int .i64 0, .int .i64 0, .int .i64 0] 33)) := below_alloc X _
    have hz1 : (X.alloc (.cells #[.int .i64 0, .int .i64 0, .int .i64 0] 33)).heap.size = X.heap.size + 1 := by simp
    have hX2 : Below W.heap.size W (X.alloc (.cells #[.int .i64 0, .int .i64 0, .int .i64 0] 33)) := hX.trans (hb1.mono hsz)
    refine hK.out _ _ hX2 (fun _ => ?_)
    clear hK K
    try simp only [Act.put, List.setIfInBounds_toArray, List.set_cons_zero, List.set_cons_succ]
    exact nd0ny t W z c pc vs vk m fuel E kd tr un pc2 st2 ca2 b2 HC HQ (X.alloc (.cells #[.int .i64 0, .int .i64 0, .int .i64 0] 33)) hX2 n (by rw [heap_alloc_old X _ ln]; exact on) gn X.heap.size (heap_alloc_new X _) hsz (by omega) _ _ _ _ _ _ _ _ _ _ _ _ _ _ (by kernel_rfl)

set_option maxHeartbeats 8000000 in
theorem nd0y {Q : Exit → Act → World → Prop} (t : Nat → Value) (W : World) (z : Nat) (c : Value) (pc : Int) (vs vk : Value) (m : ByteArray) (fuel E kd tr : Int) (un : Nat) (pc2 : Int) (st2 ca2 : List Int) (b2 : List Nat) (HC : CtxR W z c pc vs vk m fuel E kd tr un pc2 st2 ca2 b2) (HQ : FinR Q t W z c pc vs vk m fuel E kd tr un pc2 st2 ca2 b2) (X : World) (hX : Below W.heap.size W X) (y : Nat) (oy : X.heap[y]? = some (.cells #[.int .i64 0, .int .i64 0, .int .i64 0] 33 (0, 0))) (gy : W.heap.size ≤ y) (v10 v11 v13 v40 v47 v48 v49 v50 v51 v53 v54 v55 v56 v57 : Value) (listed : Array Bool) (hl : listed = #[true, true, true, true, true, true, false, false, false, false, false, true, false, false, false, false, false, false, false, false, true, false, false, false, false]) :
    wpAnyH Tryd.prog .any opsR (NoPanic Q) (S0 W) 17 listed { tmps := #[t 0, .int .i64 fuel, .pointer (some ⟨z, 0, none⟩), t 3, t 4, t 5, t 6, t 7, t 8, t 9, v10, v11, .pointer (some ⟨y, 0, none⟩), v13, t 14, t 15, t 16, t 17, t 18, t 19, t 20, t 21, t 22, t 23, t 24, t 25, t 26, t 27, t 28, t 29, t 30, t 31, t 32, t 33, t 34, t 35, t 36, t 37, t 38, t 39, v40, .pointer (some ⟨z, 0, none⟩), c, .pointer (some ⟨z, 1, none⟩), .agg #[.int .i64 pc, vs, vk], .pointer (some ⟨z, 4, none⟩), .string m, v47, v48, v49, v50, v51, .int .i64 fuel, v53, v54, v55, v56, v57, t 58, t 59, t 60, t 61, t 62, t 63, t 64, t 65, t 66, t 67, t 68, t 69, t 70, t 71, t 72, t 73, t 74, t 75, t 76, t 77, t 78, t 79, t 80, t 81, t 82, t 83, t 84, t 85, t 86, t 87, t 88, t 89, t 90, t 91, t 92, t 93, t 94, t 95, t 96, t 97, t 98, t 99, t 100, t 101, t 102, t 103, t 104, t 105, t 106, t 107, t 108], defers := [] } X := by
  subst hl
  dsimp only
  have hsz := hX.size
  have hSX : (S0 W) X := hX
  have ly := (Array.getElem?_eq_some_iff.1 oy).1
  refine wpAnyH_ready (rs := [6, 18, 19]) (by kernel_rfl) (by simp) ?_
  refine (AllReadyH.cons (o := { dst := some 47, op := Op.call { callee := Callee.value (Operand.func 11), args := #[Operand.tmp 46], argTypes := #[9] }, type := 29, pos := "law.go:71", after := #[{ on := 5, ground := Ground.data }], guard := none }) rfl (fun K hK => ?_) (AllReadyH.cons (o := { dst := some 10, op := Op.alloc 25, type := 0, pos := "law.go:71", after := #[], guard := none }) rfl (fun K hK => ?_) (AllReadyH.cons (o := { dst := some 11, op := Op.alloc 39, type := 0, pos := "law.go:71", after := #[], guard := none }) rfl (fun K hK => ?_) AllReadyH.nil)))
  · go_simp
    refine (HC.fil X).mono ?_
    rintro e X1 ⟨q, r, vb, rfl, m1, x1, x2, x3, hb1⟩
    obtain ⟨va, vc2, hvb⟩ := OwnsN.shape m1.own
    obtain ⟨vn, hvn⟩ : ∃ vn, vn = (bytesOf m).length := ⟨_, rfl⟩
    rw [← hvn] at hvb
    subst hvb
    try go_wp2_with fail
    have hX1 := hb1.size
    have mq := m1.lt
    have hX2 : Below W.heap.size W X1 := hX.trans (hb1.mono hsz)
    refine hK.out _ _ hX2 (fun _ => ?_)
    clear hK K
    try simp only [Act.put, List.setIfInBounds_toArray, List.set_cons_zero, List.set_cons_succ]
    have hS1 : S1 W q (.slice va vn vc2) X1 := ⟨hX2, m1.cells.1⟩
    refine wpAnyH_weak (S2 := S1 W q (.slice va vn vc2)) (fun _ h => h.1) _ _ _ _ ?_
    refine wpAnyH_take (i := 7) (oi := { dst := some 48, op := Op.nilCheck (Operand.tmp 47), type := 0, pos := "law.go:71", after := #[{ on := 6, ground := Ground.data }], guard := none }) (v := .pointer (some ⟨q, 0, none⟩)) rfl (by kernel_rfl) (by kernel_rfl) (by kernel_rfl) (fun _ _ _ h => h) (Or.inl ⟨by rfl, ?_⟩) hS1 ?_
    · intro w hSw
      go_simp
    try simp only [Act.put, List.setIfInBounds_toArray, List.set_cons_zero, List.set_cons_succ]
    refine wpAnyH_take (i := 8) (oi := { dst := some 49, op := Op.fieldAddr 43 (Operand.tmp 48) 0, type := 0, pos := "law.go:71", after := #[{ on := 7, ground := Ground.data }], guard := none }) (v := .pointer (some ⟨q, 0, none⟩)) rfl (by kernel_rfl) (by kernel_rfl) (by kernel_rfl) (fun _ _ _ h => h) (Or.inl ⟨by rfl, ?_⟩) hS1 ?_
    · intro w hSw
      go_simp
    try simp only [Act.put, List.setIfInBounds_toArray, List.set_cons_zero, List.set_cons_succ]
    refine wpAnyH_take (i := 9) (oi := { dst := some 50, op := Op.load 37 (Operand.tmp 49), type := 37, pos := "law.go:71", after := #[{ on := 8, ground := Ground.data }], guard := none }) (v := (.slice va vn vc2)) rfl (by kernel_rfl) (by kernel_rfl) (by kernel_rfl) (fun _ _ _ h => h) (Or.inl ⟨by rfl, ?_⟩) hS1 ?_
    · intro w hSw
      have hc := hSw.2
      go_simp
    try simp only [Act.put, List.setIfInBounds_toArray, List.set_cons_zero, List.set_cons_succ]
    refine wpAnyH_take (i := 10) (oi := { dst := some 51, op := Op.build 39 #[(0, Operand.tmp 50)], type := 39, pos := "law.go:71", after := #[{ on := 9, ground := Ground.data }], guard := none }) (v := (.agg #[.slice va vn vc2])) rfl (by kernel_rfl) (by kernel_rfl) (by kernel_rfl) (fun _ _ _ h => h) (Or.inl ⟨by rfl, ?_⟩) hS1 ?_
    · intro w hSw
      go_simp
    try simp only [Act.put, List.setIfInBounds_toArray, List.set_cons_zero, List.set_cons_succ]
    exact nd1y t W z c pc vs vk m fuel E kd tr un pc2 st2 ca2 b2 HC HQ X1 hX2 y (by rw [hb1.block _ ly]; exact oy) gy q vn vc2 va m1.cells.1 m1.own.sees (fun j hj => by have e := (m1.at_ j hj).1; have := m1.rlt j hj; omega) (by omega) _ _ _ _ _ _ _ _ _ _ (by kernel_rfl)
  · go_simp
    try go_wp2_with fail
    have hb1 : Below X.heap.size X (X.alloc (.cells #[.int .i64 0, .slice none 0 0, .slice none 0 0] 25)) := below_alloc X _
    have hz1 : (X.alloc (.cells #[.int .i64 0, .slice none 0 0, .slice none 0 0] 25)).heap.size = X.heap.size + 1 := by simp
    have hX2 : Below W.heap.size W (X.alloc (.cells #[.int .i64 0, .slice none 0 0, .slice none 0 0] 25)) := hX.trans (hb1.mono hsz)
    refine hK.out _ _ hX2 (fun _ => ?_)
    clear hK K
    try simp only [Act.put, List.setIfInBounds_toArray, List.set_cons_zero, List.set_cons_succ]
    exact nd0ay t W z c pc vs vk m fuel E kd tr un pc2 st2 ca2 b2 HC HQ (X.alloc (.cells #[.int .i64 0, .slice none 0 0, .slice none 0 0] 25)) hX2 X.heap.size (heap_alloc_new X _) hsz y (by rw [heap_alloc_old X _ ly]; exact oy) gy (by omega) _ _ _ _ _ _ _ _ _ _ _ _ _ _ (by kernel_rfl)
  · go_simp
    try go_wp2_with fail
    have hb1 : Below X.heap.size X (X.alloc (.cells #[.slice none 0 0] 39)) := below_alloc X _
    have hz1 : (X.alloc (.cells #[.slice none 0 0] 39)).heap.size = X.heap.size + 1 := by simp
    have hX2 : Below W.heap.size W (X.alloc (.cells #[.slice none 0 0] 39)) := hX.trans (hb1.mono hsz)
    refine hK.out _ _ hX2 (fun _ => ?_)
    clear hK K
    try simp only [Act.put, List.setIfInBounds_toArray, List.set_cons_zero, List.set_cons_succ]
    exact nd0ny t W z c pc vs vk m fuel E kd tr un pc2 st2 ca2 b2 HC HQ (X.alloc (.cells #[.slice none 0 0] 39)) hX2 X.heap.size (heap_alloc_new X _) hsz y (by rw [heap_alloc_old X _ ly]; exact oy) gy (by omega) _ _ _ _ _ _ _ _ _ _ _ _ _ _ (by kernel_rfl)

set_option maxHeartbeats 8000000 in
theorem nd0o {Q : Exit → Act → World → Prop} (t : Nat → Value) (W : World) (z : Nat) (c : Value) (pc : Int) (vs vk : Value) (m : ByteArray) (fuel E kd tr : Int) (un : Nat) (pc2 : Int) (st2 ca2 : List Int) (b2 : List Nat) (HC : CtxR W z c pc vs vk m fuel E kd tr un pc2 st2 ca2 b2) (HQ : FinR Q t W z c pc vs vk m fuel E kd tr un pc2 st2 ca2 b2) (X : World) (hX : Below W.heap.size W X)  (v10 v11 v12 v13 v40 v47 v48 v49 v50 v51 v53 v54 v55 v56 v57 : Value) (listed : Array Bool) (hl : listed = #[true, true, true, true, true, true, false, false, false, false, false, true, false, false, false, false, false, false, false, false, false, false, false, false, false]) :
    wpAnyH Tryd.prog .any opsR (NoPanic Q) (S0 W) 18 listed { tmps := #[t 0, .int .i64 fuel, .pointer (some ⟨z, 0, none⟩), t 3, t 4, t 5, t 6, t 7, t 8, t 9, v10, v11, v12, v13, t 14, t 15, t 16, t 17, t 18, t 19, t 20, t 21, t 22, t 23, t 24, t 25, t 26, t 27, t 28, t 29, t 30, t 31, t 32, t 33, t 34, t 35, t 36, t 37, t 38, t 39, v40, .pointer (some ⟨z, 0, none⟩), c, .pointer (some ⟨z, 1, none⟩), .agg #[.int .i64 pc, vs, vk], .pointer (some ⟨z, 4, none⟩), .string m, v47, v48, v49, v50, v51, .int .i64 fuel, v53, v54, v55, v56, v57, t 58, t 59, t 60, t 61, t 62, t 63, t 64, t 65, t 66, t 67, t 68, t 69, t 70, t 71, t 72, t 73, t 74, t 75, t 76, t 77, t 78, t 79, t 80, t 81, t 82, t 83, t 84, t 85, t 86, t 87, t 88, t 89, t 90, t 91, t 92, t 93, t 94, t 95, t 96, t 97, t 98, t 99, t 100, t 101, t 102, t 103, t 104, t 105, t 106, t 107, t 108], defers := [] } X := by
  subst hl
  dsimp only
  have hsz := hX.size
  have hSX : (S0 W) X := hX
  refine wpAnyH_ready (rs := [6, 18, 19, 20]) (by kernel_rfl) (by simp) ?_
  refine (AllReadyH.cons (o := { dst := some 47, op := Op.call { callee := Callee.value (Operand.func 11), args := #[Operand.tmp 46], argTypes := #[9] }, type := 29, pos := "law.go:71", after := #[{ on := 5, ground := Ground.data }], guard := none }) rfl (fun K hK => ?_) (AllReadyH.cons (o := { dst := some 10, op := Op.alloc 25, type := 0, pos := "law.go:71", after := #[], guard := none }) rfl (fun K hK => ?_) (AllReadyH.cons (o := { dst := some 11, op := Op.alloc 39, type := 0, pos := "law.go:71", after := #[], guard := none }) rfl (fun K hK => ?_) (AllReadyH.cons (o := { dst := some 12, op := Op.alloc 33, type := 0, pos := "law.go:71", after := #[], guard := none }) rfl (fun K hK => ?_) AllReadyH.nil))))
  · go_simp
    refine (HC.fil X).mono ?_
    rintro e X1 ⟨q, r, vb, rfl, m1, x1, x2, x3, hb1⟩
    obtain ⟨va, vc2, hvb⟩ := OwnsN.shape m1.own
    obtain ⟨vn, hvn⟩ : ∃ vn, vn = (bytesOf m).length := ⟨_, rfl⟩
    rw [← hvn] at hvb
    subst hvb
    try go_wp2_with fail
    have hX1 := hb1.size
    have mq := m1.lt
    have hX2 : Below W.heap.size W X1 := hX.trans (hb1.mono hsz)
    refine hK.out _ _ hX2 (fun _ => ?_)
    clear hK K
    try simp only [Act.put, List.setIfInBounds_toArray, List.set_cons_zero, List.set_cons_succ]
    have hS1 : S1 W q (.slice va vn vc2) X1 := ⟨hX2, m1.cells.1⟩
    refine wpAnyH_weak (S2 := S1 W q (.slice va vn vc2)) (fun _ h => h.1) _ _ _ _ ?_
    refine wpAnyH_take (i := 7) (oi := { dst := some 48, op := Op.nilCheck (Operand.tmp 47), type := 0, pos := "law.go:71", after := #[{ on := 6, ground := Ground.data }], guard := none }) (v := .pointer (some ⟨q, 0, none⟩)) rfl (by kernel_rfl) (by kernel_rfl) (by kernel_rfl) (fun _ _ _ h => h) (Or.inl ⟨by rfl, ?_⟩) hS1 ?_
    · intro w hSw
      go_simp
    try simp only [Act.put, List.setIfInBounds_toArray, List.set_cons_zero, List.set_cons_succ]
    refine wpAnyH_take (i := 8) (oi := { dst := some 49, op := Op.fieldAddr 43 (Operand.tmp 48) 0, type := 0, pos := "law.go:71", after := #[{ on := 7, ground := Ground.data }], guard := none }) (v := .pointer (some ⟨q, 0, none⟩)) rfl (by kernel_rfl) (by kernel_rfl) (by kernel_rfl) (fun _ _ _ h => h) (Or.inl ⟨by rfl, ?_⟩) hS1 ?_
    · intro w hSw
      go_simp
    try simp only [Act.put, List.setIfInBounds_toArray, List.set_cons_zero, List.set_cons_succ]
    refine wpAnyH_take (i := 9) (oi := { dst := some 50, op := Op.load 37 (Operand.tmp 49), type := 37, pos := "law.go:71", after := #[{ on := 8, ground := Ground.data }], guard := none }) (v := (.slice va vn vc2)) rfl (by kernel_rfl) (by kernel_rfl) (by kernel_rfl) (fun _ _ _ h => h) (Or.inl ⟨by rfl, ?_⟩) hS1 ?_
    · intro w hSw
      have hc := hSw.2
      go_simp
    try simp only [Act.put, List.setIfInBounds_toArray, List.set_cons_zero, List.set_cons_succ]
    refine wpAnyH_take (i := 10) (oi := { dst := some 51, op := Op.build 39 #[(0, Operand.tmp 50)], type := 39, pos := "law.go:71", after := #[{ on := 9, ground := Ground.data }], guard := none }) (v := (.agg #[.slice va vn vc2])) rfl (by kernel_rfl) (by kernel_rfl) (by kernel_rfl) (fun _ _ _ h => h) (Or.inl ⟨by rfl, ?_⟩) hS1 ?_
    · intro w hSw
      go_simp
    try simp only [Act.put, List.setIfInBounds_toArray, List.set_cons_zero, List.set_cons_succ]
    exact nd1o t W z c pc vs vk m fuel E kd tr un pc2 st2 ca2 b2 HC HQ X1 hX2 q vn vc2 va m1.cells.1 m1.own.sees (fun j hj => by have e := (m1.at_ j hj).1; have := m1.rlt j hj; omega) _ _ _ _ _ _ _ _ _ _ _ (by kernel_rfl)
  · go_simp
    try go_wp2_with fail
    have hb1 : Below X.heap.size X (X.alloc (.cells #[.int .i64 0, .slice none 0 0, .slice none 0 0] 25)) := below_alloc X _
    have hz1 : (X.alloc (.cells #[.int .i64 0, .slice none 0 0, .slice none 0 0] 25)).heap.size = X.heap.size + 1 := by simp
    have hX2 : Below W.heap.size W (X.alloc (.cells #[.int .i64 0, .slice none 0 0, .slice none 0 0] 25)) := hX.trans (hb1.mono hsz)
    refine hK.out _ _ hX2 (fun _ => ?_)
    clear hK K
    try simp only [Act.put, List.setIfInBounds_toArray, List.set_cons_zero, List.set_cons_succ]
    exact nd0a t W z c pc vs vk m fuel E kd tr un pc2 st2 ca2 b2 HC HQ (X.alloc (.cells #[.int .i64 0, .slice none 0 0, .slice none 0 0] 25)) hX2 X.heap.size (heap_alloc_new X _) hsz _ _ _ _ _ _ _ _ _ _ _ _ _ _ _ (by kernel_rfl)
  · go_simp
    try go_wp2_with fail
    have hb1 : Below X.heap.size X (X.alloc (.cells #[.slice none 0 0] 39)) := below_alloc X _
    have hz1 : (X.alloc (.cells #[.slice none 0 0] 39)).heap.size = X.heap.size + 1 := by simp
    have hX2 : Below W.heap.size W (X.alloc (.cells #[.slice none 0 0] 39)) := hX.trans (hb1.mono hsz)
    refine hK.out _ _ hX2 (fun _ => ?_)
    clear hK K
    try simp only [Act.put, List.setIfInBounds_toArray, List.set_cons_zero, List.set_cons_succ]
    exact nd0n t W z c pc vs vk m fuel E kd tr un pc2 st2 ca2 b2 HC HQ (X.alloc (.cells #[.slice none 0 0] 39)) hX2 X.heap.size (heap_alloc_new X _) hsz _ _ _ _ _ _ _ _ _ _ _ _ _ _ _ (by kernel_rfl)
  · go_simp
    try go_wp2_with fail
    have hb1 : Below X.heap.size X (X.alloc (.cells #[.int .i64 0, .int .i64 0, .int .i64 0] 33)) := below_alloc X _
    have hz1 : (X.alloc (.cells #[.int .i64 0, .int .i64 0, .int .i64 0] 33)).heap.size = X.heap.size + 1 := by simp
    have hX2 : Below W.heap.size W (X.alloc (.cells #[.int .i64 0, .int .i64 0, .int .i64 0] 33)) := hX.trans (hb1.mono hsz)
    refine hK.out _ _ hX2 (fun _ => ?_)
    clear hK K
    try simp only [Act.put, List.setIfInBounds_toArray, List.set_cons_zero, List.set_cons_succ]
    exact nd0y t W z c pc vs vk m fuel E kd tr un pc2 st2 ca2 b2 HC HQ (X.alloc (.cells #[.int .i64 0, .int .i64 0, .int .i64 0] 33)) hX2 X.heap.size (heap_alloc_new X _) hsz _ _ _ _ _ _ _ _ _ _ _ _ _ _ _ (by kernel_rfl)

set_option maxHeartbeats 8000000 in
theorem region6 {Q : Exit → Act → World → Prop} (t : Nat → Value) (W : World) (z : Nat) (c : Value) (pc : Int) (vs vk : Value) (m : ByteArray) (fuel E kd tr : Int) (un : Nat) (pc2 : Int) (st2 ca2 : List Int) (b2 : List Nat) (HC : CtxR W z c pc vs vk m fuel E kd tr un pc2 st2 ca2 b2) (HQ : FinR Q t W z c pc vs vk m fuel E kd tr un pc2 st2 ca2 b2) (v10 v11 v12 v13 v40 v41 v42 v43 v44 v45 v46 v47 v48 v49 v50 v51 v52 v53 v54 v55 v56 v57 : Value) : (Code.region 6 opsR true).wp Tryd.prog Q { tmps := #[t 0, .int .i64 fuel, .pointer (some ⟨z, 0, none⟩), t 3, t 4, t 5, t 6, t 7, t 8, t 9, v10, v11, v12, v13, t 14, t 15, t 16, t 17, t 18, t 19, t 20, t 21, t 22, t 23, t 24, t 25, t 26, t 27, t 28, t 29, t 30, t 31, t 32, t 33, t 34, t 35, t 36, t 37, t 38, t 39, v40, v41, v42, v43, v44, v45, v46, v47, v48, v49, v50, v51, v52, v53, v54, v55, v56, v57, t 58, t 59, t 60, t 61, t 62, t 63, t 64, t 65, t 66, t 67, t 68, t 69, t 70, t 71, t 72, t 73, t 74, t 75, t 76, t 77, t 78, t 79, t 80, t 81, t 82, t 83, t 84, t 85, t 86, t 87, t 88, t 89, t 90, t 91, t 92, t 93, t 94, t 95, t 96, t 97, t 98, t 99, t 100, t 101, t 102, t 103, t 104, t 105, t 106, t 107, t 108], defers := [] } W := by
  refine wp_region_noPanic ?_
  refine wp_region_held_drew (S := S0 W) (by kernel_rfl) (Below.drew (Below.refl _ _)) (fun hSX => ?_)
  dsimp only
  refine wpAnyH_take (i := 0) (oi := { dst := some 41, op := Op.fieldAddr 27 (Operand.tmp 2) 0, type := 0, pos := "law.go:71", after := #[], guard := none }) (v := .pointer (some ⟨z, 0, none⟩)) rfl (by kernel_rfl) (by kernel_rfl) (by kernel_rfl) (fun _ _ _ h => h) (Or.inl ⟨by rfl, ?_⟩) hSX ?_
  · intro w hSw
    go_simp
  try simp only [Act.put, List.setIfInBounds_toArray, List.set_cons_zero, List.set_cons_succ]
  refine wpAnyH_take (i := 1) (oi := { dst := some 42, op := Op.load 22 (Operand.tmp 41), type := 22, pos := "law.go:71", after := #[{ on := 0, ground := Ground.data }], guard := none }) (v := c) rfl (by kernel_rfl) (by kernel_rfl) (by kernel_rfl) (fun _ _ _ h => h) (Or.inl ⟨by rfl, ?_⟩) hSX ?_
  · intro w hSw
    obtain ⟨e0, e1, e2, e3, e4⟩ := (HC.work.below hSw).cells
    go_simp
  try simp only [Act.put, List.setIfInBounds_toArray, List.set_cons_zero, List.set_cons_succ]
  refine wpAnyH_take (i := 2) (oi := { dst := some 43, op := Op.fieldAddr 27 (Operand.tmp 2) 1, type := 0, pos := "law.go:71", after := #[], guard := none }) (v := .pointer (some ⟨z, 1, none⟩)) rfl (by kernel_rfl) (by kernel_rfl) (by kernel_rfl) (fun _ _ _ h => h) (Or.inl ⟨by rfl, ?_⟩) hSX ?_
  · intro w hSw
    go_simp
  try simp only [Act.put, List.setIfInBounds_toArray, List.set_cons_zero, List.set_cons_succ]
  refine wpAnyH_take (i := 3) (oi := { dst := some 44, op := Op.load 25 (Operand.tmp 43), type := 25, pos := "law.go:71", after := #[{ on := 2, ground := Ground.data }], guard := none }) (v := (.agg #[.int .i64 pc, vs, vk])) rfl (by kernel_rfl) (by kernel_rfl) (by kernel_rfl) (fun _ _ _ h => h) (Or.inl ⟨by rfl, ?_⟩) hSX ?_
  · intro w hSw
    obtain ⟨e0, e1, e2, e3, e4⟩ := (HC.work.below hSw).cells
    go_simp
  try simp only [Act.put, List.setIfInBounds_toArray, List.set_cons_zero, List.set_cons_succ]
  refine wpAnyH_take (i := 4) (oi := { dst := some 45, op := Op.fieldAddr 27 (Operand.tmp 2) 2, type := 0, pos := "law.go:71", after := #[], guard := none }) (v := .pointer (some ⟨z, 4, none⟩)) rfl (by kernel_rfl) (by kernel_rfl) (by kernel_rfl) (fun _ _ _ h => h) (Or.inl ⟨by rfl, ?_⟩) hSX ?_
  · intro w hSw
    go_simp
  try simp only [Act.put, List.setIfInBounds_toArray, List.set_cons_zero, List.set_cons_succ]
  refine wpAnyH_take (i := 5) (oi := { dst := some 46, op := Op.load 9 (Operand.tmp 45), type := 9, pos := "law.go:71", after := #[{ on := 4, ground := Ground.data }], guard := none }) (v := (.string m)) rfl (by kernel_rfl) (by kernel_rfl) (by kernel_rfl) (fun _ _ _ h => h) (Or.inl ⟨by rfl, ?_⟩) hSX ?_
  · intro w hSw
    obtain ⟨e0, e1, e2, e3, e4⟩ := (HC.work.below hSw).cells
    go_simp
  try simp only [Act.put, List.setIfInBounds_toArray, List.set_cons_zero, List.set_cons_succ]
  refine wpAnyH_take (i := 11) (oi := { dst := some 52, op := Op.move (Operand.tmp 1), type := 3, pos := "law.go:71", after := #[], guard := none }) (v := (.int .i64 fuel)) rfl (by kernel_rfl) (by kernel_rfl) (by kernel_rfl) (fun _ _ _ h => h) (Or.inl ⟨by rfl, ?_⟩) hSX ?_
  · intro w hSw
    go_simp
  try simp only [Act.put, List.setIfInBounds_toArray, List.set_cons_zero, List.set_cons_succ]
  exact nd0o t W z c pc vs vk m fuel E kd tr un pc2 st2 ca2 b2 HC HQ _ hSX _ _ _ _ _ _ _ _ _ _ _ _ _ _ _ _ (by kernel_rfl)
end Go.Proofs.YtfnojlgmbfocfaaDoor
