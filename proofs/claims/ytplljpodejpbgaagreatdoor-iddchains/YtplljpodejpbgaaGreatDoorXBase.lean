/-
  What the walks of this seat share: slices that read lists of natural numbers, of whatever kind of integer; that such readings last where old memory stays; what 'append' makes of them.
-/
import Derived.Test.YtplljpodejpbgaaGreatDoorProg
import Derived.Test.YtplljpodejpbgaaGreatDoorXMath
import Derived.Test.YtplljpodejpbgaaGreatDoorLBase
import Derived.WalkKit
import Derived.WalkSpells
import Derived.WalkLawsBesides
import Derived.BigQuiet
import Derived.Deep.QuietTactic
import Derived.Deep.DeepFit
import Derived.Laws.AppendOwnNone
import Derived.OwnWalk
import Derived.Handy
import Derived.LaidEqlPtr
import Derived.Deep.RegionHeld3
import Derived.Laws.Rows
namespace Go.Proofs.YtplljpodejpbgaaGreatDoor
open Go.RowKit
set_option linter.unusedVariables false

theorem xaddr_add (b off j : Nat) : (⟨b, off, none⟩ : Addr).add j = ⟨b, off + j, none⟩ := by unfold Addr.add; split <;> simp_all
theorem xret_bool {a b : Bool} (h : a = b) : Ending.returned (.bool a) = .returned (.bool b) := by rw [h]
theorem ret_int {k : IntKind} {a b : Int} (h : a = b) : Ending.returned (.int k a) = .returned (.int k b) := by rw [h]

/-- The cells of a list of numbers. -/
def cellsN (k : IntKind) (xs : List Nat) : List Value := xs.map fun (x : Nat) => Value.int k (x : Int)
theorem cellsN_len (k : IntKind) (xs : List Nat) : (cellsN k xs).length = xs.length := by simp [cellsN]
theorem cellsN_get (k : IntKind) (xs : List Nat) (j : Nat) (h : j < xs.length) : (cellsN k xs)[j]? = some (.int k ((xs.getD j 0 : Nat) : Int)) := by
  simp [cellsN, List.getD, h]
theorem cellsN_app (k : IntKind) (xs ys : List Nat) : cellsN k (xs ++ ys) = cellsN k xs ++ cellsN k ys := by simp [cellsN]
theorem cellsN_one (k : IntKind) (xs : List Nat) : ∀ v ∈ cellsN k xs, v.oneCell' = true := by
  intro v hv
  obtain ⟨z, _, rfl⟩ := List.mem_map.1 hv
  rfl

/-- The slice v reads xs in the world w. -/
def SeesN (k : IntKind) (w : World) (v : Value) (xs : List Nat) : Prop :=
  ∃ b off ao cap, v = .slice ao xs.length cap ∧ xs.length ≤ cap ∧ (ao = none → cap = 0) ∧ (xs ≠ [] → ao = some ⟨b, off, none⟩) ∧ ∀ j, j < xs.length → w.cell? ⟨b, off + j, none⟩ = some (.int k ((xs.getD j 0 : Nat) : Int))

theorem SeesN.below {k : IntKind} {w w' : World} {v : Value} {xs : List Nat} (h : SeesN k w v xs) (hb : Below w.heap.size w w') : SeesN k w' v xs := by
  obtain ⟨b, off, ao, cap, hv, hc, hn, ha, hcell⟩ := h
  exact ⟨b, off, ao, cap, hv, hc, hn, ha, fun j hj => (hb.cell (World.block_lt_of_cell? w _ (hcell j hj))).trans (hcell j hj)⟩

/-- The slice v is the call's own, made from block 'base' on, and holds xs. -/
def OwnsN (k : IntKind) (e : TypeId) (w : World) (base : Nat) (v : Value) (xs : List Nat) : Prop := w.ownsRow base e 1 v xs.length (cellsN k xs)

theorem xownsRow_below {w w' : World} {base : Nat} {e : TypeId} {size : Nat} {v : Value} {n : Nat} {xs : List Value} (h : w.ownsRow base e size v n xs) (hb : Below w.heap.size w w') : w'.ownsRow base e size v n xs := by
  refine ⟨h.1, ?_⟩
  rcases h.2 with hn | ⟨g, cap, cur, rfl, hbase, hg, rest⟩
  · exact Or.inl hn
  · exact Or.inr ⟨g, cap, cur, rfl, hbase, by rw [hb.block g (Array.getElem?_eq_some_iff.1 hg).1]; exact hg, rest⟩

theorem OwnsN.below {k : IntKind} {e : TypeId} {w w' : World} {base : Nat} {v : Value} {xs : List Nat} (h : OwnsN k e w base v xs) (hb : Below w.heap.size w w') : OwnsN k e w' base v xs := xownsRow_below h hb

theorem OwnsN.sees {k : IntKind} {e : TypeId} {w : World} {base : Nat} {v : Value} {xs : List Nat} (h : OwnsN k e w base v xs) : SeesN k w v xs := by
  rcases h.2 with ⟨rfl, hn⟩ | ⟨g, cap, cur, rfl, hbase, hg, hcap, _, _, ht⟩
  · have : xs = [] := List.eq_nil_of_length_eq_zero hn
    subst this
    exact ⟨0, 0, none, 0, rfl, Nat.le_refl _, fun _ => rfl, fun h => absurd rfl h, fun j hj => by simp at hj⟩
  · refine ⟨g, 0, _, cap, rfl, hcap, (fun h => by cases h), fun _ => rfl, fun j hj => ?_⟩
    have hc := h.cells (g := g) rfl j (.int k ((xs.getD j 0 : Nat) : Int)) (cellsN_get k xs j hj)
    rw [Nat.zero_add]
    rwa [xaddr_add, Nat.zero_add] at hc

theorem ownsN_le {k : IntKind} {e : TypeId} {w : World} {base base' : Nat} {v : Value} {xs : List Nat} (h : OwnsN k e w base v xs) (hb : base' ≤ base) : OwnsN k e w base' v xs := by
  refine ⟨h.1, ?_⟩
  rcases h.2 with hn | ⟨g, cap, cur, rfl, hbase, hg, rest⟩
  · exact Or.inl hn
  · exact Or.inr ⟨g, cap, cur, rfl, by omega, hg, rest⟩

theorem OwnsN.shape {k : IntKind} {e : TypeId} {w : World} {base : Nat} {v : Value} {xs : List Nat} (h : OwnsN k e w base v xs) : ∃ ao cap, v = .slice ao xs.length cap := by
  rcases h.2 with ⟨rfl, hn⟩ | ⟨g, cap, cur, rfl, _⟩
  · exact ⟨none, 0, by rw [hn]⟩
  · exact ⟨_, cap, rfl⟩

theorem OwnsN.nil (k : IntKind) (e : TypeId) (w : World) (base : Nat) : OwnsN k e w base (.slice none 0 0) [] := World.ownsRow_nil _ _ _ _

/-- A type of slices of one-cell integers. -/
structure Rowed (T e : TypeId) (k : IntKind) (by8 : Nat) : Prop where
  und : Tryz.prog.underlying T = some (.slice e)
  info : (Tryz.prog.info? e).map (fun i => (i.zero, i.size, i.bytes)) = some (some (.int k 0), 1, by8)
  pos : 0 < by8
  le : by8 ≤ 8

theorem Tryz.info5 : (Tryz.prog.info? 5).map (fun i => (i.zero, i.size, i.bytes)) = some (some (.int .u8 0), 1, 1) := by kernel_rfl
theorem rowInts : Rowed 23 3 .i64 8 := ⟨Tryz.underlying23, Tryz.info3, by decide, by decide⟩
theorem rowBytes : Rowed 111 5 .u8 1 := ⟨Tryz.underlying111, Tryz.info5, by decide, by decide⟩

/-- 'append(v, u...)', v the call's own: it owns both. -/
theorem wpList_appN {T e : TypeId} {k : IntKind} {by8 : Nat} (R : Rowed T e k by8) {w : World} {ops : Array Oper} {rest : List Oper} {o : Oper} {a : Act} {Q : Exit → Act → World → Prop} (hgd : o.guard = none) (s x : Operand)
    (ho : o.op = .call { callee := .builtin .append, args := #[s, x], argTypes := #[T, T] }) (base : Nat) (v : Value) (xs : List Nat) (hs : a.eval s = v) (hown : OwnsN k e w base v xs)
    (u : Value) (ys : List Nat) (hx : a.eval x = u) (hsee : SeesN k w u ys) (hb : (xs.length + ys.length) * by8 ≤ 140737488355328) (hbase : base ≤ w.heap.size)
    (h : ∀ v' w', OwnsN k e w' base v' (xs ++ ys) → w.grownBy w' v.ownBlock → wpList Tryz.prog ops Q rest (a.put o.dst v') w') : wpList Tryz.prog ops Q (o :: rest) a w := by
  obtain ⟨i0, hi, hz0, hz1, hz2⟩ := info_parts R.info
  have hpos := R.pos
  have hmx : xs.length + ys.length ≤ maxLen := by
    have : (xs.length + ys.length) * 1 ≤ (xs.length + ys.length) * by8 := Nat.mul_le_mul_left _ hpos
    simp only [maxLen]; omega
  obtain ⟨b, off, ao, cap, rfl, hcap, hnil, hao, hcell⟩ := hsee
  by_cases hy : ys = []
  · subst hy
    cases ao with
    | none =>
      obtain rfl := hnil rfl
      refine wpList_append_own_none hgd s x T ho base e i0 1 R.und hi v _ _ hs hown hx ?_
      exact h v w (by simpa using hown) ⟨rfl, rfl, rfl, Nat.le_refl _, fun _ _ _ => rfl⟩
    | some ad =>
      refine wpList_append_own w hgd s x T ho base e i0 (.int k 0) 1 by8 R.und hi hz0 hz1 hz2 rfl (by decide) v _ _ hs hown ad 0 cap [] hx rfl (by simp) (by simp) (by simpa using hmx) (by simpa using hb) hbase ?_
      intro v' w' h1 h2 _
      exact h v' w' (by simpa [OwnsN] using h1) h2
  · obtain rfl := hao hy
    refine wpList_append_own w hgd s x T ho base e i0 (.int k 0) 1 by8 R.und hi hz0 hz1 hz2 rfl (by decide) v _ _ hs hown ⟨b, off, none⟩ ys.length cap (cellsN k ys) hx (by simp [cellsN_len]) ?_ (cellsN_one k ys) hmx hb hbase ?_
    · intro j y hj
      have hjl : j < ys.length := by
        have := (List.getElem?_eq_some_iff.1 hj).1
        simpa [cellsN_len] using this
      rw [xaddr_add, hcell j hjl]
      rw [cellsN_get k ys j hjl] at hj
      exact hj
    · intro v' w' h1 h2 _
      exact h v' w' (by simpa [OwnsN, cellsN_app] using h1) h2

theorem OwnsN.block {k : IntKind} {e : TypeId} {w : World} {base : Nat} {v : Value} {xs : List Nat} (h : OwnsN k e w base v xs) : ∀ j, v.ownBlock = some j → base ≤ j := by
  intro j hj
  rcases h.2 with ⟨rfl, hn⟩ | ⟨g, cap, cur, rfl, hb, _⟩
  · simp [Value.ownBlock] at hj
  · simp [Value.ownBlock] at hj
    omega

theorem xgrownBy_mono {a b c : World} {r r' : Option Nat} (h : a.grownBy b r) (k : b.grownBy c r') (hr : r' = r ∨ ∀ j, r' = some j → a.heap.size ≤ j) : a.grownBy c r := by
  refine ⟨k.os.trans h.os, k.tape.trans h.tape, k.output.trans h.output, Nat.le_trans h.size k.size, fun i hi hne => ?_⟩
  refine (k.block i (Nat.lt_of_lt_of_le hi h.size) (fun e => ?_)).trans (h.block i hi hne)
  rcases hr with rfl | hr
  · exact hne e
  · have := hr i e.symm
    omega

theorem below_grownBy {b : Nat} {w0 w w' : World} {r : Option Nat} (hb : Below b w0 w) (hg : w.grownBy w' r) (hr : ∀ j, r = some j → b ≤ j) (hs : b ≤ w.heap.size) : Below b w0 w' := by
  refine ⟨hg.os.trans hb.os, hg.tape.trans hb.tape, hg.output.trans hb.output, Nat.le_trans hb.size hg.size, fun k hk => ?_⟩
  rw [hg.block k (Nat.lt_of_lt_of_le hk hs) (fun e => by have := hr k e.symm; omega)]
  exact hb.block k hk

theorem sees_bytes1 (w : World) (x : Nat) : SeesN .u8 (w.alloc (.cells #[.int .u8 (x : Int)] 5)) (.slice (some ⟨w.heap.size, 0, none⟩) 1 1) [x] := by
  refine ⟨w.heap.size, 0, _, 1, rfl, Nat.le_refl _, (fun h => by cases h), fun _ => rfl, fun j hj => ?_⟩
  have : j = 0 := by simp at hj; omega
  subst this
  simp

theorem sees_ints1 (w : World) (x : Nat) : SeesN .i64 (w.alloc (.cells #[.int .i64 (x : Int)] 3)) (.slice (some ⟨w.heap.size, 0, none⟩) 1 1) [x] := by
  refine ⟨w.heap.size, 0, _, 1, rfl, Nat.le_refl _, (fun h => by cases h), fun _ => rfl, fun j hj => ?_⟩
  have : j = 0 := by simp at hj; omega
  subst this
  simp

theorem sees_b1 (w : World) (y : Int) (n : Nat) (h : y = (n : Int)) : SeesN .u8 (w.alloc (.cells #[.int .u8 y] 5)) (.slice (some ⟨w.heap.size, 0, none⟩) 1 1) [n] := by
  subst h
  exact sees_bytes1 w n
theorem sees_i1 (w : World) (y : Int) (n : Nat) (h : y = (n : Int)) : SeesN .i64 (w.alloc (.cells #[.int .i64 y] 3)) (.slice (some ⟨w.heap.size, 0, none⟩) 1 1) [n] := by
  subst h
  exact sees_ints1 w n
theorem below_alloc (w : World) (o : Obj) : Below w.heap.size w (w.alloc o) := (Below.refl _ _).alloc (Nat.le_refl _) _

/-! ### Bits of int -/
theorem ofInt_64 (a : Nat) (ha : a < 9223372036854775808) : (BitVec.ofInt 64 (a : Int)).toNat = a := by
  rw [BitVec.ofInt_natCast, BitVec.toNat_ofNat]; exact Nat.mod_eq_of_lt (by omega)
theorem wrap_i64_nat (n : Nat) (h : n < 9223372036854775808) : IntKind.i64.wrap (n : Int) = n := by
  simp [IntKind.wrap, IntKind.bits, IntKind.signed]
  split <;> omega
theorem i64_and (a b : Nat) (ha : a < 9223372036854775808) (hb : b < 9223372036854775808) : bits .and .i64 (a : Int) (b : Int) = ((a &&& b : Nat) : Int) := by
  have hx : a &&& b < 2 ^ 63 := Nat.and_lt_two_pow _ hb
  show IntKind.i64.wrap ((BitVec.ofInt 64 (a : Int) &&& BitVec.ofInt 64 (b : Int)).toNat : Int) = _
  rw [BitVec.toNat_and, ofInt_64 a ha, ofInt_64 b hb, wrap_i64_nat _ hx]
theorem i64_or (a b : Nat) (ha : a < 9223372036854775808) (hb : b < 9223372036854775808) : bits .or .i64 (a : Int) (b : Int) = ((a ||| b : Nat) : Int) := by
  have hx : a ||| b < 2 ^ 63 := Nat.or_lt_two_pow ha hb
  show IntKind.i64.wrap ((BitVec.ofInt 64 (a : Int) ||| BitVec.ofInt 64 (b : Int)).toNat : Int) = _
  rw [BitVec.toNat_or, ofInt_64 a ha, ofInt_64 b hb, wrap_i64_nat _ hx]
theorem i64_xor (a b : Nat) (ha : a < 9223372036854775808) (hb : b < 9223372036854775808) : bits .xor .i64 (a : Int) (b : Int) = ((a ^^^ b : Nat) : Int) := by
  have hx : a ^^^ b < 2 ^ 63 := Nat.xor_lt_two_pow ha hb
  show IntKind.i64.wrap ((BitVec.ofInt 64 (a : Int) ^^^ BitVec.ofInt 64 (b : Int)).toNat : Int) = _
  rw [BitVec.toNat_xor, ofInt_64 a ha, ofInt_64 b hb, wrap_i64_nat _ hx]

end Go.Proofs.YtplljpodejpbgaaGreatDoor
