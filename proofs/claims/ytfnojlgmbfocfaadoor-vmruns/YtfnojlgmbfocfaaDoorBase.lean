/-
  What the walks of this seat share: slices of bytes, what they read, what 'append' makes of them, the text of bytes.
-/
import Derived.Test.YtfnojlgmbfocfaaDoorProg
import Derived.WalkKit
import Derived.WalkSpells
import Derived.WalkLawsBesides
import Derived.BigQuiet
import Derived.Deep.QuietTactic
import Derived.Deep.DeepFit
import Derived.Laws.AppendOwnNone
import Derived.OwnWalk
import Derived.Handy
import Derived.LaidEqlPtr
import Derived.Deep.RegionHeld3
import Derived.Deep.AppendLies
import Derived.Laws.Rows
import Derived.Laws.BytesArg
import Derived.Laws.BitsAllLaws
namespace Go.Proofs.YtfnojlgmbfocfaaDoor
open Go.RowKit
set_option linter.unusedVariables false

theorem hid {p : Prop} (h : p) : Hid p := h

theorem ownsRow_below {w w' : World} {base : Nat} {e : TypeId} {size : Nat} {v : Value} {n : Nat} {xs : List Value} (h : w.ownsRow base e size v n xs) (hb : Below w.heap.size w w') : w'.ownsRow base e size v n xs := by
  refine ⟨h.1, ?_⟩
  rcases h.2 with hn | ⟨g, cap, cur, rfl, hbase, hg, rest⟩
  · exact Or.inl hn
  · exact Or.inr ⟨g, cap, cur, rfl, hbase, by rw [hb.block g (Array.getElem?_eq_some_iff.1 hg).1]; exact hg, rest⟩

theorem addr_add (b off j : Nat) : (⟨b, off, none⟩ : Addr).add j = ⟨b, off + j, none⟩ := by unfold Addr.add; split <;> simp_all

/-- The cells of a list of numbers. -/
def cellsN (k : IntKind) (xs : List Nat) : List Value := xs.map fun (x : Nat) => Value.int k (x : Int)
theorem cellsN_len (k : IntKind) (xs : List Nat) : (cellsN k xs).length = xs.length := by simp [cellsN]
theorem cellsN_get (k : IntKind) (xs : List Nat) (j : Nat) (h : j < xs.length) : (cellsN k xs)[j]? = some (.int k ((xs.getD j 0 : Nat) : Int)) := by
  simp [cellsN, List.getD, h]
theorem cellsN_app (k : IntKind) (xs ys : List Nat) : cellsN k (xs ++ ys) = cellsN k xs ++ cellsN k ys := by simp [cellsN]
theorem cellsN_one (k : IntKind) (xs : List Nat) : ∀ v ∈ cellsN k xs, v.oneCell' = true := by
  intro v hv
  obtain ⟨z, _, rfl⟩ := List.mem_map.1 hv
  rfl

/-- The slice v reads xs in the world w. -/
def SeesN (k : IntKind) (w : World) (v : Value) (xs : List Nat) : Prop :=
  ∃ b off ao cap, v = .slice ao xs.length cap ∧ xs.length ≤ cap ∧ (ao = none → cap = 0) ∧ (xs ≠ [] → ao = some ⟨b, off, none⟩) ∧ ∀ j, j < xs.length → w.cell? ⟨b, off + j, none⟩ = some (.int k ((xs.getD j 0 : Nat) : Int))

theorem SeesN.below {k : IntKind} {w w' : World} {v : Value} {xs : List Nat} (h : SeesN k w v xs) (hb : Below w.heap.size w w') : SeesN k w' v xs := by
  obtain ⟨b, off, ao, cap, hv, hc, hn, ha, hcell⟩ := h
  exact ⟨b, off, ao, cap, hv, hc, hn, ha, fun j hj => (hb.cell (World.block_lt_of_cell? w _ (hcell j hj))).trans (hcell j hj)⟩

/-- The slice v is the call's own, made from block 'base' on, and holds xs. -/
def OwnsN (k : IntKind) (e : TypeId) (w : World) (base : Nat) (v : Value) (xs : List Nat) : Prop := w.ownsRow base e 1 v xs.length (cellsN k xs)

theorem OwnsN.below {k : IntKind} {e : TypeId} {w w' : World} {base : Nat} {v : Value} {xs : List Nat} (h : OwnsN k e w base v xs) (hb : Below w.heap.size w w') : OwnsN k e w' base v xs := ownsRow_below h hb

theorem OwnsN.sees {k : IntKind} {e : TypeId} {w : World} {base : Nat} {v : Value} {xs : List Nat} (h : OwnsN k e w base v xs) : SeesN k w v xs := by
  rcases h.2 with ⟨rfl, hn⟩ | ⟨g, cap, cur, rfl, hbase, hg, hcap, _, _, ht⟩
  · have : xs = [] := List.eq_nil_of_length_eq_zero hn
    subst this
    exact ⟨0, 0, none, 0, rfl, Nat.le_refl _, fun _ => rfl, fun h => absurd rfl h, fun j hj => by simp at hj⟩
  · refine ⟨g, 0, _, cap, rfl, hcap, (fun h => by cases h), fun _ => rfl, fun j hj => ?_⟩
    have hc := h.cells (g := g) rfl j (.int k ((xs.getD j 0 : Nat) : Int)) (cellsN_get k xs j hj)
    rw [Nat.zero_add]
    rwa [addr_add, Nat.zero_add] at hc

theorem ownsN_le {k : IntKind} {e : TypeId} {w : World} {base base' : Nat} {v : Value} {xs : List Nat} (h : OwnsN k e w base v xs) (hb : base' ≤ base) : OwnsN k e w base' v xs := by
  refine ⟨h.1, ?_⟩
  rcases h.2 with hn | ⟨g, cap, cur, rfl, hbase, hg, rest⟩
  · exact Or.inl hn
  · exact Or.inr ⟨g, cap, cur, rfl, by omega, hg, rest⟩

theorem OwnsN.shape {k : IntKind} {e : TypeId} {w : World} {base : Nat} {v : Value} {xs : List Nat} (h : OwnsN k e w base v xs) : ∃ ao cap, v = .slice ao xs.length cap := by
  rcases h.2 with ⟨rfl, hn⟩ | ⟨g, cap, cur, rfl, _⟩
  · exact ⟨none, 0, by rw [hn]⟩
  · exact ⟨_, cap, rfl⟩

theorem OwnsN.nil (k : IntKind) (e : TypeId) (w : World) (base : Nat) : OwnsN k e w base (.slice none 0 0) [] := World.ownsRow_nil _ _ _ _

/-- A type of slices of one-cell integers. -/
structure Rowed (T e : TypeId) (k : IntKind) (by8 : Nat) : Prop where
  und : Tryd.prog.underlying T = some (.slice e)
  info : (Tryd.prog.info? e).map (fun i => (i.zero, i.size, i.bytes)) = some (some (.int k 0), 1, by8)
  pos : 0 < by8
  le : by8 ≤ 8

theorem Tryd.info5 : (Tryd.prog.info? 5).map (fun i => (i.zero, i.size, i.bytes)) = some (some (.int .u8 0), 1, 1) := by kernel_rfl
theorem rowBytes : Rowed 37 5 .u8 1 := ⟨Tryd.underlying37, Tryd.info5, by decide, by decide⟩

/-- 'append(v, u...)', v the call's own: it owns both. -/
theorem wpList_appN {T e : TypeId} {k : IntKind} {by8 : Nat} (R : Rowed T e k by8) {w : World} {ops : Array Oper} {rest : List Oper} {o : Oper} {a : Act} {Q : Exit → Act → World → Prop} (hgd : o.guard = none) (s x : Operand)
    (ho : o.op = .call { callee := .builtin .append, args := #[s, x], argTypes := #[T, T] }) (base : Nat) (v : Value) (xs : List Nat) (hs : a.eval s = v) (hown : OwnsN k e w base v xs)
    (u : Value) (ys : List Nat) (hx : a.eval x = u) (hsee : SeesN k w u ys) (hb : (xs.length + ys.length) * by8 ≤ 140737488355328) (hbase : base ≤ w.heap.size)
    (h : ∀ v' w', OwnsN k e w' base v' (xs ++ ys) → w.grownBy w' v.ownBlock → wpList Tryd.prog ops Q rest (a.put o.dst v') w') : wpList Tryd.prog ops Q (o :: rest) a w := by
  obtain ⟨i0, hi, hz0, hz1, hz2⟩ := info_parts R.info
  have hpos := R.pos
  have hmx : xs.length + ys.length ≤ maxLen := by
    have : (xs.length + ys.length) * 1 ≤ (xs.length + ys.length) * by8 := Nat.mul_le_mul_left _ hpos
    simp only [maxLen]; omega
  obtain ⟨b, off, ao, cap, rfl, hcap, hnil, hao, hcell⟩ := hsee
  by_cases hy : ys = []
  · subst hy
    cases ao with
    | none =>
      obtain rfl := hnil rfl
      refine wpList_append_own_none hgd s x T ho base e i0 1 R.und hi v _ _ hs hown hx ?_
      exact h v w (by simpa using hown) ⟨rfl, rfl, rfl, Nat.le_refl _, fun _ _ _ => rfl⟩
    | some ad =>
      refine wpList_append_own w hgd s x T ho base e i0 (.int k 0) 1 by8 R.und hi hz0 hz1 hz2 rfl (by decide) v _ _ hs hown ad 0 cap [] hx rfl (by simp) (by simp) (by simpa using hmx) (by simpa using hb) hbase ?_
      intro v' w' h1 h2 _
      exact h v' w' (by simpa [OwnsN] using h1) h2
  · obtain rfl := hao hy
    refine wpList_append_own w hgd s x T ho base e i0 (.int k 0) 1 by8 R.und hi hz0 hz1 hz2 rfl (by decide) v _ _ hs hown ⟨b, off, none⟩ ys.length cap (cellsN k ys) hx (by simp [cellsN_len]) ?_ (cellsN_one k ys) hmx hb hbase ?_
    · intro j y hj
      have hjl : j < ys.length := by
        have := (List.getElem?_eq_some_iff.1 hj).1
        simpa [cellsN_len] using this
      rw [addr_add, hcell j hjl]
      rw [cellsN_get k ys j hjl] at hj
      exact hj
    · intro v' w' h1 h2 _
      exact h v' w' (by simpa [OwnsN, cellsN_app] using h1) h2

theorem OwnsN.block {k : IntKind} {e : TypeId} {w : World} {base : Nat} {v : Value} {xs : List Nat} (h : OwnsN k e w base v xs) : ∀ j, v.ownBlock = some j → base ≤ j := by
  intro j hj
  rcases h.2 with ⟨rfl, hn⟩ | ⟨g, cap, cur, rfl, hb, _⟩
  · simp [Value.ownBlock] at hj
  · simp [Value.ownBlock] at hj
    omega

theorem grownBy_mono {a b c : World} {r r' : Option Nat} (h : a.grownBy b r) (k : b.grownBy c r') (hr : r' = r ∨ ∀ j, r' = some j → a.heap.size ≤ j) : a.grownBy c r := by
  refine ⟨k.os.trans h.os, k.tape.trans h.tape, k.output.trans h.output, Nat.le_trans h.size k.size, fun i hi hne => ?_⟩
  refine (k.block i (Nat.lt_of_lt_of_le hi h.size) (fun e => ?_)).trans (h.block i hi hne)
  rcases hr with rfl | hr
  · exact hne e
  · have := hr i e.symm
    omega

theorem below_grownBy {b : Nat} {w0 w w' : World} {r : Option Nat} (hb : Below b w0 w) (hg : w.grownBy w' r) (hr : ∀ j, r = some j → b ≤ j) (hs : b ≤ w.heap.size) : Below b w0 w' := by
  refine ⟨hg.os.trans hb.os, hg.tape.trans hb.tape, hg.output.trans hb.output, Nat.le_trans hb.size hg.size, fun k hk => ?_⟩
  rw [hg.block k (Nat.lt_of_lt_of_le hk hs) (fun e => by have := hr k e.symm; omega)]
  exact hb.block k hk

theorem sees_bytes1 (w : World) (x : Nat) : SeesN .u8 (w.alloc (.cells #[.int .u8 (x : Int)] 5)) (.slice (some ⟨w.heap.size, 0, none⟩) 1 1) [x] := by
  refine ⟨w.heap.size, 0, _, 1, rfl, Nat.le_refl _, (fun h => by cases h), fun _ => rfl, fun j hj => ?_⟩
  have : j = 0 := by simp at hj; omega
  subst this
  simp

theorem sees_b1 (w : World) (y : Int) (n : Nat) (h : y = (n : Int)) : SeesN .u8 (w.alloc (.cells #[.int .u8 y] 5)) (.slice (some ⟨w.heap.size, 0, none⟩) 1 1) [n] := by
  subst h
  exact sees_bytes1 w n
/-! ### Bits of int -/
theorem ofInt_64 (a : Nat) (ha : a < 9223372036854775808) : (BitVec.ofInt 64 (a : Int)).toNat = a := by
  rw [BitVec.ofInt_natCast, BitVec.toNat_ofNat]; exact Nat.mod_eq_of_lt (by omega)
theorem wrap_i64_nat (n : Nat) (h : n < 9223372036854775808) : IntKind.i64.wrap (n : Int) = n := by
  simp [IntKind.wrap, IntKind.bits, IntKind.signed]
  split <;> omega
theorem i64_and (a b : Nat) (ha : a < 9223372036854775808) (hb : b < 9223372036854775808) : bits .and .i64 (a : Int) (b : Int) = ((a &&& b : Nat) : Int) := by
  have hx : a &&& b < 2 ^ 63 := Nat.and_lt_two_pow _ hb
  show IntKind.i64.wrap ((BitVec.ofInt 64 (a : Int) &&& BitVec.ofInt 64 (b : Int)).toNat : Int) = _
  rw [BitVec.toNat_and, ofInt_64 a ha, ofInt_64 b hb, wrap_i64_nat _ hx]
theorem i64_or (a b : Nat) (ha : a < 9223372036854775808) (hb : b < 9223372036854775808) : bits .or .i64 (a : Int) (b : Int) = ((a ||| b : Nat) : Int) := by
  have hx : a ||| b < 2 ^ 63 := Nat.or_lt_two_pow ha hb
  show IntKind.i64.wrap ((BitVec.ofInt 64 (a : Int) ||| BitVec.ofInt 64 (b : Int)).toNat : Int) = _
  rw [BitVec.toNat_or, ofInt_64 a ha, ofInt_64 b hb, wrap_i64_nat _ hx]
theorem i64_xor (a b : Nat) (ha : a < 9223372036854775808) (hb : b < 9223372036854775808) : bits .xor .i64 (a : Int) (b : Int) = ((a ^^^ b : Nat) : Int) := by
  have hx : a ^^^ b < 2 ^ 63 := Nat.xor_lt_two_pow ha hb
  show IntKind.i64.wrap ((BitVec.ofInt 64 (a : Int) ^^^ BitVec.ofInt 64 (b : Int)).toNat : Int) = _
  rw [BitVec.toNat_xor, ofInt_64 a ha, ofInt_64 b hb, wrap_i64_nat _ hx]

def bytesOf (s : ByteArray) : List Nat := s.data.toList.map UInt8.toNat
/-- The text of bytes. -/
def strOf (l : List Nat) : ByteArray := ⟨(l.map UInt8.ofNat).toArray⟩
theorem bytesOf_len (s : ByteArray) : (bytesOf s).length = s.size := by
  show (s.data.toList.map UInt8.toNat).length = s.data.size
  rw [List.length_map, Array.length_toList]
theorem bytesOf_lt (s : ByteArray) : ∀ x ∈ bytesOf s, x < 256 := by
  intro x hx
  obtain ⟨b, _, rfl⟩ := List.mem_map.1 hx
  exact b.toNat_lt
theorem strOf_bytesOf (s : ByteArray) : strOf (bytesOf s) = s := by
  cases s with
  | mk d =>
    show ByteArray.mk ((d.toList.map UInt8.toNat).map UInt8.ofNat).toArray = _
    rw [List.map_map, List.map_congr_left (g := id) (fun x _ => by simp), List.map_id]
theorem bytesOf_strOf {l : List Nat} (h : ∀ x ∈ l, x < 256) : bytesOf (strOf l) = l := by
  simp only [bytesOf, strOf, List.map_map]
  rw [List.map_congr_left (g := id) (fun x hx => by simp [Nat.mod_eq_of_lt (h x hx)]), List.map_id]
theorem strOf_size (l : List Nat) : (strOf l).size = l.length := by simp [strOf, ByteArray.size]

theorem bytesOf_extract (s : ByteArray) (n : Nat) (h : n ≤ s.size) : bytesOf (s.extract n s.size) = (bytesOf s).drop n := by
  have e : (s.extract n s.size).data.toList = s.data.toList.drop n := by
    rw [ByteArray.data_extract, Array.toList_extract]
    simp only [List.extract]
    rw [List.take_of_length_le (by rw [List.length_drop, Array.length_toList]; exact Nat.le_refl _)]
  rw [bytesOf, e, bytesOf, List.map_drop]
theorem bytesOf_append (a b : ByteArray) : bytesOf (a ++ b) = bytesOf a ++ bytesOf b := by
  simp [bytesOf, ByteArray.data_append]

theorem strOfNums_cast (xs : List Nat) : strOfNums (xs.map fun (x : Nat) => (x : Int)) = strOf xs := by
  simp [strOfNums, strOf]

theorem conv_own {w : World} {base : Nat} {v : Value} {xs : List Nat} (h : OwnsN .u8 5 w base v xs) : (convert 37 9 v).run Tryd.prog w = .ok (.string (strOf xs)) w := by
  rcases h.2 with ⟨rfl, hn⟩ | ⟨g, cap, cur, rfl, hbase, hg, hcap, _, _, ht⟩
  · have : xs = [] := List.eq_nil_of_length_eq_zero hn
    subst this
    exact run_convert_bytes_nil w 37 5 Tryd.underlying37 Tryd.underlying5 0 0 9 Tryd.underlying9
  · rw [← strOfNums_cast]
    refine run_convert_bytes_arg w 37 5 Tryd.underlying37 Tryd.underlying5 g 0 _ cap _ (by simp) (fun i hi => ?_) 9 Tryd.underlying9
    have hc := h.cells (g := g) rfl i (.int .u8 ((xs.getD i 0 : Nat) : Int)) (cellsN_get _ _ _ hi)
    rw [addr_add] at hc
    rw [hc]
    simp [List.getD, hi]

theorem run_appN {T e : TypeId} {k : IntKind} {by8 : Nat} (R : Rowed T e k by8) (w : World) (ty : TypeId) (base : Nat) (v : Value) (xs : List Nat) (hown : OwnsN k e w base v xs)
    (u : Value) (ys : List Nat) (hne : ys ≠ []) (hsee : SeesN k w u ys) (hb : (xs.length + ys.length) * by8 ≤ 140737488355328) (hbase : base ≤ w.heap.size) :
    ∃ v' w', (Builtin.append_ #[T, T] ty #[v, u]).run Tryd.prog w = .ok v' w' ∧ OwnsN k e w' base v' (xs ++ ys) ∧ w.grownBy w' v.ownBlock := by
  obtain ⟨i0, hi, hz0, hz1, hz2⟩ := info_parts R.info
  have hpos := R.pos
  have hmx : xs.length + ys.length ≤ maxLen := by
    have : (xs.length + ys.length) * 1 ≤ (xs.length + ys.length) * by8 := Nat.mul_le_mul_left _ hpos
    simp only [maxLen]; omega
  obtain ⟨b, off, ao, cap, rfl, hcap, hnil, hao, hcell⟩ := hsee
  obtain rfl := hao hne
  have hpl : 0 < ys.length := List.length_pos_iff.2 hne
  obtain ⟨g, cap', w', hr, h1, h2, _, _⟩ := run_append_lies (P := Tryd.prog) w T ty base e i0 (.int k 0) 1 by8 R.und hi hz0 hz1 hz2 rfl (by decide) v _ _ hown ⟨b, off, none⟩ ys.length cap (cellsN k ys) (by simp [cellsN_len]) (fun j y hj => by
      have hjl : j < ys.length := by
        have := (List.getElem?_eq_some_iff.1 hj).1
        simpa [cellsN_len] using this
      rw [addr_add, hcell j hjl]
      rw [cellsN_get k ys j hjl] at hj
      exact hj) (cellsN_one k ys) hpl hmx hb hbase _ rfl
  exact ⟨_, w', hr, by simpa [OwnsN, cellsN_app] using h1, h2⟩

theorem wp_appN {T e : TypeId} {k : IntKind} {by8 : Nat} (R : Rowed T e k by8) {w : World} {o : Oper} {a : Act} {K : Act → World → Prop} {Q : Exit → Act → World → Prop} (s x : Operand)
    (ho : o.op = .call { callee := .builtin .append, args := #[s, x], argTypes := #[T, T] }) (base : Nat) (v : Value) (xs : List Nat) (hs : a.eval s = v) (hown : OwnsN k e w base v xs)
    (u : Value) (ys : List Nat) (hx : a.eval x = u) (hne : ys ≠ []) (hsee : SeesN k w u ys) (hb : (xs.length + ys.length) * by8 ≤ 140737488355328) (hbase : base ≤ w.heap.size)
    (h : ∀ v' w', OwnsN k e w' base v' (xs ++ ys) → w.grownBy w' v.ownBlock → K (a.put o.dst v') w') : o.wp Tryd.prog a w K Q := by
  obtain ⟨v', w', hr, h1, h2⟩ := run_appN R w o.type base v xs hown u ys hne hsee hb hbase
  unfold Oper.wp execOp
  simp only [ho, resolve, invoke, builtin, Sem.run_bind, Sem.run_pure, Result.andThen_ok, List.map_toArray, List.map_cons, List.map_nil, hs, hx, hr]
  exact h v' w' h1 h2

/-- 'append(v, u...)' at a step of a region that draws its order. -/
theorem step_appN {T e : TypeId} {k : IntKind} {by8 : Nat} (R : Rowed T e k by8) {w : World} {ops : Array Oper} {o : Oper} {a : Act} {K : Act → World → Prop} {Q : Exit → Act → World → Prop} {E : Prop} (hgd : o.guard = none) (s x : Operand)
    (ho : o.op = .call { callee := .builtin .append, args := #[s, x], argTypes := #[T, T] }) (base : Nat) (v : Value) (xs : List Nat) (hs : a.eval s = v) (hown : OwnsN k e w base v xs)
    (u : Value) (ys : List Nat) (hx : a.eval x = u) (hne : ys ≠ []) (hsee : SeesN k w u ys) (hb : (xs.length + ys.length) * by8 ≤ 140737488355328) (hbase : base ≤ w.heap.size)
    (h : ∀ v' w', OwnsN k e w' base v' (xs ++ ys) → w.grownBy w' v.ownBlock → K (a.put o.dst v') w') :
    if Region.wanted o (yielded ops a.tmps) = true then Oper.wp Tryd.prog o a w K Q else E := by
  have hw : Region.wanted o (yielded ops a.tmps) = true := by simp [Region.wanted, hgd]
  rw [if_pos hw]
  exact wp_appN R s x ho base v xs hs hown u ys hx hne hsee hb hbase h

theorem below_alloc (w : World) (o : Obj) : Below w.heap.size w (w.alloc o) := (Below.refl _ _).alloc (Nat.le_refl _) o
theorem below_drewN' (w : World) (B n : Nat) : Below B w (w.drewN n) := below_drewN (Below.refl _ _) n
theorem below_ad (w : World) (o : Obj) : Below w.heap.size w (w.alloc o).drew := ⟨rfl, rfl, rfl, (below_alloc w o).size, (below_alloc w o).block⟩

theorem index_str (s : ByteArray) (q : IntKind) (i : Int) (n : Nat) (hi : i = (n : Int)) (hn : n < s.size) (w : World) : (Instr.index 9 (.string s) (.int q i)).run Tryd.prog w = .ok (.int .u8 (((bytesOf s).getD n 0 : Nat) : Int)) w := by
  subst hi
  rw [run_index_string w 9 s q n Tryd.underlying9]
  have e : (bytesOf s).getD n 0 = s[n].toNat := by
    have hl : n < s.data.toList.length := by simpa using hn
    simp only [bytesOf, List.getD, List.getElem?_map, List.getElem?_eq_getElem hl, Option.map_some, Option.getD_some]
    rfl
  rw [e]
  simp [hn]

/-! ### Bytes as bytes -/
theorem strOf_toNat (l : List UInt8) : strOf (l.map UInt8.toNat) = ⟨l.toArray⟩ := by
  simp only [strOf, List.map_map]
  rw [List.map_congr_left (g := id) (fun x _ => by simp), List.map_id]
/-- The slice v is the call's own and holds the bytes l. -/
def OwnsB (w : World) (base : Nat) (v : Value) (l : List UInt8) : Prop := OwnsN .u8 5 w base v (l.map UInt8.toNat)
theorem OwnsB.below {w w' : World} {base : Nat} {v : Value} {l : List UInt8} (h : OwnsB w base v l) (hb : Below w.heap.size w w') : OwnsB w' base v l := OwnsN.below h hb
theorem OwnsB.nil (w : World) (base : Nat) : OwnsB w base (.slice none 0 0) [] := OwnsN.nil _ _ _ _
theorem OwnsB.block {w : World} {base : Nat} {v : Value} {l : List UInt8} (h : OwnsB w base v l) : ∀ j, v.ownBlock = some j → base ≤ j := OwnsN.block h
theorem OwnsB.conv {w : World} {base : Nat} {v : Value} {l : List UInt8} (h : OwnsB w base v l) : (convert 37 9 v).run Tryd.prog w = .ok (.string ⟨l.toArray⟩) w := by
  rw [← strOf_toNat]; exact conv_own h
theorem OwnsB.shape {w : World} {base : Nat} {v : Value} {l : List UInt8} (h : OwnsB w base v l) : ∃ ao cap, v = .slice ao l.length cap := by
  obtain ⟨ao, cap, h⟩ := OwnsN.shape h
  exact ⟨ao, cap, by rw [h, List.length_map]⟩
/-- At p lies a variable of the type t. -/
def VarAt (t : TypeId) (w : World) (p : Nat) (v : Value) : Prop := w.heap[p]? = some (.cells #[v] t (0, 0))
theorem VarAt.lt {t : TypeId} {w : World} {p : Nat} {v : Value} (h : VarAt t w p v) : p < w.heap.size := (Array.getElem?_eq_some_iff.1 h).1
theorem VarAt.below {t : TypeId} {w w' : World} {p B : Nat} {v : Value} (h : VarAt t w p v) (hb : Below B w w') (hp : p < B) : VarAt t w' p v := by
  unfold VarAt
  rw [hb.block p hp]
  exact h
theorem VarAt.cells {t : TypeId} {w : World} {p : Nat} {v : Value} (h : VarAt t w p v) : w.cell? ⟨p, 0, none⟩ = some v ∧ w.frozen? ⟨p, 0, none⟩ = false := by
  unfold VarAt at h
  refine ⟨?_, ?_⟩ <;> simp [World.cell?, World.frozen?, h]
theorem VarAt.store {t : TypeId} {w : World} {p : Nat} {v v' : Value} (h : VarAt t w p v) : VarAt t (w.setCell ⟨p, 0, none⟩ v') p v' := by
  unfold VarAt at *
  simp only [World.setCell, Array.getElem?_modify, h]
  simp
theorem VarAt.drewN {t : TypeId} {w : World} {p : Nat} {v : Value} (h : VarAt t w p v) (n : Nat) : VarAt t (w.drewN n) p v := by
  unfold VarAt at *
  have := (below_drewN (Below.refl w.heap.size w) n).block p (Array.getElem?_eq_some_iff.1 h).1
  rw [this]
  exact h
theorem len_str (s : ByteArray) : s.data.toList.length = s.size := by
  show s.data.toList.length = s.data.size
  exact Array.length_toList
theorem drop_byte (s : ByteArray) (k : Nat) (h : k < s.size) : s.data.toList.drop k = s[k] :: s.data.toList.drop (k + 1) := by
  have h' : k < s.data.toList.length := by rw [len_str]; exact h
  rw [List.drop_eq_getElem_cons h']
  rfl

end Go.Proofs.YtfnojlgmbfocfaaDoor
