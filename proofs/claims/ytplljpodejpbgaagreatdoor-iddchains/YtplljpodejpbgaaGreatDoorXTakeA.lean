/-
  What 'take' leans on: bytes of a text copied into the midst of a row; a row stored into the midst of a row; a text's bytes as numbers.
-/
import Derived.Test.YtplljpodejpbgaaGreatDoorXMix
import Derived.Laws.CopyRow
namespace Go.Proofs.YtplljpodejpbgaaGreatDoor
open Go.RowKit
set_option linter.unusedVariables false
set_option maxRecDepth 100000

/-- A text's bytes. -/
def bytesOf (s : ByteArray) : List Nat := s.data.toList.map UInt8.toNat
/-- The text of bytes. -/
def strOf (l : List Nat) : ByteArray := ⟨(l.map UInt8.ofNat).toArray⟩
theorem bytesOf_len (s : ByteArray) : (bytesOf s).length = s.size := by
  show (s.data.toList.map UInt8.toNat).length = s.data.size
  rw [List.length_map, Array.length_toList]
theorem bytesOf_lt (s : ByteArray) : ∀ x ∈ bytesOf s, x < 256 := by
  intro x hx
  obtain ⟨b, _, rfl⟩ := List.mem_map.1 hx
  exact b.toNat_lt
theorem strOf_bytesOf (s : ByteArray) : strOf (bytesOf s) = s := by
  cases s with
  | mk d =>
    show ByteArray.mk ((d.toList.map UInt8.toNat).map UInt8.ofNat).toArray = _
    rw [List.map_map, List.map_congr_left (g := id) (fun x _ => by simp), List.map_id]
theorem bytesOf_strOf {l : List Nat} (h : ∀ x ∈ l, x < 256) : bytesOf (strOf l) = l := by
  simp only [bytesOf, strOf, List.map_map]
  rw [List.map_congr_left (g := id) (fun x hx => by simp [Nat.mod_eq_of_lt (h x hx)]), List.map_id]
theorem strOf_size (l : List Nat) : (strOf l).size = l.length := by simp [strOf, ByteArray.size]
theorem bytesOf_extract (s : ByteArray) (n : Nat) (h : n ≤ s.size) : bytesOf (s.extract n s.size) = (bytesOf s).drop n := by
  have e : (s.extract n s.size).data.toList = s.data.toList.drop n := by
    rw [ByteArray.data_extract, Array.toList_extract]
    simp only [List.extract]
    rw [List.take_of_length_le (by rw [List.length_drop, Array.length_toList]; exact Nat.le_refl _)]
  rw [bytesOf, e, bytesOf, List.map_drop]
theorem bytesOf_append (a b : ByteArray) : bytesOf (a ++ b) = bytesOf a ++ bytesOf b := by
  simp [bytesOf, ByteArray.data_append]

section
variable {P : Program}

/-- 'copy(dst, s)' of a text into the midst of a row. -/
theorem run_copyS (w : World) (dT sT ty elem : TypeId) (g o dLen dCap n : Nat) (s : ByteArray) (cur : Array Value) (t : TypeId)
    (hu : P.underlying dT = some (.slice elem)) (hs : (P.info? elem).map (·.size) = some 1) (hg : w.heap[g]? = some (.cells cur t (0, 0))) (hn : Nat.min s.size dLen = n) (hfit : o + n ≤ cur.size) :
    (Builtin.copy_ #[dT, sT] ty #[.slice (some ⟨g, o, none⟩) dLen dCap, .string s]).run P w =
      .ok (.int .i64 n) (w.setRow g (cur.toList.take o ++ cellsN .u8 ((bytesOf s).take n) ++ cur.toList.drop (o + n)).toArray) := by
  have hle : n ≤ s.size := by rw [← hn]; exact Nat.min_le_left _ _
  have hlen : (cellsN .u8 ((bytesOf s).take n)).length = n := by rw [cellsN_len, List.length_take, bytesOf_len]; omega
  have hst := run_storeCells_at P g o t (cellsN .u8 ((bytesOf s).take n)) 0 cur w hg (by rw [hlen]; simpa using hfit) (cellsN_one _ _)
  have htk : List.take n (List.map (fun b : UInt8 => Value.int IntKind.u8 (b.toNat : Int)) s.data.toList) = cellsN .u8 ((bytesOf s).take n) := by
    simp [cellsN, bytesOf, List.map_take]
    rfl
  rw [hlen] at hst
  simp only [Nat.add_zero] at hst
  cases hq : P.info? elem with
  | none => simp [hq] at hs
  | some i =>
    simp [Builtin.copy_, run_underlying hu, Builtin.lenOf, Builtin.firstCells, sizeOf, typeInfo, hq, hn]
    rw [htk, hst]
    simp [Result.andThen, goInt]

theorem wp_copyS (w : World) {o : Oper} {a : Act} {K : Act → World → Prop} {Q : Exit → Act → World → Prop} (d s : Operand) (t t' : TypeId)
    (ho : o.op = .call { callee := .builtin .copy, args := #[d, s], argTypes := #[t, t'] }) (v u : Value) (hd : a.eval d = v) (hs : a.eval s = u) {v' : Value} {w' : World}
    (hr : (Builtin.copy_ #[t, t'] o.type #[v, u]).run P w = .ok v' w') (h : K (a.put o.dst v') w') : o.wp P a w K Q := by
  unfold Oper.wp execOp
  simp only [ho, resolve, invoke, builtin, Sem.run_bind, Sem.run_pure, Result.andThen_ok, List.map_toArray, List.map_cons, List.map_nil, hd, hs, hr]
  exact h
theorem wpList_copyS (w : World) {ops : Array Oper} {rest : List Oper} {o : Oper} {a : Act} {Q : Exit → Act → World → Prop} (hgd : o.guard = none) (d s : Operand) (t t' : TypeId)
    (ho : o.op = .call { callee := .builtin .copy, args := #[d, s], argTypes := #[t, t'] }) (v u : Value) (hd : a.eval d = v) (hs : a.eval s = u) {v' : Value} {w' : World}
    (hr : (Builtin.copy_ #[t, t'] o.type #[v, u]).run P w = .ok v' w') (h : wpList P ops Q rest (a.put o.dst v') w') : wpList P ops Q (o :: rest) a w :=
  wpList_plain hgd fun _ hK => wp_copyS w d s t t' ho v u hd hs hr (hK _ _ h)

/-- A row stored into the midst of a row. -/
theorem run_storeVar_in (w : World) (g off : Nat) (t ty : TypeId) (old cells : Array Value) (hg : w.heap[g]? = some (.cells old t (0, 0))) (hi : (P.info? ty).map (·.size) = some cells.size)
    (hfit : off + cells.size ≤ old.size) (h1 : cells.all (·.oneCell') = true) :
    (storeVar ty ⟨g, off, none⟩ (.agg cells)).run P w = .ok () (w.setRow g (old.toList.take off ++ cells.toList ++ old.toList.drop (off + cells.size)).toArray) := by
  have := run_storeCells_at P g off t cells.toList 0 old w hg (by simpa using hfit) (fun v hv => (Array.all_eq_true_iff_forall_mem.1 h1) v (by simpa using hv))
  simp only [Nat.add_zero, Array.length_toList] at this
  cases hq : P.info? ty with
  | none => simp [hq] at hi
  | some i =>
    have hs : cells.size = i.size := by simp [hq] at hi; omega
    simp [storeVar, sizeOf, typeInfo, hq, Value.cells, hs, this]
theorem wp_store_in {o : Oper} {a : Act} {w : World} {K : Act → World → Prop} {Q : Exit → Act → World → Prop} (ty : TypeId) (x y : Operand) (ho : o.op = .store ty x y)
    (g off : Nat) (cells : Array Value) (hx : a.eval x = .pointer (some ⟨g, off, none⟩)) (hy : a.eval y = .agg cells)
    (t : TypeId) (old : Array Value) (hg : w.heap[g]? = some (.cells old t (0, 0))) (hi : (P.info? ty).map (·.size) = some cells.size)
    (hfit : off + cells.size ≤ old.size) (h1 : cells.all (·.oneCell') = true)
    (h : K (a.put o.dst undef) (w.setRow g (old.toList.take off ++ cells.toList ++ old.toList.drop (off + cells.size)).toArray)) : o.wp P a w K Q := by
  unfold Oper.wp execOp
  simp only [ho, hx, hy, Instr.storeAt, Instr.sureAddr, Sem.run_bind, Sem.run_pure, Result.andThen_ok, run_storeVar_in w g off t ty old cells hg hi hfit h1]
  exact h
theorem wpList_store_in {ops : Array Oper} {rest : List Oper} {o : Oper} {a : Act} {w : World} {Q : Exit → Act → World → Prop} (hgd : o.guard = none) (ty : TypeId) (x y : Operand) (ho : o.op = .store ty x y)
    (g off : Nat) (cells : Array Value) (hx : a.eval x = .pointer (some ⟨g, off, none⟩)) (hy : a.eval y = .agg cells)
    (t : TypeId) (old : Array Value) (hg : w.heap[g]? = some (.cells old t (0, 0))) (hi : (P.info? ty).map (·.size) = some cells.size)
    (hfit : off + cells.size ≤ old.size) (h1 : cells.all (·.oneCell') = true)
    (h : wpList P ops Q rest (a.put o.dst undef) (w.setRow g (old.toList.take off ++ cells.toList ++ old.toList.drop (off + cells.size)).toArray)) : wpList P ops Q (o :: rest) a w :=
  wpList_plain hgd fun _ hK => wp_store_in ty x y ho g off cells hx hy t old hg hi hfit h1 (hK _ _ h)
end

theorem P3_len {st bl : List Nat} {n : Nat} (h1 : st.length = 8) (h2 : bl.length = 64) : (P3 st bl n).length = 73 := by
  simp [P3, cellsN_len, h1, h2]

theorem splice_pre (pre l x : List Value) (k : Nat) : (pre ++ l).take (pre.length + k) ++ x ++ (pre ++ l).drop (pre.length + k + x.length) = pre ++ (l.take k ++ x ++ l.drop (k + x.length)) := by
  rw [Nat.add_assoc, List.take_length_add_append, List.drop_length_add_append]
  simp
theorem splice_mid (a l b x : List Value) (k : Nat) (h : k + x.length ≤ l.length) : (a ++ (l ++ b)).take (a.length + k) ++ x ++ (a ++ (l ++ b)).drop (a.length + k + x.length) = a ++ ((l.take k ++ x ++ l.drop (k + x.length)) ++ b) := by
  rw [splice_pre, List.take_append_of_le_length (by omega), List.drop_append_of_le_length (by omega)]
  simp
/-- Bytes go into the block. -/
theorem P3_splice {st bl x : List Nat} {n at' : Nat} (h1 : st.length = 8) (h2 : bl.length = 64) (h : at' + x.length ≤ 64) (pre : List Value) :
    (pre ++ P3 st bl n).take (pre.length + 8 + at') ++ cellsN .u8 x ++ (pre ++ P3 st bl n).drop (pre.length + 8 + at' + x.length) = pre ++ P3 st (bl.take at' ++ x ++ bl.drop (at' + x.length)) n := by
  unfold P3
  have h8 : (cellsN .u32 st).length = 8 := by rw [cellsN_len, h1]
  have e := splice_mid (cellsN .u32 st) (cellsN .u8 bl) [.int .i64 (n : Int)] (cellsN .u8 x) at' (by rw [cellsN_len, cellsN_len, h2]; exact h)
  have e2 := splice_pre pre (cellsN .u32 st ++ (cellsN .u8 bl ++ [.int .i64 (n : Int)])) (cellsN .u8 x) (8 + at')
  have hx : (cellsN .u8 x).length = x.length := cellsN_len _ _
  rw [h8, hx] at e
  rw [hx] at e2
  rw [← Nat.add_assoc] at e2
  rw [e2, e, cellsN_app, cellsN_app]
  simp [cellsN, List.map_take, List.map_drop]

theorem PAt.splice {w : World} {g : Nat} {pre : List Value} {t : TypeId} {st bl x : List Nat} {n at' : Nat} (h : PAt w g pre t st bl n) (hx : at' + x.length ≤ 64) :
    PAt (w.setRow g ((pre ++ P3 st bl n).toArray.toList.take (pre.length + 8 + at') ++ cellsN .u8 x ++ (pre ++ P3 st bl n).toArray.toList.drop (pre.length + 8 + at' + x.length)).toArray) g pre t st (bl.take at' ++ x ++ bl.drop (at' + x.length)) n := by
  refine ⟨?_, h.2.1, by simp [h.2.2]; omega⟩
  rw [setRow_heap _ _ _ _ _ _ h.1]
  rw [List.toList_toArray, P3_splice h.2.1 h.2.2 hx]

theorem grown_setRow {w0 w : World} {g : Nat} (h : w0.grownBy w (some g)) (cs : Array Value) : w0.grownBy (w.setRow g cs) (some g) := by
  refine ⟨h.os, h.tape, h.output, by simpa using h.size, fun i hi hne => ?_⟩
  rw [← h.block i hi hne]
  simp only [World.setRow, Array.getElem?_modify]
  rw [if_neg (by intro e; exact hne (by rw [e]))]

/-- A progress that has taken m. -/
def PM (w : World) (g : Nat) (pre : List Value) (t : TypeId) (m : List Nat) : Prop := PAt w g pre t (stOf H0 K0 m) (blOf m) m.length ∧ ∀ x ∈ m, x < 256

theorem Tryz.info5s : (Tryz.prog.info? 5).map (·.size) = some 1 := by kernel_rfl

end Go.Proofs.YtplljpodejpbgaaGreatDoor
