/-
  A memory is made of an image.
-/
import Derived.Test.YtkaffbchlngfaaaDoorENob
import Derived.Laws.CopyRow
import Derived.Laws.CopyOwn
namespace Go.Proofs.YtkaffbchlngfaaaDoor
open Go.RowKit
set_option linter.unusedVariables false
set_option linter.unusedSimpArgs false

/-- The memory's cells, while its first k pages are laid behind q. -/
def mC (q k : Nat) : List Value := ((List.range 16).map fun j => if j < k then Value.pointer (some ⟨q + 1 + j, 0, none⟩) else .pointer none) ++ List.replicate 16 (.bool false)
def imgL (t : ByteArray) : List Nat := bytesOf t ++ List.replicate (4096 - t.size) 0
def pgL (b : List Nat) (k : Nat) : List Nat := (b.drop (256 * k)).take 256
structure MkAt (w wr : World) (t : ByteArray) (k : Nat) : Prop where
  hk : k ≤ 16
  blk : wr.heap[w.heap.size]? = some (.cells (mC w.heap.size k).toArray 107 (0, 0))
  pgs : ∀ j, j < k → wr.heap[w.heap.size + 1 + j]? = some (.cells (cellsN .u8 (pgL (imgL t) j)).toArray 109 (0, 0))
  size : wr.heap.size = w.heap.size + 1 + k
  bel : Below w.heap.size w wr

theorem mC_len (q k : Nat) : (mC q k).length = 32 := by simp [mC]
theorem mC_ptr (q k j : Nat) (hj : j < 16) : (mC q k)[j]? = some (if j < k then Value.pointer (some ⟨q + 1 + j, 0, none⟩) else .pointer none) := by
  unfold mC
  rw [List.getElem?_append_left (by simpa using hj)]
  simp [hj]
theorem mC_set (q k : Nat) (hk : k < 16) : (mC q k).set k (.pointer (some ⟨q + 1 + k, 0, none⟩)) = mC q (k + 1) := by
  apply List.ext_getElem?
  intro j
  by_cases hj : j < 16
  · rw [List.getElem?_set, mC_ptr q (k + 1) j hj, mC_ptr q k j hj]
    by_cases h : k = j
    · subst h
      rw [if_pos rfl, if_pos (by rw [mC_len]; omega), if_pos (by omega)]
    · rw [if_neg h]
      by_cases h2 : j < k
      · rw [if_pos h2, if_pos (by omega)]
      · rw [if_neg h2, if_neg (by omega)]
  · rw [List.getElem?_set_ne (by omega)]
    unfold mC
    rw [List.getElem?_append_right (by simp; omega), List.getElem?_append_right (by simp; omega)]
    simp
theorem heap_set_list {w : World} {g j : Nat} {l : List Value} {T : TypeId} (h : w.heap[g]? = some (.cells l.toArray T (0, 0))) (x : Value) : (w.setCell ⟨g, j, none⟩ x).heap[g]? = some (.cells (l.set j x).toArray T (0, 0)) := by
  simp only [World.setCell, Array.getElem?_modify, h]
  simp
theorem cell_list {w : World} {g j : Nat} {l : List Value} {T : TypeId} {v : Value} (h : w.heap[g]? = some (.cells l.toArray T (0, 0))) (hv : l[j]? = some v) : w.cell? ⟨g, j, none⟩ = some v := by
  simp [World.cell?, h, hv]
theorem frozen_list {w : World} {g j : Nat} {l : List Value} {T : TypeId} (h : w.heap[g]? = some (.cells l.toArray T (0, 0))) : w.frozen? ⟨g, j, none⟩ = false := by
  simp [World.frozen?, h]

theorem step_copy_run {ops : Array Oper} {o : Oper} {a : Act} {w : World} {K : Act → World → Prop} {Q : Exit → Act → World → Prop} {E : Prop}
    (hg : o.guard = none) (d x : Operand) (dT sT : TypeId) (hop : o.op = Op.call { callee := Callee.builtin Builtin.copy, args := #[d, x], argTypes := #[dT, sT] })
    (v u : Value) (hd : a.eval d = v) (hx : a.eval x = u) {v' : Value} {w' : World} (hr : (Builtin.copy_ #[dT, sT] o.type #[v, u]).run Tryd.prog w = .ok v' w') (hK : K (a.put o.dst v') w') :
    if Region.wanted o (yielded ops a.tmps) = true then Oper.wp Tryd.prog o a w K Q else E := by
  have hw : Region.wanted o (yielded ops a.tmps) = true := by simp [Region.wanted, hg]
  rw [if_pos hw]
  unfold Oper.wp
  simp [execOp, hop, resolve, invoke, builtin, hd, hx, hr, Result.andThen]
  exact hK
theorem Tryd.infoB : (Tryd.prog.info? 5).map (fun i => i.size) = some 1 := by kernel_rfl
def txtC (t : ByteArray) : List Value := t.data.toList.map fun x => Value.int .u8 (x.toNat : Int)
theorem txtC_len (t : ByteArray) : (txtC t).length = t.size := by simp [txtC]
theorem run_copy_text (w : World) (ty : TypeId) (g n : Nat) (t : ByteArray) (cur : Array Value) (T : TypeId) (hg : w.heap[g]? = some (.cells cur T (0, 0))) (hn : cur.size = n) :
    (Builtin.copy_ #[28, 9] ty #[.slice (some ⟨g, 0, none⟩) n n, .string t]).run Tryd.prog w = .ok (goInt (Nat.min t.size n)) (w.setRow g ((txtC t).take n ++ cur.toList.drop (Nat.min t.size n)).toArray) := by
  have hl : ((txtC t).take n).length = Nat.min t.size n := by rw [List.length_take, txtC_len, Nat.min_comm]
  have hmn : Nat.min t.size n ≤ n := Nat.min_le_right _ _
  have hst := run_storeCells_at Tryd.prog g 0 T ((txtC t).take n) 0 cur w hg (by rw [hl]; omega) (by
    intro v hv
    obtain ⟨x, _, rfl⟩ := List.mem_map.1 (List.mem_of_mem_take hv)
    rfl)
  rw [hl] at hst
  obtain ⟨i, hi, hs⟩ := Option.map_eq_some_iff.1 Tryd.infoB
  have htk : (txtC t).take (Nat.min t.size n) = (txtC t).take n := by
    by_cases h : t.size ≤ n
    · rw [show Nat.min t.size n = t.size from Nat.min_eq_left h, List.take_of_length_le (by rw [txtC_len]; exact Nat.le_refl _), List.take_of_length_le (by rw [txtC_len]; exact h)]
    · rw [show Nat.min t.size n = n from Nat.min_eq_right (by omega)]
  simp [Builtin.copy_, run_underlying Tryd.underlying28, Builtin.lenOf, Builtin.firstCells, Go.sizeOf, typeInfo, hi, hs]
  unfold txtC at htk hst
  rw [htk, hst]
  simp [txtC]

theorem zeroP : Tryd.zeroCells109 = (List.replicate 256 (Value.int .u8 0)).toArray := by kernel_rfl
theorem txtC_bytes (t : ByteArray) : txtC t = cellsN .u8 (bytesOf t) := by simp [txtC, cellsN, bytesOf, ByteArray.toList_eq]
theorem page_eq (t : ByteArray) (ht : t.size ≤ 4096) (k F : Nat) (hk : k < 16) (hF : F = min (k * 256) t.size) :
    (txtC (t.extract F t.size)).take 256 ++ (List.replicate 256 (Value.int .u8 0)).drop (Nat.min (t.extract F t.size).size 256) = cellsN .u8 (pgL (imgL t) k) := by
  have hsz : (t.extract F t.size).size = t.size - F := by simp
  rw [txtC_bytes, bytesOf_extract t F (by omega), hsz]
  have hL := bytesOf_len t
  unfold imgL
  generalize bytesOf t = L at hL ⊢
  generalize t.size = n at *
  have h0 : (List.replicate 256 (Value.int .u8 0)).drop (Nat.min (n - F) 256) = cellsN .u8 (List.replicate (256 - Nat.min (n - F) 256) 0) := by
    rw [List.drop_replicate]
    show _ = List.map _ _
    rw [List.map_replicate]
    rfl
  have h1 : (cellsN .u8 (L.drop F)).take 256 = cellsN .u8 ((L.drop F).take 256) := by
    show List.take 256 (List.map _ _) = List.map _ _
    rw [List.map_take]
  rw [h0, h1, ← cellsN_app]
  congr 1
  unfold pgL
  have hm : Nat.min (n - F) 256 = min (n - F) 256 := rfl
  rw [hm]
  by_cases h : k * 256 ≤ n
  · have hFF : F = 256 * k := by rw [hF, Nat.min_eq_left h, Nat.mul_comm]
    rw [List.drop_append_of_le_length (by omega), List.take_append, hFF]
    congr 1
    rw [List.take_replicate, List.length_drop, hL]
    congr 1
    omega
  · have hFF : F = n := by rw [hF]; omega
    rw [hFF, List.drop_eq_nil_of_le (by omega), List.drop_append, List.drop_eq_nil_of_le (by omega), List.drop_replicate, List.nil_append, List.take_replicate, List.take_nil, List.nil_append]
    congr 1
    omega
theorem setRow_far {w : World} {g j : Nat} {cs : Array Value} (h : j ≠ g) : (w.setRow g cs).heap[j]? = w.heap[j]? := by
  simp only [World.setRow, Array.getElem?_modify, if_neg (Ne.symm h)]

set_option maxRecDepth 100000 in
set_option maxHeartbeats 2000000 in
theorem memoryOf_any (t : ByteArray) (ht : t.size ≤ 4096) (w : World) :
    Calls Tryd.prog 28 #[.string t] w fun e w' => e = .returned (.pointer (some ⟨w.heap.size, 0, none⟩)) ∧ MkAt w w' t 16 := by
  go_enter Tryd.func28, Tryd.ntmps28
  go_wp2_with fail
  go_loopw [8] (fun i wr => ∃ k : Nat, i = .int .i64 (k : Int) ∧ Hid (MkAt w wr t k)) (fun i _ => 16 - (intOf i).toNat)
  case atStart => exact ⟨0, rfl, ⟨Nat.zero_le _, heap_alloc_new w _, fun j hj => absurd hj (Nat.not_lt_zero _), by simp, below_alloc w _⟩⟩
  case round =>
    obtain ⟨k, rfl, hM⟩ := hrel
    by_cases hk : k < 16
    · have c := cell_list hM.out.blk (mC_ptr w.heap.size k k hk)
      rw [if_neg (Nat.lt_irrefl k)] at c
      have f := frozen_list (j := k) hM.out.blk
      have hk2 : (k : Int) < 16 := by omega
      obtain ⟨F2, hF2⟩ : ∃ F2 : Nat, F2 = k * 256 := ⟨_, rfl⟩
      have e1 : IntKind.i64.wrap ((k : Int) * 256) = (F2 : Int) := by
        rw [show (k : Int) * 256 = (F2 : Int) by omega]
        exact wrap_i64_nat _ (by omega)
      have e0 : (k : Int) * 256 = (F2 : Int) := by omega
      have hz0 := hM.out.size
      have c' : (wr.alloc (.cells Tryd.zeroCells109 109)).cell? ⟨w.heap.size, k, none⟩ = some (.pointer none) := by
        rw [(below_alloc wr _).cell (p := ⟨w.heap.size, k, none⟩) (by show w.heap.size < wr.heap.size; omega)]
        exact c
      have hbA := Below.heap_alloc wr (.cells Tryd.zeroCells109 109) w.heap.size (by omega)
      have f' : (wr.alloc (.cells Tryd.zeroCells109 109)).frozen? ⟨w.heap.size, k, none⟩ = false := (World.frozen?_of_block (a := ⟨w.heap.size, k, none⟩) hbA).trans f
      obtain ⟨g, hg⟩ : ∃ g, g = wr.heap.size := ⟨_, rfl⟩
      obtain ⟨X, hX⟩ : ∃ X, X = (wr.alloc (.cells Tryd.zeroCells109 109)).setCell ⟨w.heap.size, k, none⟩ (.pointer (some ⟨wr.heap.size, 0, none⟩)) := ⟨_, rfl⟩
      have hgq : g = w.heap.size + 1 + k := by omega
      have xq : X.heap[w.heap.size]? = some (.cells (mC w.heap.size (k + 1)).toArray 107 (0, 0)) := by
        rw [hX, heap_set_list (hbA.trans hM.out.blk), hz0, mC_set _ _ hk]
      have xg : X.heap[g]? = some (.cells Tryd.zeroCells109 109 (0, 0)) := by
        rw [hX, far_set (by omega), hg]
        exact heap_alloc_new wr _
      have xj : ∀ j, j < k → X.heap[w.heap.size + 1 + j]? = some (.cells (cellsN .u8 (pgL (imgL t) j)).toArray 109 (0, 0)) := fun j hj => by
        rw [hX, far_set (by omega), Below.heap_alloc _ _ _ (by omega)]
        exact hM.out.pgs j hj
      have xs : X.heap.size = w.heap.size + 1 + (k + 1) := by rw [hX]; simp [World.setCell]; omega
      have xb : Below w.heap.size w X := by
        rw [hX]
        exact (hM.out.bel.alloc (by omega) _).setCell (p := ⟨w.heap.size, k, none⟩) (Nat.le_refl _) _
      have xc : X.cell? ⟨w.heap.size, k, none⟩ = some (.pointer (some ⟨g, 0, none⟩)) := by
        have := cell_list xq (mC_ptr w.heap.size (k + 1) k hk)
        rw [if_pos (Nat.lt_succ_self k)] at this
        rw [hgq]
        exact this
      have HDone : Hid (∀ F, F = min (k * 256) t.size → MkAt w ((X.drew.setRow g ((txtC (t.extract F t.size)).take 256 ++ (Tryd.zeroCells109).toList.drop (Nat.min (t.extract F t.size).size 256)).toArray)) t (k + 1)) := fun F hF => by
        rw [zeroP, List.toList_toArray, page_eq t ht k F hk hF]
        refine ⟨by omega, ?_, fun j hj => ?_, ?_, ?_⟩
        · rw [setRow_far (by omega)]
          exact xq
        · by_cases hjk : j = k
          · subst hjk
            rw [← hgq]
            exact setRow_heap X.drew g _ _ _ _ xg
          · rw [setRow_far (by omega)]
            exact xj j (by omega)
        · show (X.heap.modify g _).size = _
          rw [Array.size_modify]
          exact xs
        · exact below_setRow (Below.drew xb) (by omega) _
      have xd : X.drew.cell? ⟨w.heap.size, k, none⟩ = some (.pointer (some ⟨g, 0, none⟩)) := xc
      have XE : Hid (∀ cs : Array Value, (X.drew.setRow g cs).cell? ⟨w.heap.size, k, none⟩ = some (.pointer (some ⟨g, 0, none⟩))) := fun cs => by
        rw [World.cell?_of_block (a := ⟨w.heap.size, k, none⟩) (setRow_far (w := X.drew) (g := g) (cs := cs) (show w.heap.size ≠ g by omega))]
        exact xc
      have HXG := hid xg
      have HF2 := hid hF2
      rw [← hg] at hX
      clear hF2 xq xg xj xs xb hbA hz0 hgq c f
      by_cases hcmp : (F2 : Int) ≤ (t.size : Int)
      · have hcn : F2 ≤ t.size := by omega
        go_wp2_with fail
        rw [← hg, ← hX]
        clear hX
        have hr := fun ty => run_copy_text X.drew ty g 256 (t.extract F2 t.size) _ 109 HXG.out (by rw [zeroP]; rfl)
        have HR := hid (hr 3)
        have HD := hid (HDone.out F2 (by have := HF2.out; omega))
        clear hr HDone
        go_region_held3 (fun Y => Y.cell? ⟨w.heap.size, k, none⟩ = some (.pointer (some ⟨g, 0, none⟩)))
          (first | (with_reducible exact xd) | (with_reducible exact XE.out _))
          (first
            | (refine step_copy_run rfl (.tmp 30) (.tmp 33) 28 9 rfl _ _ (by simp [Act.eval, Act.put]) (by simp [Act.eval, Act.put]) HR.out ?_)
            | fail)
        all_goals
          clear HR XE xd xc
          revert HD
          generalize (X.drew.setRow g _) = Z
          intro HD
          go_wp2
          go_roundw
          case rel => exact ⟨k + 1, by go_num, HD⟩
          case measure => simp [intOf]; omega
      · go_wp2_with fail
        rw [← hg, ← hX]
        clear hX
        have hr := fun ty => run_copy_text X.drew ty g 256 (t.extract t.size t.size) _ 109 HXG.out (by rw [zeroP]; rfl)
        have HR := hid (hr 3)
        have HD := hid (HDone.out t.size (by have := HF2.out; omega))
        clear hr HDone
        go_region_held3 (fun Y => Y.cell? ⟨w.heap.size, k, none⟩ = some (.pointer (some ⟨g, 0, none⟩)))
          (first | (with_reducible exact xd) | (with_reducible exact XE.out _))
          (first
            | (refine step_copy_run rfl (.tmp 30) (.tmp 33) 28 9 rfl _ _ (by simp [Act.eval, Act.put]) (by simp [Act.eval, Act.put]) HR.out ?_)
            | fail)
        all_goals
          clear HR XE xd xc
          revert HD
          generalize (X.drew.setRow g _) = Z
          intro HD
          go_wp2
          go_roundw
          case rel => exact ⟨k + 1, by go_num, HD⟩
          case measure => simp [intOf]; omega
    · obtain rfl : k = 16 := by have := hM.out.hk; omega
      go_wp2
      go_ret
      exact ⟨rfl, hM.out⟩
end Go.Proofs.YtkaffbchlngfaaaDoor
