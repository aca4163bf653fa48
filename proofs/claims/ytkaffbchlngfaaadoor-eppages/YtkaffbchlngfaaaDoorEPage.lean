/-
  A page is copied; a memory while bytes are stored into it.
-/
import Derived.Test.YtkaffbchlngfaaaDoorEBeg
import Derived.Laws.Tables
namespace Go.Proofs.YtkaffbchlngfaaaDoor
open Go.RowKit
set_option linter.unusedVariables false
set_option linter.unusedSimpArgs false

theorem setRow_at {w : World} {g : Nat} {old cs : Array Value} {t : TypeId} {fr : Nat × Nat} (h : w.heap[g]? = some (.cells old t fr)) : (w.setRow g cs).heap[g]? = some (.cells cs t fr) := by
  simp only [World.setRow, Array.getElem?_modify, h]
  simp
theorem cellsN_all (k : IntKind) (xs : List Nat) : (cellsN k xs).toArray.all (·.oneCell') = true := by
  simp [cellsN, Value.oneCell']
theorem Tryd.infoPg : (Tryd.prog.info? 109).map (·.size) = some 256 := by kernel_rfl
set_option maxRecDepth 100000 in
set_option maxHeartbeats 1000000 in
theorem pcopy_any (w : World) (g : Nat) (xs : List Nat) (hx : xs.length = 256) (hg : w.heap[g]? = some (.cells (cellsN .u8 xs).toArray 109 (0, 0))) :
    Calls Tryd.prog 58 #[.pointer (some ⟨g, 0, none⟩)] w fun e w' => e = .returned (.pointer (some ⟨w.heap.size, 0, none⟩)) ∧ w'.heap[w.heap.size]? = some (.cells (cellsN .u8 xs).toArray 109 (0, 0)) ∧ Below w.heap.size w w' := by
  obtain ⟨R, hR⟩ : ∃ R, R = (cellsN .u8 xs).toArray := ⟨_, rfl⟩
  have hsz : R.size = 256 := by rw [hR]; simp [cellsN_len, hx]
  have HI : Hid ((Tryd.prog.info? 109).map (·.size) = some R.size) := by unfold Hid; rw [hsz]; exact Tryd.infoPg
  have HO : Hid (Tryd.zeroCells109.size = R.size) := by unfold Hid; rw [hsz, zeroP]; simp
  have HC : Hid (R.all (·.oneCell') = true) := by unfold Hid; rw [hR]; exact cellsN_all _ _
  rw [← hR] at hg ⊢
  have HG := hid hg
  obtain ⟨X, hX⟩ : ∃ X, X = (w.alloc (.cells Tryd.zeroCells109 109)).setRow w.heap.size R := ⟨_, rfl⟩
  have HZ : Hid (X.heap[w.heap.size]? = some (.cells R 109 (0, 0))) := by rw [hX]; exact setRow_at (heap_alloc_new w _)
  have HB : Hid (Below w.heap.size w X) := by
    have b := below_alloc w (.cells Tryd.zeroCells109 109)
    refine ⟨by rw [hX]; exact b.os, by rw [hX]; exact b.tape, by rw [hX]; exact b.output, ?_, fun k hk => ?_⟩
    · rw [hX]
      simp [World.setRow]
    · rw [hX, setRow_far (by omega)]
      exact b.block k hk
  clear hg hsz hR
  go_enter Tryd.func58, Tryd.ntmps58
  go_wp2_with (first
    | (refine wpList_load_row rfl 109 _ rfl g rfl 109 R _ _ HG.out Tryd.underlying109 rfl HI.out ?_)
    | (refine wpList_store_row rfl 109 _ _ rfl w.heap.size R rfl rfl 109 Tryd.zeroCells109 (heap_alloc_new w _) HI.out HO.out HC.out ?_))
  go_ret
  rw [hX] at HZ HB
  exact ⟨rfl, HZ.out, HB.out⟩

/-- A memory behind a world w: pg' its pages, which were pg or are new; all else below w's end stays. -/
structure LayAt (w wr : World) (q : Nat) (pg pg' : List Nat) (ow : List Bool) (b : List Nat) : Prop where
  mem : MemP wr q pg' ow b
  nd : pg'.Nodup
  nq : q ∉ pg'
  new : ∀ x ∈ pg', x ∈ pg ∨ w.heap.size ≤ x
  keep : ∀ j, j < w.heap.size → j ≠ q → j ∉ pg → wr.heap[j]? = w.heap[j]?
  size : w.heap.size ≤ wr.heap.size
  os : wr.os = w.os
  tape : wr.tape = w.tape
  output : wr.output = w.output
theorem LayAt.refl {w : World} {q : Nat} {pg : List Nat} {ow : List Bool} {b : List Nat} (h : MemP w q pg ow b) (nd : pg.Nodup) (nq : q ∉ pg) : LayAt w w q pg pg ow b :=
  ⟨h, nd, nq, fun _ hx => .inl hx, fun _ _ _ _ => rfl, Nat.le_refl _, rfl, rfl, rfl⟩
theorem LayAt.trans {w wr wx : World} {q : Nat} {pg pg' pg'' : List Nat} {ow ow' : List Bool} {b b' : List Nat} (h : LayAt w wr q pg pg' ow b) (k : LayAt wr wx q pg' pg'' ow' b') : LayAt w wx q pg pg'' ow' b' := by
  have hs := h.size
  refine ⟨k.mem, k.nd, k.nq, fun x hx => ?_, fun j hj h1 h2 => ?_, Nat.le_trans h.size k.size, k.os.trans h.os, k.tape.trans h.tape, k.output.trans h.output⟩
  · rcases k.new x hx with h1 | h1
    · exact h.new x h1
    · exact .inr (by omega)
  · refine (k.keep j (by omega) h1 (fun h3 => ?_)).trans (h.keep j hj h1 h2)
    rcases h.new j h3 with h4 | h4
    · exact h2 h4
    · omega
theorem LayAt.drew {w wr : World} {q : Nat} {pg pg' : List Nat} {ow : List Bool} {b : List Nat} (h : LayAt w wr q pg pg' ow b) : LayAt w wr.drew q pg pg' ow b :=
  ⟨h.mem.below (Below.drew (Below.refl _ _)), h.nd, h.nq, h.new, h.keep, h.size, h.os, h.tape, h.output⟩
theorem getD_mem {pg : List Nat} {k : Nat} (h : k < pg.length) : pg.getD k 0 ∈ pg := by
  rw [List.getD_eq_getElem?_getD, List.getElem?_eq_getElem h]; exact List.getElem_mem h
theorem getD_inj {pg : List Nat} (hn : pg.Nodup) {i j : Nat} (hi : i < pg.length) (hj : j < pg.length) (h : pg.getD i 0 = pg.getD j 0) : i = j := by
  rw [List.getD_eq_getElem?_getD, List.getD_eq_getElem?_getD, List.getElem?_eq_getElem hi, List.getElem?_eq_getElem hj] at h
  exact (List.getElem_inj hn).1 h
theorem pgL_set (b : List Nat) (k i j x : Nat) (hb : b.length = 4096) (hk : k < 16) (hi : i < 256) (hj : j < 16) :
    pgL (b.set (256 * k + i) x) j = if j = k then (pgL b j).set i x else pgL b j := by
  unfold pgL
  by_cases h : j = k
  · subst h
    rw [if_pos rfl, List.drop_set, if_neg (by omega), List.take_set, show 256 * j + i - 256 * j = i by omega]
  · rw [if_neg h, List.drop_set]
    by_cases h1 : 256 * k + i < 256 * j
    · rw [if_pos h1]
    · rw [if_neg h1, List.take_set, List.set_eq_of_length_le]
      simp only [List.length_take, List.length_drop]
      omega
theorem LayAt.byte {w wr : World} {q : Nat} {pg pg' : List Nat} {ow : List Bool} {b : List Nat} (h : LayAt w wr q pg pg' ow b) (k i x : Nat) (hk : k < 16) (hi : i < 256) (hx : x < 256) :
    LayAt w (wr.setCell ⟨pg'.getD k 0, i, none⟩ (.int .u8 (x : Int))) q pg pg' ow (b.set (256 * k + i) x) := by
  have hl := h.mem.lp
  have hm : pg'.getD k 0 ∈ pg' := getD_mem (by omega)
  have hq : q ≠ pg'.getD k 0 := fun e => h.nq (e ▸ hm)
  refine ⟨⟨hl, h.mem.lo, by simp [h.mem.lb], fun y hy => ?_, (far_set hq).trans h.mem.blk, fun j hj => ?_⟩, h.nd, h.nq, h.new, fun j hj h1 h2 => ?_, by have := h.size; simpa [World.setCell] using this, h.os, h.tape, h.output⟩
  · rcases List.mem_or_eq_of_mem_set hy with h1 | h1
    · exact h.mem.small y h1
    · omega
  · rw [pgL_set b k i j x h.mem.lb hk hi hj]
    by_cases e : j = k
    · subst e
      rw [if_pos rfl, heap_set_list (h.mem.pgs j hj)]
      simp [cellsN, List.map_set]
    · rw [if_neg e, far_set (fun e2 => e (getD_inj h.nd (by omega) (by omega) e2))]
      exact h.mem.pgs j hj
  · rw [far_set (fun e => ?_)]
    · exact h.keep j hj h1 h2
    · rcases h.new _ hm with h3 | h3
      · exact h2 (e ▸ h3)
      · omega
theorem memC_flag (pg : List Nat) (ow : List Bool) (k : Nat) (hl : pg.length = 16) : (memC pg ow).set (16 + k) (.bool true) = memC pg (ow.set k true) := by
  unfold memC
  rw [List.set_append_right _ _ (by simp [hl])]
  simp [hl, List.map_set]
theorem memC_page (pg : List Nat) (ow : List Bool) (k n : Nat) (hl : pg.length = 16) (hk : k < 16) : (memC pg ow).set k (.pointer (some ⟨n, 0, none⟩)) = memC (pg.set k n) ow := by
  unfold memC
  rw [List.set_append_left _ _ (by simpa [hl] using hk)]
  simp [List.map_set]
theorem LayAt.flag {w wr : World} {q : Nat} {pg pg' : List Nat} {ow : List Bool} {b : List Nat} (h : LayAt w wr q pg pg' ow b) (k : Nat) (hk : k < 16) :
    LayAt w (wr.setCell ⟨q, 16 + k, none⟩ (.bool true)) q pg pg' (ow.set k true) b := by
  refine ⟨⟨h.mem.lp, by simp [h.mem.lo], h.mem.lb, h.mem.small, ?_, fun j hj => ?_⟩, h.nd, h.nq, h.new, fun j hj h1 h2 => (far_set h1).trans (h.keep j hj h1 h2), by have := h.size; simpa [World.setCell] using this, h.os, h.tape, h.output⟩
  · rw [heap_set_list h.mem.blk, memC_flag _ _ _ h.mem.lp]
  · have hl := h.mem.lp
    rw [far_set (fun e : pg'.getD j 0 = q => h.nq (e ▸ getD_mem (by omega)))]
    exact h.mem.pgs j hj
theorem LayAt.page {w wr wx : World} {q : Nat} {pg pg' : List Nat} {ow : List Bool} {b : List Nat} (h : LayAt w wr q pg pg' ow b) (k : Nat) (hk : k < 16) (hb : Below wr.heap.size wr wx) (hz : wx.heap[wr.heap.size]? = some (.cells (cellsN .u8 (pgL b k)).toArray 109 (0, 0))) :
    LayAt w (wx.setCell ⟨q, k, none⟩ (.pointer (some ⟨wr.heap.size, 0, none⟩))) q pg (pg'.set k wr.heap.size) ow b := by
  have hl := h.mem.lp
  have hql := (Array.getElem?_eq_some_iff.1 h.mem.blk).1
  have hlt : ∀ x ∈ pg', x < wr.heap.size := fun x hx => by
    obtain ⟨j, hj, e⟩ := List.getElem_of_mem hx
    have := (Array.getElem?_eq_some_iff.1 (h.mem.pgs j (by omega))).1
    rw [List.getD_eq_getElem?_getD, List.getElem?_eq_getElem hj] at this
    simp only [Option.getD_some] at this
    omega
  have hs := h.size
  refine ⟨⟨by simp [hl], h.mem.lo, h.mem.lb, h.mem.small, ?_, fun j hj => ?_⟩, ?_, fun hm => ?_, fun x hx => ?_, fun j hj h1 h2 => ?_, ?_, hb.os.trans h.os, hb.tape.trans h.tape, hb.output.trans h.output⟩
  · rw [heap_set_list ((hb.block q hql).trans h.mem.blk), memC_page _ _ _ _ hl hk]
  · by_cases e : j = k
    · subst e
      have e1 : (pg'.set j wr.heap.size).getD j 0 = wr.heap.size := by simp [List.getD, hl, hj]
      rw [e1, far_set (by omega)]
      exact hz
    · have e1 : (pg'.set k wr.heap.size).getD j 0 = pg'.getD j 0 := by simp [List.getD, List.getElem?_set_ne (Ne.symm e)]
      rw [e1]
      have hm := getD_mem (pg := pg') (k := j) (by omega)
      rw [far_set (fun e2 : pg'.getD j 0 = q => h.nq (e2 ▸ hm)), hb.block _ (hlt _ hm)]
      exact h.mem.pgs j hj
  · unfold List.Nodup
    rw [List.pairwise_iff_getElem]
    intro i j hi hj hij
    rw [List.length_set] at hi hj
    rw [List.getElem_set, List.getElem_set]
    have h1 := hlt _ (List.getElem_mem hi)
    have h2 := hlt _ (List.getElem_mem hj)
    by_cases e1 : k = i
    · rw [if_pos e1, if_neg (by omega)]
      omega
    · rw [if_neg e1]
      by_cases e2 : k = j
      · rw [if_pos e2]
        omega
      · rw [if_neg e2]
        exact List.pairwise_iff_getElem.1 h.nd i j hi hj hij
  · rcases List.mem_or_eq_of_mem_set hm with h1 | h1
    · exact h.nq h1
    · omega
  · rcases List.mem_or_eq_of_mem_set hx with h1 | h1
    · exact h.new x h1
    · exact .inr (by omega)
  · rw [far_set h1, hb.block j (by omega)]
    exact h.keep j hj h1 h2
  · have := hb.size
    simp only [World.setCell, Array.size_modify]
    omega
end Go.Proofs.YtkaffbchlngfaaaDoor
