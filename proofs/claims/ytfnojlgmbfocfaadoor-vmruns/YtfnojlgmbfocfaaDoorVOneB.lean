/-
  The document's single instruction under way: what lies where.
-/
import Derived.Test.YtfnojlgmbfocfaaDoorVOneA
namespace Go.Proofs.YtfnojlgmbfocfaaDoor
open Go.RowKit
set_option linter.unusedVariables false
set_option linter.unusedSimpArgs false

/-- The six blocks of z, the instruction at q, the state that is being made at p; its lists are the call's own. -/
structure Mid (w Y : World) (q p : Nat) (pc0 : Int) (vs vk vb : Value) (op a : Int) (pc : Int) (us uk ub : Value) (st ca : List Int) : Prop where
  six : Six Y w.heap.size pc0 vs vk ub
  ins : Y.heap[q]? = some (.cells #[.int .i64 op, .int .i64 a] 57 (0, 0))
  blk : Y.heap[p]? = some (.cells #[.int .i64 pc, us, uk] 25 (0, 0))
  os : Owns Y q us st
  ok : Owns Y q uk ca
  dis : ∀ j, us.ownBlock = some j → uk.ownBlock ≠ some j
  ps : us.ownBlock ≠ some p
  pk : uk.ownBlock ≠ some p
  qs : us.ownBlock ≠ some q
  qk : uk.ownBlock ≠ some q
  hq : w.heap.size + 6 ≤ q
  hp : q < p
  bel : Below w.heap.size w Y
theorem Mid.lt {w Y : World} {q p : Nat} {pc0 : Int} {vs vk vb : Value} {op a pc : Int} {us uk ub : Value} {st ca : List Int} (h : Mid w Y q p pc0 vs vk vb op a pc us uk ub st ca) : p < Y.heap.size ∧ q < Y.heap.size := ⟨(Array.getElem?_eq_some_iff.1 h.blk).1, (Array.getElem?_eq_some_iff.1 h.ins).1⟩
theorem Mid.below {w Y Y' : World} {q p : Nat} {pc0 : Int} {vs vk vb : Value} {op a pc : Int} {us uk ub : Value} {st ca : List Int} (h : Mid w Y q p pc0 vs vk vb op a pc us uk ub st ca) (hb : Below Y.heap.size Y Y') : Mid w Y' q p pc0 vs vk vb op a pc us uk ub st ca := by
  have hl := h.lt
  have hq := h.hq
  exact ⟨h.six.below hb (by omega), by rw [hb.block _ hl.2]; exact h.ins, by rw [hb.block _ hl.1]; exact h.blk, h.os.below hb, h.ok.below hb, h.dis, h.ps, h.pk, h.qs, h.qk, h.hq, h.hp, h.bel.trans (hb.mono h.bel.size)⟩
theorem Six.far {w : World} {z j o : Nat} {pc : Int} {vs vk vb v : Value} (h : Six w z pc vs vk vb) (hj : z + 6 ≤ j) : Six (w.setCell ⟨j, o, none⟩ v) z pc vs vk vb :=
  ⟨by rw [far_set (by omega)]; exact h.b0, by rw [far_set (by omega)]; exact h.b1, by rw [far_set (by omega)]; exact h.b2, by rw [far_set (by omega)]; exact h.b3, by rw [far_set (by omega)]; exact h.b4, by rw [far_set (by omega)]; exact h.b5⟩
theorem set3_c {w : World} {g : Nat} {x y z a : Value} {t : TypeId} (h : w.heap[g]? = some (.cells #[x, y, z] t (0, 0))) : (w.setCell ⟨g, 2, none⟩ a).heap[g]? = some (.cells #[x, y, a] t (0, 0)) := by
  simp only [World.setCell, Array.getElem?_modify, h]
  simp
theorem Mid.setPc {w Y : World} {q p : Nat} {pc0 : Int} {vs vk vb : Value} {op a pc : Int} {us uk ub : Value} {st ca : List Int} (h : Mid w Y q p pc0 vs vk vb op a pc us uk ub st ca) (n : Int) : Mid w (Y.setCell ⟨p, 0, none⟩ (.int .i64 n)) q p pc0 vs vk vb op a n us uk ub st ca := by
  have hq := h.hq
  have hp := h.hp
  exact ⟨h.six.far (by omega), by rw [far_set (by omega)]; exact h.ins, set3_a h.blk, ownsRow_same h.os (fun j hj => far_set (fun e => h.ps (by rw [hj, e]))), ownsRow_same h.ok (fun j hj => far_set (fun e => h.pk (by rw [hj, e]))), h.dis, h.ps, h.pk, h.qs, h.qk, h.hq, h.hp, h.bel.setCell (p := ⟨p, 0, none⟩) (by show w.heap.size ≤ p; omega) _⟩
/-- The stack is another row, which is the call's own. -/
theorem Mid.setSt {w Y Y' : World} {q p : Nat} {pc0 : Int} {vs vk vb : Value} {op a pc : Int} {us uk ub us' : Value} {st ca l : List Int} (h : Mid w Y q p pc0 vs vk vb op a pc us uk ub st ca) (hg : Y.grownBy Y' us.ownBlock) (ho : Owns Y' q us' l) (hv : us'.ownBlock = us.ownBlock ∨ us'.ownBlock = some Y.heap.size) :
    Mid w (Y'.setCell ⟨p, 1, none⟩ us') q p pc0 vs vk vb op a pc us' uk ub l ca := by
  have hq := h.hq
  have hp := h.hp
  have hl := h.lt
  have hz := hg.size
  have same : ∀ j, j < Y.heap.size → us.ownBlock ≠ some j → Y'.heap[j]? = Y.heap[j]? := fun j hj hn => hg.block j hj (fun e => hn e.symm)
  have lows : ∀ j, j < q → us.ownBlock ≠ some j := fun j hj e => by have := (h.os.lt j e).1; omega
  have lowk : ∀ j, j < q → uk.ownBlock ≠ some j := fun j hj e => by have := (h.ok.lt j e).1; omega
  have hsix : Six Y' w.heap.size pc0 vs vk ub := ⟨by rw [same _ (by omega) (lows _ (by omega))]; exact h.six.b0, by rw [same _ (by omega) (lows _ (by omega))]; exact h.six.b1, by rw [same _ (by omega) (lows _ (by omega))]; exact h.six.b2, by rw [same _ (by omega) (lows _ (by omega))]; exact h.six.b3, by rw [same _ (by omega) (lows _ (by omega))]; exact h.six.b4, by rw [same _ (by omega) (lows _ (by omega))]; exact h.six.b5⟩
  have hb : Y'.heap[p]? = some (.cells #[.int .i64 pc, us, uk] 25 (0, 0)) := by rw [same _ hl.1 h.ps]; exact h.blk
  have hi : Y'.heap[q]? = some (.cells #[.int .i64 op, .int .i64 a] 57 (0, 0)) := by rw [same _ hl.2 h.qs]; exact h.ins
  have hps : us'.ownBlock ≠ some p := by
    rcases hv with e | e
    · rw [e]; exact h.ps
    · rw [e]; intro e2; have := Option.some.inj e2; omega
  have hqs : us'.ownBlock ≠ some q := by
    rcases hv with e | e
    · rw [e]; exact h.qs
    · rw [e]; intro e2; have := Option.some.inj e2; omega
  have hok : Owns Y' q uk ca := ownsRow_same h.ok (fun j hj => same j (h.ok.lt j hj).2 (fun e => h.dis j e hj))
  have hbel : Below w.heap.size w Y' := h.bel.grown hg h.bel.size (fun j hj => by have := (h.os.lt j hj).1; omega)
  refine ⟨hsix.far (by omega), by rw [far_set (by omega)]; exact hi, set3_b hb, ownsRow_same ho (fun j hj => far_set (fun e => hps (by rw [hj, e]))), ownsRow_same hok (fun j hj => far_set (fun e => h.pk (by rw [hj, e]))), ?_, hps, h.pk, hqs, h.qk, h.hq, h.hp, hbel.setCell (p := ⟨p, 1, none⟩) (by show w.heap.size ≤ p; omega) _⟩
  intro j hj hk
  rcases hv with e | e
  · exact h.dis j (by rw [← e]; exact hj) hk
  · rw [e] at hj
    have := (h.ok.lt j hk).2
    have := Option.some.inj hj
    omega
/-- The calls are another row, which is the call's own. -/
theorem Mid.setCa {w Y Y' : World} {q p : Nat} {pc0 : Int} {vs vk vb : Value} {op a pc : Int} {us uk ub uk' : Value} {st ca l : List Int} (h : Mid w Y q p pc0 vs vk vb op a pc us uk ub st ca) (hg : Y.grownBy Y' uk.ownBlock) (ho : Owns Y' q uk' l) (hv : uk'.ownBlock = uk.ownBlock ∨ uk'.ownBlock = some Y.heap.size) :
    Mid w (Y'.setCell ⟨p, 2, none⟩ uk') q p pc0 vs vk vb op a pc us uk' ub st l := by
  have hq := h.hq
  have hp := h.hp
  have hl := h.lt
  have hz := hg.size
  have same : ∀ j, j < Y.heap.size → uk.ownBlock ≠ some j → Y'.heap[j]? = Y.heap[j]? := fun j hj hn => hg.block j hj (fun e => hn e.symm)
  have lowk : ∀ j, j < q → uk.ownBlock ≠ some j := fun j hj e => by have := (h.ok.lt j e).1; omega
  have hsix : Six Y' w.heap.size pc0 vs vk ub := ⟨by rw [same _ (by omega) (lowk _ (by omega))]; exact h.six.b0, by rw [same _ (by omega) (lowk _ (by omega))]; exact h.six.b1, by rw [same _ (by omega) (lowk _ (by omega))]; exact h.six.b2, by rw [same _ (by omega) (lowk _ (by omega))]; exact h.six.b3, by rw [same _ (by omega) (lowk _ (by omega))]; exact h.six.b4, by rw [same _ (by omega) (lowk _ (by omega))]; exact h.six.b5⟩
  have hb : Y'.heap[p]? = some (.cells #[.int .i64 pc, us, uk] 25 (0, 0)) := by rw [same _ hl.1 h.pk]; exact h.blk
  have hi : Y'.heap[q]? = some (.cells #[.int .i64 op, .int .i64 a] 57 (0, 0)) := by rw [same _ hl.2 h.qk]; exact h.ins
  have hpk : uk'.ownBlock ≠ some p := by
    rcases hv with e | e
    · rw [e]; exact h.pk
    · rw [e]; intro e2; have := Option.some.inj e2; omega
  have hqk : uk'.ownBlock ≠ some q := by
    rcases hv with e | e
    · rw [e]; exact h.qk
    · rw [e]; intro e2; have := Option.some.inj e2; omega
  have hos : Owns Y' q us st := ownsRow_same h.os (fun j hj => same j (h.os.lt j hj).2 (fun e => h.dis j hj e))
  have hbel : Below w.heap.size w Y' := h.bel.grown hg h.bel.size (fun j hj => by have := (h.ok.lt j hj).1; omega)
  refine ⟨hsix.far (by omega), by rw [far_set (by omega)]; exact hi, set3_c hb, ownsRow_same hos (fun j hj => far_set (fun e => h.ps (by rw [hj, e]))), ownsRow_same ho (fun j hj => far_set (fun e => hpk (by rw [hj, e]))), ?_, h.ps, hpk, h.qs, hqk, h.hq, h.hp, hbel.setCell (p := ⟨p, 2, none⟩) (by show w.heap.size ≤ p; omega) _⟩
  intro j hj hk
  rcases hv with e | e
  · exact h.dis j hj (by rw [← e]; exact hk)
  · rw [e] at hk
    have := (h.os.lt j hj).2
    have := Option.some.inj hk
    omega
theorem Mid.grown {w Y Y' : World} {q p : Nat} {pc0 : Int} {vs vk vb : Value} {op a pc : Int} {us uk ub : Value} {st ca : List Int} (h : Mid w Y q p pc0 vs vk vb op a pc us uk ub st ca) (hg : Y.grownBy Y' us.ownBlock) : Y'.heap[p]? = some (.cells #[.int .i64 pc, us, uk] 25 (0, 0)) := by
  rw [hg.block p h.lt.1 (fun e => h.ps e.symm)]
  exact h.blk
theorem Mid.grownK {w Y Y' : World} {q p : Nat} {pc0 : Int} {vs vk vb : Value} {op a pc : Int} {us uk ub : Value} {st ca : List Int} (h : Mid w Y q p pc0 vs vk vb op a pc us uk ub st ca) (hg : Y.grownBy Y' uk.ownBlock) : Y'.heap[p]? = some (.cells #[.int .i64 pc, us, uk] 25 (0, 0)) := by
  rw [hg.block p h.lt.1 (fun e => h.pk e.symm)]
  exact h.blk
/-- A row that is not empty lies in a block of its own. -/
theorem own_row {w : World} {B : Nat} {ao : Option Addr} {n cap : Nat} {xs : List Int} (h : Owns w B (.slice ao n cap) xs) (h0 : 0 < xs.length) : ∃ g, ao = some ⟨g, 0, none⟩ := by
  rcases h.2 with ⟨e, hn⟩ | ⟨g, cp, cur, e, _⟩
  · omega
  · cases e
    exact ⟨g, rfl⟩
/-- A row's cells. -/
theorem own_cell {w : World} {B g n cap : Nat} {xs : List Int} (h : Owns w B (.slice (some ⟨g, 0, none⟩) n cap) xs) (j : Nat) (hj : j < xs.length) : w.cell? ⟨g, j, none⟩ = some (.int .i64 (xs.getD j 0)) ∧ w.frozen? ⟨g, j, none⟩ = false := by
  obtain ⟨b, off, ao, cp, e, _, _, hao, hcell⟩ := h.sees
  cases e
  have hne : xs ≠ [] := by intro e; rw [e] at hj; simp at hj
  have := hao hne
  cases this
  refine ⟨by have := hcell j hj; rwa [Nat.zero_add] at this, ?_⟩
  rcases h.2 with ⟨e, _⟩ | ⟨g', cp', cur, e, _, hg, _⟩
  · cases e
  · cases e
    simp [World.frozen?, hg]
/-- A row cut short is the same block's. -/
theorem Mid.cutSt {w Y : World} {q p : Nat} {pc0 : Int} {vs vk vb : Value} {op a pc : Int} {ao : Option Addr} {n cap : Nat} {uk ub : Value} {st ca : List Int} (h : Mid w Y q p pc0 vs vk vb op a pc (.slice ao n cap) uk ub st ca) (k : Nat) (hk : k ≤ st.length) :
    Mid w (Y.setCell ⟨p, 1, none⟩ (.slice ao k cap)) q p pc0 vs vk vb op a pc (.slice ao k cap) uk ub (st.take k) ca :=
  h.setSt ⟨rfl, rfl, rfl, Nat.le_refl _, fun _ _ _ => rfl⟩ (h.os.cut k hk) (Or.inl (by cases ao <;> rfl))
theorem Mid.cutCa {w Y : World} {q p : Nat} {pc0 : Int} {vs vk vb : Value} {op a pc : Int} {ao : Option Addr} {n cap : Nat} {us ub : Value} {st ca : List Int} (h : Mid w Y q p pc0 vs vk vb op a pc us (.slice ao n cap) ub st ca) (k : Nat) (hk : k ≤ ca.length) :
    Mid w (Y.setCell ⟨p, 2, none⟩ (.slice ao k cap)) q p pc0 vs vk vb op a pc us (.slice ao k cap) ub st (ca.take k) :=
  h.setCa ⟨rfl, rfl, rfl, Nat.le_refl _, fun _ _ _ => rfl⟩ (h.ok.cut k hk) (Or.inl (by cases ao <;> rfl))
/-- A number of the stack is written over. -/
theorem Mid.putSt {w Y : World} {q p : Nat} {pc0 : Int} {vs vk vb : Value} {op a pc : Int} {g n cap : Nat} {uk ub : Value} {st ca : List Int} (h : Mid w Y q p pc0 vs vk vb op a pc (.slice (some ⟨g, 0, none⟩) n cap) uk ub st ca) (j : Nat) (x : Int) (hj : j < st.length) :
    Mid w (Y.setCell ⟨g, j, none⟩ (.int .i64 x)) q p pc0 vs vk vb op a pc (.slice (some ⟨g, 0, none⟩) n cap) uk ub (st.set j x) ca := by
  have hq := h.hq
  have hp := h.hp
  have hg := (h.os.lt g (by simp [Value.ownBlock])).1
  have hgp : p ≠ g := fun e => h.ps (by rw [e]; simp [Value.ownBlock])
  have hgq : q ≠ g := fun e => h.qs (by rw [e]; simp [Value.ownBlock])
  have hn : n = st.length := by obtain ⟨_, _, e, _⟩ := h.os.shape; cases e; rfl
  subst hn
  have hso : Owns (Y.setCell ⟨g, j, none⟩ (.int .i64 x)) q (.slice (some ⟨g, 0, none⟩) st.length cap) (st.set j x) := by
    have h2 := (World.ownsRow.stored h.os j (.int .i64 x)).1
    unfold Owns
    have e1 : (st.set j x).length = st.length := by simp
    have e2 : (st.set j x).map (Value.int .i64) = (st.map (Value.int .i64)).set j (.int .i64 x) := by simp [List.map_set]
    rw [e1, e2]
    simpa using h2
  refine ⟨h.six.far (by omega), by rw [far_set hgq]; exact h.ins, by rw [far_set hgp]; exact h.blk, hso, ownsRow_same h.ok (fun i hi => far_set (fun e => h.dis g (by simp [Value.ownBlock]) (by rw [hi, e]))), h.dis, h.ps, h.pk, h.qs, h.qk, h.hq, h.hp, h.bel.setCell (p := ⟨g, j, none⟩) (by show w.heap.size ≤ g; omega) _⟩
/-- The memory is another row. -/
theorem Mid.setMem {w Y : World} {q p : Nat} {pc0 : Int} {vs vk vb : Value} {op a pc : Int} {us uk ub : Value} {st ca : List Int} (h : Mid w Y q p pc0 vs vk vb op a pc us uk ub st ca) (ub' : Value) :
    Mid w (Y.setCell ⟨w.heap.size + 1, 0, none⟩ ub') q p pc0 vs vk vb op a pc us uk ub' st ca := by
  have hq := h.hq
  have hp := h.hp
  have s := h.six
  exact ⟨⟨by rw [far_set (by omega)]; exact s.b0, set1_g s.b1, by rw [far_set (by omega)]; exact s.b2, by rw [far_set (by omega)]; exact s.b3, by rw [far_set (by omega)]; exact s.b4, by rw [far_set (by omega)]; exact s.b5⟩, by rw [far_set (by omega)]; exact h.ins, by rw [far_set (by omega)]; exact h.blk, ownsRow_same h.os (fun j hj => far_set (by have := (h.os.lt j hj).1; omega)), ownsRow_same h.ok (fun j hj => far_set (by have := (h.ok.lt j hj).1; omega)), h.dis, h.ps, h.pk, h.qs, h.qk, h.hq, h.hp, h.bel.setCell (p := ⟨w.heap.size + 1, 0, none⟩) (by show w.heap.size ≤ w.heap.size + 1; omega) _⟩
/-- All cells that its statements read or write. -/
theorem Mid.cells {w Y : World} {q p : Nat} {pc0 : Int} {vs vk vb : Value} {op a pc : Int} {us uk ub : Value} {st ca : List Int} (h : Mid w Y q p pc0 vs vk vb op a pc us uk ub st ca) :
    (Y.cell? ⟨w.heap.size, 0, none⟩ = some (.int .i64 pc0) ∧ Y.cell? ⟨w.heap.size, 1, none⟩ = some vs ∧ Y.cell? ⟨w.heap.size, 2, none⟩ = some vk) ∧ (Y.cell? ⟨w.heap.size + 1, 0, none⟩ = some ub ∧ Y.frozen? ⟨w.heap.size + 1, 0, none⟩ = false) ∧
    (Y.cell? ⟨w.heap.size + 1 + 1, 0, none⟩ = some (.int .i64 0) ∧ Y.cell? ⟨w.heap.size + 1 + 1, 1, none⟩ = some (.slice none 0 0) ∧ Y.cell? ⟨w.heap.size + 1 + 1, 2, none⟩ = some (.slice none 0 0) ∧ Y.frozen? ⟨w.heap.size + 1 + 1, 0, none⟩ = false ∧ Y.frozen? ⟨w.heap.size + 1 + 1, 1, none⟩ = false ∧ Y.frozen? ⟨w.heap.size + 1 + 1, 2, none⟩ = false) ∧
    (Y.cell? ⟨w.heap.size + 1 + 1 + 1, 0, none⟩ = some (.slice none 0 0) ∧ Y.frozen? ⟨w.heap.size + 1 + 1 + 1, 0, none⟩ = false) ∧
    (Y.cell? ⟨w.heap.size + 1 + 1 + 1 + 1, 0, none⟩ = some (.int .i64 0) ∧ Y.cell? ⟨w.heap.size + 1 + 1 + 1 + 1, 1, none⟩ = some (.int .i64 0) ∧ Y.cell? ⟨w.heap.size + 1 + 1 + 1 + 1, 2, none⟩ = some (.int .i64 0) ∧ Y.frozen? ⟨w.heap.size + 1 + 1 + 1 + 1, 0, none⟩ = false ∧ Y.frozen? ⟨w.heap.size + 1 + 1 + 1 + 1, 1, none⟩ = false ∧ Y.frozen? ⟨w.heap.size + 1 + 1 + 1 + 1, 2, none⟩ = false) ∧
    (Y.cell? ⟨w.heap.size + 1 + 1 + 1 + 1 + 1, 0, none⟩ = some (.int .i64 4) ∧ Y.cell? ⟨w.heap.size + 1 + 1 + 1 + 1 + 1, 1, none⟩ = some (.int .i64 0) ∧ Y.cell? ⟨w.heap.size + 1 + 1 + 1 + 1 + 1, 2, none⟩ = some (.int .i64 0)) ∧
    (Y.cell? ⟨p, 0, none⟩ = some (.int .i64 pc) ∧ Y.cell? ⟨p, 1, none⟩ = some us ∧ Y.cell? ⟨p, 2, none⟩ = some uk ∧ Y.frozen? ⟨p, 0, none⟩ = false ∧ Y.frozen? ⟨p, 1, none⟩ = false ∧ Y.frozen? ⟨p, 2, none⟩ = false) ∧ (Y.cell? ⟨q, 0, none⟩ = some (.int .i64 op) ∧ Y.cell? ⟨q, 1, none⟩ = some (.int .i64 a)) := by
  have c0 := cel3 h.six.b0
  have c5 := cel3 h.six.b5
  exact ⟨⟨c0.1, c0.2.1, c0.2.2.1⟩, cel1 h.six.b1, cel3 h.six.b2, cel1 h.six.b3, cel3 h.six.b4, ⟨c5.1, c5.2.1, c5.2.2.1⟩, cel3 h.blk, cel2 h.ins⟩
/-- Back from the results: nothing that is seen was turned. -/
theorem sees_fill {X : World} {z : Nat} {v : Value} {xs : List Int} (h : Sees X v xs) (a b c x d e f : Value) (hfar : ∀ bb off ao cap, v = .slice ao xs.length cap → ao = some ⟨bb, off, none⟩ → bb ≠ z + 1 + 1 ∧ bb ≠ z + 1 + 1 + 1 ∧ bb ≠ z + 1 + 1 + 1 + 1) : Sees (fill7 X z a b c x d e f) v xs := by
  obtain ⟨bb, off, ao, cap, rfl, hc, hn, ha, hcell⟩ := h
  refine ⟨bb, off, ao, cap, rfl, hc, hn, ha, fun j hj => ?_⟩
  have hne : xs ≠ [] := by intro e; rw [e] at hj; simp at hj
  obtain ⟨h1, h2, h3⟩ := hfar bb off ao cap rfl (ha hne)
  have := hcell j hj
  unfold World.cell? at this ⊢
  rw [fill7_far _ _ _ _ _ _ _ h1 h2 h3]
  exact this
theorem seesN_fill {k : IntKind} {X : World} {z : Nat} {v : Value} {xs : List Nat} (h : SeesN k X v xs) (a b c x d e f : Value) (hfar : xs ≠ [] → ∀ bb off ao cap, v = .slice ao xs.length cap → ao = some ⟨bb, off, none⟩ → bb ≠ z + 1 + 1 ∧ bb ≠ z + 1 + 1 + 1 ∧ bb ≠ z + 1 + 1 + 1 + 1) : SeesN k (fill7 X z a b c x d e f) v xs := by
  obtain ⟨bb, off, ao, cap, rfl, hc, hn, ha, hcell⟩ := h
  refine ⟨bb, off, ao, cap, rfl, hc, hn, ha, fun j hj => ?_⟩
  have hne : xs ≠ [] := by intro e; rw [e] at hj; simp at hj
  obtain ⟨h1, h2, h3⟩ := hfar hne bb off ao cap rfl (ha hne)
  have := hcell j hj
  unfold World.cell? at this ⊢
  rw [fill7_far _ _ _ _ _ _ _ h1 h2 h3]
  exact this
end Go.Proofs.YtfnojlgmbfocfaaDoor
