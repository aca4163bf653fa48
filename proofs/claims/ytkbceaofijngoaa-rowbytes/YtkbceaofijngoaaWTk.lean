/-
  The closures that put what is read into the row's variable.
-/
import Derived.Test.YtkbceaofijngoaaWCnt
namespace Go.Proofs.Ytkbceaofijngoaa
open Go.RowKit
set_option linter.unusedVariables false

theorem Step.set (R : Nat) (g : Option Nat) (w : World) (k : Nat) (x : Value) : Step R g w g (w.setCell ⟨R, k, none⟩ x) :=
  ⟨rfl, rfl, rfl, by simp [World.setCell], fun i _ hR _ => Below.heap_setCell w ⟨R, k, none⟩ x i hR, Or.inl rfl⟩
theorem own_set {w : World} {base e size n p k : Nat} {v x : Value} {xs : List Value} (h : w.ownsRow base e size v n xs) (hp : p < base) : (w.setCell ⟨p, k, none⟩ x).ownsRow base e size v n xs :=
  ownsRow_setCell_below h (a := ⟨p, k, none⟩) hp x

/-- The row's variable is turned at one cell. -/
theorem Stands.put {w : World} {R : Nat} {g : Option Nat} {st st' : RowV} {vc vs vi : Value} {k : Nat} {x : Value} (h : Stands w R g st vc vs vi) (hr : RowAt (w.setCell ⟨R, k, none⟩ x) R (.string st'.key) vc vs vi (.int .i64 st'.who)) (h1 : st'.cells = st.cells) (h2 : st'.s = st.s) (h3 : st'.i = st.i) : Stands (w.setCell ⟨R, k, none⟩ x) R g st' vc vs vi := by
  refine ⟨hr, ?_, h.own, ?_, ?_, h.sfar, h.ifar⟩
  · rw [h1]; exact own_set h.cells (by omega)
  · rw [h2]; exact own_set h.s (by omega)
  · rw [h3]; exact own_set h.i (by omega)

set_option maxRecDepth 20000 in
set_option maxHeartbeats 1000000 in
theorem of1_any (R : Nat) : Takes R 0 (.func (.func 33) #[] #[.pointer (some ⟨R, 0, none⟩)]) setKey := by
  refine ⟨_, _, rfl, enters_of Try.func33 (by kernel_rfl) rfl, fun x st g w vc vs vi h hc => ?_⟩
  show Calls Try.prog 33 #[.string x, .pointer (some ⟨R, 0, none⟩)] w _
  obtain ⟨c0, c1, c2, c3, c4, f0, f1, f2, f3, f4⟩ := h.row.cells
  have HH := hid h
  clear h
  go_enter Try.func33, Try.ntmps33
  go_wp2
  go_returns
  unfold TakePost
  exact ⟨g, vc, vs, vi, rfl, Step.set _ _ _ _ _, HH.out.put (st' := setKey x st) (HH.out.row.store0) rfl rfl rfl, by simp [setKey]⟩

set_option maxRecDepth 20000 in
set_option maxHeartbeats 1000000 in
theorem of4_any (R : Nat) (x : Int) (st : RowV) (g : Option Nat) (w : World) (vc vs vi : Value) (h : Stands w R g st vc vs vi) :
    Calls Try.prog 39 #[.int .i64 x, .pointer (some ⟨R, 0, none⟩)] w (TakePost R 0 (setWho x st) st g w) := by
  obtain ⟨c0, c1, c2, c3, c4, f0, f1, f2, f3, f4⟩ := h.row.cells
  have HH := hid h
  clear h
  go_enter Try.func39, Try.ntmps39
  go_wp2
  go_returns
  unfold TakePost
  exact ⟨g, vc, vs, vi, rfl, Step.set _ _ _ _ _, HH.out.put (st' := setWho x st) (HH.out.row.store4) rfl rfl rfl, by simp [setWho]⟩

theorem size_set (w : World) (a : Addr) (v : Value) : (w.setCell a v).heap.size = w.heap.size := by simp [World.setCell]
theorem size_box (w : World) (o : Obj) : (w.alloc o).heap.size = w.heap.size + 1 := by simp
theorem see1 {w : World} {t : TypeId} {v : Value} {n : Nat} (h : n = w.heap.size) : (w.alloc (.cells #[v] t)).cell? ⟨n, 0, none⟩ = some v := by
  subst h
  simp

set_option maxRecDepth 20000 in
set_option maxHeartbeats 1000000 in
theorem of3_any (R : Nat) (us ui : Value) (s i : List Int) (st : RowV) (g : Option Nat) (w : World) (vc vs vi : Value) (h : Stands w R g st vc vs vi)
    (hs : Owns w (R + 1) us s) (hi : Owns w (R + 1) ui i) (hsf : ∀ j, us.ownBlock = some j → some j ≠ g) (hif : ∀ j, ui.ownBlock = some j → some j ≠ g) :
    Calls Try.prog 37 #[.agg #[us, ui], .pointer (some ⟨R, 0, none⟩)] w (TakePost R 0 (setLab s i st) st g w) := by
  obtain ⟨ao1, cap1, rfl⟩ := hs.form
  obtain ⟨ao2, cap2, rfl⟩ := hi.form
  obtain ⟨c0, c1, c2, c3, c4, f0, f1, f2, f3, f4⟩ := h.row.cells
  have HH := hid h
  have HS := hid hs
  have HI := hid hi
  have hRW := h.row.lt
  clear h hs hi
  go_enter Try.func37, Try.ntmps37
  go_wp2
  go_returns
  unfold TakePost
  have HZ := hid (below_alloc ((w.setCell ⟨R, 2, none⟩ (.slice ao1 s.length cap1)).setCell ⟨R, 3, none⟩ (.slice ao2 i.length cap2)) (.cells #[.slice ao1 s.length cap1, .slice ao2 i.length cap2] 25))
  refine ⟨g, vc, .slice ao1 s.length cap1, .slice ao2 i.length cap2, rfl, ((Step.set R g w 2 _).trans (Step.set R g _ 3 _)).trans (Step.of_below HZ.out), Stands.below ⟨HH.out.row.store2.store3, ?_, HH.out.own, ?_, ?_, hsf, hif⟩ HZ.out, by simp [setLab]⟩
  · exact own_set (own_set HH.out.cells (by omega)) (by omega)
  · exact own_set (own_set HS.out (by omega)) (by omega)
  · exact own_set (own_set HI.out (by omega)) (by omega)

set_option maxRecDepth 20000 in
set_option maxHeartbeats 1000000 in
theorem of2_any (R : Nat) : Takes R 1 (.func (.func 35) #[] #[.pointer (some ⟨R, 0, none⟩)]) addCell := by
  refine ⟨_, _, rfl, enters_of Try.func35 (by kernel_rfl) rfl, fun x st g w vc vs vi h hc => ?_⟩
  show Calls Try.prog 35 #[.string x, .pointer (some ⟨R, 0, none⟩)] w _
  obtain ⟨c0, c1, c2, c3, c4, f0, f1, f2, f3, f4⟩ := h.row.cells
  obtain ⟨ao, cap, hsh⟩ := h.cells.shape
  subst hsh
  have hRw := h.row.lt
  have HH := hid h
  have hgl := h.glt
  have hown := h.own
  clear h
  go_enter Try.func35, Try.ntmps35
  go_wp2_with (first
    | (at_builtin
       refine wpList_appOne Try.underlying22 Try.info9 (by decide) rfl _ _ rfl (R + 1) (.slice ao st.cells.length cap) st.cells.length (cellsT st.cells) rfl (OwnsT.below HH.out.cells (below_alloc _ _)) _ (.string x) rfl (see1 rfl) rfl (by omega) (by decide) (by rw [size_box]; omega) ?_
       intro g2 cap2 w2 hO2 hG2 hg2 hl2
       rw [hown] at hG2 hg2
       rw [size_box] at hg2
       have hO2' := OwnsT.app hO2
       have hrow : RowAt w2 R (.string st.key) (.slice ao st.cells.length cap) vs vi (.int .i64 st.who) := (HH.out.row.box _).same (hG2.block R (by rw [size_box]; omega) (fun h => by have := hgl R h.symm; omega))
       obtain ⟨d0, d1, d2, d3, d4, e0, e1, e2, e3, e4⟩ := hrow.cells
       have HS2 : Hid (Owns w2 (R + 1) vs st.s) := hid (Owns.same (HH.out.s.below (below_alloc w _)) (fun j hj => hG2.block j (by have := HH.out.s.lt j hj; rw [size_box]; omega) (HH.out.sfar j hj)))
       have HI2 : Hid (Owns w2 (R + 1) vi st.i) := hid (Owns.same (HH.out.i.below (below_alloc w _)) (fun j hj => hG2.block j (by have := HH.out.i.lt j hj; rw [size_box]; omega) (HH.out.ifar j hj)))
       have HST : Hid (Step R g w (some g2) w2) := by
         refine hid ⟨hG2.os, hG2.tape, hG2.output, ?_, fun k hk _ hg => ?_, ?_⟩
         · have := hG2.size
           rw [size_box] at this
           omega
         · have h1 := hG2.block k (by rw [size_box]; omega) hg
           rw [h1]
           exact (below_alloc w _).block k hk
         · rcases hg2 with h | h
           · exact Or.inl h.symm
           · exact Or.inr (fun j hj => by cases hj; omega)
       have HSF : Hid ((∀ j, vs.ownBlock = some j → some j ≠ some g2) ∧ ∀ j, vi.ownBlock = some j → some j ≠ some g2) := by
         refine hid ⟨fun j hj => ?_, fun j hj => ?_⟩
         · have h1 := HH.out.s.lt j hj
           rcases hg2 with h | h
           · rw [← h]; exact HH.out.sfar j hj
           · intro e; cases e; omega
         · have h1 := HH.out.i.lt j hj
           rcases hg2 with h | h
           · rw [← h]; exact HH.out.ifar j hj
           · intro e; cases e; omega
       have HO2 := hid hO2'
       have HROW := hid hrow
       clear hO2 hO2' hG2 hg2 hrow)
    | fail)
  go_returns
  unfold TakePost
  refine ⟨some g2, .slice (some ⟨g2, 0, none⟩) (st.cells.length + 1) cap2, vs, vi, rfl, HST.out.trans (Step.set R (some g2) w2 1 _), ⟨HROW.out.store1, ?_, rfl, ?_, ?_, HSF.out.1, HSF.out.2⟩, by simp [addCell]⟩
  · exact own_set HO2.out (by omega)
  · exact own_set HS2.out (by omega)
  · exact own_set HI2.out (by omega)
end Go.Proofs.Ytkbceaofijngoaa
