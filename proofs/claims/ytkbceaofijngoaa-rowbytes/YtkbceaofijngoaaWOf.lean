/-
  The contract of row's Of.
-/
import Derived.Test.YtkbceaofijngoaaWCells
namespace Go.Proofs.Ytkbceaofijngoaa
open Go.RowKit
set_option linter.unusedVariables false

def rowVV (o : Option (RowV × Nat)) : RowV := (o.getD (rowE, 0)).1
def rowNN (o : Option (RowV × Nat)) : Nat := (o.getD (rowE, 0)).2

/-- What Of leaves: the row that was read, in memory of the call's own. -/
def OfPost (w : World) (o : Option (RowV × Nat)) (e : Ending) (w' : World) : Prop :=
  ∃ vc vs vi, e = .returned (.tuple #[rowVal (rowVV o) vc vs vi, .int .i64 ((rowNN o : Nat) : Int), .int .i64 (errR o.isSome)]) ∧ SeesT w' vc (rowVV o).cells ∧ Sees w' vs (rowVV o).s ∧ Sees w' vi (rowVV o).i ∧ Below w.heap.size w w'

theorem sees4 {w : World} {a b c d : Value} {n : Nat} {R : Nat} {g : Option Nat} (hn : n = w.heap.size) (hR : R < w.heap.size) (hg : ∀ j, g = some j → j < w.heap.size) :
    SeesF R g (w.alloc (.cells #[a, b, c, d] 52)) (.slice (some ⟨n, 0, none⟩) 4 4) [a, b, c, d] := by
  subst hn
  refine ⟨w.heap.size, 0, _, 4, rfl, Nat.le_refl _, fun _ => ⟨rfl, by omega, fun e => by have := hg _ e.symm; omega⟩, fun j hj => ?_⟩
  match j, hj with
  | 0, _ => simp
  | 1, _ => simp
  | 2, _ => simp
  | 3, _ => simp

set_option maxRecDepth 20000 in
set_option maxHeartbeats 4000000 in
theorem of_row (s : ByteArray) (w : World) (hs : s.size ≤ 4611686018427387904) :
    Calls Try.prog 12 #[.string s] w (OfPost w (ofR (bytesOf s))) := by
  obtain ⟨W, hW⟩ : ∃ W, W = (w.alloc (.cells #[.string ⟨#[]⟩, .slice none 0 0, .slice none 0 0, .slice none 0 0, .int .i64 0] 27)).alloc (.cells #[.string ⟨#[]⟩, .slice none 0 0, .slice none 0 0, .slice none 0 0, .int .i64 0] 27) := ⟨_, rfl⟩
  have hB : Below w.heap.size w W := by rw [hW]; exact (below_alloc w _).alloc (by simp) _
  have hQ : RowAt W w.heap.size (.string ⟨#[]⟩) (.slice none 0 0) (.slice none 0 0) (.slice none 0 0) (.int .i64 0) := by rw [hW]; exact (RowAt.new _ _ _ _ _ _).box _
  have hA : RowAt W (w.heap.size + 1) (.string ⟨#[]⟩) (.slice none 0 0) (.slice none 0 0) (.slice none 0 0) (.int .i64 0) := by rw [hW]; exact RowAt.new2 _ _ _ _ _ _ _
  have hst : Stands W (w.heap.size + 1) none rowE (.slice none 0 0) (.slice none 0 0) (.slice none 0 0) := ⟨hA, OwnsT.nil _ _, rfl, World.ownsRow_nil _ _ _ _, World.ownsRow_nil _ _ _ _, fun j hj => by simp [Value.ownBlock] at hj, fun j hj => by simp [Value.ownBlock] at hj⟩
  have hsz := hA.lt
  have hN : ∀ j, (none : Option Nat) = some j → j < 0 := fun j hj => by cases hj
  have hC1 := readText_any (w.heap.size + 1) 0 1 64 _ setKey none W (of1_any (w.heap.size + 1)) hsz (fun j hj => by cases hj)
  have HRP := hid (rowP_eq (bytesOf s))
  have HB := hid hB
  have HQ := hid hQ
  have HST := hid hst
  have HW := hid hW
  clear hB hQ hA hst hW
  go_enter Try.func12, Try.ntmps12
  go_wp2_with fail
  rw [← HW.out]
  refine hC1.mono ?_
  clear hC1
  unfold Made
  rintro e w1 ⟨rd1, rfl, hB1, hR1⟩
  have hs1 := hB1.size
  have HB1 := hid hB1
  have HR1 := hid hR1
  clear hB1 hR1
  have hC2 := readCells_any (w.heap.size + 1) none w1 (by omega) (fun j hj => by cases hj)
  go_wp2_with fail
  refine hC2.mono ?_
  clear hC2
  unfold Made
  rintro e w2 ⟨rd2, rfl, hB2, hR2⟩
  have hs2 := hB2.size
  have HB2 := hid (HB1.out.trans (hB2.mono hs1))
  have HR1b := hid (HR1.out.step (Step.of_below hB2))
  have HR2 := hid hR2
  clear hB2 hR2 HR1 HB1
  have hC3 := readLabel_any (w.heap.size + 1) none w2 (by omega) (fun j hj => by cases hj)
  go_wp2_with fail
  refine hC3.mono ?_
  clear hC3
  unfold Made
  rintro e w3 ⟨rd3, rfl, hB3, hR3⟩
  have hs3 := hB3.size
  have HB3 := hid (HB2.out.trans (hB3.mono (by omega)))
  have HR1c := hid (HR1b.out.step (Step.of_below hB3))
  have HR2c := hid (HR2.out.step (Step.of_below hB3))
  have HR3 := hid hR3
  clear hB3 hR3 HR1b HR2 HB2
  have hC4 := readWho_any (w.heap.size + 1) none w3 (by omega) (fun j hj => by cases hj)
  go_wp2_with fail
  refine hC4.mono ?_
  clear hC4
  unfold Made
  rintro e w4 ⟨rd4, rfl, hB4, hR4⟩
  have hs4 := hB4.size
  have HB4 := hid (HB3.out.trans (hB4.mono (by omega)))
  obtain ⟨W5, hW5⟩ : ∃ W5, W5 = w4.alloc (.cells #[rd1, rd2, rd3, rd4] 52) := ⟨_, rfl⟩
  have hB5 : Below w4.heap.size w4 W5 := by rw [hW5]; exact below_alloc w4 _
  have r1 := (HR1c.out.step (Step.of_below hB4)).step (Step.of_below hB5)
  have r2 := (HR2c.out.step (Step.of_below hB4)).step (Step.of_below hB5)
  have r3 := (HR3.out.step (Step.of_below hB4)).step (Step.of_below hB5)
  have r4 := hR4.step (Step.of_below (R := w.heap.size + 1) (g := none) hB5)
  have hSF : SeesF (w.heap.size + 1) none W5 (.slice (some ⟨w4.heap.size, 0, none⟩) 4 4) [rd1, rd2, rd3, rd4] := by rw [hW5]; exact sees4 rfl (by omega) (fun j hj => by cases hj)
  have hs5 := hB5.size
  have hC5 := chain_row (w.heap.size + 1) (.slice (some ⟨w4.heap.size, 0, none⟩) 4 4) [rd1, rd2, rd3, rd4] [(textP 1 64 setKey, 0), (cellsP, 8), (labP, 0), (whoP, 0)] none W5 hSF rfl (by simp) (fun j j1 j2 => by
    match j, j1 with
    | 0, _ => exact r1
    | 1, _ => exact r2
    | 2, _ => exact r3
    | 3, _ => exact r4) (by omega) (fun j hj => by cases hj)
  have HB5 := hid (HB4.out.trans (hB5.mono (by omega)))
  obtain ⟨k1, q1, e1, _⟩ := r1
  obtain ⟨k2, q2, e2, _⟩ := r2
  obtain ⟨k3, q3, e3, _⟩ := r3
  obtain ⟨k4, q4, e4, _⟩ := r4
  subst e1
  subst e2
  subst e3
  subst e4
  have HW5 := hid hW5
  clear hB4 hR4 HR1c HR2c HR3 HB3 hB5 hSF hW5 HB4
  go_wp2_with fail
  rw [← HW5.out]
  refine hC5.mono ?_
  clear hC5
  unfold Made
  rintro e w6 ⟨rd, rfl, hB6, hR6⟩
  obtain ⟨k, caps, rfl, hen, hC⟩ := hR6
  have hB56 := HB5.out.trans (hB6.mono (by omega))
  have hs6 := hB6.size
  have hcall := hC s rowE none w6 _ _ _ hs (Step.refl _ _ _) (HST.out.below hB56) (by decide)
  have hen' : ∀ (args : Array Value) (w : World), (callFunc k args).run Try.prog w = .ok (.enter k args) w := hen
  have HB6 := hid hB56
  have hch : chainC [(textP 1 64 setKey, 0), (cellsP, 8), (labP, 0), (whoP, 0)] = rowP := rfl
  rw [hch] at hcall
  clear hC hen hB6 hB56 hch
  go_wp2_with fail
  refine hcall.mono ?_
  clear hcall
  unfold ReadPost
  rintro e w7 ⟨g7, st7, yc, ys, yi, hs7, hst7, hcl7, hres⟩
  have HQ7 : Hid (RowAt w7 w.heap.size (.string ⟨#[]⟩) (.slice none 0 0) (.slice none 0 0) (.slice none 0 0) (.int .i64 0)) := by
    refine hid (RowAt.same ((HQ.out.below HB6.out (by omega))) ?_)
    exact hs7.block _ (by omega) (by omega) (by simp)
  have HBF : Hid (Below w.heap.size w w7) := hid ((HB.out.trans (HB6.out.mono (by have := HB.out.size; omega))).trans (hs7.below (by omega) (fun j hj => by cases hj) (by omega)))
  have HST7 := hid hst7
  clear hs7 hst7 HST HB6
  rcases hres with ⟨hf, rfl⟩ | ⟨n, hf, hn, rfl⟩
  · have hof : ofR (bytesOf s) = none := by
      have h := HRP.out
      rw [hf] at h
      cases h2 : ofR (bytesOf s) with
      | none => rfl
      | some q => rw [h2] at h; cases h
    have HOF := hid hof
    obtain ⟨c0, c1, c2, c3, c4, f0, f1, f2, f3, f4⟩ := HQ7.out.cells
    have HLF := hid (((((HQ7.out.store0 (x := .string ⟨#[]⟩)).store1 (x := .slice none 0 0)).store2 (x := .slice none 0 0)).store3 (x := .slice none 0 0)).store4 (x := .int .i64 0))
    have HBL := hid ((((((HBF.out.setCell (p := ⟨w.heap.size, 0, none⟩) (by simp) (.string ⟨#[]⟩)).setCell (p := ⟨w.heap.size, 1, none⟩) (by simp) (.slice none 0 0)).setCell (p := ⟨w.heap.size, 2, none⟩) (by simp) (.slice none 0 0)).setCell (p := ⟨w.heap.size, 3, none⟩) (by simp) (.slice none 0 0)).setCell (p := ⟨w.heap.size, 4, none⟩) (by simp) (.int .i64 0)))
    clear hof hf
    go_wp2
    obtain ⟨y0, y1, y2, y3, y4, _⟩ := HLF.out.cells
    refine bodyPost_ret (v := .tuple #[.agg #[.string ⟨#[]⟩, .slice none 0 0, .slice none 0 0, .slice none 0 0, .int .i64 0], .int .i64 0, .int .i64 110]) (by simp [results, Try.results12, go_sem, y0, y1, y2, y3, y4]) rfl ?_
    unfold OfPost
    rw [HOF.out]
    exact ⟨.slice none 0 0, .slice none 0 0, .slice none 0 0, rfl, (OwnsT.nil _ 0).sees, (Owns.sees (base := 0) (World.ownsRow_nil _ _ _ _)), (Owns.sees (base := 0) (World.ownsRow_nil _ _ _ _)), HBL.out⟩
  · have hof : ofR (bytesOf s) = some (st7, n) := by
      have h := HRP.out
      rw [hf] at h
      cases h2 : ofR (bytesOf s) with
      | none => rw [h2] at h; cases h
      | some q =>
        rw [h2] at h
        obtain ⟨a, b⟩ := q
        simp only [Option.some.injEq, Prod.mk.injEq] at h
        rw [h.1, h.2]
    have HOF := hid hof
    obtain ⟨c0, c1, c2, c3, c4, f0, f1, f2, f3, f4⟩ := HQ7.out.cells
    obtain ⟨d0, d1, d2, d3, d4, _⟩ := HST7.out.row.cells
    obtain ⟨ao1, cap1, e1⟩ := HST7.out.cells.shape
    obtain ⟨ao2, cap2, e2⟩ := HST7.out.s.form
    obtain ⟨ao3, cap3, e3⟩ := HST7.out.i.form
    subst e1
    subst e2
    subst e3
    have HLF := hid (((((HQ7.out.store0 (x := .string st7.key)).store1 (x := .slice ao1 st7.cells.length cap1)).store2 (x := .slice ao2 st7.s.length cap2)).store3 (x := .slice ao3 st7.i.length cap3)).store4 (x := .int .i64 st7.who))
    have HBL := hid ((((((HBF.out.setCell (p := ⟨w.heap.size, 0, none⟩) (by simp) (.string st7.key)).setCell (p := ⟨w.heap.size, 1, none⟩) (by simp) (.slice ao1 st7.cells.length cap1)).setCell (p := ⟨w.heap.size, 2, none⟩) (by simp) (.slice ao2 st7.s.length cap2)).setCell (p := ⟨w.heap.size, 3, none⟩) (by simp) (.slice ao3 st7.i.length cap3)).setCell (p := ⟨w.heap.size, 4, none⟩) (by simp) (.int .i64 st7.who)))
    have HO1 := hid (own_set (k := 4) (x := .int .i64 st7.who) (own_set (k := 3) (x := .slice ao3 st7.i.length cap3) (own_set (k := 2) (x := .slice ao2 st7.s.length cap2) (own_set (k := 1) (x := .slice ao1 st7.cells.length cap1) (own_set (k := 0) (x := .string st7.key) HST7.out.cells (p := w.heap.size) (by omega)) (p := w.heap.size) (by omega)) (p := w.heap.size) (by omega)) (p := w.heap.size) (by omega)) (p := w.heap.size) (by omega))
    have HO2 := hid (own_set (k := 4) (x := .int .i64 st7.who) (own_set (k := 3) (x := .slice ao3 st7.i.length cap3) (own_set (k := 2) (x := .slice ao2 st7.s.length cap2) (own_set (k := 1) (x := .slice ao1 st7.cells.length cap1) (own_set (k := 0) (x := .string st7.key) HST7.out.s (p := w.heap.size) (by omega)) (p := w.heap.size) (by omega)) (p := w.heap.size) (by omega)) (p := w.heap.size) (by omega)) (p := w.heap.size) (by omega))
    have HO3 := hid (own_set (k := 4) (x := .int .i64 st7.who) (own_set (k := 3) (x := .slice ao3 st7.i.length cap3) (own_set (k := 2) (x := .slice ao2 st7.s.length cap2) (own_set (k := 1) (x := .slice ao1 st7.cells.length cap1) (own_set (k := 0) (x := .string st7.key) HST7.out.i (p := w.heap.size) (by omega)) (p := w.heap.size) (by omega)) (p := w.heap.size) (by omega)) (p := w.heap.size) (by omega)) (p := w.heap.size) (by omega))
    clear hof hf
    go_wp2
    obtain ⟨y0, y1, y2, y3, y4, _⟩ := HLF.out.cells
    refine bodyPost_ret (v := .tuple #[.agg #[.string st7.key, .slice ao1 st7.cells.length cap1, .slice ao2 st7.s.length cap2, .slice ao3 st7.i.length cap3, .int .i64 st7.who], .int .i64 (n : Int), .int .i64 0]) (by simp [results, Try.results12, go_sem, y0, y1, y2, y3, y4]) rfl ?_
    unfold OfPost
    rw [HOF.out]
    exact ⟨_, _, _, rfl, OwnsT.sees (base := w.heap.size + 1 + 1) HO1.out, Owns.sees (base := w.heap.size + 1 + 1) HO2.out, Owns.sees (base := w.heap.size + 1 + 1) HO3.out, HBL.out⟩

end Go.Proofs.Ytkbceaofijngoaa
