/-
  The contract of label's Of.
-/
import Derived.Test.YtkbceaofijngoaaLRead
namespace Go.Proofs.Ytkbceaofijngoaa
open Go.RowKit
set_option linter.unusedVariables false

def ofS (o : Option (List Int × List Int × Nat)) : List Int := (o.getD ([], [], 0)).1
def ofI (o : Option (List Int × List Int × Nat)) : List Int := (o.getD ([], [], 0)).2.1
def ofN (o : Option (List Int × List Int × Nat)) : Nat := (o.getD ([], [], 0)).2.2

theorem LabAt.grown {w w' : World} {p : Nat} {r : Option Nat} {u v : Value} (h : LabAt w p u v) (hg : w.grownBy w' r) (hp : some p ≠ r) : LabAt w' p u v := by
  have hl := h.lt
  unfold LabAt at *
  rw [hg.block p hl hp]
  exact h
theorem below_grownQ {B : Nat} {w0 w w' : World} {q : Nat} (hb : Below B w0 w) (hg : w.grownBy w' (some q)) (hq : B ≤ q) (hs : B ≤ w.heap.size) : Below B w0 w' := below_grownBy hb hg (fun j hj => by cases hj; exact hq) hs

theorem CellAt.new {ty : TypeId} (w : World) (v : Value) : CellAt ty (w.alloc (.cells #[v] ty)) w.heap.size v := heap_alloc_new w _
theorem CellAt.box {ty : TypeId} {w : World} {p : Nat} {v : Value} (h : CellAt ty w p v) (o : Obj) : CellAt ty (w.alloc o) p v := h.grown (World.grownBy_alloc w o none) (by simp)

set_option maxRecDepth 20000 in
set_option maxHeartbeats 2000000 in
theorem labOf_any (s : ByteArray) (w : World) (hs : s.size ≤ 4611686018427387904) :
    Calls Try.prog 60 #[.string s] w fun e w' => ∃ v1 v2, e = .returned (.tuple #[.agg #[v1, v2], .int .i64 ((ofN (ofL (bytesOf s)) : Nat) : Int), .int .i64 (errOf (ofL (bytesOf s)).isSome)]) ∧ Owns w' w.heap.size v1 (ofS (ofL (bytesOf s))) ∧ Owns w' w.heap.size v2 (ofI (ofL (bytesOf s))) ∧ Below w.heap.size w w' := by
  obtain ⟨W, hW⟩ : ∃ W, W = (((w.alloc (.cells #[.string s] 9)).alloc (.cells #[.slice none 0 0, .slice none 0 0] 25)).alloc (.cells #[.int .i64 0] 3)) := ⟨_, rfl⟩
  have hC0 : CellAt 9 W w.heap.size (.string s) := by
    rw [hW]
    exact ((CellAt.new w _).box _).box _
  have hC1 : CellAt 3 W (w.heap.size + 1 + 1) (.int .i64 ((0 : Nat) : Int)) := by
    rw [hW]
    have h := CellAt.new (ty := 3) ((w.alloc (.cells #[.string s] 9)).alloc (.cells #[.slice none 0 0, .slice none 0 0] 25)) (.int .i64 0)
    simpa using h
  have hL0 : LabAt W (w.heap.size + 1) (.slice none 0 0) (.slice none 0 0) := by
    rw [hW]
    exact (LabAt.new2 w _ _ _).box _
  have hB0 : Below w.heap.size w W := by
    rw [hW]
    exact ((below_alloc w _).alloc (by simp) _).alloc (by simp; omega) _
  have hWsz := hC1.lt
  have hR := counted_any s w.heap.size (w.heap.size + 1 + 1) 0 W hs hC0 hC1 (by omega) (by omega)
  unfold Counted at hR
  rw [List.drop_zero] at hR
  have HC0 := hid hC0
  have HC1 := hid hC1
  have HL0 := hid hL0
  have HB0 := hid hB0
  have HR := hid hR
  have HW := hid hW
  have HO : Hid (ofL (bytesOf s) = match readS (bytesOf s) with | none => none | some (a, p) => match readS ((bytesOf s).drop p) with | none => none | some (i, q) => some (a, i, p + q)) := rfl
  have HSZ := hid (fun a p (h : readS (bytesOf s) = some (a, p)) => readS_size h)
  have HBL := hid (bytesOf_len s)
  generalize ofL (bytesOf s) = o at *
  clear hC0 hC1 hL0 hB0 hR hW
  go_enter Try.func60, Try.ntmps60
  go_wp2_with fail
  rw [← HW.out]
  clear HW
  refine HR.out.mono ?_
  clear HR
  rintro e w1 ⟨v1, n1, rfl, hO1, hC1, hn1, hz1, hG1⟩
  have HC01 := hid (HC0.out.grown hG1 (by simp; omega))
  have HL1 := hid (HL0.out.grown hG1 (by simp))
  have HB1 := hid (below_grownQ HB0.out hG1 (by omega) (by omega))
  have hw1s := hG1.size
  have HO1 := hid hO1
  have HC11 := hid hC1
  clear HC0 HC1 HL0 HB0 hO1 hC1 hG1
  cases hr : readS (bytesOf s) with
  | none =>
    have HE : Hid (o = none) := by unfold Hid; rw [HO.out, hr]
    rw [hr] at HO1
    simp only [Option.isSome_none]
    have HLF := hid ((HL1.out.store0 (u' := (.slice none 0 0))).store1 (v' := (.slice none 0 0)))
    have HBF := hid ((HB1.out.setCell (p := ⟨w.heap.size + 1, 0, none⟩) (by simp) (.slice none 0 0)).setCell (p := ⟨w.heap.size + 1, 1, none⟩) (by simp) (.slice none 0 0))
    obtain ⟨q1, q2, q3, q4⟩ := HL1.out.cells
    go_wp2
    obtain ⟨y1, y2, _, _⟩ := HLF.out.cells
    refine bodyPost_ret (v := .tuple #[.agg #[(.slice none 0 0), (.slice none 0 0)], .int .i64 0, .int .i64 20]) (by simp [results, Try.results60, go_sem, y1, y2]) rfl ?_
    exact ⟨_, _, by rw [HE.out]; rfl, by rw [HE.out]; exact World.ownsRow_nil _ _ _ _, by rw [HE.out]; exact World.ownsRow_nil _ _ _ _, HBF.out⟩
  | some ap =>
    obtain ⟨a, p⟩ := ap
    obtain rfl : n1 = 0 + p := hz1 a p hr
    have hsz := HSZ.out a p hr
    rw [HBL.out] at hsz
    rw [hr] at HO1
    have HOa : Hid (Owns w1 W.heap.size v1 a) := HO1
    have hR2 := counted_any s w.heap.size (w.heap.size + 1 + 1) (0 + p) w1 hs HC01.out HC11.out hn1 (by omega)
    unfold Counted at hR2
    rw [Nat.zero_add] at hR2
    have HR2 := hid hR2
    have HO2 : Hid (o = match readS ((bytesOf s).drop p) with | none => none | some (i, q) => some (a, i, p + q)) := by unfold Hid; rw [HO.out, hr]
    clear hR2 HO hr hz1 HO1 HSZ
    simp only [Option.isSome_some]
    go_wp2_with fail
    refine HR2.out.mono ?_
    clear HR2
    rintro e w2 ⟨v2, n2, rfl, hO2, hC2, hn2, hz2, hG2⟩
    have HL2 := hid (HL1.out.grown hG2 (by simp))
    have HB2 := hid (below_grownQ HB1.out hG2 (by omega) (by omega))
    have HOa2 := hid (HOa.out.grown hG2 (fun j hj => by cases hj; omega))
    have hw2s := hG2.size
    have HOb := hid hO2
    have HC2 := hid hC2
    clear HC01 HL1 HB1 hO2 hC2 hG2 HC11 HOa
    cases hr : readS ((bytesOf s).drop p) with
    | none =>
      have HE : Hid (o = none) := by unfold Hid; rw [HO2.out, hr]
      simp only [Option.isSome_none]
      have HLF := hid ((HL2.out.store0 (u' := (.slice none 0 0))).store1 (v' := (.slice none 0 0)))
      have HBF := hid ((HB2.out.setCell (p := ⟨w.heap.size + 1, 0, none⟩) (by simp) (.slice none 0 0)).setCell (p := ⟨w.heap.size + 1, 1, none⟩) (by simp) (.slice none 0 0))
      obtain ⟨q1, q2, q3, q4⟩ := HL2.out.cells
      go_wp2
      obtain ⟨y1, y2, _, _⟩ := HLF.out.cells
      refine bodyPost_ret (v := .tuple #[.agg #[(.slice none 0 0), (.slice none 0 0)], .int .i64 0, .int .i64 20]) (by simp [results, Try.results60, go_sem, y1, y2]) rfl ?_
      exact ⟨_, _, by rw [HE.out]; rfl, by rw [HE.out]; exact World.ownsRow_nil _ _ _ _, by rw [HE.out]; exact World.ownsRow_nil _ _ _ _, HBF.out⟩
    | some iq =>
      obtain ⟨i, q⟩ := iq
      obtain rfl : n2 = p + q := hz2 i q hr
      rw [hr] at HOb
      have HOb2 : Hid (Owns w2 w1.heap.size v2 i) := HOb
      have HE : Hid (o = some (a, i, p + q)) := by unfold Hid; rw [HO2.out, hr]
      clear hz2 hr HO2 HOb
      simp only [Option.isSome_some]
      obtain ⟨ao1, cap1, rfl⟩ := HOa2.out.form
      obtain ⟨ao2, cap2, rfl⟩ := HOb2.out.form
      obtain ⟨q1, q2, q3, q4⟩ := HL2.out.cells
      obtain ⟨z1, z2⟩ := HC2.out.cells
      have HLF := hid ((HL2.out.store0 (u' := (.slice ao1 a.length cap1))).store1 (v' := (.slice ao2 i.length cap2)))
      have HBF := hid ((HB2.out.setCell (p := ⟨w.heap.size + 1, 0, none⟩) (by simp) (.slice ao1 a.length cap1)).setCell (p := ⟨w.heap.size + 1, 1, none⟩) (by simp) (.slice ao2 i.length cap2))
      go_wp2_with fail
      go_region_held3 (fun w' => w'.cell? ⟨w.heap.size + 1 + 1, 0, none⟩ = some (.int .i64 ((p + q : Nat) : Int)))
        (first | assumption | go_keep)
        (fail)
      go_wp2
      have HLD := hid (HLF.out.below (Below.drew (Below.refl _ _)) HLF.out.lt)
      obtain ⟨y1, y2, _, _⟩ := HLD.out.cells
      refine bodyPost_ret (v := .tuple #[.agg #[(.slice ao1 a.length cap1), (.slice ao2 i.length cap2)], .int .i64 ((p : Int) + q), .int .i64 0]) (by simp [results, Try.results60, go_sem, y1, y2]) rfl ?_
      refine ⟨.slice ao1 a.length cap1, .slice ao2 i.length cap2, by rw [HE.out]; simp [ofN, errOf], ?_, ?_, Below.drew HBF.out⟩
      · rw [HE.out]
        exact (owns_le (ownsRow_setCell_below (ownsRow_setCell_below HOa2.out (by simp; omega) _) (by simp; omega) _) (by omega)).below (Below.drew (Below.refl _ _))
      · rw [HE.out]
        exact (owns_le (ownsRow_setCell_below (ownsRow_setCell_below HOb2.out (by simp; omega) _) (by simp; omega) _) (by omega)).below (Below.drew (Below.refl _ _))
end Go.Proofs.Ytkbceaofijngoaa
