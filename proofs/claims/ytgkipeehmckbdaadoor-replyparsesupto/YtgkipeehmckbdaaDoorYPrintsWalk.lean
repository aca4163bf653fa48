/-
  The walk of ReplyPrints.
-/
import Derived.Test.YtgkipeehmckbdaaDoorYBackWalk
namespace Go.Proofs.YtgkipeehmckbdaaDoor
open Go.RowKit
set_option linter.unusedVariables false

theorem sees_none (w : World) : SeesP w (.slice none 0 0) [] := ⟨0, 0, none, 0, rfl, Nat.le_refl _, fun _ => rfl, fun h => absurd rfl h, fun j hj => by simp at hj⟩
set_option maxRecDepth 20000 in
set_option maxHeartbeats 8000000 in
theorem prints_walk (r : RespL) (v : Value) (n : Int) (w : World) (hI : ItoaAt w) (hT : Tab w) (hS : SeesP w v r.2.1) (hb : ∀ p ∈ r.2.1, p.1.length ≤ 1048576 ∧ p.2.length ≤ 1048576) (hl : r.2.1.length ≤ 1048576) :
    Calls Tryd.prog 3 #[rspV r v, .int .i64 n] w fun e w' => e = .returned (.bool true) ∧ Below w.heap.size w w' := by
  have hPr := fun W (hb1 : Below w.heap.size w W) => print_any r v W (hI.below hb1) (hT.below hb1) (hS.below hb1) (fun p hp => by have := hb p hp; omega) (by omega)
  have hRp := fun W (hb1 : Below w.heap.size w W) => ryprint_any r v W (hI.below hb1) (hS.below hb1) (fun p hp => by have := hb p hp; omega) (by omega)
  have hRs := fun W (hb1 : Below w.heap.size w W) => reason_any n W (hT.below hb1)
  have hRr := fun W => rreason_any n W
  have HA := hid (fun W (hb1 : Below w.heap.size w W) => awake_any W (hI.below hb1) (hT.below hb1))
  obtain ⟨G, hG⟩ : ∃ G, G = (prnY r).getD [] := ⟨_, rfl⟩
  obtain ⟨E, hE⟩ : ∃ E : Int, E = if (prnY r).isSome = true then 0 else 90 := ⟨_, rfl⟩
  obtain ⟨G2, hG2⟩ : ∃ G, G = (reasonL n).getD [] := ⟨_, rfl⟩
  obtain ⟨E2, hE2⟩ : ∃ E : Int, E = if (reasonL n).isSome = true then 0 else 3 := ⟨_, rfl⟩
  simp only [← hG, ← hE] at hPr hRp
  simp only [← hG2, ← hE2] at hRs hRr
  have HPl := hid (fun W => plain_any n r.2.2.1 r.2.2.2 W)
  have HRl := hid (fun W => rplain_any n r.2.2.1 r.2.2.2 W)
  have HSm := hid (fun W => rysame_any (n, [], r.2.2.1, r.2.2.2) (n, [], r.2.2.1, r.2.2.2) (.slice none 0 0) (.slice none 0 0) W (sees_none W) (sees_none W) (by simp))
  simp only [sameY_self] at HSm
  have hB0 := below_alloc w (.cells #[.int .i64 r.1, v, .string ⟨r.2.2.1.toArray⟩, .bool r.2.2.2] 24)
  have hH0 := RspAt.new w (.int .i64 r.1) v (.string ⟨r.2.2.1.toArray⟩) (.bool r.2.2.2)
  obtain ⟨w0, hw0⟩ : ∃ w0, w0 = w.alloc (.cells #[.int .i64 r.1, v, .string ⟨r.2.2.1.toArray⟩, .bool r.2.2.2] 24) := ⟨_, rfl⟩
  rw [← hw0] at hB0 hH0
  have HW0 := hid hw0
  have HB0 := hid hB0
  have HH0 := hid hH0
  obtain ⟨z0, z1, z2, z3, _, _, _, _⟩ := hH0.cells
  have hPr := hPr w0 hB0
  have HRp := hid hRp
  have HRs := hid hRs
  have HRr := hid hRr
  clear hw0 hB0 hH0 hG hE hG2 hE2 hI hT hS hb hl hRp hRs hRr
  obtain ⟨st, fs, T, c⟩ := r
  simp only [rspV] at hPr HRp HPl HRl HSm z0 z1 z2 z3 HW0 HH0 ⊢
  go_enter Tryd.func3, Tryd.ntmps3
  go_wp2_with (first | rw [← HW0.out] | fail)
  refine hPr.mono ?_
  clear hPr
  rintro e w1 ⟨rfl, hB1⟩
  have hB01 := HB0.out.trans (hB1.mono HB0.out.size)
  have HH1 := hid (HH0.out.below hB1 HH0.out.lt)
  obtain ⟨p0, p1, p2, p3, _, _, _, _⟩ := HH1.out.cells
  have hRp := HRp.out w1 hB01
  have HB1 := hid hB01
  clear hB1 hB01 HRp z0 z1 z2 z3 HH0 HB0 HW0
  go_wp2_with fail
  refine hRp.mono ?_
  clear hRp
  rintro e w2 ⟨rfl, hB2⟩
  have hB02 := HB1.out.trans (hB2.mono HB1.out.size)
  have HH2 := hid (HH1.out.below hB2 HH1.out.lt)
  have hRs := HRs.out w2 hB02
  have HB2 := hid hB02
  clear hB2 hB02 HRs p0 p1 p2 p3 HH1 HB1
  go_wp2_with fail
  refine hRs.mono ?_
  clear hRs
  rintro e w3 ⟨rfl, hB3⟩
  have HB3 := hid (HB2.out.trans (hB3.mono HB2.out.size))
  have HH3 := hid (HH2.out.below hB3 HH2.out.lt)
  have hRr := HRr.out w3
  obtain ⟨y0, y1, y2, y3, _, _, _, _⟩ := HH3.out.cells
  clear hB3 HRr HH2 HB2
  go_wp2_with fail
  refine hRr.mono ?_
  clear hRr
  rintro e w3x ⟨rfl, hw3x⟩
  subst hw3x
  go_wp2_with fail
  have HK : Hid (∀ W W' : World, Below W.heap.size W W' → (Below w3.heap.size w3 W ∧ W.cell? ⟨w.heap.size, 2, none⟩ = some (.string ⟨T.toArray⟩) ∧ W.cell? ⟨w.heap.size, 3, none⟩ = some (.bool c)) → (Below w3.heap.size w3 W' ∧ W'.cell? ⟨w.heap.size, 2, none⟩ = some (.string ⟨T.toArray⟩) ∧ W'.cell? ⟨w.heap.size, 3, none⟩ = some (.bool c))) := by
    intro W W' hb hs
    have hB := hs.1.trans (hb.mono hs.1.size)
    obtain ⟨k0, k1, k2, k3, _, _, _, _⟩ := (HH3.out.below hB HH3.out.lt).cells
    exact ⟨hB, k2, k3⟩
  have HZ : Hid (∀ W, (Below w3.heap.size w3 W ∧ W.cell? ⟨w.heap.size, 2, none⟩ = some (.string ⟨T.toArray⟩) ∧ W.cell? ⟨w.heap.size, 3, none⟩ = some (.bool c)) → Below w.heap.size w W) := fun W hs => HB3.out.trans (hs.1.mono HB3.out.size)
  clear HH3 HB3
  go_region_held3 (fun W => (Below w3.heap.size w3 W ∧ W.cell? ⟨w.heap.size, 2, none⟩ = some (.string ⟨T.toArray⟩) ∧ W.cell? ⟨w.heap.size, 3, none⟩ = some (.bool c))) (first | (exact ⟨Below.drew (Below.refl _ _), y2, y3⟩) | (exact HK.out _ _ (by assumption) (by assumption)))
    (first
      | (go_at_call 12
         refine (HPl.out _).mono ?_
         rintro e' w4 ⟨rfl, hB4⟩)
      | (go_at_call 13
         refine (HRl.out _).mono ?_
         rintro e' w5 ⟨rfl, hB5⟩)
      | (go_at_call 11
         refine (HSm.out _).mono ?_
         rintro e' w6 ⟨rfl, hB6⟩)
      | (go_at_call 14
         refine (HA.out _ (HZ.out _ (by assumption))).mono ?_
         rintro e' w7 ⟨rfl, hB7⟩))
  all_goals
    have HB7 := hid (HZ.out _ (by assumption))
    clear HPl HRl HSm HA HK HZ
    go_wp2
    go_ret
    exact ⟨rfl, HB7.out⟩
end Go.Proofs.YtgkipeehmckbdaaDoor
