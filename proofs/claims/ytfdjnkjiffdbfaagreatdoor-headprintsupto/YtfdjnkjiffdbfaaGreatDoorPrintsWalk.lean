/-
  The walk of HeadPrints.
-/
import Derived.Test.YtfdjnkjiffdbfaaGreatDoorTexts
namespace Go.Proofs.YtfdjnkjiffdbfaaGreatDoor
open Go.RowKit
set_option linter.unusedVariables false

set_option maxRecDepth 20000 in
set_option maxHeartbeats 8000000 in
theorem prints_walk (h : HeadL) (v : Value) (nm : ByteArray) (w : World) (hM : ML w) (hPw : Pow w) (hm0 : -9223372036854775808 ≤ h.2.2.1) (hm1 : h.2.2.1 ≤ 9223372036854775807) (hS : SeesP w v h.2.2.2) (hl : h.2.2.2.length ≤ 1048576) (hb : ∀ p ∈ h.2.2.2, p.1.length ≤ 1048576 ∧ p.2.length ≤ 1048576)
    (h1 : h.1.length ≤ 1048576) (h2 : h.2.1.length ≤ 1048576) (hn : nm.size ≤ 1048576) :
    Calls Tryz.prog 3 #[.agg #[strV h.1, strV h.2.1, .int .i64 h.2.2.1, v], .string nm] w fun e w' => e = .returned (.bool true) ∧ Below w.heap.size w w' := by
  obtain ⟨N, rfl⟩ : ∃ L : List UInt8, nm = ⟨L.toArray⟩ := ⟨nm.data.toList, by simp⟩
  rw [size_list] at hn
  have HPr := hid (fun w1 (hb1 : Below w.heap.size w w1) => print_any h (Lib.itoa h.2.2.1) v w1 (hM.below hb1 hM.lt) (hS.below hb1) hl hb h1 h2 (itoa_len _ hm0 hm1) (itoa_dig _) (fun W hW => itoa_any hm0 hm1 hPw W (hb1.trans (hW.mono hb1.size))))
  have HRp := hid (fun w1 (hb1 : Below w.heap.size w w1) => rprint_any h v w1 (hS.below hb1) hl hb h1 h2)
  have HVa := hid (fun w1 (hb1 : Below w.heap.size w w1) => values_any (strV h.1) (strV h.2.1) (.int .i64 h.2.2.1) v h.2.2.2 N w1 (hS.below hb1) hl (by omega))
  have HVr := hid (fun w1 (hb1 : Below w.heap.size w w1) => rvalues_any (strV h.1) (strV h.2.1) (.int .i64 h.2.2.1) v h.2.2.2 N w1 (hS.below hb1) hl (by omega))
  have hvl : (valsF h.2.2.2 (small N)).length ≤ h.2.2.2.length := by unfold valsF; rw [List.length_map]; exact List.length_filter_le _ _
  have HMb := hid (fun w1 (hb1 : Below w.heap.size w w1) => hM.below hb1 hM.lt)
  obtain ⟨P, hPe⟩ : ∃ P, P = prnL h := ⟨_, rfl⟩
  rw [← hPe] at HPr HRp
  obtain ⟨G, hG⟩ : ∃ G, G = P.getD [] := ⟨_, rfl⟩
  obtain ⟨E, hE⟩ : ∃ E : Int, E = if P.isSome then 0 else 70 := ⟨_, rfl⟩
  rw [← hG, ← hE] at HPr HRp
  obtain ⟨A, B, m, fs⟩ := h
  simp only [strV] at HPr HRp HVa HVr hvl hS hl ⊢
  obtain ⟨ys, hys⟩ : ∃ ys, ys = valsF fs (small N) := ⟨_, rfl⟩
  rw [← hys] at HVa HVr hvl
  have hyl : ys.length ≤ 140737488355328 := by omega
  have HTx := hid (fun v1 v2 w1 (hs1 : SeesS w1 v1 ys) (hs2 : SeesS w1 v2 ys) => texts_any v1 v2 ys w1 hs1 hs2 hyl)
  have HA := hid awake_any
  have hB0 := below_alloc w (.cells #[.string ⟨A.toArray⟩, .string ⟨B.toArray⟩, .int .i64 m, v] 24)
  have hH0 := HeadAt.new w (.string ⟨A.toArray⟩) (.string ⟨B.toArray⟩) (.int .i64 m) v
  obtain ⟨w0, hw0⟩ : ∃ w0, w0 = w.alloc (.cells #[.string ⟨A.toArray⟩, .string ⟨B.toArray⟩, .int .i64 m, v] 24) := ⟨_, rfl⟩
  rw [← hw0] at hH0 hB0
  have HW0 := hid hw0
  have HB0 := hid hB0
  have HH0 := hid hH0
  have hPr := HPr.out w0 hB0
  obtain ⟨z0, z1, z2, z3, _, _, _, _⟩ := hH0.cells
  clear hw0 hH0 hB0 hM hPw hm0 hm1 hS hl hb h1 h2 hPe HPr hG hE hys hvl hn hyl
  go_enter Tryz.func3, Tryz.ntmps3
  go_wp2_with (first | rw [← HW0.out] | fail)
  refine hPr.mono ?_
  clear hPr
  rintro e w1 ⟨rfl, hB1⟩
  have hH1 := HH0.out.below hB1 HH0.out.lt
  have hB01 := HB0.out.trans (hB1.mono HB0.out.size)
  have hRp := HRp.out w1 hB01
  have HB1 := hid hB01
  have HH1 := hid hH1
  obtain ⟨p0, p1, p2, p3, _, _, _, _⟩ := hH1.cells
  clear hH1 hB1 hB01 HRp HH0 HB0
  go_wp2_with fail
  refine hRp.mono ?_
  clear hRp
  rintro e w2 ⟨rfl, hB2⟩
  have HH2 := hid (HH1.out.below hB2 HH1.out.lt)
  have HB2 := hid (HB1.out.trans (hB2.mono HB1.out.size))
  obtain ⟨y0, y1, y2, y3, _, _, _, _⟩ := HH2.out.cells
  clear hB2 HH1 HB1 p0 p1 p2 p3 z0 z1 z2 z3
  go_wp2_with fail
  have HK : Hid (∀ W W' : World, Below W.heap.size W W' → (Below w2.heap.size w2 W ∧ W.cell? ⟨w.heap.size, 0, none⟩ = some (.string ⟨A.toArray⟩) ∧ W.cell? ⟨w.heap.size, 1, none⟩ = some (.string ⟨B.toArray⟩) ∧ W.cell? ⟨w.heap.size, 2, none⟩ = some (.int .i64 m) ∧ W.cell? ⟨w.heap.size, 3, none⟩ = some v) → (Below w2.heap.size w2 W' ∧ W'.cell? ⟨w.heap.size, 0, none⟩ = some (.string ⟨A.toArray⟩) ∧ W'.cell? ⟨w.heap.size, 1, none⟩ = some (.string ⟨B.toArray⟩) ∧ W'.cell? ⟨w.heap.size, 2, none⟩ = some (.int .i64 m) ∧ W'.cell? ⟨w.heap.size, 3, none⟩ = some v)) := by
    intro W W' hb hs
    have hB := hs.1.trans (hb.mono hs.1.size)
    obtain ⟨k0, k1, k2, k3, _, _, _, _⟩ := (HH2.out.below hB HH2.out.lt).cells
    exact ⟨hB, k0, k1, k2, k3⟩
  have HZ : Hid (∀ W, (Below w2.heap.size w2 W ∧ W.cell? ⟨w.heap.size, 0, none⟩ = some (.string ⟨A.toArray⟩) ∧ W.cell? ⟨w.heap.size, 1, none⟩ = some (.string ⟨B.toArray⟩) ∧ W.cell? ⟨w.heap.size, 2, none⟩ = some (.int .i64 m) ∧ W.cell? ⟨w.heap.size, 3, none⟩ = some v) → Below w.heap.size w W) := fun W hs => HB2.out.trans (hs.1.mono HB2.out.size)
  clear HH2 HB2
  go_region_held3 (fun W => (Below w2.heap.size w2 W ∧ W.cell? ⟨w.heap.size, 0, none⟩ = some (.string ⟨A.toArray⟩) ∧ W.cell? ⟨w.heap.size, 1, none⟩ = some (.string ⟨B.toArray⟩) ∧ W.cell? ⟨w.heap.size, 2, none⟩ = some (.int .i64 m) ∧ W.cell? ⟨w.heap.size, 3, none⟩ = some v)) (first | (exact ⟨Below.drew (Below.refl _ _), y0, y1, y2, y3⟩) | (exact HK.out _ _ (by assumption) (by assumption)))
    (first
      | (go_at_call 10
         refine (HVa.out _ (HZ.out _ (by assumption))).mono ?_
         rintro e' w3 ⟨v3, rfl, hO3, hB3⟩)
      | (go_at_call 11
         refine (HVr.out _ (HZ.out _ (by assumption))).mono ?_
         rintro e' w4 ⟨v4, rfl, hO4, hB4⟩)
      | (go_at_call 9
         refine (HTx.out v3 v4 w4 (hO3.sees.below hB4) hO4.sees).mono ?_
         rintro e' w5 ⟨rfl, n5, hw5⟩
         have hB5 : Below w4.heap.size w4 w5 := by rw [hw5]; exact below_drewN' _ _ _
         clear hw5)
      | (go_at_call 12
         refine (HA.out _ (HMb.out _ (HZ.out _ (by assumption)))).mono ?_
         rintro e' w6 ⟨rfl, hB6⟩))
  all_goals
    have HB7 := hid (HZ.out _ (by assumption))
    clear HVa HVr HTx HA HMb HK HZ
    go_wp2
    go_ret
    exact ⟨rfl, HB7.out⟩
end Go.Proofs.YtfdjnkjiffdbfaaGreatDoor
