/-
  The code's: the response that may stand at the beginning of a text; Parse.
-/
import Derived.Test.YtgkipeehmckbdaaDoorYParseB
namespace Go.Proofs.YtgkipeehmckbdaaDoor
open Go.RowKit
set_option linter.unusedVariables false

theorem OwnsP.store {w : World} {base : Nat} {v : Value} {l : List PairL} (h : OwnsP w base v l) {p i : Nat} (hp : p < base) (x : Value) : OwnsP (w.setCell ⟨p, i, none⟩ x) base v l := ownsRow_setCell_below (a := ⟨p, i, none⟩) h hp x
set_option maxRecDepth 20000 in
set_option maxHeartbeats 4000000 in
theorem guess_any (L : List UInt8) (w : World) (hm : ML w) (hE : Errs w) (hs : L.length ≤ 1000000000) :
    Calls Tryd.prog 25 #[.string ⟨L.toArray⟩] w fun e w' => ∃ v, e = .returned (rspV (guessY L) v) ∧ OwnsP w' w.heap.size v (guessY L).2.1 ∧ Below w.heap.size w w' := by
  have HM := hid (fun W (hb : Below w.heap.size w W) => hm.below hb hm.lt)
  have HE := hid (fun W (hb : Below w.heap.size w W) => hE.below hb)
  have hg : guessY L = (statusY (cutE L).1, (fieldsY 32 (cutE L).2.1).1,
   bodyY (cutE (fieldsY 32 (cutE L).2.1).2).1 (Lib.trimPrefix (cutE (cutE (fieldsY 32 (cutE L).2.1).2).2.1).2.1 [13, 10]),
   decide ((cutE (cutE (fieldsY 32 (cutE L).2.1).2).2.1).1 = cnY true)) := rfl
  rw [hg]
  clear hg
  have n1 := cutE_len2 L
  have hB0 := below_alloc w (.cells #[.int .i64 0, .slice none 0 0, .string ⟨#[]⟩, .bool false] 24)
  have hH0 := RspAt.new w (.int .i64 0) (.slice none 0 0) (.string ⟨#[]⟩) (.bool false)
  obtain ⟨w0, hw0⟩ : ∃ w0, w0 = w.alloc (.cells #[.int .i64 0, .slice none 0 0, .string ⟨#[]⟩, .bool false] 24) := ⟨_, rfl⟩
  rw [← hw0] at hB0 hH0
  have c1 := cut_at L [13, 10] _ (cutE_lib L) w0 (HM.out w0 hB0) hs
  obtain ⟨A, hA⟩ : ∃ A, A = cutE L := ⟨_, rfl⟩
  rw [← hA] at c1 n1 ⊢
  have c2 := fun W hb => statusOf_any A.1 W (HM.out W hb) (HE.out W hb) (by omega)
  obtain ⟨st, hst⟩ : ∃ st, st = statusY A.1 := ⟨_, rfl⟩
  rw [← hst]
  simp only [← hst] at c2
  have c3 := fun W hb => fieldsOf_any A.2.1 W (HM.out W hb) (by omega)
  have n2 := fieldsY_few 32 A.2.1
  obtain ⟨F, hF⟩ : ∃ F, F = fieldsY 32 A.2.1 := ⟨_, rfl⟩
  rw [← hF] at n2 ⊢
  simp only [← hF] at c3
  have n3 := cutE_len2 F.2
  have c4 := fun W hb => cut_at F.2 [13, 10] _ (cutE_lib F.2) W (HM.out W hb) (by omega)
  obtain ⟨C, hC⟩ : ∃ C, C = cutE F.2 := ⟨_, rfl⟩
  rw [← hC] at n3 ⊢
  simp only [← hC] at c4
  have n4 := cutE_len2 C.2.1
  have c5 := fun W hb => cut_at C.2.1 [13, 10] _ (cutE_lib C.2.1) W (HM.out W hb) (by omega)
  obtain ⟨D, hD⟩ : ∃ D, D = cutE C.2.1 := ⟨_, rfl⟩
  rw [← hD] at n4 ⊢
  simp only [← hD] at c5
  have c6 := fun W => trimPrefix_any D.2.1 [13, 10] W
  have n5 := trimP_few D.2.1 [13, 10]
  obtain ⟨R, hR⟩ : ∃ R, R = Lib.trimPrefix D.2.1 [13, 10] := ⟨_, rfl⟩
  rw [← hR] at n5 ⊢
  simp only [← hR] at c6
  have c7 := fun W hb => bodyOf_any C.1 R W (HE.out W hb) (by omega) (by omega)
  obtain ⟨BD, hBD⟩ : ∃ BD, BD = bodyY C.1 R := ⟨_, rfl⟩
  rw [← hBD]
  simp only [← hBD] at c7
  have q1 : (D.1 == [99, 111, 110, 110, 101, 99, 116, 105, 111, 110, 58, 32, 99, 108, 111, 115, 101]) = decide (D.1 = cnY true) := eql_list _ _
  obtain ⟨cc, hcc⟩ : ∃ cc, cc = decide (D.1 = cnY true) := ⟨_, rfl⟩
  rw [← hcc] at q1 ⊢
  have C2 := hid c2
  have C3 := hid c3
  have C4 := hid c4
  have C5 := hid c5
  have C6 := hid c6
  have C7 := hid c7
  have HW0 := hid hw0
  have HB0 := hid hB0
  have HH0 := hid hH0
  rw [show ([13, 10] : List UInt8).toArray = #[13, 10] from rfl] at c1 C4 C5 C6
  clear hm hE hw0 hB0 hH0 hA hst hF hC hD hR hBD hcc c2 c3 c4 c5 c6 c7 n1 n2 n3 n4 n5 HM HE
  obtain ⟨A1, A2, A3⟩ := A
  obtain ⟨F1, F2⟩ := F
  obtain ⟨C1, C2x, C3x⟩ := C
  obtain ⟨D1, D2, D3⟩ := D
  simp only [rspV] at c1 C2 C3 C4 C5 C6 C7 q1 ⊢
  go_enter Tryd.func25, Tryd.ntmps25
  go_wp2_with (first | rw [← HW0.out] | fail)
  refine c1.mono ?_
  clear c1
  rintro e w1 ⟨rfl, hB1⟩
  have hB01 := HB0.out.trans (hB1.mono HB0.out.size)
  have c2 := C2.out w1 hB01
  have HB1 := hid hB01
  have HH1 := hid (HH0.out.below hB1 HH0.out.lt)
  clear C2 hB1 hB01 HB0 HH0 HW0
  go_wp2_with fail
  refine c2.mono ?_
  clear c2
  rintro e w2 ⟨rfl, hB2⟩
  have hB02 := HB1.out.trans (hB2.mono HB1.out.size)
  have hH2 := HH1.out.below hB2 HH1.out.lt
  obtain ⟨z0, z1, z2, z3, y0, y1, y2, y3⟩ := hH2.cells
  have hH2s := hH2.store0 (x := .int .i64 st)
  have hB2s : Below w.heap.size w (w2.setCell ⟨w.heap.size, 0, none⟩ (.int .i64 st)) := hB02.setCell (p := ⟨w.heap.size, 0, none⟩) (by simp) _
  obtain ⟨w3, hw3⟩ : ∃ w3, w3 = w2.setCell ⟨w.heap.size, 0, none⟩ (.int .i64 st) := ⟨_, rfl⟩
  rw [← hw3] at hH2s hB2s
  have HW3 := hid hw3
  have HH3 := hid hH2s
  have HB3 := hid hB2s
  have c3 := C3.out w3 hB2s
  clear C3 hB2 hB02 hH2 hH2s hB2s hw3 HB1 HH1
  go_wp2_with (first | rw [← HW3.out] | fail)
  refine c3.mono ?_
  clear c3 z0 z1 z2 z3 y0 y1 y2 y3
  rintro e w4 ⟨v, rfl, hO4, hB4⟩
  have hp3 := HH3.out.lt
  have hB04 := HB3.out.trans (hB4.mono HB3.out.size)
  have hH4 := HH3.out.below hB4 HH3.out.lt
  obtain ⟨z0, z1, z2, z3, y0, y1, y2, y3⟩ := hH4.cells
  obtain ⟨ao, cap, rfl⟩ := hO4.shape
  have hH4s := hH4.store1 (x := .slice ao F1.length cap)
  have hO4s := hO4.store (p := w.heap.size) (i := 1) hp3 (.slice ao F1.length cap)
  have hB4s : Below w.heap.size w (w4.setCell ⟨w.heap.size, 1, none⟩ (.slice ao F1.length cap)) := hB04.setCell (p := ⟨w.heap.size, 1, none⟩) (by simp) _
  obtain ⟨w5, hw5⟩ : ∃ w5, w5 = w4.setCell ⟨w.heap.size, 1, none⟩ (.slice ao F1.length cap) := ⟨_, rfl⟩
  rw [← hw5] at hH4s hB4s hO4s
  have HW5 := hid hw5
  have HH5 := hid hH4s
  have HB5 := hid hB4s
  have HO5 := hid hO4s
  have c4 := C4.out w5 hB4s
  clear C4 hB4 hB04 hH4 hH4s hB4s hO4 hO4s hw5 HB3 HH3
  go_wp2_with (first | rw [← HW5.out] | fail)
  refine c4.mono ?_
  clear c4 z0 z1 z2 z3 y0 y1 y2 y3
  rintro e w6 ⟨rfl, hB6⟩
  have hB06 := HB5.out.trans (hB6.mono HB5.out.size)
  have HH6 := hid (HH5.out.below hB6 HH5.out.lt)
  have HO6 := hid (HO5.out.below hB6)
  have c5 := C5.out w6 hB06
  have HB6 := hid hB06
  clear C5 hB6 hB06 HB5 HH5 HO5
  go_wp2_with fail
  refine c5.mono ?_
  clear c5
  rintro e w7 ⟨rfl, hB7⟩
  have hB07 := HB6.out.trans (hB7.mono HB6.out.size)
  have hH7 := HH6.out.below hB7 HH6.out.lt
  have hO7 := HO6.out.below hB7
  obtain ⟨z0, z1, z2, z3, y0, y1, y2, y3⟩ := hH7.cells
  have hH7s := hH7.store3 (x := .bool cc)
  have hO7s := hO7.store (p := w.heap.size) (i := 3) hp3 (.bool cc)
  have hB7s : Below w.heap.size w (w7.setCell ⟨w.heap.size, 3, none⟩ (.bool cc)) := hB07.setCell (p := ⟨w.heap.size, 3, none⟩) (by simp) _
  obtain ⟨w8, hw8⟩ : ∃ w8, w8 = w7.setCell ⟨w.heap.size, 3, none⟩ (.bool cc) := ⟨_, rfl⟩
  rw [← hw8] at hH7s hB7s hO7s
  have HW8 := hid hw8
  have HH8 := hid hH7s
  have HB8 := hid hB7s
  have HO8 := hid hO7s
  have c6 := C6.out w8
  have c7 := C7.out w8 hB7s
  clear C6 C7 hB7 hB07 hH7 hH7s hB7s hO7 hO7s hw8 HB6 HH6 HO6
  go_wp2_with (first | rw [← HW8.out] | fail)
  refine c6.mono ?_
  clear c6 z0 z1 z2 z3 y0 y1 y2 y3
  rintro e w8x ⟨rfl, hw8x⟩
  subst hw8x
  go_wp2_with fail
  refine c7.mono ?_
  clear c7
  rintro e w9 ⟨rfl, hB9⟩
  have hB09 := HB8.out.trans (hB9.mono HB8.out.size)
  have hH9 := HH8.out.below hB9 HH8.out.lt
  have hO9 := HO8.out.below hB9
  obtain ⟨z0, z1, z2, z3, y0, y1, y2, y3⟩ := hH9.cells
  have hH9s := hH9.store2 (x := .string ⟨BD.toArray⟩)
  have hO9s := hO9.store (p := w.heap.size) (i := 2) hp3 (.string ⟨BD.toArray⟩)
  have hB9s : Below w.heap.size w (w9.setCell ⟨w.heap.size, 2, none⟩ (.string ⟨BD.toArray⟩)) := hB09.setCell (p := ⟨w.heap.size, 2, none⟩) (by simp) _
  obtain ⟨wx, hwx⟩ : ∃ wx, wx = w9.setCell ⟨w.heap.size, 2, none⟩ (.string ⟨BD.toArray⟩) := ⟨_, rfl⟩
  rw [← hwx] at hH9s hB9s hO9s
  have HWX := hid hwx
  obtain ⟨s0, s1, s2, s3, t0, t1, t2, t3⟩ := hH9s.cells
  have HG0 := hH9s.store0 (x := .int .i64 st)
  have HG1 := HG0.store1 (x := .slice ao F1.length cap)
  have HG2 := HG1.store2 (x := .string ⟨BD.toArray⟩)
  have HG := hid (HG2.store3 (x := .bool cc))
  have HOF := hid ((((hO9s.store (p := w.heap.size) (i := 0) hp3 (.int .i64 st)).store (p := w.heap.size) (i := 1) hp3 (.slice ao F1.length cap)).store (p := w.heap.size) (i := 2) hp3 (.string ⟨BD.toArray⟩)).store (p := w.heap.size) (i := 3) hp3 (.bool cc))
  have HKF := hid ((((hB9s.setCell (p := ⟨w.heap.size, 0, none⟩) (by simp) (.int .i64 st)).setCell (p := ⟨w.heap.size, 1, none⟩) (by simp) (.slice ao F1.length cap)).setCell (p := ⟨w.heap.size, 2, none⟩) (by simp) (.string ⟨BD.toArray⟩)).setCell (p := ⟨w.heap.size, 3, none⟩) (by simp) (.bool cc))
  clear hB9 hB09 hH9 hO9 hH9s hB9s hO9s hwx HB8 HH8 HO8 HG0 HG1 HG2
  go_wp2_with (first | rw [← HWX.out] | fail)
  obtain ⟨u0, u1, u2, u3, _, _, _, _⟩ := HG.out.cells
  refine bodyPost_ret (v := .agg #[.int .i64 st, .slice ao F1.length cap, .string ⟨BD.toArray⟩, .bool cc]) (by simp [results, Tryd.results25, go_sem, u0, u1, u2, u3]) rfl ?_
  exact ⟨_, rfl, HOF.out.le (Nat.le_of_lt hp3), HKF.out⟩
end Go.Proofs.YtgkipeehmckbdaaDoor
