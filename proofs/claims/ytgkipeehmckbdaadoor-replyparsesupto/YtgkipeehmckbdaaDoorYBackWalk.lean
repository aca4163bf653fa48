/-
  The walk of ReplyBack.
-/
import Derived.Test.YtgkipeehmckbdaaDoorYAwake
namespace Go.Proofs.YtgkipeehmckbdaaDoor
open Go.RowKit
set_option linter.unusedVariables false

theorem sameY_self (a : RespL) : sameY a a = true := sameY_iff.2 rfl
set_option maxRecDepth 20000 in
set_option maxHeartbeats 8000000 in
theorem back_walk (r : RespL) (v : Value) (tl : List UInt8) (w : World) (hM : Met w) (hS : SeesP w v r.2.1) (hb : ∀ p ∈ r.2.1, p.1.length ≤ 1048576 ∧ p.2.length ≤ 1048576) (hl : r.2.1.length ≤ 1048576) (hT : tl.length ≤ 1048576) :
    Calls Tryd.prog 5 #[rspV r v, .string ⟨tl.toArray⟩] w fun e w' => e = .returned (.bool true) ∧ Below w.heap.size w w' := by
  have hPr := fun W (hb1 : Below w.heap.size w W) => print_any r v W (hM.below hb1).itoa (hM.below hb1).tab (hS.below hb1) (fun p hp => by have := hb p hp; omega) (by omega)
  have hMy := fun W (hb1 : Below w.heap.size w W) => rmay_any r v W (hS.below hb1) (fun p hp => by have := hb p hp; omega) (by omega)
  have hpd : prnY r = if mayY r = true then some (textY r) else none := rfl
  have HA := hid (fun W (hb1 : Below w.heap.size w W) => awake_any W (hM.below hb1).itoa (hM.below hb1).tab)
  have hB0 := below_alloc w (.cells #[.int .i64 r.1, v, .string ⟨r.2.2.1.toArray⟩, .bool r.2.2.2] 24)
  have hH0 := RspAt.new w (.int .i64 r.1) v (.string ⟨r.2.2.1.toArray⟩) (.bool r.2.2.2)
  obtain ⟨w0, hw0⟩ : ∃ w0, w0 = w.alloc (.cells #[.int .i64 r.1, v, .string ⟨r.2.2.1.toArray⟩, .bool r.2.2.2] 24) := ⟨_, rfl⟩
  rw [← hw0] at hB0 hH0
  have HW0 := hid hw0
  have HB0 := hid hB0
  have HH0 := hid hH0
  obtain ⟨z0, z1, z2, z3, _, _, _, _⟩ := hH0.cells
  have hPr := hPr w0 hB0
  cases hm : mayY r with
  | false =>
    rw [hm, if_neg (by simp)] at hpd
    rw [hpd] at hPr
    simp only [hm] at hMy
    simp only [Option.getD_none, Option.isSome_none] at hPr
    have HMy := hid hMy
    clear hpd hMy hM hS hb hl hT hm hw0 hB0 hH0
    obtain ⟨n, fs, T, c⟩ := r
    simp only [rspV] at hPr HMy z0 z1 z2 z3 HW0 HH0 ⊢
    go_enter Tryd.func5, Tryd.ntmps5
    go_wp2_with (first | rw [← HW0.out] | fail)
    refine hPr.mono ?_
    clear hPr
    rintro e w1 ⟨rfl, hB1⟩
    have hB01 := HB0.out.trans (hB1.mono HB0.out.size)
    have hH1 := HH0.out.below hB1 HH0.out.lt
    obtain ⟨p0, p1, p2, p3, _, _, _, _⟩ := hH1.cells
    have hMy := HMy.out w1 hB01
    have HB1 := hid hB01
    clear hB1 hB01 hH1 HMy
    go_wp2_with fail
    refine hMy.mono ?_
    clear hMy
    rintro e w2 ⟨rfl, hB2⟩
    have hB02 := HB1.out.trans (hB2.mono HB1.out.size)
    have hA := HA.out w2 hB02
    have HB2 := hid hB02
    clear hB2 hB02 HA
    go_wp2_with fail
    refine hA.mono ?_
    clear hA
    rintro e w3 ⟨rfl, hB3⟩
    have HB3 := hid (HB2.out.trans (hB3.mono HB2.out.size))
    clear hB3
    go_wp2
    go_ret
    exact ⟨rfl, HB3.out⟩
  | true =>
    rw [hm, if_pos rfl] at hpd
    rw [hpd] at hPr
    simp only [Option.getD_some, Option.isSome_some] at hPr
    have htl := text_len hm hb
    have hPa := fun W (hb1 : Below w.heap.size w W) => parse_any (textY r ++ tl) W (hM.below hb1) (by rw [List.length_append]; omega)
    simp only [par_back tl hm] at hPa
    have hSm := fun v1 W (hb1 : Below w.heap.size w W) (hs1 : SeesP W v1 r.2.1) => rysame_any r r v1 v W hs1 (hS.below hb1) (by omega)
    simp only [sameY_self] at hSm
    obtain ⟨TX, hTX⟩ : ∃ TX, TX = textY r := ⟨_, rfl⟩
    rw [← hTX] at hPr htl
    simp only [← hTX, ← str_appY] at hPa
    have HPa := hid hPa
    have HSm := hid hSm
    have a1 : ¬ 9223372036854775807 < TX.length + tl.length := by omega
    clear hpd hMy hM hS hb hl hT hm hw0 hB0 hH0 hTX hPa hSm
    obtain ⟨n, fs, T, c⟩ := r
    simp only [rspV] at hPr HPa HSm z0 z1 z2 z3 HW0 HH0 ⊢
    go_enter Tryd.func5, Tryd.ntmps5
    go_wp2_with (first | rw [← HW0.out] | fail)
    refine hPr.mono ?_
    clear hPr
    rintro e w1 ⟨rfl, hB1⟩
    have hB01 := HB0.out.trans (hB1.mono HB0.out.size)
    have HH1 := hid (HH0.out.below hB1 HH0.out.lt)
    have hPa := HPa.out w1 hB01
    have HB1 := hid hB01
    clear hB1 hB01 HPa z0 z1 z2 z3 HH0 HB0 HW0
    go_wp2_with fail
    refine hPa.mono ?_
    clear hPa
    rintro e w2 ⟨v2, rfl, hO2, hB2⟩
    obtain ⟨ao, cap, rfl⟩ := hO2.shape
    have hB02 := HB1.out.trans (hB2.mono HB1.out.size)
    have hH2 := HH1.out.below hB2 HH1.out.lt
    have hb3 := below_alloc w2 (.cells #[.int .i64 n, .slice ao fs.length cap, .string ⟨T.toArray⟩, .bool c] 24)
    have hHn := RspAt.new w2 (.int .i64 n) (.slice ao fs.length cap) (.string ⟨T.toArray⟩) (.bool c)
    obtain ⟨wy, hwy⟩ : ∃ wy, wy = w2.alloc (.cells #[.int .i64 n, .slice ao fs.length cap, .string ⟨T.toArray⟩, .bool c] 24) := ⟨_, rfl⟩
    rw [← hwy] at hb3 hHn
    have HWY := hid hwy
    have hB0y := hB02.trans (hb3.mono hB02.size)
    have hHo := hH2.below hb3 hH2.lt
    have hC := HSm.out _ wy hB0y (hO2.below hb3).sees
    have HBy := hid hB0y
    obtain ⟨q0, q1, q2, q3, _, _, _, _⟩ := hHn.cells
    obtain ⟨s0, s1, s2, s3, _, _, _, _⟩ := hHo.cells
    clear hwy hb3 hHn hHo hO2 hB2 hB02 hB0y hH2 HB1 HH1 HSm
    go_wp2_with (first | rw [← HWY.out] | fail)
    refine hC.mono ?_
    clear hC
    rintro e w4 ⟨rfl, hB4⟩
    have hB04 := HBy.out.trans (hB4.mono HBy.out.size)
    have hA := HA.out w4 hB04
    have HB4 := hid hB04
    clear hB4 hB04 HA
    go_wp2_with fail
    refine hA.mono ?_
    clear hA
    rintro e w5 ⟨rfl, hB5⟩
    have HB5 := hid (HB4.out.trans (hB5.mono HB4.out.size))
    clear hB5
    go_wp2
    go_ret
    exact ⟨rfl, HB5.out⟩
end Go.Proofs.YtgkipeehmckbdaaDoor
