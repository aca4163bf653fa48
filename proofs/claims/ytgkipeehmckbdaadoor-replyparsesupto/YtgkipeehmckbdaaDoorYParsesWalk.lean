/-
  The walk of ReplyParses.
-/
import Derived.Test.YtgkipeehmckbdaaDoorYRParse
namespace Go.Proofs.YtgkipeehmckbdaaDoor
open Go.RowKit
set_option linter.unusedVariables false

theorem par_few (L : List UInt8) : (parY L).1.2.1.length ≤ 32 := by
  rw [par_if]
  split
  · exact (guessY_few L).1
  · simp [rzY]
set_option maxRecDepth 20000 in
set_option maxHeartbeats 8000000 in
theorem parses_walk (L : List UInt8) (w : World) (hM : Met w) (hs : L.length ≤ 1048576) :
    Calls Tryd.prog 4 #[.string ⟨L.toArray⟩] w fun e w' => e = .returned (.bool true) ∧ Below w.heap.size w w' := by
  have hP := parse_any L w hM (by omega)
  have HQ := hid (fun W (hb : Below w.heap.size w W) => ryparse_any L W (hM.below hb).itoa hs)
  have HA := hid (fun W (hb1 : Below w.heap.size w W) => awake_any W (hM.below hb1).itoa (hM.below hb1).tab)
  have hfew := par_few L
  have HSm := hid (fun v1 v2 W (hs1 : SeesP W v1 (parY L).1.2.1) (hs2 : SeesP W v2 (parY L).1.2.1) => rysame_any (parY L).1 (parY L).1 v1 v2 W hs1 hs2 (by omega))
  simp only [sameY_self] at HSm
  obtain ⟨P, hPe⟩ : ∃ P, P = parY L := ⟨_, rfl⟩
  rw [← hPe] at hP HQ HSm
  obtain ⟨⟨st, fs, T, c⟩, n, er⟩ := P
  simp only [rspV] at hP HQ HSm
  clear hPe hM hfew hs
  go_enter Tryd.func4, Tryd.ntmps4
  go_wp2_with fail
  refine hP.mono ?_
  clear hP
  rintro e w1 ⟨v1, rfl, hO1, hB1⟩
  obtain ⟨ao, cap, rfl⟩ := hO1.shape
  have hb2 := below_alloc w1 (.cells #[.int .i64 st, .slice ao fs.length cap, .string ⟨T.toArray⟩, .bool c] 24)
  have hH2 := RspAt.new w1 (.int .i64 st) (.slice ao fs.length cap) (.string ⟨T.toArray⟩) (.bool c)
  have hO2 := hO1.below hb2
  have hB02 := hB1.trans (hb2.mono hB1.size)
  obtain ⟨w2, hw2⟩ : ∃ w2, w2 = w1.alloc (.cells #[.int .i64 st, .slice ao fs.length cap, .string ⟨T.toArray⟩, .bool c] 24) := ⟨_, rfl⟩
  rw [← hw2] at hH2 hO2 hB02
  have HW2 := hid hw2
  have hQ := HQ.out w2 hB02
  have HH2 := hid hH2
  have HO2 := hid hO2
  have HB2 := hid hB02
  clear hb2 hH2 hO2 hB02 hw2 hO1 hB1 HQ
  go_wp2_with fail
  rw [← HW2.out]
  refine hQ.mono ?_
  clear hQ
  rintro e w3 ⟨v3, rfl, hO3, hB3⟩
  obtain ⟨ao3, cap3, rfl⟩ := hO3.shape
  have hb4 := below_alloc w3 (.cells #[.int .i64 st, .slice ao3 fs.length cap3, .string ⟨T.toArray⟩, .bool c] 24)
  have hH4 := RspAt.new w3 (.int .i64 st) (.slice ao3 fs.length cap3) (.string ⟨T.toArray⟩) (.bool c)
  have hG3 := HH2.out.below hB3 HH2.out.lt
  have hG4 := hG3.below hb4 hG3.lt
  have hO4 := hO3.below hb4
  have hP4 := (HO2.out.below hB3).below hb4
  have hB03 := HB2.out.trans (hB3.mono HB2.out.size)
  have hB04 := hB03.trans (hb4.mono hB03.size)
  obtain ⟨w4, hw4⟩ : ∃ w4, w4 = w3.alloc (.cells #[.int .i64 st, .slice ao3 fs.length cap3, .string ⟨T.toArray⟩, .bool c] 24) := ⟨_, rfl⟩
  rw [← hw4] at hH4 hG4 hO4 hP4 hB04
  have HW4 := hid hw4
  have hC := HSm.out _ _ w4 hP4.sees hO4.sees
  have HB4 := hid hB04
  obtain ⟨p0, p1, p2, p3, _, _, _, _⟩ := hG4.cells
  obtain ⟨q0, q1, q2, q3, _, _, _, _⟩ := hH4.cells
  clear hb4 hH4 hG3 hG4 hO4 hP4 hB03 hB04 hw4 hO3 hB3 HH2 HO2 HB2 HW2 HSm
  go_wp2_with (first | rw [← HW4.out] | fail)
  refine hC.mono ?_
  clear hC
  rintro e w5 ⟨rfl, hB5⟩
  have hB05 := HB4.out.trans (hB5.mono HB4.out.size)
  have hA := HA.out w5 hB05
  have HB5 := hid hB05
  clear hB5 hB05 HA
  go_wp2_with fail
  refine hA.mono ?_
  clear hA
  rintro e w6 ⟨rfl, hB6⟩
  have HB6 := hid (HB5.out.trans (hB6.mono HB5.out.size))
  clear hB6
  go_wp2
  go_ret
  exact ⟨rfl, HB6.out⟩
end Go.Proofs.YtgkipeehmckbdaaDoor
