/-
  The walk of HeadBack.
-/
import Derived.Test.YtfdjnkjiffdbfaaGreatDoorRPrint
import Derived.Test.YtfdjnkjiffdbfaaGreatDoorPow
namespace Go.Proofs.YtfdjnkjiffdbfaaGreatDoor
open Go.RowKit
set_option linter.unusedVariables false

set_option maxRecDepth 20000 in
set_option maxHeartbeats 8000000 in
theorem back_walk (h : HeadL) (v : Value) (w : World) (hM : ML w) (hPw : Pow w) (hm0 : -9223372036854775808 ≤ h.2.2.1) (hm1 : h.2.2.1 ≤ 9223372036854775807) (hS : SeesP w v h.2.2.2) (hl : h.2.2.2.length ≤ 1048576) (hb : ∀ p ∈ h.2.2.2, p.1.length ≤ 1048576 ∧ p.2.length ≤ 1048576)
    (h1 : h.1.length ≤ 1048576) (h2 : h.2.1.length ≤ 1048576) :
    Calls Tryz.prog 4 #[.agg #[strV h.1, strV h.2.1, .int .i64 h.2.2.1, v]] w fun e w' => e = .returned (.bool true) ∧ Below w.heap.size w w' := by
  have HPr := hid (fun w1 (hb1 : Below w.heap.size w w1) => print_any h (Lib.itoa h.2.2.1) v w1 (hM.below hb1 hM.lt) (hS.below hb1) hl hb h1 h2 (itoa_len _ hm0 hm1) (itoa_dig _) (fun W hW => itoa_any hm0 hm1 hPw W (hb1.trans (hW.mono hb1.size))))
  have HRp := hid (fun w1 (hb1 : Below w.heap.size w w1) => rprint_any h v w1 (hS.below hb1) hl hb h1 h2)
  have hps := fun t (e : prnL h = some t) => (print_some e).2
  have hSm := fun v1 w1 (hs1 : SeesP w1 v1 h.2.2.2) (hb1 : Below w.heap.size w w1) => rsame7_any h h v1 v w1 hs1 (hS.below hb1) (by omega)
  rw [sameL_self] at hSm
  obtain ⟨P, hPe⟩ : ∃ P, P = prnL h := ⟨_, rfl⟩
  rw [← hPe] at HPr HRp hps
  obtain ⟨A, B, m, fs⟩ := h
  simp only [strV] at HPr HRp hps hSm hS ⊢
  have HSm := hid hSm
  have HA := hid awake_any
  have HM := hid hM
  have hgl := hM.lt
  have hB0 := below_alloc w (.cells #[.string ⟨A.toArray⟩, .string ⟨B.toArray⟩, .int .i64 m, v] 24)
  have hH0 := HeadAt.new w (.string ⟨A.toArray⟩) (.string ⟨B.toArray⟩) (.int .i64 m) v
  obtain ⟨w0, hw0⟩ : ∃ w0, w0 = w.alloc (.cells #[.string ⟨A.toArray⟩, .string ⟨B.toArray⟩, .int .i64 m, v] 24) := ⟨_, rfl⟩
  rw [← hw0] at hH0 hB0
  have HW0 := hid hw0
  have HB0 := hid hB0
  have HH0 := hid hH0
  have hPr := HPr.out w0 hB0
  obtain ⟨z0, z1, z2, z3, _, _, _, _⟩ := hH0.cells
  clear hw0 hH0 hB0 hM hPw hm0 hm1 hS hl hb h1 h2 hPe hSm HPr
  cases P with
  | none =>
    simp only [Option.getD_none, Option.isSome_none] at hPr HRp
    clear hps HSm
    go_enter Tryz.func4, Tryz.ntmps4
    go_wp2_with (first | rw [← HW0.out] | fail)
    refine hPr.mono ?_
    clear hPr
    rintro e w1 ⟨rfl, hB1⟩
    have hH1 := HH0.out.below hB1 HH0.out.lt
    have hB01 := HB0.out.trans (hB1.mono HB0.out.size)
    have hRp := HRp.out w1 hB01
    have HB1 := hid hB01
    obtain ⟨p0, p1, p2, p3, _, _, _, _⟩ := hH1.cells
    clear hH1 hB1 hB01 HRp
    go_wp2_with fail
    refine hRp.mono ?_
    clear hRp
    rintro e w2 ⟨rfl, hB2⟩
    have hB02 := HB1.out.trans (hB2.mono HB1.out.size)
    have hA := HA.out w2 (HM.out.below hB02 hgl)
    have HB2 := hid hB02
    clear hB2 hB02 HA
    go_wp2_with fail
    refine hA.mono ?_
    clear hA
    rintro e w3 ⟨rfl, hB3⟩
    have HB3 := hid (HB2.out.trans (hB3.mono HB2.out.size))
    clear hB3
    go_wp2
    go_ret
    exact ⟨rfl, HB3.out⟩
  | some t =>
    have hpt := hps t rfl
    have htl : t.length ≤ 4096 := by
      obtain ⟨_, raws, r⟩ := parse_ok hpt
      exact r.s4096
    have HP2 := hid (fun w hM => parse_any t w hM (by omega))
    rw [hpt] at HP2
    simp only [strV] at HP2
    simp only [Option.getD_some, Option.isSome_some] at hPr
    clear hps hpt HRp
    go_enter Tryz.func4, Tryz.ntmps4
    go_wp2_with (first | rw [← HW0.out] | fail)
    refine hPr.mono ?_
    clear hPr
    rintro e w2 ⟨rfl, hB2⟩
    have hB02 := HB0.out.trans (hB2.mono HB0.out.size)
    have HM2 := hid (HM.out.below hB02 hgl)
    have HB2 := hid hB02
    have HH2 := hid (HH0.out.below hB2 HH0.out.lt)
    have hP2 := HP2.out w2 HM2.out
    clear hB2 hB02 HP2 HH0 HB0
    go_wp2_with fail
    refine hP2.mono ?_
    clear hP2
    rintro e w3 ⟨v3, rfl, hO3, hB3⟩
    obtain ⟨ao3, cap3, rfl⟩ := hO3.shape
    have hb3 := below_alloc w3 (.cells #[.string ⟨A.toArray⟩, .string ⟨B.toArray⟩, .int .i64 m, .slice ao3 fs.length cap3] 24)
    have hHn := HeadAt.new w3 (.string ⟨A.toArray⟩) (.string ⟨B.toArray⟩) (.int .i64 m) (.slice ao3 fs.length cap3)
    obtain ⟨wy, hwy⟩ : ∃ wy, wy = w3.alloc (.cells #[.string ⟨A.toArray⟩, .string ⟨B.toArray⟩, .int .i64 m, .slice ao3 fs.length cap3] 24) := ⟨_, rfl⟩
    rw [← hwy] at hb3 hHn
    have HWY := hid hwy
    have hB03 := HB2.out.trans (hB3.mono HB2.out.size)
    have hB0y := hB03.trans (hb3.mono hB03.size)
    have HBy := hid hB0y
    have hHo := (HH2.out.below hB3 HH2.out.lt).below hb3 (HH2.out.below hB3 HH2.out.lt).lt
    have hC := HSm.out _ wy (hO3.below hb3).sees hB0y
    obtain ⟨q0, q1, q2, q3, _, _, _, _⟩ := hHn.cells
    obtain ⟨s0, s1, s2, s3, _, _, _, _⟩ := hHo.cells
    clear hwy hb3 hHn hHo hO3 hB3 hB03 hB0y HM2 HB2 HH2 HSm
    go_wp2_with (first | rw [← HWY.out] | fail)
    refine hC.mono ?_
    clear hC
    rintro e w4 ⟨rfl, hB4⟩
    have hB04 := HBy.out.trans (hB4.mono HBy.out.size)
    have hA := HA.out w4 (HM.out.below hB04 hgl)
    have HB4 := hid hB04
    clear hB4 hB04 HA
    go_wp2_with fail
    refine hA.mono ?_
    clear hA
    rintro e w5 ⟨rfl, hB5⟩
    have HB5 := hid (HB4.out.trans (hB5.mono HB4.out.size))
    clear hB5
    go_wp2
    go_ret
    exact ⟨rfl, HB5.out⟩
end Go.Proofs.YtfdjnkjiffdbfaaGreatDoor
