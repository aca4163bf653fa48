/-
  The walk of HeadAgain.
-/
import Derived.Test.YtfdjnkjiffdbfaaGreatDoorPrint
import Derived.Test.YtfdjnkjiffdbfaaGreatDoorRParse
namespace Go.Proofs.YtfdjnkjiffdbfaaGreatDoor
open Go.RowKit
set_option linter.unusedVariables false

theorem joinE_each : ∀ {raws : List (List UInt8)} {ps : List PairL} {p : PairL}, raws.map fieldL = ps.map some → p ∈ ps → p.1.length + p.2.length ≤ (joinE raws).length
  | [], ps, p, h, hp => by
    cases ps with
    | nil => cases hp
    | cons q r => simp at h
  | a :: r, ps, p, h, hp => by
    cases ps with
    | nil => cases hp
    | cons q ps =>
      simp only [List.map_cons, List.cons.injEq] at h
      rcases List.mem_cons.1 hp with rfl | hp
      · have h1 := (fieldL_ok h.1).2
        have h2 := rawOf_len p
        simp only [joinE, List.length_append, List.length_cons]
        omega
      · have := joinE_each h.2 hp
        simp only [joinE, List.length_append, List.length_cons]
        omega
theorem read_small {s : List UInt8} {h : HeadL} {k : Nat} (e : parseL s = (h, 0, k)) : h.2.2.2.length ≤ 1048576 ∧ (∀ p ∈ h.2.2.2, p.1.length ≤ 1048576 ∧ p.2.length ≤ 1048576) ∧ h.1.length ≤ 1048576 ∧ h.2.1.length ≤ 1048576 ∧ (h.2.2.1 = 0 ∨ h.2.2.1 = 1) := by
  obtain ⟨_, raws, r⟩ := parse_ok e
  have hl := congrArg List.length r.text
  have h4 := r.s4096
  have h32 := r.n32
  simp only [List.length_append, List.length_cons, List.length_nil] at hl
  refine ⟨by omega, ?_, ?_, ?_, r.req.min⟩
  · intro p hp
    have := joinE_each r.flds hp
    omega
  · have := r.req.m16; omega
  · have : h.2.1.length ≤ (reqText h).length := by simp [reqText]; omega
    omega
def digM (m : Int) : List UInt8 := if m = 0 then [48] else [49]
theorem dec0 : Lib.decDigits 0 = [48] := by first | rfl | decide | (simp [Lib.decDigits]) | (unfold Lib.decDigits; simp)
theorem dec1 : Lib.decDigits 1 = [49] := by first | rfl | decide | (simp [Lib.decDigits]) | (unfold Lib.decDigits; simp)
theorem itoa_01 {m : Int} (hm : m = 0 ∨ m = 1) (W : World) : Calls Tryz.prog 31 #[.int .i64 m] W fun e W' => e = .returned (.string ⟨(digM m).toArray⟩) ∧ Below W.heap.size W W' := by
  rcases hm with rfl | rfl
  · refine (Tryz.strconv_Itoa_small 0 (by decide) W).mono ?_
    rintro e w' ⟨rfl, rfl⟩
    exact ⟨by rw [dec0]; rfl, Below.refl _ _⟩
  · refine (Tryz.strconv_Itoa_small 1 (by decide) W).mono ?_
    rintro e w' ⟨rfl, rfl⟩
    exact ⟨by rw [dec1]; rfl, Below.refl _ _⟩
set_option maxRecDepth 20000 in
set_option maxHeartbeats 8000000 in
theorem again_walk (s : ByteArray) (w : World) (hM : ML w) (hs : s.size ≤ maxLen) :
    Calls Tryz.prog 5 #[.string s] w fun e w' => e = .returned (.bool true) ∧ Below w.heap.size w w' := by
  have hs' : s.size ≤ 9223372036854775807 := hs
  obtain ⟨L, rfl⟩ : ∃ L : List UInt8, s = ⟨L.toArray⟩ := ⟨s.data.toList, by simp⟩
  rw [size_list] at hs'
  have hP := parse_any L w hM hs'
  have HR := hid (fun w1 => rparse_any L w1 hs')
  have HAg := hid (fun h k (e : parseL L = (h, 0, k)) hl => again e hl)
  have HRd := hid (fun h k (e : parseL L = (h, 0, k)) => read_small e)
  have hfl := parseL_few L
  obtain ⟨T, hT⟩ : ∃ T, T = parseL L := ⟨_, rfl⟩
  rw [← hT] at hP HR hfl HAg HRd
  clear hT
  obtain ⟨⟨a1, a2, m, fs⟩, st, pl⟩ := T
  simp only at hP HR hfl
  have hgl := hM.lt
  have HM := hid hM
  have HA := hid awake_any
  have HF := hid hfl
  have hsz : (⟨L.toArray⟩ : ByteArray).size = L.length := size_list _
  obtain ⟨str, hstr⟩ : ∃ str : ByteArray, str = ⟨L.toArray⟩ := ⟨_, rfl⟩
  rw [← hstr] at hP HR hsz ⊢
  unfold strV at hP HR
  clear hM hs hs' hstr hfl
  by_cases h0 : st = 0
  · subst h0
    obtain ⟨r1, r2, r3, r4, r5⟩ := HRd.out (a1, a2, m, fs) pl rfl
    simp only at r1 r2 r3 r4 r5
    have hag := HAg.out (a1, a2, m, fs) pl rfl
    have HPr := hid (fun v w1 (hM1 : ML w1) (hS1 : SeesP w1 v fs) => print_any (a1, a2, m, fs) (digM m) v w1 hM1 hS1 r1 r2 r3 r4 (by unfold digM; split <;> simp) ⟨fun e => by simp only at e; rw [e]; rfl, fun e => by simp only at e; rw [e]; rfl⟩ (fun W _ => itoa_01 r5 W))
    have hps := fun t (e : prnL (a1, a2, m, fs) = some t) => (print_some e).2
    obtain ⟨P, hPe⟩ : ∃ P, P = prnL (a1, a2, m, fs) := ⟨_, rfl⟩
    rw [← hPe] at HPr hag hps
    have hSm := fun v1 v2 w => rsame7_any (a1, a2, m, fs) (a1, a2, m, fs) v1 v2 w
    rw [sameL_self] at hSm
    simp only at hSm HPr
    unfold strV at HPr hSm
    have HS := hid hSm
    clear HAg HRd r1 r2 r3 r4 r5 hPe HR hSm
    go_enter Tryz.func5, Tryz.ntmps5
    go_wp2_with fail
    refine hP.mono ?_
    clear hP
    rintro e w1 ⟨v1, rfl, hO1, hB1⟩
    obtain ⟨ao1, cap1, rfl⟩ := hO1.shape
    have hb1 := below_alloc w1 (.cells #[.string ⟨a1.toArray⟩, .string ⟨a2.toArray⟩, .int .i64 m, .slice ao1 fs.length cap1] 24)
    have hHn := HeadAt.new w1 (.string ⟨a1.toArray⟩) (.string ⟨a2.toArray⟩) (.int .i64 m) (.slice ao1 fs.length cap1)
    obtain ⟨wx, hwx⟩ : ∃ wx, wx = w1.alloc (.cells #[.string ⟨a1.toArray⟩, .string ⟨a2.toArray⟩, .int .i64 m, .slice ao1 fs.length cap1] 24) := ⟨_, rfl⟩
    rw [← hwx] at hb1 hHn
    have HWX := hid hwx
    have hMx := (HM.out.below hB1 hgl).below hb1 (HM.out.below hB1 hgl).lt
    have HBx := hid (hB1.trans (hb1.mono hB1.size))
    have hSx := (hO1.below hb1).sees
    have hPr := HPr.out _ wx hMx hSx
    have HMx := hid hMx
    have HSx := hid hSx
    have HHx := hid hHn
    obtain ⟨p0, p1, p2, p3, _, _, _, _⟩ := hHn.cells
    clear hwx hb1 hHn hMx hSx hB1 hO1 HPr HM
    cases P with
    | none =>
      have hlong : 1024 < L.length := by
        apply Classical.byContradiction
        intro h
        have := hag (by omega)
        cases this
      have hlong' : (1024 : Int) < (str.size : Int) := by omega
      simp only [Option.getD_none, Option.isSome_none] at hPr
      clear hag hps hlong
      go_wp2_with (first | rw [← HWX.out] | fail)
      refine hPr.mono ?_
      clear hPr
      rintro e w2 ⟨rfl, hB2⟩
      have hA := HA.out w2 (HMx.out.below hB2 HMx.out.lt)
      have HB2 := hid (HBx.out.trans (hB2.mono HBx.out.size))
      clear hB2 HA
      go_wp2_with fail
      refine hA.mono ?_
      clear hA
      rintro e w3 ⟨rfl, hB3⟩
      have HB3 := hid (HB2.out.trans (hB3.mono HB2.out.size))
      clear hB3
      go_wp2
      go_ret
      exact ⟨rfl, HB3.out⟩
    | some t =>
      have hpt := hps t rfl
      have htl : t.length ≤ 4096 := by
        obtain ⟨_, raws, r⟩ := parse_ok hpt
        exact r.s4096
      have HP2 := hid (fun w hM => parse_any t w hM (by omega))
      rw [hpt] at HP2
      simp only [strV] at HP2
      simp only [Option.getD_some, Option.isSome_some] at hPr
      clear hag hps hpt
      go_wp2_with (first | rw [← HWX.out] | fail)
      refine hPr.mono ?_
      clear hPr
      rintro e w2 ⟨rfl, hB2⟩
      have HM2 := hid (HMx.out.below hB2 HMx.out.lt)
      have HB2 := hid (HBx.out.trans (hB2.mono HBx.out.size))
      have HS2 := hid (HSx.out.below hB2)
      have HH2 := hid (HHx.out.below hB2 HHx.out.lt)
      have hP2 := HP2.out w2 HM2.out
      clear hB2 HP2 HMx HBx HSx HHx
      go_wp2_with fail
      refine hP2.mono ?_
      clear hP2
      rintro e w3 ⟨v3, rfl, hO3, hB3⟩
      obtain ⟨ao3, cap3, rfl⟩ := hO3.shape
      have hb3 := below_alloc w3 (.cells #[.string ⟨a1.toArray⟩, .string ⟨a2.toArray⟩, .int .i64 m, .slice ao3 fs.length cap3] 24)
      have hHn := HeadAt.new w3 (.string ⟨a1.toArray⟩) (.string ⟨a2.toArray⟩) (.int .i64 m) (.slice ao3 fs.length cap3)
      obtain ⟨wy, hwy⟩ : ∃ wy, wy = w3.alloc (.cells #[.string ⟨a1.toArray⟩, .string ⟨a2.toArray⟩, .int .i64 m, .slice ao3 fs.length cap3] 24) := ⟨_, rfl⟩
      rw [← hwy] at hb3 hHn
      have HWY := hid hwy
      have hM3 := HM2.out.below hB3 HM2.out.lt
      have HMy := hid (hM3.below hb3 hM3.lt)
      have HB3 := hid (HB2.out.trans (hB3.mono HB2.out.size))
      have HBy := hid (HB3.out.trans (hb3.mono HB3.out.size))
      have hHo := (HH2.out.below hB3 HH2.out.lt).below hb3 (HH2.out.below hB3 HH2.out.lt).lt
      have hC := HS.out _ _ wy (hO3.below hb3).sees ((HS2.out.below hB3).below hb3) HF.out
      obtain ⟨q0, q1, q2, q3, _, _, _, _⟩ := hHn.cells
      obtain ⟨s0, s1, s2, s3, _, _, _, _⟩ := hHo.cells
      clear hwy hb3 hHn hHo hO3 hB3 hM3 HM2 HB2 HB3 HS2 HH2 HS
      go_wp2_with (first | rw [← HWY.out] | fail)
      refine hC.mono ?_
      clear hC
      rintro e w4 ⟨rfl, hB4⟩
      have hA := HA.out w4 (HMy.out.below hB4 HMy.out.lt)
      have HB4 := hid (HBy.out.trans (hB4.mono HBy.out.size))
      clear hB4 HA
      go_wp2_with fail
      refine hA.mono ?_
      clear hA
      rintro e w5 ⟨rfl, hB5⟩
      have HB5 := hid (HB4.out.trans (hB5.mono HB4.out.size))
      clear hB5
      go_wp2
      go_ret
      exact ⟨rfl, HB5.out⟩
  · have h0' : (st != 0) = true := by rw [bne_iff_ne]; exact h0
    clear HAg HRd h0 HF
    go_enter Tryz.func5, Tryz.ntmps5
    go_wp2_with fail
    refine hP.mono ?_
    clear hP
    rintro e w1 ⟨v1, rfl, hO1, hB1⟩
    obtain ⟨ao1, cap1, rfl⟩ := hO1.shape
    have HM1 := hid (HM.out.below hB1 hgl)
    have HB1 := hid hB1
    clear hB1 hO1
    go_wp2_with fail
    refine (HR.out _).mono ?_
    clear HR
    rintro e w2 ⟨v2, rfl, hO2, hB2⟩
    obtain ⟨ao2, cap2, rfl⟩ := hO2.shape
    have hb1 := below_alloc w1 (.cells #[.string ⟨a1.toArray⟩, .string ⟨a2.toArray⟩, .int .i64 m, .slice ao1 fs.length cap1] 24)
    have hB02 : Below w.heap.size w w2 := HB1.out.trans ((hb1.trans (hB2.mono hb1.size)).mono HB1.out.size)
    have hb2 := below_alloc w2 (.cells #[.string ⟨a1.toArray⟩, .string ⟨a2.toArray⟩, .int .i64 m, .slice ao2 fs.length cap2] 24)
    have hB03 := hB02.trans (hb2.mono hB02.size)
    have hA := HA.out _ (HM.out.below hB03 hgl)
    have HB2 := hid hB03
    clear hb1 hb2 hB02 hB03 hB2 hO2 HA HB1
    go_wp2_with fail
    refine hA.mono ?_
    clear hA
    rintro e w3 ⟨rfl, hB3⟩
    have HB3 := hid (HB2.out.trans (hB3.mono HB2.out.size))
    clear hB3
    go_wp2
    go_ret
    exact ⟨rfl, HB3.out⟩
end Go.Proofs.YtfdjnkjiffdbfaaGreatDoor
