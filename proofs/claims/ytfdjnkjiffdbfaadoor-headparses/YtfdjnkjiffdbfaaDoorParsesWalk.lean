/-
  The walk of HeadParses.
-/
import Derived.Test.YtfdjnkjiffdbfaaDoorHAwake
import Derived.Test.YtfdjnkjiffdbfaaDoorRParse
import Derived.Test.YtfdjnkjiffdbfaaDoorRSame7
namespace Go.Proofs.YtfdjnkjiffdbfaaDoor
open Go.RowKit
set_option linter.unusedVariables false

theorem parseL_few (s : List UInt8) : (parseL s).1.2.2.2.length ≤ 140737488355328 := by
  by_cases h : (parseL s).2.1 = 0
  · have e : parseL s = ((parseL s).1, 0, (parseL s).2.2) := by rw [← h]
    obtain ⟨_, raws, r⟩ := parse_ok e
    have := r.n32
    omega
  · have : (parseL s).1 = hz := by
      revert h
      unfold parseL
      split
      · intro _; rfl
      · split
        · intro _; rfl
        · split
          · intro h; exact absurd rfl h
          · intro _; rfl
    rw [this]
    simp [hz]

set_option maxRecDepth 20000 in
set_option maxHeartbeats 8000000 in
theorem parses_walk (s : ByteArray) (w : World) (hM : ML w) (hs : s.size ≤ maxLen) :
    Calls Tryd.prog 3 #[.string s] w fun e w' => e = .returned (.bool true) ∧ Below w.heap.size w w' := by
  have hs' : s.size ≤ 9223372036854775807 := hs
  obtain ⟨L, rfl⟩ : ∃ L : List UInt8, s = ⟨L.toArray⟩ := ⟨s.data.toList, by simp⟩
  rw [size_list] at hs'
  have hP := parse_any L w hM hs'
  have HR := hid (fun w1 => rparse_any L w1 hs')
  have hfl : (parseL L).1.2.2.2.length ≤ 140737488355328 := parseL_few L
  obtain ⟨T, hT⟩ : ∃ T, T = parseL L := ⟨_, rfl⟩
  rw [← hT] at hP HR hfl
  clear hT
  obtain ⟨⟨a1, a2, m, fs⟩, st, pl⟩ := T
  simp only at hP HR hfl
  obtain ⟨str, hstr⟩ : ∃ str : ByteArray, str = ⟨L.toArray⟩ := ⟨_, rfl⟩
  rw [← hstr] at hP HR ⊢
  have hSm := fun v1 v2 w => rsame7_any (a1, a2, m, fs) (a1, a2, m, fs) v1 v2 w
  rw [sameL_self] at hSm
  simp only at hSm
  unfold strV at hP HR hSm
  have HS := hid hSm
  have HM := hid hM
  have HA := hid awake_any
  have HF := hid hfl
  have hgl := hM.lt
  clear hM hs hs' hstr hfl hSm
  go_enter Tryd.func3, Tryd.ntmps3
  go_wp2_with fail
  refine hP.mono ?_
  clear hP
  rintro e w1 ⟨v1, rfl, hO1, hB1⟩
  obtain ⟨ao1, cap1, rfl⟩ := hO1.shape
  have HM1 := hid (HM.out.below hB1 hgl)
  have HB1 := hid hB1
  have HO1 := hid hO1
  clear hB1 hO1
  go_wp2_with fail
  refine (HR.out _).mono ?_
  clear HR
  rintro e w2 ⟨v2, rfl, hO2, hB2⟩
  obtain ⟨ao2, cap2, rfl⟩ := hO2.shape
  have hH1 := (HeadAt.new w1 (.string ⟨a1.toArray⟩) (.string ⟨a2.toArray⟩) (.int .i64 m) (.slice ao1 fs.length cap1)).below hB2 (by simp)
  obtain ⟨wx, hwx⟩ : ∃ wx, wx = w2.alloc (.cells #[.string ⟨a1.toArray⟩, .string ⟨a2.toArray⟩, .int .i64 m, .slice ao2 fs.length cap2] 24) := ⟨_, rfl⟩
  have hbx : Below w2.heap.size w2 wx := by rw [hwx]; exact below_alloc w2 _
  have hb1 := below_alloc w1 (.cells #[.string ⟨a1.toArray⟩, .string ⟨a2.toArray⟩, .int .i64 m, .slice ao1 fs.length cap1] 24)
  have hH2 : HeadAt wx w2.heap.size (.string ⟨a1.toArray⟩) (.string ⟨a2.toArray⟩) (.int .i64 m) (.slice ao2 fs.length cap2) := by rw [hwx]; exact HeadAt.new w2 _ _ _ _
  have hH1' := hH1.below hbx hH1.lt
  have hB02 : Below w.heap.size w w2 := HB1.out.trans ((hb1.trans (hB2.mono hb1.size)).mono HB1.out.size)
  have hMx := (HM.out.below hB02 hgl).below hbx (Nat.lt_of_lt_of_le hgl hB02.size)
  have hS1 := (((HO1.out.below hb1).below hB2).below hbx).sees
  have hS2 := (hO2.below hbx).sees
  have hC := HS.out _ _ wx hS1 hS2 HF.out
  have HBx := hid (hB02.trans (hbx.mono hB02.size))
  have HMx := hid hMx
  have HWX := hid hwx
  obtain ⟨p0, p1, p2, p3, p4, p5, p6, p7⟩ := hH1'.cells
  obtain ⟨q0, q1, q2, q3, q4, q5, q6, q7⟩ := hH2.cells
  clear hwx hH1 hbx hb1 hH2 hH1' hB02 hMx hS1 hS2 hB2 hO2 HS HF HM HB1 HO1 HM1
  go_wp2_with (first
    | (rw [← HWX.out])
    | fail)
  refine hC.mono ?_
  clear hC
  rintro e w3 ⟨rfl, hB3⟩
  have hM3 := HMx.out.below hB3 (Nat.lt_of_lt_of_le hgl HBx.out.size)
  have HB3 := hid (HBx.out.trans (hB3.mono HBx.out.size))
  have hC := HA.out w3 hM3
  clear hB3 HA hM3
  go_wp2_with fail
  refine hC.mono ?_
  clear hC
  rintro e w4 ⟨rfl, hB4⟩
  have HB4 := hid (HB3.out.trans (hB4.mono HB3.out.size))
  clear hB4
  go_wp2
  go_ret
  exact ⟨rfl, HB4.out⟩
end Go.Proofs.YtfdjnkjiffdbfaaDoor
