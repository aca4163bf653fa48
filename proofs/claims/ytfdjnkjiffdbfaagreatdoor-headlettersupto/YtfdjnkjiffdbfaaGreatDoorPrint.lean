/-
  Print of the code.
-/
import Derived.Test.YtfdjnkjiffdbfaaGreatDoorHSame
import Derived.Test.YtfdjnkjiffdbfaaGreatDoorWritten
namespace Go.Proofs.YtfdjnkjiffdbfaaGreatDoor
open Go.RowKit
set_option linter.unusedVariables false

theorem parseL_few (s : List UInt8) : (parseL s).1.2.2.2.length ≤ 140737488355328 := by
  by_cases h : (parseL s).2.1 = 0
  · have e : parseL s = ((parseL s).1, 0, (parseL s).2.2) := by rw [← h]
    obtain ⟨_, raws, r⟩ := parse_ok e
    have := r.n32
    omega
  · have : (parseL s).1 = hz := by
      revert h
      unfold parseL
      split
      · intro _; rfl
      · split
        · intro _; rfl
        · split
          · intro h; exact absurd rfl h
          · intro _; rfl
    rw [this]
    simp [hz]

theorem wloop_len : ∀ (ps : List PairL) (out : List UInt8), (∀ p ∈ ps, p.1.length ≤ 1048576 ∧ p.2.length ≤ 1048576) → out.length ≤ 4000000 → (wloop out ps).length ≤ 4000000
  | [], out, _, h => h
  | p :: r, out, hb, h => by
    rw [wloop]
    split
    · exact h
    · rename_i h4
      refine wloop_len r _ (fun q hq => hb q (by simp [hq])) ?_
      obtain ⟨h1, h2⟩ := hb p (by simp)
      simp [rawOf]
      omega
set_option maxRecDepth 20000 in
set_option maxHeartbeats 8000000 in
theorem print_any (h : HeadL) (d : List UInt8) (v : Value) (w : World) (hM : ML w) (hS : SeesP w v h.2.2.2) (hl : h.2.2.2.length ≤ 1048576) (hb : ∀ p ∈ h.2.2.2, p.1.length ≤ 1048576 ∧ p.2.length ≤ 1048576)
    (h1 : h.1.length ≤ 1048576) (h2 : h.2.1.length ≤ 1048576) (hd : d.length ≤ 100) (hdm : (h.2.2.1 = 0 → d = [48]) ∧ (h.2.2.1 = 1 → d = [49]))
    (hI : ∀ W, Below w.heap.size w W → Calls Tryz.prog 31 #[.int .i64 h.2.2.1] W fun e W' => e = .returned (.string ⟨d.toArray⟩) ∧ Below W.heap.size W W') :
    Calls Tryz.prog 7 #[.agg #[strV h.1, strV h.2.1, .int .i64 h.2.2.1, v]] w fun e w' => e = .returned (.tuple #[.string ⟨((prnL h).getD []).toArray⟩, .int .i64 (if (prnL h).isSome then 0 else 70)]) ∧ Below w.heap.size w w' := by
  have hpc := print_code h d hdm
  have hlen : (writC h d).length ≤ 4000010 := by
    have := wloop_len h.2.2.2 (headW h d) hb (by simp [headW, verW]; omega)
    simp [writC]
    omega
  have hB0 := below_alloc w (.cells #[strV h.1, strV h.2.1, .int .i64 h.2.2.1, v] 24)
  have hWr := written_any h d v (w.alloc (.cells #[strV h.1, strV h.2.1, .int .i64 h.2.2.1, v] 24)) (hS.below hB0) hl hb h1 h2 hd (fun W hW => hI W (hB0.trans (hW.mono hB0.size)))
  obtain ⟨S, hSe⟩ : ∃ S, S = writC h d := ⟨_, rfl⟩
  rw [← hSe] at hWr hlen hpc
  have HPa := hid (fun w1 hM1 => parse_any S w1 hM1 (by omega))
  have hfl := parseL_few S
  obtain ⟨T, hT⟩ : ∃ T, T = parseL S := ⟨_, rfl⟩
  rw [← hT] at HPa hpc hfl
  obtain ⟨T1, st, pl⟩ := T
  simp only at HPa hpc hfl
  have HSm := hid (fun v1 v2 w1 (hs1 : SeesP w1 v1 T1.2.2.2) (hs2 : SeesP w1 v2 h.2.2.2) => hsame_any T1 h v1 v2 w1 hs1 hs2 hfl)
  obtain ⟨B, hBs⟩ : ∃ B, B = sameL T1 h := ⟨_, rfl⟩
  rw [← hBs] at HSm hpc
  obtain ⟨P, hPe⟩ : ∃ P, P = prnL h := ⟨_, rfl⟩
  rw [← hPe] at hpc ⊢
  have HPC := hid hpc
  obtain ⟨G, hG⟩ : ∃ G, G = P.getD [] := ⟨_, rfl⟩
  obtain ⟨E, hE⟩ : ∃ E : Int, E = if P.isSome then 0 else 70 := ⟨_, rfl⟩
  rw [← hG, ← hE]
  have HG := hid hG
  have HEE := hid hE
  clear hG hE
  obtain ⟨A, Bt, m, fs⟩ := h
  obtain ⟨A1, B1, m1, fs1⟩ := T1
  simp only [strV] at hWr hS HPa HSm hB0 ⊢
  have hH0 := HeadAt.new w (.string ⟨A.toArray⟩) (.string ⟨Bt.toArray⟩) (.int .i64 m) v
  obtain ⟨w0, hw0⟩ : ∃ w0, w0 = w.alloc (.cells #[.string ⟨A.toArray⟩, .string ⟨Bt.toArray⟩, .int .i64 m, v] 24) := ⟨_, rfl⟩
  rw [← hw0] at hWr hH0 hB0
  have HW0 := hid hw0
  have hgl := hM.lt
  have HM0 := hid (hM.below hB0 hgl)
  have HS0 := hid (hS.below hB0)
  have HB0 := hid hB0
  have HH0 := hid hH0
  obtain ⟨z0, z1, z2, z3, _, _, _, _⟩ := hH0.cells
  clear hw0 hH0 hB0 hM hS hb hl h1 h2 hd hdm hI hpc hSe hT hBs hPe hfl
  go_enter Tryz.func7, Tryz.ntmps7
  go_wp2_with (first | rw [← HW0.out] | fail)
  refine hWr.mono ?_
  clear hWr
  rintro e w1 ⟨rfl, hB1⟩
  have hPa := HPa.out w1 (HM0.out.below hB1 HM0.out.lt)
  have HH1 := hid (HH0.out.below hB1 HH0.out.lt)
  have HS1 := hid (HS0.out.below hB1)
  have HB1 := hid (HB0.out.trans (hB1.mono HB0.out.size))
  clear hB1 HPa HH0 HS0 HB0 HM0
  go_wp2_with fail
  refine hPa.mono ?_
  clear hPa
  rintro e w2 ⟨v2, rfl, hO2, hB2⟩
  obtain ⟨ao2, cap2, rfl⟩ := hO2.shape
  have hH2 := HH1.out.below hB2 HH1.out.lt
  obtain ⟨wx, hwx⟩ : ∃ wx, wx = w2.alloc (.cells #[.string ⟨A1.toArray⟩, .string ⟨B1.toArray⟩, .int .i64 m1, .slice ao2 fs1.length cap2] 24) := ⟨_, rfl⟩
  have hbx : Below w2.heap.size w2 wx := by rw [hwx]; exact below_alloc w2 _
  have hHx := hH2.below hbx hH2.lt
  have hHr : HeadAt wx w2.heap.size (.string ⟨A1.toArray⟩) (.string ⟨B1.toArray⟩) (.int .i64 m1) (.slice ao2 fs1.length cap2) := by rw [hwx]; exact HeadAt.new w2 _ _ _ _
  have hSm := HSm.out _ _ wx (hO2.below hbx).sees ((HS1.out.below hB2).below hbx)
  have HB2 := hid (HB1.out.trans (hB2.mono HB1.out.size))
  have HBx := hid (HB2.out.trans (hbx.mono HB2.out.size))
  have HWX := hid hwx
  obtain ⟨p0, p1, p2, p3, _, _, _, _⟩ := hHx.cells
  obtain ⟨q0, q1, q2, q3, _, _, _, _⟩ := hHr.cells
  clear hwx hbx hHx hHr hH2 hO2 hB2 HSm HH1 HS1 HB1
  by_cases h0 : st = 0
  · have h0' : (st != 0) = false := by rw [bne_eq_false_iff_eq]; exact h0
    cases B with
    | true =>
      rw [if_pos ⟨h0, rfl⟩] at HPC
      have HE : Hid (G = S ∧ E = 0) := by unfold Hid; rw [HG.out, HEE.out, HPC.out]; exact ⟨rfl, rfl⟩
      clear h0 HPC
      go_wp2_with (first | rw [← HWX.out] | fail)
      refine hSm.mono ?_
      clear hSm
      rintro e w3 ⟨rfl, hB3⟩
      have HB3 := hid (HBx.out.trans (hB3.mono HBx.out.size))
      clear hB3
      go_wp2
      go_ret2
      exact ⟨by rw [HE.out.1, HE.out.2]; rfl, HB3.out⟩
    | false =>
      rw [if_neg (fun h => by cases h.2)] at HPC
      have HE : Hid (G = [] ∧ E = 70) := by unfold Hid; rw [HG.out, HEE.out, HPC.out]; exact ⟨rfl, rfl⟩
      clear h0 HPC
      go_wp2_with (first | rw [← HWX.out] | fail)
      refine hSm.mono ?_
      clear hSm
      rintro e w3 ⟨rfl, hB3⟩
      have HB3 := hid (HBx.out.trans (hB3.mono HBx.out.size))
      clear hB3
      go_wp2
      go_ret2
      exact ⟨by rw [HE.out.1, HE.out.2]; rfl, HB3.out⟩
  · have h0' : (st != 0) = true := by rw [bne_iff_ne]; exact h0
    rw [if_neg (fun h => h0 h.1)] at HPC
    have HE : Hid (G = [] ∧ E = 70) := by unfold Hid; rw [HG.out, HEE.out, HPC.out]; exact ⟨rfl, rfl⟩
    clear h0 HPC hSm
    go_wp2_with (first | rw [← HWX.out] | fail)
    go_ret2
    exact ⟨by rw [HE.out.1, HE.out.2]; rfl, HBx.out⟩
end Go.Proofs.YtfdjnkjiffdbfaaGreatDoor
