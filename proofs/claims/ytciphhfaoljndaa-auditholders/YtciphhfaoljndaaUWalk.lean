/-
  The law AuditHolders.
-/
import Derived.Test.YtciphhfaoljndaaUAwake
namespace Go.Proofs.Ytciphhfaoljndaa
open Go.RowKit
set_option linter.unusedVariables false
set_option linter.unusedSimpArgs false
set_option maxRecDepth 20000

theorem holG_len (gs : List GrL) (cat step : Int) : (holG gs cat step).1.length ≤ gs.length := by
  unfold holG
  split
  · simp
  · exact Nat.le_trans (length_sd_le _) holL_len
theorem chainG_len (gs : List GrL) (who cat : Int) : (chainG gs who cat).1.length ≤ gs.length := by
  unfold chainG
  split
  · simp
  · split
    · rw [List.length_reverse]
      exact chn_len _ _
    · simp
set_option maxHeartbeats 8000000 in
theorem auditHolders_walk (v : Value) (gs : List GrL) (who cat : Int) (w : World) (hS : SeesG w v gs) (hI : InG gs) (hwho : In64 who) (hlen : gs.length ≤ 4398046511104) :
    Calls Try.prog 3 #[v, .int .i64 who, .int .i64 cat] w fun e w' => e = .returned (.bool true) ∧ Below w.heap.size w w' := by
  obtain ⟨st, hst⟩ : ∃ st, IntKind.i64.wrap (who * 3) = st := ⟨_, rfl⟩
  have HS := hid hS
  have HI := hid hI
  have HH := hid (fun (w' : World) (hb : Below w.heap.size w w') => holders_any v gs cat st w' (hS.below hb) hI hlen)
  have HRH := hid (fun (w' : World) (hb : Below w.heap.size w w') => rholders_any v gs cat st w' (hS.below hb) hlen)
  have HC := hid (fun (w' : World) (hb : Below w.heap.size w w') => chain_any v gs who cat w' (hS.below hb) hI hwho hlen)
  have HRC := hid (fun (w' : World) (hb : Below w.heap.size w w') => rchain_any v gs who cat w' (hS.below hb) hI hlen)
  have HK := hid (fun (w' : World) (hb : Below w.heap.size w w') => check_any v gs w' (hS.below hb) hI (by omega))
  have HRK := hid (fun (w' : World) (hb : Below w.heap.size w w') => rcheck_any v gs w' (hS.below hb) hI (by omega))
  have hl1 := holG_len gs cat st
  have hl2 := chainG_len gs who cat
  obtain ⟨⟨L, e⟩, hLe⟩ : ∃ C, C = holG gs cat st := ⟨_, rfl⟩
  obtain ⟨⟨K, f⟩, hKf⟩ : ∃ C, C = chainG gs who cat := ⟨_, rfl⟩
  obtain ⟨⟨x, y⟩, hxy⟩ : ∃ C, C = chkG gs := ⟨_, rfl⟩
  rw [← hLe] at HH HRH hl1
  rw [← hKf] at HC HRC hl2
  rw [← hxy] at HK HRK
  simp only at hl1 hl2
  clear hLe hKf hxy hS hI
  go_enter Try.func3, Try.ntmps3
  go_upto_region 2 with fail
  try rw [hst]
  clear hst
  go_wp2_with fail
  refine (HH.out w (Below.refl _ _)).mono ?_
  rintro e1 w1 ⟨v1, rfl, hO1, hb1⟩
  have HO1 := hid hO1
  have HB1 := hid hb1
  clear hO1 hb1
  go_wp2_with fail
  refine (HRH.out w1 HB1.out).mono ?_
  rintro e2 w2 ⟨v2, rfl, hO2, hb2⟩
  have HB2 := hid (HB1.out.trans (hb2.mono HB1.out.size))
  have HS1 := hid (HO1.out.sees.below hb2)
  have HS2 := hid hO2.sees
  clear hO2 hb2 HO1
  go_wp2_with fail
  refine (HC.out w2 HB2.out).mono ?_
  rintro e3 w3 ⟨v3, rfl, hO3, hb3⟩
  have HB3 := hid (HB2.out.trans (hb3.mono HB2.out.size))
  have HT1 := hid (HS1.out.below hb3)
  have HT2 := hid (HS2.out.below hb3)
  have HT3 := hid hO3.sees
  clear hO3 hb3 HS1 HS2
  go_wp2_with fail
  refine (HRC.out w3 HB3.out).mono ?_
  rintro e4 w4 ⟨v4, rfl, hO4, hb4⟩
  have HB4 := hid (HB3.out.trans (hb4.mono HB3.out.size))
  have HU1 := hid (HT1.out.below hb4)
  have HU2 := hid (HT2.out.below hb4)
  have HU3 := hid (HT3.out.below hb4)
  have HU4 := hid hO4.sees
  clear hO4 hb4 HT1 HT2 HT3
  go_wp2_with fail
  refine (HK.out w4 HB4.out).mono ?_
  rintro e5 w5 ⟨rfl, hb5⟩
  have HB5 := hid (HB4.out.trans (hb5.mono HB4.out.size))
  have HV1 := hid (HU1.out.below hb5)
  have HV2 := hid (HU2.out.below hb5)
  have HV3 := hid (HU3.out.below hb5)
  have HV4 := hid (HU4.out.below hb5)
  clear hb5 HU1 HU2 HU3 HU4
  go_wp2_with fail
  refine (HRK.out w5 HB5.out).mono ?_
  rintro e6 w6 ⟨rfl, hb6⟩
  have HB6 := hid (HB5.out.trans (hb6.mono HB5.out.size))
  have hsame := same_any v1 v2 L L w6 (HV1.out.below hb6) (HV2.out.below hb6) (by omega) (by omega)
  rw [decide_eq_true rfl] at hsame
  have HSM := hid hsame
  have HW3 := hid (HV3.out.below hb6)
  have HW4 := hid (HV4.out.below hb6)
  clear hb6 hsame HV1 HV2 HV3 HV4
  go_wp2_with fail
  refine HSM.out.mono ?_
  rintro e7 w7 ⟨rfl, hb7⟩
  have HB7 := hid (HB6.out.trans (hb7.mono HB6.out.size))
  have hsame := sameG_any v3 v4 K K w7 (HW3.out.below hb7) (HW4.out.below hb7) (by omega)
  rw [decide_eq_true rfl] at hsame
  have HSG := hid hsame
  clear hb7 hsame HW3 HW4
  go_wp2_with fail
  refine HSG.out.mono ?_
  rintro e8 w8 ⟨rfl, n, rfl⟩
  have HB8 := hid (below_drewN HB7.out n)
  have haw := hid (awake_any (w7.drewN n))
  go_wp2_with fail
  refine haw.out.mono ?_
  rintro e9 w9 ⟨rfl, hb9⟩
  have HB9 := hid (HB8.out.trans (hb9.mono HB8.out.size))
  clear hb9
  go_wp2
  go_ret
  exact ⟨rfl, HB9.out⟩
end Go.Proofs.Ytciphhfaoljndaa
