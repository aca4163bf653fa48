/-
  The reader of a chunked body: the code's.
-/
import Derived.Test.YtllhibdjopfcnaaGreatDoorZPFr
namespace Go.Proofs.YtllhibdjopfcnaaGreatDoor
open Go.RowKit
set_option linter.unusedVariables false

set_option maxRecDepth 200000 in
set_option maxHeartbeats 16000000 in
theorem read_any (p at' : Nat) (L : List UInt8) (s : ByteArray) (v0 : Value) (w : World) (hse : s = ⟨L.toArray⟩) (hs : L.length ≤ 140737488355328) (h0 : RdAt w p s at' v0) (hO0 : OwnsB w w.heap.size v0 []) (hat : at' ≤ L.length) :
    Calls Tryz.prog 49 #[.pointer (some ⟨p, 0, none⟩)] w fun e w' => ∃ st, e = .returned (.int .i64 st) ∧ RdEnd (chunksL (L.length + 1) [] (L.drop at')) s at' p w.heap.size st w' ∧ Kept p w.heap.size w w' := by
  have hT := Left.start hat
  obtain ⟨T, hTe⟩ : ∃ T, T = chunksL (L.length + 1) [] (L.drop at') := ⟨_, rfl⟩
  rw [← hTe] at hT ⊢
  clear hTe
  have hpl := h0.lt
  obtain ⟨B0, hB0⟩ : ∃ B0, B0 = w.heap.size := ⟨_, rfl⟩
  rw [← hB0] at hO0 hpl ⊢
  have hsz : s.size = L.length := by rw [hse, size_list]
  have HB0 := hid hB0
  have HT := hid hT
  have HSE := hid hse
  have HSZ := hid hsz
  have HH0 := hid h0
  have HO0 := hid hO0
  clear hB0 hT hse hsz h0 hO0
  have HPE := hid (fun (k : Nat) (v : Value) (w1 : World) (h : RdAt w1 p s k v) (hk : k ≤ L.length) => passEnd_any p L k v w1 s HSE.out h hk hs)
  go_enter Tryz.func49, Tryz.ntmps49
  go_wp2_with fail
  refine wp_scope5 (RdJ T L s at' p B0 w) (RdM L p) rfl rfl rfl rfl rfl ?_ ?_ ?_ ?_ ?_ ?_ ?_
  · rintro l a w1 ⟨k, ln, n, st, v, B, _, _, _, _, _, _, hSt⟩
    rcases hSt with ⟨rfl, _⟩ | ⟨rfl, _⟩ | ⟨rfl, _⟩ | ⟨rfl, _⟩ | ⟨rfl, _⟩ <;> decide
  · -- 4
    rintro a w1 ⟨k, ln, n, st, v, B, hF, hR, hO, hK, hSz, hkL, hSt⟩
    obtain ⟨U, hU⟩ := hF.open
    clear hF
    subst hU
    obtain ⟨hLf, j, hkj, hsz4⟩ : Left T L at' ln B ∧ ∃ j, k = ln + j ∧ sizeL (L.drop ln) = (.ok (0, j)) := by
      rcases hSt with ⟨h, _⟩ | ⟨h, _⟩ | ⟨h, _⟩ | ⟨h, _⟩ | ⟨_, h⟩
      all_goals first
        | (exact absurd h (by decide))
        | exact h
    have hP := HPE.out k v w1 hR hkL
    have HL := hid hLf
    have HS4 := hid hsz4
    have HKJ := hid hkj
    have HK := hid hK
    have HO := hid hO
    clear hSt hLf hsz4 hkj hK hO
    go_wp2_with fail
    refine hP.mono ?_
    clear hP
    rintro e w2 ⟨rfl, hR2, hK2⟩
    have HR2 := hid hR2
    have HK2 := hid (HK.out.join hK2 hSz)
    have HO2 := hid (HO.out.kept hK2 hpl)
    clear hR2 hK2 HK HO
    go_wp2
    rw [jumps_ret]
    go_ret
    refine ⟨_, rfl, ?_, HK2.out⟩
    have h16 := HL.out.2.2.1
    have hj := sizeL_got HS4.out
    rw [List.length_drop] at hj
    have h := HL.out.eol HS4.out (by omega) (by omega)
    rw [Nat.add_zero, ← HKJ.out] at h
    rcases eol_cases (L.drop k) with ⟨_, e3⟩ | ⟨_, _, e3⟩ | ⟨_, _, e3⟩
    · have hg := h.2.2.1 rfl e3
      rw [hg]
      have h2 := HR2.out
      rw [e3] at h2 ⊢
      refine ⟨rfl, v, ?_, HO2.out⟩
      have : at' + (k + 2 - at') = k + 2 := by have := HL.out.1; have := HKJ.out; omega
      rw [this]
      exact h2
    · rw [h.1 e3, e3]
      rfl
    · rw [h.2.1 _ e3, e3]
      rfl
  · -- 2
    rintro a w1 ⟨k, ln, n, st, v, B, hF, hR, hO, hK, hSz, hkL, hSt⟩
    obtain ⟨U, hU⟩ := hF.open
    clear hF
    subst hU
    obtain ⟨hLf, j, hkj, hszS⟩ : Left T L at' ln B ∧ ∃ j, k = ln + j ∧ AtS (L.drop ln) j n := by
      rcases hSt with ⟨h, _⟩ | ⟨h, _⟩ | ⟨_, h⟩ | ⟨h, _⟩ | ⟨h, _⟩
      all_goals first
        | (exact absurd h (by decide))
        | exact h
    have hP := HPE.out k v w1 hR hkL
    have HL := hid hLf
    have HSS := hid hszS
    have HKJ := hid hkj
    have HK := hid hK
    have HO := hid hO
    have hn32 : (n : Int) < 4294967296 := by have := hszS.2.1; omega
    have hMu := RdM.at (L := L) hR
    have HMU := hid hMu
    have HR1 := hid hR
    clear hSt hLf hszS hkj hK hO hMu hR
    rcases eol_cases (L.drop k) with ⟨_, e3⟩ | ⟨_, _, e3⟩ | ⟨_, _, e3⟩
    · -- got
      rw [e3] at hP
      simp only [eolS, eolK] at hP
      have HE3 := hid e3
      clear e3
      go_wp2_with fail
      refine hP.mono ?_
      clear hP
      rintro e w2 ⟨rfl, hR2, hK2⟩
      have hR2' : RdAt w2 p s (k + 2) v := hR2
      have HK2 := hid (HK.out.join hK2 hSz)
      have HO2 := hid (HO.out.kept hK2 hpl)
      have hSz2 : B0 ≤ w2.heap.size := Nat.le_trans hSz hK2.size
      have hk2L : k + 2 ≤ L.length := by
        have := eolL_got HE3.out
        rw [List.length_drop] at this
        omega
      have hgot : sizeL (L.drop ln) = (.ok (n, (j + 2))) := by
        have hss := HSS.out.1
        rw [List.drop_drop, ← HKJ.out, HE3.out] at hss
        exact hss
      have HG := hid hgot
      obtain ⟨q, hq⟩ : ∃ q, q = k + 2 := ⟨_, rfl⟩
      rw [← hq] at hR2' hk2L
      have HQ := hid hq
      have HR2 := hid hR2'
      clear hR2 hK2 HK HO hgot hR2' HSS hq
      by_cases hn0 : n = 0
      · subst hn0
        go_wp2
        go_step3
        show lower (RdJ T L s at' p B0 w) (RdM L p) w1 4 _ _
        refine ⟨⟨q, ln, 0, 0, v, B, ?_, HR2.out, HO2.out, HK2.out, hSz2, hk2L, ?_⟩, ?_⟩
        · exact ⟨rfl, rfl, rfl, rfl, rfl, rfl, rfl, rfl⟩
        · exact Or.inr (Or.inr (Or.inr (Or.inr ⟨rfl, HL.out, j + 2, by have := HKJ.out; have := HQ.out; omega, HG.out⟩)))
        · show RdM L p w2 < RdM L p w1
          rw [RdM.at HR2.out, HMU.out]
          have := HQ.out
          omega
      · have fn : ((n : Int) == 0) = false := by rw [beq_eq_false_iff_ne]; omega
        have HN0 := hid (show n ≠ 0 from hn0)
        obtain ⟨c0, c1, c2, g0, g1, g2⟩ := HR2.out.cells
        obtain ⟨ao, cap, rfl⟩ := HO2.out.shape
        have hB16 := HL.out.2.2.1
        by_cases hbig : 16384 < n + B.length
        · have hgt : (16384 : Int) - (B.length : Int) < (n : Int) := by omega
          have hge : 0 ≤ (16384 : Int) - (B.length : Int) := by omega
          go_wp2
          rw [jumps_ret]
          go_ret
          refine ⟨_, rfl, ?_, HK2.out⟩
          rw [HL.out.large HG.out hbig]
          rfl
        · obtain ⟨r, hr⟩ : ∃ r : Nat, r = 16384 - B.length := ⟨_, rfl⟩
          have hsub : (16384 : Int) - (B.length : Int) = (r : Int) := by omega
          have hgt : decide (r < n) = false := by simp; omega
          have hr2 : (r : Int) < 4294967296 := by omega
          clear hr hB16
          have hsz := HSZ.out
          have hle : (q : Int) ≤ (s.size : Int) := by omega
          have HBIG := hid hbig
          clear hbig
          obtain ⟨m, hm⟩ : ∃ m : Nat, m = s.size - q := ⟨_, rfl⟩
          have hsm : (s.size : Int) - (q : Int) = (m : Int) := by omega
          have HWM := hid (wrap64_nat m (by omega))
          by_cases hlong : L.length < q + n
          · have HLG := hid (show decide ((m : Int) < (n : Int)) = true by simp; omega)
            clear hm
            have HLONG := hid hlong
            clear hsz hlong hle hk2L hn0
            go_wp2_with fail
            go_quiet (fail)
            rw [HWM.out, HLG.out]
            go_wp2
            rw [jumps_ret]
            go_ret
            refine ⟨_, rfl, ?_, ?_⟩
            · rw [HL.out.short HG.out HBIG.out (by have := HLONG.out; have := HKJ.out; have := HQ.out; omega)]
              rfl
            · exact HK2.out.trans (Kept.of_below (below_drewN (Below.refl _ _) _))
          · have HLG := hid (show decide ((m : Int) < (n : Int)) = false by simp; omega)
            clear hm
            have hle2 : (q : Int) + (n : Int) ≤ (s.size : Int) := by omega
            have HLONG := hid hlong
            clear hsz hlong hn0
            go_wp2_with fail
            go_quiet (fail)
            rw [HWM.out, HLG.out]
            go_upto_block 23 with fail
            obtain ⟨w3, hw3⟩ : ∃ w3, w3 = w2.drewN nq := ⟨_, rfl⟩
            rw [← hw3]
            have hR3 : RdAt w3 p s q (.slice ao B.length cap) := by rw [hw3]; exact HR2.out.drewN _
            have HO3 : Hid (OwnsB w3 B0 (.slice ao B.length cap) B) := by rw [hw3]; exact hid (HO2.out.below (below_drewN (Below.refl _ _) _))
            have HK3 : Hid (Kept p B0 w w3) := by rw [hw3]; exact hid (HK2.out.trans (Kept.of_below (below_drewN (Below.refl _ _) _)))
            have hSz3 : B0 ≤ w3.heap.size := by rw [hw3]; exact Nat.le_trans hSz2 (below_drewN (Below.refl w2.heap.size w2) nq).size
            obtain ⟨d0, d1, d2, f0, f1, f2⟩ := hR3.cells
            have d2' : w3.drew.cell? ⟨p, 2, none⟩ = some (.slice ao B.length cap) := d2
            have hpl3 := hR3.lt
            obtain ⟨e, he⟩ : ∃ e, e = q + n := ⟨_, rfl⟩
            have hsum : IntKind.i64.wrap ((q : Int) + (n : Int)) = (e : Int) := by
              have h1 : ((q : Int) + (n : Int)) = ((e : Nat) : Int) := by omega
              rw [h1]
              exact wrap_i64_nat e (by have := HLONG.out; omega)
            have hnn : IntKind.i64.wrap (n : Int) = (n : Int) := wrap_i64_nat n (by omega)
            have hqe : (q : Int) ≤ (e : Int) := by omega
            have hes : (e : Int) ≤ (s.size : Int) := by omega
            have hesN : e ≤ s.size := by omega
            have hysz : (s.extract q e).size = n := by
              rw [ByteArray.size_extract]
              omega
            have hbnd : B.length + (s.extract q e).size ≤ 140737488355328 := by
              rw [hysz]
              have := HL.out.2.2.1
              omega
            have HE := hid he
            have HR3 := hid hR3
            have HYS := hid hysz
            clear hw3 HR2 HO2 HK2 hR3 c0 c1 c2 g0 g1 g2 he hysz hle hle2 HLG HWM hsm hsub hgt hr2
            refine wp_region_noPanic ?_
            refine wp_region_held_drew (S := (fun W => W.cell? ⟨p, 0, none⟩ = some (.string s) ∧ W.cell? ⟨p, 1, none⟩ = some (.int .i64 (q : Int)))) (by kernel_rfl) ?_ (fun hHeld => ?_)
            · first | exact ⟨d0, d1⟩ | exact ⟨k0, k1⟩ | exact ⟨m0, m1⟩
            refine wpAnyH_take (i := 0) (oi := { dst := some 104, op := Op.move (Operand.tmp 0), type := 104, pos := "parse.go:242", after := #[], guard := none }) (v := (.pointer (some ⟨p, 0, none⟩))) rfl (by kernel_rfl) (by kernel_rfl) (by kernel_rfl) (fun _ _ _ h => h) (Or.inl ⟨by rfl, ?_⟩) (by assumption) ?_
            · intro w hSw
              try dsimp only at hSw
              go_simp
            try simp only [Act.put, List.setIfInBounds_toArray, List.set_cons_zero, List.set_cons_succ]
            refine wpAnyH_take (i := 1) (oi := { dst := some 105, op := Op.move (Operand.tmp 0), type := 104, pos := "parse.go:242", after := #[], guard := none }) (v := (.pointer (some ⟨p, 0, none⟩))) rfl (by kernel_rfl) (by kernel_rfl) (by kernel_rfl) (fun _ _ _ h => h) (Or.inl ⟨by rfl, ?_⟩) (by assumption) ?_
            · intro w hSw
              try dsimp only at hSw
              go_simp
            try simp only [Act.put, List.setIfInBounds_toArray, List.set_cons_zero, List.set_cons_succ]
            refine wpAnyH_take (i := 2) (oi := { dst := some 106, op := Op.nilCheck (Operand.tmp 105), type := 0, pos := "parse.go:242", after := #[{ on := 1, ground := Ground.data }], guard := none }) (v := (.pointer (some ⟨p, 0, none⟩))) rfl (by kernel_rfl) (by kernel_rfl) (by kernel_rfl) (fun _ _ _ h => h) (Or.inl ⟨by rfl, ?_⟩) (by assumption) ?_
            · intro w hSw
              try dsimp only at hSw
              go_simp
            try simp only [Act.put, List.setIfInBounds_toArray, List.set_cons_zero, List.set_cons_succ]
            refine wpAnyH_take (i := 3) (oi := { dst := some 107, op := Op.fieldAddr 88 (Operand.tmp 106) 2, type := 0, pos := "parse.go:242", after := #[{ on := 2, ground := Ground.data }], guard := none }) (v := (.pointer (some ⟨p, 2, none⟩))) rfl (by kernel_rfl) (by kernel_rfl) (by kernel_rfl) (fun _ _ _ h => h) (Or.inl ⟨by rfl, ?_⟩) (by assumption) ?_
            · intro w hSw
              try dsimp only at hSw
              go_simp
            try simp only [Act.put, List.setIfInBounds_toArray, List.set_cons_zero, List.set_cons_succ]
            refine wpAnyH_take (i := 5) (oi := { dst := some 109, op := Op.move (Operand.tmp 0), type := 104, pos := "parse.go:242", after := #[], guard := none }) (v := (.pointer (some ⟨p, 0, none⟩))) rfl (by kernel_rfl) (by kernel_rfl) (by kernel_rfl) (fun _ _ _ h => h) (Or.inl ⟨by rfl, ?_⟩) (by assumption) ?_
            · intro w hSw
              try dsimp only at hSw
              go_simp
            try simp only [Act.put, List.setIfInBounds_toArray, List.set_cons_zero, List.set_cons_succ]
            refine wpAnyH_take (i := 6) (oi := { dst := some 110, op := Op.nilCheck (Operand.tmp 109), type := 0, pos := "parse.go:242", after := #[{ on := 5, ground := Ground.data }], guard := none }) (v := (.pointer (some ⟨p, 0, none⟩))) rfl (by kernel_rfl) (by kernel_rfl) (by kernel_rfl) (fun _ _ _ h => h) (Or.inl ⟨by rfl, ?_⟩) (by assumption) ?_
            · intro w hSw
              try dsimp only at hSw
              go_simp
            try simp only [Act.put, List.setIfInBounds_toArray, List.set_cons_zero, List.set_cons_succ]
            refine wpAnyH_take (i := 7) (oi := { dst := some 111, op := Op.fieldAddr 88 (Operand.tmp 110) 0, type := 0, pos := "parse.go:242", after := #[{ on := 6, ground := Ground.data }], guard := none }) (v := (.pointer (some ⟨p, 0, none⟩))) rfl (by kernel_rfl) (by kernel_rfl) (by kernel_rfl) (fun _ _ _ h => h) (Or.inl ⟨by rfl, ?_⟩) (by assumption) ?_
            · intro w hSw
              try dsimp only at hSw
              go_simp
            try simp only [Act.put, List.setIfInBounds_toArray, List.set_cons_zero, List.set_cons_succ]
            refine wpAnyH_take (i := 8) (oi := { dst := some 112, op := Op.load 9 (Operand.tmp 111), type := 9, pos := "parse.go:242", after := #[{ on := 7, ground := Ground.data }], guard := none }) (v := (.string s)) rfl (by kernel_rfl) (by kernel_rfl) (by kernel_rfl) (fun _ _ _ h => h) (Or.inl ⟨by rfl, ?_⟩) (by assumption) ?_
            · intro w hSw
              try dsimp only at hSw
              go_simp
            try simp only [Act.put, List.setIfInBounds_toArray, List.set_cons_zero, List.set_cons_succ]
            refine wpAnyH_take (i := 9) (oi := { dst := some 113, op := Op.move (Operand.tmp 0), type := 104, pos := "parse.go:242", after := #[], guard := none }) (v := (.pointer (some ⟨p, 0, none⟩))) rfl (by kernel_rfl) (by kernel_rfl) (by kernel_rfl) (fun _ _ _ h => h) (Or.inl ⟨by rfl, ?_⟩) (by assumption) ?_
            · intro w hSw
              try dsimp only at hSw
              go_simp
            try simp only [Act.put, List.setIfInBounds_toArray, List.set_cons_zero, List.set_cons_succ]
            refine wpAnyH_take (i := 10) (oi := { dst := some 114, op := Op.nilCheck (Operand.tmp 113), type := 0, pos := "parse.go:242", after := #[{ on := 9, ground := Ground.data }], guard := none }) (v := (.pointer (some ⟨p, 0, none⟩))) rfl (by kernel_rfl) (by kernel_rfl) (by kernel_rfl) (fun _ _ _ h => h) (Or.inl ⟨by rfl, ?_⟩) (by assumption) ?_
            · intro w hSw
              try dsimp only at hSw
              go_simp
            try simp only [Act.put, List.setIfInBounds_toArray, List.set_cons_zero, List.set_cons_succ]
            refine wpAnyH_take (i := 11) (oi := { dst := some 115, op := Op.fieldAddr 88 (Operand.tmp 114) 1, type := 0, pos := "parse.go:242", after := #[{ on := 10, ground := Ground.data }], guard := none }) (v := (.pointer (some ⟨p, 1, none⟩))) rfl (by kernel_rfl) (by kernel_rfl) (by kernel_rfl) (fun _ _ _ h => h) (Or.inl ⟨by rfl, ?_⟩) (by assumption) ?_
            · intro w hSw
              try dsimp only at hSw
              go_simp
            try simp only [Act.put, List.setIfInBounds_toArray, List.set_cons_zero, List.set_cons_succ]
            refine wpAnyH_take (i := 12) (oi := { dst := some 116, op := Op.load 3 (Operand.tmp 115), type := 3, pos := "parse.go:242", after := #[{ on := 11, ground := Ground.data }], guard := none }) (v := (.int .i64 (q : Int))) rfl (by kernel_rfl) (by kernel_rfl) (by kernel_rfl) (fun _ _ _ h => h) (Or.inl ⟨by rfl, ?_⟩) (by assumption) ?_
            · intro w hSw
              try dsimp only at hSw
              go_simp
            try simp only [Act.put, List.setIfInBounds_toArray, List.set_cons_zero, List.set_cons_succ]
            refine wpAnyH_take (i := 13) (oi := { dst := some 117, op := Op.move (Operand.tmp 0), type := 104, pos := "parse.go:242", after := #[], guard := none }) (v := (.pointer (some ⟨p, 0, none⟩))) rfl (by kernel_rfl) (by kernel_rfl) (by kernel_rfl) (fun _ _ _ h => h) (Or.inl ⟨by rfl, ?_⟩) (by assumption) ?_
            · intro w hSw
              try dsimp only at hSw
              go_simp
            try simp only [Act.put, List.setIfInBounds_toArray, List.set_cons_zero, List.set_cons_succ]
            refine wpAnyH_take (i := 14) (oi := { dst := some 118, op := Op.nilCheck (Operand.tmp 117), type := 0, pos := "parse.go:242", after := #[{ on := 13, ground := Ground.data }], guard := none }) (v := (.pointer (some ⟨p, 0, none⟩))) rfl (by kernel_rfl) (by kernel_rfl) (by kernel_rfl) (fun _ _ _ h => h) (Or.inl ⟨by rfl, ?_⟩) (by assumption) ?_
            · intro w hSw
              try dsimp only at hSw
              go_simp
            try simp only [Act.put, List.setIfInBounds_toArray, List.set_cons_zero, List.set_cons_succ]
            refine wpAnyH_take (i := 15) (oi := { dst := some 119, op := Op.fieldAddr 88 (Operand.tmp 118) 1, type := 0, pos := "parse.go:242", after := #[{ on := 14, ground := Ground.data }], guard := none }) (v := (.pointer (some ⟨p, 1, none⟩))) rfl (by kernel_rfl) (by kernel_rfl) (by kernel_rfl) (fun _ _ _ h => h) (Or.inl ⟨by rfl, ?_⟩) (by assumption) ?_
            · intro w hSw
              try dsimp only at hSw
              go_simp
            try simp only [Act.put, List.setIfInBounds_toArray, List.set_cons_zero, List.set_cons_succ]
            refine wpAnyH_take (i := 16) (oi := { dst := some 120, op := Op.load 3 (Operand.tmp 119), type := 3, pos := "parse.go:242", after := #[{ on := 15, ground := Ground.data }], guard := none }) (v := (.int .i64 (q : Int))) rfl (by kernel_rfl) (by kernel_rfl) (by kernel_rfl) (fun _ _ _ h => h) (Or.inl ⟨by rfl, ?_⟩) (by assumption) ?_
            · intro w hSw
              try dsimp only at hSw
              go_simp
            try simp only [Act.put, List.setIfInBounds_toArray, List.set_cons_zero, List.set_cons_succ]
            refine wpAnyH_take (i := 17) (oi := { dst := some 121, op := Op.move (Operand.tmp 4), type := 105, pos := "parse.go:242", after := #[], guard := none }) (v := (.int .u32 (n : Int))) rfl (by kernel_rfl) (by kernel_rfl) (by kernel_rfl) (fun _ _ _ h => h) (Or.inl ⟨by rfl, ?_⟩) (by assumption) ?_
            · intro w hSw
              try dsimp only at hSw
              go_simp
            try simp only [Act.put, List.setIfInBounds_toArray, List.set_cons_zero, List.set_cons_succ]
            refine wpAnyH_take (i := 18) (oi := { dst := some 122, op := Op.convert 105 3 (Operand.tmp 121), type := 3, pos := "parse.go:242", after := #[{ on := 17, ground := Ground.data }], guard := none }) (v := (.int .i64 (n : Int))) rfl (by kernel_rfl) (by kernel_rfl) (by kernel_rfl) (fun _ _ _ h => h) (Or.inl ⟨by rfl, ?_⟩) (by assumption) ?_
            · intro w hSw
              try dsimp only at hSw
              go_simp
            try simp only [Act.put, List.setIfInBounds_toArray, List.set_cons_zero, List.set_cons_succ]
            refine wpAnyH_take (i := 19) (oi := { dst := some 123, op := Op.binOp BinOp.add 3 (Operand.tmp 120) (Operand.tmp 122) 3, type := 3, pos := "parse.go:242", after := #[{ on := 16, ground := Ground.data }, { on := 18, ground := Ground.data }], guard := none }) (v := (.int .i64 (e : Int))) rfl (by kernel_rfl) (by kernel_rfl) (by kernel_rfl) (fun _ _ _ h => h) (Or.inl ⟨by rfl, ?_⟩) (by assumption) ?_
            · intro w hSw
              try dsimp only at hSw
              go_simp
            try simp only [Act.put, List.setIfInBounds_toArray, List.set_cons_zero, List.set_cons_succ]
            refine wpAnyH_take (i := 20) (oi := { dst := some 124, op := Op.slice 9 (Operand.tmp 112) (some (Operand.tmp 116)) (some (Operand.tmp 123)) none, type := 9, pos := "parse.go:242", after := #[{ on := 8, ground := Ground.data }, { on := 12, ground := Ground.data }, { on := 19, ground := Ground.data }], guard := none }) (v := (.string (s.extract q e))) rfl (by kernel_rfl) (by kernel_rfl) (by kernel_rfl) (fun _ _ _ h => h) (Or.inl ⟨by rfl, ?_⟩) (by assumption) ?_
            · intro w hSw
              try dsimp only at hSw
              go_simp
            try simp only [Act.put, List.setIfInBounds_toArray, List.set_cons_zero, List.set_cons_succ]
            refine wpAnyH_ready (rs := [4]) (by kernel_rfl) (by simp) ?_
            refine AllReadyH.cons (o := { dst := some 108, op := Op.load 75 (Operand.tmp 107), type := 75, pos := "parse.go:242", after := #[{ on := 3, ground := Ground.data }], guard := none }) rfl (fun K hK => ?_) AllReadyH.nil
            go_simp
            refine hK.out _ _ ?_ (fun hHeld => ?_)
            · first | exact ⟨d0, d1⟩ | exact ⟨k0, k1⟩ | exact ⟨m0, m1⟩
            clear hK K
            try simp only [Act.put, List.setIfInBounds_toArray, List.set_cons_zero, List.set_cons_succ]
            refine wpAnyH_ready (rs := [21]) (by kernel_rfl) (by simp) ?_
            refine AllReadyH.cons (o := { dst := some 125, op := Op.call { callee := Callee.builtin Builtin.append, args := #[Operand.tmp 108, Operand.tmp 124], argTypes := #[75, 9] }, type := 75, pos := "parse.go:242", after := #[{ on := 4, ground := Ground.data }, { on := 20, ground := Ground.data }], guard := none }) rfl (fun K hK => ?_) AllReadyH.nil
            refine step_appStr (by rfl) _ _ (by rfl) B0 (.slice ao B.length cap) B (by rfl) ?ho (s.extract q e) (by rfl) hbnd ?hb ?_
            case ho => exact HO3.out.below (Below.drew (Below.refl _ _))
            case hb => exact hSz3
            intro v4 w4 hO4 hG4
            obtain ⟨ao4, cap4, hv4⟩ := hO4.shape
            obtain ⟨N4, hN4⟩ : ∃ N, N = (B ++ (s.extract q e).data.toList).length := ⟨_, rfl⟩
            rw [← hN4] at hv4
            subst hv4
            clear hN4
            have hbp : w4.heap[p]? = w3.heap[p]? := hG4.block p hpl3 (fun h => by have := OwnsB.block HO3.out p h.symm; omega)
            have k0 : w4.cell? ⟨p, 0, none⟩ = some (.string s) := (World.cell?_of_block hbp).trans d0
            have k1 : w4.cell? ⟨p, 1, none⟩ = some (.int .i64 (q : Int)) := (World.cell?_of_block hbp).trans d1
            have hR4 : RdAt w4 p s q (.slice ao B.length cap) := HR3.out.same hbp
            have hR5 : RdAt (w4.setCell ⟨p, 2, none⟩ (.slice ao4 N4 cap4)) p s q (.slice ao4 N4 cap4) := hR4.store2 _
            have k2f : w4.frozen? ⟨p, 2, none⟩ = false := hR4.cells.2.2.2.2.2
            have k2c := hR4.cells.2.2.1
            have m0 := hR5.cells.1
            have m1 := hR5.cells.2.1
            refine hK.out _ _ ?_ (fun hHeld => ?_)
            · first | exact ⟨d0, d1⟩ | exact ⟨k0, k1⟩ | exact ⟨m0, m1⟩
            clear hK K
            try simp only [Act.put, List.setIfInBounds_toArray, List.set_cons_zero, List.set_cons_succ]
            refine wpAnyH_take (i := 22) (oi := { dst := some 126, op := Op.nilCheck (Operand.tmp 104), type := 0, pos := "parse.go:242", after := #[{ on := 0, ground := Ground.data }, { on := 0, ground := Ground.phase }, { on := 1, ground := Ground.phase }, { on := 2, ground := Ground.phase }, { on := 3, ground := Ground.phase }, { on := 4, ground := Ground.phase }, { on := 5, ground := Ground.phase }, { on := 6, ground := Ground.phase }, { on := 7, ground := Ground.phase }, { on := 8, ground := Ground.phase }, { on := 9, ground := Ground.phase }, { on := 10, ground := Ground.phase }, { on := 11, ground := Ground.phase }, { on := 12, ground := Ground.phase }, { on := 13, ground := Ground.phase }, { on := 14, ground := Ground.phase }, { on := 15, ground := Ground.phase }, { on := 16, ground := Ground.phase }, { on := 17, ground := Ground.phase }, { on := 18, ground := Ground.phase }, { on := 19, ground := Ground.phase }, { on := 20, ground := Ground.phase }, { on := 21, ground := Ground.phase }], guard := none }) (v := (.pointer (some ⟨p, 0, none⟩))) rfl (by kernel_rfl) (by kernel_rfl) (by kernel_rfl) (fun _ _ _ h => h) (Or.inl ⟨by rfl, ?_⟩) (by assumption) ?_
            · intro w hSw
              try dsimp only at hSw
              go_simp
            try simp only [Act.put, List.setIfInBounds_toArray, List.set_cons_zero, List.set_cons_succ]
            refine wpAnyH_take (i := 23) (oi := { dst := some 127, op := Op.fieldAddr 88 (Operand.tmp 126) 2, type := 0, pos := "parse.go:242", after := #[{ on := 22, ground := Ground.data }, { on := 0, ground := Ground.phase }, { on := 1, ground := Ground.phase }, { on := 2, ground := Ground.phase }, { on := 3, ground := Ground.phase }, { on := 4, ground := Ground.phase }, { on := 5, ground := Ground.phase }, { on := 6, ground := Ground.phase }, { on := 7, ground := Ground.phase }, { on := 8, ground := Ground.phase }, { on := 9, ground := Ground.phase }, { on := 10, ground := Ground.phase }, { on := 11, ground := Ground.phase }, { on := 12, ground := Ground.phase }, { on := 13, ground := Ground.phase }, { on := 14, ground := Ground.phase }, { on := 15, ground := Ground.phase }, { on := 16, ground := Ground.phase }, { on := 17, ground := Ground.phase }, { on := 18, ground := Ground.phase }, { on := 19, ground := Ground.phase }, { on := 20, ground := Ground.phase }, { on := 21, ground := Ground.phase }], guard := none }) (v := (.pointer (some ⟨p, 2, none⟩))) rfl (by kernel_rfl) (by kernel_rfl) (by kernel_rfl) (fun _ _ _ h => h) (Or.inl ⟨by rfl, ?_⟩) (by assumption) ?_
            · intro w hSw
              try dsimp only at hSw
              go_simp
            try simp only [Act.put, List.setIfInBounds_toArray, List.set_cons_zero, List.set_cons_succ]
            refine wpAnyH_ready (rs := [24]) (by kernel_rfl) (by simp) ?_
            refine AllReadyH.cons (o := { dst := none, op := Op.store 75 (Operand.tmp 127) (Operand.tmp 125), type := 0, pos := "parse.go:242", after := #[{ on := 23, ground := Ground.data }, { on := 21, ground := Ground.data }, { on := 21, ground := Ground.chain }, { on := 0, ground := Ground.phase }, { on := 1, ground := Ground.phase }, { on := 2, ground := Ground.phase }, { on := 3, ground := Ground.phase }, { on := 4, ground := Ground.phase }, { on := 5, ground := Ground.phase }, { on := 6, ground := Ground.phase }, { on := 7, ground := Ground.phase }, { on := 8, ground := Ground.phase }, { on := 9, ground := Ground.phase }, { on := 10, ground := Ground.phase }, { on := 11, ground := Ground.phase }, { on := 12, ground := Ground.phase }, { on := 13, ground := Ground.phase }, { on := 14, ground := Ground.phase }, { on := 15, ground := Ground.phase }, { on := 16, ground := Ground.phase }, { on := 17, ground := Ground.phase }, { on := 18, ground := Ground.phase }, { on := 19, ground := Ground.phase }, { on := 20, ground := Ground.phase }, { on := 21, ground := Ground.phase }], guard := none }) rfl (fun K hK => ?_) AllReadyH.nil
            go_simp
            refine hK.out _ _ ?_ (fun hHeld => ?_)
            · first | exact ⟨d0, d1⟩ | exact ⟨k0, k1⟩ | exact ⟨m0, m1⟩
            clear hK K
            try simp only [Act.put, List.setIfInBounds_toArray, List.set_cons_zero, List.set_cons_succ]
            refine wpAnyH_done (by kernel_rfl) ?_ _
            refine NoPanic.normal ?_
            obtain ⟨w5, hw5⟩ : ∃ w5, w5 = w4.setCell ⟨p, 2, none⟩ (.slice ao4 N4 cap4) := ⟨_, rfl⟩
            rw [← hw5] at hR5 ⊢
            have hsz5 : w5.heap.size = w4.heap.size := by rw [hw5]; simp [World.setCell]
            have hSz4 : B0 ≤ w4.heap.size := Nat.le_trans hSz3 hG4.size
            have HK5 : Hid (Kept p B0 w w5) := by
              rw [hw5]
              exact hid (((HK3.out.trans (Kept.of_below (Below.drew (Below.refl _ _)))).grown hG4 hSz3 (OwnsB.block HO3.out)).trans (Kept.store _ _ _))
            have HO5 : Hid (OwnsB w5 B0 (.slice ao4 N4 cap4) (B ++ (s.extract q e).data.toList)) := by
              rw [hw5]
              exact hid (hO4.kept (Kept.store _ _ _) hpl)
            obtain ⟨x0, x1, x2, y0, y1, y2⟩ := hR5.cells
            have HR5 := hid hR5
            have HR6 := hid (hR5.store1 (IntKind.i64.wrap ((q : Int) + (n : Int))) e hsum)
            have hSz5 : B0 ≤ w5.heap.size := by omega
            clear hw5 hR5 hG4 hO4 hbp k0 k1 hR4 k2f k2c m0 m1 HK3 HO3 HR3 d0 d1 d2 d2' f0 f1 f2 hHeld hSz4 hsz5
            have HEX : Hid ((s.extract q e).data.toList = (L.drop q).take n) := by
              unfold Hid
              rw [HSE.out, extract_list]
              have : e - q = n := by have := HE.out; omega
              rw [this]
            have heL : e ≤ L.length := by have := HSZ.out; omega
            have HEOL : Hid ((eolL (L.drop e) = (.error none) → T = (.error none)) ∧ (∀ s, eolL (L.drop e) = (.error (some s)) → T = (.error (some s))) ∧ (eolL (L.drop e) = (.ok ((), 2)) → Left T L at' (e + 2) (B ++ (s.extract q e).data.toList))) := by
              unfold Hid
              have hq1 := HQ.out
              have hq2 := HKJ.out
              have hq3 := HE.out
              have h := HL.out.eol HG.out HBIG.out (by omega)
              have e1 : ln + (j + 2) = q := by omega
              rw [e1, show q + n = e by omega] at h
              refine ⟨h.1, h.2.1, fun hh => ?_⟩
              rw [HEX.out]
              exact h.2.2.2 HN0.out hh
            have HME : Hid (RdM L p w1 = L.length + 1 - k ∧ k + 2 ≤ e) := by
              unfold Hid
              have hq1 := HQ.out
              have hq3 := HE.out
              exact ⟨HMU.out, by omega⟩
            obtain ⟨Y, hY⟩ : ∃ Y, Y = B ++ (s.extract q e).data.toList := ⟨_, rfl⟩
            rw [← hY] at HO5 HEOL
            clear hY HEX
            go_upto_block 25 with fail
            obtain ⟨w6, hw6⟩ : ∃ w6, w6 = w5.setCell ⟨p, 1, none⟩ (.int .i64 (e : Int)) := ⟨_, rfl⟩
            rw [← hw6]
            have hR6 : RdAt w6 p s e (.slice ao4 N4 cap4) := by rw [hw6]; exact HR5.out.store1 _ _ rfl
            have HK6 : Hid (Kept p B0 w w6) := by rw [hw6]; exact hid (HK5.out.trans (Kept.store _ _ _))
            have HO6 : Hid (OwnsB w6 B0 (.slice ao4 N4 cap4) Y) := by rw [hw6]; exact hid (HO5.out.kept (Kept.store _ _ _) hpl)
            have hSz6 : B0 ≤ w6.heap.size := by rw [hw6]; simpa [World.setCell] using hSz5
            have hP6 := HPE.out e _ w6 hR6 heL
            clear hw6 HR5 HK5 HO5 hR6 HR6 x0 x1 x2 y0 y1 y2 hSz5 hsum hnn hqe hes hesN HYS hbnd hpl3
            rcases eol_cases (L.drop e) with ⟨_, e6⟩ | ⟨_, _, e6⟩ | ⟨_, _, e6⟩
            · rw [e6] at hP6
              simp only [eolS, eolK] at hP6
              have HE6 := hid e6
              clear e6
              refine hP6.mono ?_
              clear hP6
              rintro e' w7 ⟨rfl, hR7, hK7⟩
              have HR7 := hid hR7
              have HK7 := hid (HK6.out.join hK7 hSz6)
              have HO7 := hid (HO6.out.kept hK7 hpl)
              have hSz7 : B0 ≤ w7.heap.size := Nat.le_trans hSz6 hK7.size
              have he2 : e + 2 ≤ L.length := by
                have := eolL_got HE6.out
                rw [List.length_drop] at this
                omega
              clear hR7 hK7 HK6 HO6
              go_wp2
              go_step3
              show lower (RdJ T L s at' p B0 w) (RdM L p) w1 0 _ _
              refine ⟨⟨e + 2, ln, n, 0, _, Y, ?_, HR7.out, HO7.out, HK7.out, hSz7, he2, ?_⟩, ?_⟩
              · exact ⟨rfl, rfl, rfl, rfl, rfl, rfl, rfl, rfl⟩
              · exact Or.inl ⟨rfl, HEOL.out.2.2 HE6.out⟩
              · show RdM L p w7 < RdM L p w1
                rw [RdM.at HR7.out, HME.out.1]
                have := HME.out.2
                omega
            · rw [e6] at hP6
              simp only [eolS, eolK] at hP6
              have HE6 := hid e6
              clear e6
              refine hP6.mono ?_
              clear hP6
              rintro e' w7 ⟨rfl, hR7, hK7⟩
              have HK7 := hid (HK6.out.join hK7 hSz6)
              clear hR7 hK7 HK6 HO6
              go_wp2
              rw [jumps_ret]
              go_ret
              refine ⟨_, rfl, ?_, HK7.out⟩
              rw [HEOL.out.1 HE6.out]
              rfl
            · rw [e6] at hP6
              simp only [eolS, eolK] at hP6
              have HE6 := hid e6
              clear e6
              refine hP6.mono ?_
              clear hP6
              rintro e' w7 ⟨rfl, hR7, hK7⟩
              have HK7 := hid (HK6.out.join hK7 hSz6)
              clear hR7 hK7 HK6 HO6
              go_wp2
              rw [jumps_ret]
              go_ret
              refine ⟨_, rfl, ?_, HK7.out⟩
              rw [HEOL.out.2.1 _ HE6.out]
              rfl
    · -- more
      rw [e3] at hP
      simp only [eolS, eolK] at hP
      have HE3 := hid e3
      clear e3
      go_wp2_with fail
      refine hP.mono ?_
      clear hP
      rintro e w2 ⟨rfl, hR2, hK2⟩
      have HK2 := hid (HK.out.join hK2 hSz)
      clear hR2 hK2 HK HO
      go_wp2
      rw [jumps_ret]
      go_ret
      refine ⟨_, rfl, ?_, HK2.out⟩
      have hss := HSS.out.1
      rw [List.drop_drop, ← HKJ.out, HE3.out] at hss
      rw [HL.out.more hss]
      rfl
    · -- bad
      rw [e3] at hP
      simp only [eolS, eolK] at hP
      have HE3 := hid e3
      clear e3
      go_wp2_with fail
      refine hP.mono ?_
      clear hP
      rintro e w2 ⟨rfl, hR2, hK2⟩
      have HK2 := hid (HK.out.join hK2 hSz)
      clear hR2 hK2 HK HO
      go_wp2
      rw [jumps_ret]
      go_ret
      refine ⟨_, rfl, ?_, HK2.out⟩
      have hss := HSS.out.1
      rw [List.drop_drop, ← HKJ.out, HE3.out] at hss
      rw [HL.out.bad hss]
      rfl
  · -- 3
    intro q2
    rintro a w1 ⟨k, ln, n, st, v, B, hF, hR, hO, hK, hSz, hkL, hSt⟩
    obtain ⟨U, hU⟩ := hF.open
    clear hF
    subst hU
    obtain ⟨hLf, j, hkj, hM⟩ : Left T L at' ln B ∧ ∃ j, k = ln + j ∧ AtM (L.drop ln) j n := by
      rcases hSt with ⟨h, _⟩ | ⟨h, _⟩ | ⟨h, _⟩ | ⟨_, h⟩ | ⟨h, _⟩
      all_goals first
        | (exact absurd h (by decide))
        | exact h
    have HMU := hid (RdM.at (L := L) hR)
    have hjl := hM.pos
    rw [List.length_drop] at hjl
    obtain ⟨k1, hk1⟩ : ∃ k1, k1 = k + 1 := ⟨_, rfl⟩
    obtain ⟨j1, hj1⟩ : ∃ j1, j1 = j + 1 := ⟨_, rfl⟩
    have hk1L : k1 ≤ L.length := by omega
    have hadd : (k : Int) + 1 = (k1 : Int) := by omega
    have hsub : (k1 : Int) - (ln : Int) = (j1 : Int) := by omega
    have hR2 : RdAt (w1.setCell ⟨p, 1, none⟩ (.int .i64 (k1 : Int))) p s k1 v := hR.store1 _ _ rfl
    have HK2 := hid (hK.trans (Kept.store (p := p) (B := B0) w1 1 (.int .i64 (k1 : Int))))
    have HO2 := hid (hO.kept (Kept.store (p := p) (B := w1.heap.size) w1 1 (.int .i64 (k1 : Int))) hpl)
    have hSz2 : B0 ≤ (w1.setCell ⟨p, 1, none⟩ (.int .i64 (k1 : Int))).heap.size := by simpa [World.setCell] using hSz
    obtain ⟨c0, c1, c2, g0, g1, g2⟩ := hR.cells
    obtain ⟨d0, d1, d2, f0, f1, f2⟩ := hR2.cells
    have hSee := sees_rm p s k1 v _ hR2 (by have := HSZ.out; omega) (by have := HSZ.out; omega)
    have hN := hM.next
    rw [List.drop_drop, show ln + (j + 1) = k1 by omega, ← hj1] at hN
    have hdl : s.data.toList = L := by rw [HSE.out]
    rw [hdl] at hSee
    have HN := hid hN
    have HKJ := hid (show k1 = ln + j1 by omega)
    have HL := hid hLf
    have HKM := hid (show k < k1 ∧ k1 ≤ L.length by omega)
    obtain ⟨w2, hw2⟩ : ∃ w2, w2 = w1.setCell ⟨p, 1, none⟩ (.int .i64 (k1 : Int)) := ⟨_, rfl⟩
    rw [← hw2] at hR2 HK2 HO2 hSz2 d0 d1 d2 f0 f1 f2 hSee
    have HW2 := hid hw2
    have HR2 := hid hR2
    clear hSt hLf hM hkj hR hO hK hk1 hj1 hN hdl hw2 hR2 hjl
    by_cases hlt : j1 < 1024
    · have f9 : decide ((j1 : Int) < 1024) = true := by simp; omega
      cases hb : seesB isRm (L.drop k1) with
      | true =>
        rw [hb] at hSee
        have HM2 := hid (HN.out.1 hb hlt)
        clear hlt hb HN
        go_upto_block 14 with fail
        rw [← HW2.out]
        go_wp2_with fail
        refine hSee.mono ?_
        clear hSee
        rintro e w3 ⟨rfl, nd, hw3⟩
        have HR3 : Hid (RdAt w3 p s k1 v) := by rw [hw3]; exact hid (HR2.out.drewN _)
        have HO3 : Hid (OwnsB w3 B0 v B) := by rw [hw3]; exact hid (HO2.out.below (below_drewN (Below.refl _ _) _))
        have HK3 : Hid (Kept p B0 w w3) := by rw [hw3]; exact hid (HK2.out.trans (Kept.of_below (below_drewN (Below.refl _ _) _)))
        have hSz3 : B0 ≤ w3.heap.size := by rw [hw3]; exact Nat.le_trans hSz2 (below_drewN (Below.refl w2.heap.size w2) nd).size
        clear hw3
        go_wp2
        go_step3
        show lower (RdJ T L s at' p B0 w) (RdM L p) w1 3 _ _
        refine ⟨⟨k1, ln, n, st, v, B, ?_, HR3.out, HO3.out, HK3.out, hSz3, hk1L, ?_⟩, ?_⟩
        · exact ⟨rfl, rfl, rfl, rfl, rfl, rfl, rfl, rfl⟩
        · exact Or.inr (Or.inr (Or.inr (Or.inl ⟨rfl, HL.out, j1, HKJ.out, HM2.out⟩)))
        · show RdM L p w3 < RdM L p w1
          rw [RdM.at HR3.out, HMU.out]
          have := HKM.out
          omega
      | false =>
        rw [hb] at hSee
        have HM2 := hid (HN.out.2 (Or.inl hb))
        clear hlt hb HN
        go_upto_block 14 with fail
        rw [← HW2.out]
        go_wp2_with fail
        refine hSee.mono ?_
        clear hSee
        rintro e w3 ⟨rfl, nd, hw3⟩
        have HR3 : Hid (RdAt w3 p s k1 v) := by rw [hw3]; exact hid (HR2.out.drewN _)
        have HO3 : Hid (OwnsB w3 B0 v B) := by rw [hw3]; exact hid (HO2.out.below (below_drewN (Below.refl _ _) _))
        have HK3 : Hid (Kept p B0 w w3) := by rw [hw3]; exact hid (HK2.out.trans (Kept.of_below (below_drewN (Below.refl _ _) _)))
        have hSz3 : B0 ≤ w3.heap.size := by rw [hw3]; exact Nat.le_trans hSz2 (below_drewN (Below.refl w2.heap.size w2) nd).size
        clear hw3
        go_wp2
        go_step3
        rename_i hKK
        refine hKK _ _ ?_
        refine wp_fall (q2 _ _ ⟨k1, ln, n, st, v, B, ⟨rfl, rfl, rfl, rfl, rfl, rfl, rfl, rfl⟩, HR3.out, HO3.out, HK3.out, hSz3, hk1L, Or.inr (Or.inr (Or.inl ⟨rfl, HL.out, j1, HKJ.out, HM2.out⟩))⟩) ?_
        rw [RdM.at HR3.out, HMU.out]
        have := HKM.out
        omega
    · have f9 : decide ((j1 : Int) < 1024) = false := by simp; omega
      have HM2 := hid (HN.out.2 (Or.inr hlt))
      clear hlt HN hSee
      go_upto_block 14 with fail
      rw [← HW2.out]
      go_wp2
      go_step3
      rename_i hKK
      refine hKK _ _ ?_
      refine wp_fall (q2 _ _ ⟨k1, ln, n, st, v, B, ⟨rfl, rfl, rfl, rfl, rfl, rfl, rfl, rfl⟩, HR2.out, HO2.out, HK2.out, hSz2, hk1L, Or.inr (Or.inr (Or.inl ⟨rfl, HL.out, j1, HKJ.out, HM2.out⟩))⟩) ?_
      rw [RdM.at HR2.out, HMU.out]
      have := HKM.out
      omega
  · -- 1
    intro q3
    rintro a w1 ⟨k, ln, n, st, v, B, hF, hR, hO, hK, hSz, hkL, hSt⟩
    obtain ⟨U, hU⟩ := hF.open
    clear hF
    subst hU
    obtain ⟨hLf, j, hkj, hD⟩ : Left T L at' ln B ∧ ∃ j, k = ln + j ∧ AtD (L.drop ln) j n := by
      rcases hSt with ⟨h, _⟩ | ⟨_, h⟩ | ⟨h, _⟩ | ⟨h, _⟩ | ⟨h, _⟩
      all_goals first
        | (exact absurd h (by decide))
        | exact h
    have HMU := hid (RdM.at (L := L) hR)
    obtain ⟨b, r, hbr, hxb, hlim, hn28⟩ := hD.byte
    have hN := hD.next hbr
    rw [List.drop_drop, ← hkj] at hbr
    have hdl : s.data.toList = L := by rw [HSE.out]
    have hkl : k < s.size := by
      have := congrArg List.length hbr
      rw [List.length_drop, List.length_cons] at this
      have := HSZ.out
      omega
    have hsb : s[k] = b := by
      have := drop_byte s k hkl
      rw [hdl, hbr] at this
      injection this with h1 _
      exact h1.symm
    have i1 := index_byte s .i64 (k : Int) k rfl hkl
    rw [hsb] at i1
    have hDg := fun w => digitOf_any b w hxb
    obtain ⟨c0, c1, c2, g0, g1, g2⟩ := hR.cells
    have hdr := hexD_range b
    have hd0 : 0 ≤ hexD b := of_decide_eq_true hxb
    obtain ⟨dg, hdg⟩ : ∃ dg : Nat, (hexD b) = (dg : Int) := ⟨(hexD b).toNat, by omega⟩
    have hdgN : (hexD b).toNat = dg := by omega
    rw [hdgN] at hlim hN
    rw [hdg] at hDg
    have hd16 : dg < 16 := by omega
    have HL := hid hLf
    have HR := hid hR
    have HO := hid hO
    have HK := hid hK
    have HN := hid hN
    have HKJ := hid hkj
    have HDL := hid hdl
    clear hSt hLf hR hO hK hN hkj hdl hsb hbr hD hdr hd0 hdg hdgN
    go_wp2_with fail
    go_quiet ((go_at_call 71; refine Calls.quiet_of_same ((hDg _).mono fun _ _ h => ⟨h.1, h.2.symm⟩)))
    rw [u32_or16 n dg hn28 hd16]
    obtain ⟨n1, hn1⟩ : ∃ n1, n1 = 16 * n + dg := ⟨_, rfl⟩
    rw [← hn1] at hlim HN ⊢
    obtain ⟨w2, hw2⟩ : ∃ w2, w2 = w1.drewN nq := ⟨_, rfl⟩
    rw [← hw2]
    have hR2 : RdAt w2 p s k v := by rw [hw2]; exact HR.out.drewN _
    have hO2 : OwnsB w2 B0 v B := by rw [hw2]; exact (HO.out.below (below_drewN (Below.refl _ _) _))
    have hK2 : Kept p B0 w w2 := by rw [hw2]; exact (HK.out.trans (Kept.of_below (below_drewN (Below.refl _ _) _)))
    have hSz2 : B0 ≤ w2.heap.size := by rw [hw2]; exact Nat.le_trans hSz (below_drewN (Below.refl w1.heap.size w1) nq).size
    obtain ⟨k1, hk1⟩ : ∃ k1, k1 = k + 1 := ⟨_, rfl⟩
    obtain ⟨j1, hj1⟩ : ∃ j1, j1 = j + 1 := ⟨_, rfl⟩
    have hkj := HKJ.out
    have hk1L : k1 ≤ L.length := by have := HSZ.out; omega
    have hadd : (k : Int) + 1 = (k1 : Int) := by omega
    have hsub : (k1 : Int) - (ln : Int) = (j1 : Int) := by omega
    have hR3 : RdAt (w2.setCell ⟨p, 1, none⟩ (.int .i64 (k1 : Int))) p s k1 v := hR2.store1 _ _ rfl
    have HK3 := hid (hK2.trans (Kept.store (p := p) (B := B0) w2 1 (.int .i64 (k1 : Int))))
    have HO3 := hid (hO2.kept (Kept.store (p := p) (B := w2.heap.size) w2 1 (.int .i64 (k1 : Int))) hpl)
    have hSz3 : B0 ≤ (w2.setCell ⟨p, 1, none⟩ (.int .i64 (k1 : Int))).heap.size := by simpa [World.setCell] using hSz2
    clear c0 c1 c2 g0 g1 g2
    obtain ⟨c0, c1, c2, g0, g1, g2⟩ := hR2.cells
    obtain ⟨d0, d1, d2, f0, f1, f2⟩ := hR3.cells
    have hN := HN.out
    rw [List.drop_drop, show ln + (j + 1) = k1 by omega, ← hj1] at hN
    have HNN := hid (show (seesB isHx (L.drop k1) = true → j1 < 8 → AtD (L.drop ln) j1 n1) ∧ ((seesB isHx (L.drop k1) = false ∨ ¬ j1 < 8) → seesB isMk (L.drop k1) = true → AtM (L.drop ln) j1 n1) ∧ ((seesB isHx (L.drop k1) = false ∨ ¬ j1 < 8) → seesB isMk (L.drop k1) = false → AtS (L.drop ln) j1 n1) by rw [hN.1]; exact hN.2)
    have HKJ1 := hid (show k1 = ln + j1 by omega)
    have HKM := hid (show k < k1 ∧ k1 ≤ L.length by omega)
    obtain ⟨w3, hw3⟩ : ∃ w3, w3 = w2.setCell ⟨p, 1, none⟩ (.int .i64 (k1 : Int)) := ⟨_, rfl⟩
    rw [← hw3] at hR3 HK3 HO3 hSz3 d0 d1 d2 f0 f1 f2
    have HW3 := hid hw3
    have HR3 := hid hR3
    have hSee := sees_hx p s k1 v w3 hR3 (by have := HSZ.out; omega) (by have := HSZ.out; omega)
    rw [HDL.out] at hSee
    have HMk := hid (fun (w4 : World) (h : RdAt w4 p s k1 v) => sees_mk p s k1 v w4 h (by have := HSZ.out; omega) (by have := HSZ.out; omega))
    rw [HDL.out] at HMk
    have HN1 := hid hn1
    clear hw2 hw3 hR2 hO2 hK2 HR HO HK HN hN hR3 hk1 hj1 hkj HKJ hn1 hlim hn28 hd16 i1 hDg hkl hSz2
    by_cases hlt : j1 < 8
    · have f9 : decide ((j1 : Int) < 8) = true := by simp; omega
      cases hb : seesB isHx (L.drop k1) with
      | true =>
        rw [hb] at hSee
        have HD2 := hid (HNN.out.1 hb hlt)
        clear hlt hb HNN
        go_upto_block 11 with fail
        rw [← HW3.out]
        go_wp2_with fail
        refine hSee.mono ?_
        clear hSee
        rintro e w4 ⟨rfl, nd, hw4⟩
        have HR4 : Hid (RdAt w4 p s k1 v) := by rw [hw4]; exact hid (HR3.out.drewN _)
        have HO4 : Hid (OwnsB w4 B0 v B) := by rw [hw4]; exact hid (HO3.out.below (below_drewN (Below.refl _ _) _))
        have HK4 : Hid (Kept p B0 w w4) := by rw [hw4]; exact hid (HK3.out.trans (Kept.of_below (below_drewN (Below.refl _ _) _)))
        have hSz4 : B0 ≤ w4.heap.size := by rw [hw4]; exact Nat.le_trans hSz3 (below_drewN (Below.refl w3.heap.size w3) nd).size
        clear hw4
        go_wp2
        go_step3
        show lower (RdJ T L s at' p B0 w) (RdM L p) w1 1 _ _
        refine ⟨⟨k1, ln, n1, st, v, B, ?_, HR4.out, HO4.out, HK4.out, hSz4, hk1L, ?_⟩, ?_⟩
        · exact ⟨rfl, rfl, rfl, rfl, rfl, rfl, rfl, rfl⟩
        · exact Or.inr (Or.inl ⟨rfl, HL.out, j1, HKJ1.out, HD2.out⟩)
        · show RdM L p w4 < RdM L p w1
          rw [RdM.at HR4.out, HMU.out]
          have := HKM.out
          omega
      | false =>
        rw [hb] at hSee
        have HD2 := hid (HNN.out.2.1 (Or.inl hb))
        have HD3 := hid (HNN.out.2.2 (Or.inl hb))
        clear hlt hb HNN
        go_upto_block 11 with fail
        rw [← HW3.out]
        go_wp2_with fail
        refine hSee.mono ?_
        clear hSee
        rintro e w4 ⟨rfl, nd, hw4⟩
        have HR4 : Hid (RdAt w4 p s k1 v) := by rw [hw4]; exact hid (HR3.out.drewN _)
        have HO4 : Hid (OwnsB w4 B0 v B) := by rw [hw4]; exact hid (HO3.out.below (below_drewN (Below.refl _ _) _))
        have HK4 : Hid (Kept p B0 w w4) := by rw [hw4]; exact hid (HK3.out.trans (Kept.of_below (below_drewN (Below.refl _ _) _)))
        have hSz4 : B0 ≤ w4.heap.size := by rw [hw4]; exact Nat.le_trans hSz3 (below_drewN (Below.refl w3.heap.size w3) nd).size
        clear hw4
        have hMk := HMk.out w4 HR4.out
        clear HMk
        cases hm : seesB isMk (L.drop k1) with
        | true =>
          rw [hm] at hMk
          have HD4 := hid (HD2.out hm)
          clear hm HD2 HD3
          go_wp2_with fail
          refine hMk.mono ?_
          clear hMk
          rintro e w5 ⟨rfl, nd5, hw5⟩
          have HR5 : Hid (RdAt w5 p s k1 v) := by rw [hw5]; exact hid (HR4.out.drewN _)
          have HO5 : Hid (OwnsB w5 B0 v B) := by rw [hw5]; exact hid (HO4.out.below (below_drewN (Below.refl _ _) _))
          have HK5 : Hid (Kept p B0 w w5) := by rw [hw5]; exact hid (HK4.out.trans (Kept.of_below (below_drewN (Below.refl _ _) _)))
          have hSz5 : B0 ≤ w5.heap.size := by rw [hw5]; exact Nat.le_trans hSz4 (below_drewN (Below.refl w4.heap.size w4) nd5).size
          clear hw5
          go_wp2
          go_step3
          rename_i hKK
          refine hKK _ _ ?_
          refine wp_fall (q3 _ _ ⟨k1, ln, n1, st, v, B, ⟨rfl, rfl, rfl, rfl, rfl, rfl, rfl, rfl⟩, HR5.out, HO5.out, HK5.out, hSz5, hk1L, Or.inr (Or.inr (Or.inr (Or.inl ⟨rfl, HL.out, j1, HKJ1.out, HD4.out⟩)))⟩) ?_
          rw [RdM.at HR5.out, HMU.out]
          have := HKM.out
          omega
        | false =>
          rw [hm] at hMk
          have HD4 := hid (HD3.out hm)
          clear hm HD2 HD3
          go_wp2_with fail
          refine hMk.mono ?_
          clear hMk
          rintro e w5 ⟨rfl, nd5, hw5⟩
          have HR5 : Hid (RdAt w5 p s k1 v) := by rw [hw5]; exact hid (HR4.out.drewN _)
          have HO5 : Hid (OwnsB w5 B0 v B) := by rw [hw5]; exact hid (HO4.out.below (below_drewN (Below.refl _ _) _))
          have HK5 : Hid (Kept p B0 w w5) := by rw [hw5]; exact hid (HK4.out.trans (Kept.of_below (below_drewN (Below.refl _ _) _)))
          have hSz5 : B0 ≤ w5.heap.size := by rw [hw5]; exact Nat.le_trans hSz4 (below_drewN (Below.refl w4.heap.size w4) nd5).size
          clear hw5
          go_wp2
          go_step3
          show lower (RdJ T L s at' p B0 w) (RdM L p) w1 2 _ _
          refine ⟨⟨k1, ln, n1, st, v, B, ?_, HR5.out, HO5.out, HK5.out, hSz5, hk1L, ?_⟩, ?_⟩
          · exact ⟨rfl, rfl, rfl, rfl, rfl, rfl, rfl, rfl⟩
          · exact Or.inr (Or.inr (Or.inl ⟨rfl, HL.out, j1, HKJ1.out, HD4.out⟩))
          · show RdM L p w5 < RdM L p w1
            rw [RdM.at HR5.out, HMU.out]
            have := HKM.out
            omega
    · have f9 : decide ((j1 : Int) < 8) = false := by simp; omega
      have HD2 := hid (HNN.out.2.1 (Or.inr hlt))
      have HD3 := hid (HNN.out.2.2 (Or.inr hlt))
      clear hlt HNN hSee
      go_upto_block 11 with fail
      rw [← HW3.out]
      obtain ⟨w4, hw4⟩ : ∃ w4, w4 = w3 := ⟨_, rfl⟩
      rw [← hw4]
      have HR4 : Hid (RdAt w4 p s k1 v) := by rw [hw4]; exact HR3
      have HO4 : Hid (OwnsB w4 B0 v B) := by rw [hw4]; exact HO3
      have HK4 : Hid (Kept p B0 w w4) := by rw [hw4]; exact HK3
      have hSz4 : B0 ≤ w4.heap.size := by rw [hw4]; exact hSz3
      obtain ⟨d0', d1', d2', f0', f1', f2'⟩ := HR4.out.cells
      clear HW3 hw4 d0 d1 d2 f0 f1 f2
      have hMk := HMk.out w4 HR4.out
      clear HMk
      cases hm : seesB isMk (L.drop k1) with
      | true =>
        rw [hm] at hMk
        have HD4 := hid (HD2.out hm)
        clear hm HD2 HD3
        go_wp2_with fail
        refine hMk.mono ?_
        clear hMk
        rintro e w5 ⟨rfl, nd5, hw5⟩
        have HR5 : Hid (RdAt w5 p s k1 v) := by rw [hw5]; exact hid (HR4.out.drewN _)
        have HO5 : Hid (OwnsB w5 B0 v B) := by rw [hw5]; exact hid (HO4.out.below (below_drewN (Below.refl _ _) _))
        have HK5 : Hid (Kept p B0 w w5) := by rw [hw5]; exact hid (HK4.out.trans (Kept.of_below (below_drewN (Below.refl _ _) _)))
        have hSz5 : B0 ≤ w5.heap.size := by rw [hw5]; exact Nat.le_trans hSz4 (below_drewN (Below.refl w4.heap.size w4) nd5).size
        clear hw5
        go_wp2
        go_step3
        rename_i hKK
        refine hKK _ _ ?_
        refine wp_fall (q3 _ _ ⟨k1, ln, n1, st, v, B, ⟨rfl, rfl, rfl, rfl, rfl, rfl, rfl, rfl⟩, HR5.out, HO5.out, HK5.out, hSz5, hk1L, Or.inr (Or.inr (Or.inr (Or.inl ⟨rfl, HL.out, j1, HKJ1.out, HD4.out⟩)))⟩) ?_
        rw [RdM.at HR5.out, HMU.out]
        have := HKM.out
        omega
      | false =>
        rw [hm] at hMk
        have HD4 := hid (HD3.out hm)
        clear hm HD2 HD3
        go_wp2_with fail
        refine hMk.mono ?_
        clear hMk
        rintro e w5 ⟨rfl, nd5, hw5⟩
        have HR5 : Hid (RdAt w5 p s k1 v) := by rw [hw5]; exact hid (HR4.out.drewN _)
        have HO5 : Hid (OwnsB w5 B0 v B) := by rw [hw5]; exact hid (HO4.out.below (below_drewN (Below.refl _ _) _))
        have HK5 : Hid (Kept p B0 w w5) := by rw [hw5]; exact hid (HK4.out.trans (Kept.of_below (below_drewN (Below.refl _ _) _)))
        have hSz5 : B0 ≤ w5.heap.size := by rw [hw5]; exact Nat.le_trans hSz4 (below_drewN (Below.refl w4.heap.size w4) nd5).size
        clear hw5
        go_wp2
        go_step3
        show lower (RdJ T L s at' p B0 w) (RdM L p) w1 2 _ _
        refine ⟨⟨k1, ln, n1, st, v, B, ?_, HR5.out, HO5.out, HK5.out, hSz5, hk1L, ?_⟩, ?_⟩
        · exact ⟨rfl, rfl, rfl, rfl, rfl, rfl, rfl, rfl⟩
        · exact Or.inr (Or.inr (Or.inl ⟨rfl, HL.out, j1, HKJ1.out, HD4.out⟩))
        · show RdM L p w5 < RdM L p w1
          rw [RdM.at HR5.out, HMU.out]
          have := HKM.out
          omega
  · -- 0
    intro q1
    rintro a w1 ⟨k, ln, n, st, v, B, hF, hR, hO, hK, hSz, hkL, hSt⟩
    obtain ⟨U, hU⟩ := hF.open
    clear hF
    subst hU
    have hLf : Left T L at' k B := by
      rcases hSt with ⟨_, h⟩ | ⟨h, _⟩ | ⟨h, _⟩ | ⟨h, _⟩ | ⟨h, _⟩
      all_goals first
        | (exact absurd h (by decide))
        | exact h
    have HMU := hid (RdM.at (L := L) hR)
    obtain ⟨c0, c1, c2, g0, g1, g2⟩ := hR.cells
    have HL := hid hLf
    have HR := hid hR
    have HO := hid hO
    have HK := hid hK
    have hdl : s.data.toList = L := by rw [HSE.out]
    have HDL := hid hdl
    clear hSt hLf hR hO hK hdl
    by_cases hend : k = s.size
    · have f9 : ((k : Int) == (s.size : Int)) = true := by rw [beq_iff_eq]; omega
      have f8 : (k == s.size) = true := by rw [beq_iff_eq]; exact hend
      have HEND : Hid (T = (.error none)) := by
        refine hid (HL.out.more ?_)
        rw [List.drop_eq_nil_of_le (by have := HSZ.out; omega)]
        rfl
      clear hend
      go_wp2_with fail
      go_quiet (fail)
      go_wp2
      rw [jumps_ret]
      go_ret
      refine ⟨_, rfl, ?_, HK.out.trans (Kept.of_below (below_drewN (Below.refl _ _) _))⟩
      rw [HEND.out]
      rfl
    · have f9 : ((k : Int) == (s.size : Int)) = false := by rw [beq_eq_false_iff_ne]; omega
      have f8 : (k == s.size) = false := by rw [beq_eq_false_iff_ne]; exact hend
      have HNE := hid hend
      clear hend
      go_wp2_with fail
      go_quiet (fail)
      go_wp2_with fail
      obtain ⟨w2, hw2⟩ : ∃ w2, w2 = w1.drewN nq := ⟨_, rfl⟩
      rw [← hw2]
      have hR2 : RdAt w2 p s k v := by rw [hw2]; exact HR.out.drewN _
      have HO2 : Hid (OwnsB w2 B0 v B) := by rw [hw2]; exact hid (HO.out.below (below_drewN (Below.refl _ _) _))
      have HK2 : Hid (Kept p B0 w w2) := by rw [hw2]; exact hid (HK.out.trans (Kept.of_below (below_drewN (Below.refl _ _) _)))
      have hSz2 : B0 ≤ w2.heap.size := by rw [hw2]; exact Nat.le_trans hSz (below_drewN (Below.refl w1.heap.size w1) nq).size
      have hSee := sees_hx p s k v w2 hR2 (by have := HSZ.out; omega) (by have := HSZ.out; omega)
      rw [HDL.out] at hSee
      have HR2 := hid hR2
      clear hw2 hR2 HR HO HK
      cases hb : seesB isHx (L.drop k) with
      | true =>
        rw [hb] at hSee
        have HB := hid hb
        clear hb
        refine hSee.mono ?_
        clear hSee
        rintro e w3 ⟨rfl, nd, hw3⟩
        have HR3 : Hid (RdAt w3 p s k v) := by rw [hw3]; exact hid (HR2.out.drewN _)
        have HO3 : Hid (OwnsB w3 B0 v B) := by rw [hw3]; exact hid (HO2.out.below (below_drewN (Below.refl _ _) _))
        have HK3 : Hid (Kept p B0 w w3) := by rw [hw3]; exact hid (HK2.out.trans (Kept.of_below (below_drewN (Below.refl _ _) _)))
        have hSz3 : B0 ≤ w3.heap.size := by rw [hw3]; exact Nat.le_trans hSz2 (below_drewN (Below.refl w2.heap.size w2) nd).size
        clear hw3
        go_wp2
        go_step3
        rename_i hKK
        refine hKK _ _ ?_
        refine wp_fall (q1 _ _ ⟨k, k, 0, st, v, B, ⟨rfl, rfl, rfl, rfl, rfl, rfl, rfl, rfl⟩, HR3.out, HO3.out, HK3.out, hSz3, hkL, Or.inr (Or.inl ⟨rfl, HL.out, 0, rfl, AtD.start HB.out⟩)⟩) ?_
        rw [RdM.at HR3.out, HMU.out]
        omega
      | false =>
        rw [hb] at hSee
        have HB : Hid (T = (.error (some 400))) := by
          refine hid (HL.out.bad (size_wrong hb ?_))
          intro e
          have := congrArg List.length e
          rw [List.length_drop, List.length_nil] at this
          have := HSZ.out
          have := HNE.out
          omega
        clear hb
        refine hSee.mono ?_
        clear hSee
        rintro e w3 ⟨rfl, nd, hw3⟩
        have HK3 : Hid (Kept p B0 w w3) := by rw [hw3]; exact hid (HK2.out.trans (Kept.of_below (below_drewN (Below.refl _ _) _)))
        clear hw3
        go_wp2
        rw [jumps_ret]
        go_ret
        refine ⟨_, rfl, ?_, HK3.out⟩
        rw [HB.out]
        rfl
  · -- f
    intro q0
    go_wp2
    go_step3
    rename_i hKK
    refine hKK _ _ ?_
    refine wp_into (q0 _ _ ⟨at', 0, 0, 0, v0, [], ⟨rfl, rfl, rfl, rfl, rfl, rfl, rfl, rfl⟩, HH0.out, HO0.out, Kept.refl _ _ _, by rw [HB0.out]; exact Nat.le_refl _, hat, Or.inl ⟨rfl, HT.out⟩⟩)
end Go.Proofs.YtllhibdjopfcnaaGreatDoor
