/-
  Target of the document.
-/
import Derived.Test.YtllhibdjopfcnaaGreatDoorZForm
import Derived.Test.YtllhibdjopfcnaaGreatDoorZRForm
namespace Go.Proofs.YtllhibdjopfcnaaGreatDoor
open Go.RowKit
set_option linter.unusedVariables false

/-- The place of the first '?' from a place on, or the end. -/
structure QAt (L : List UInt8) (from' k : Nat) : Prop where
  le : k ≤ L.length
  from_le : from' ≤ k
  no : ∀ j, from' ≤ j → j < k → L.getD j 0 ≠ 63
  is : k = L.length ∨ L.getD k 0 = 63
theorem QAt.cut {L : List UInt8} {k : Nat} (h : QAt L 0 k) : (k = L.length ∧ cutC 63 L = (L, [], false)) ∨ (k < L.length ∧ cutC 63 L = (L.take k, L.drop (k + 1), true)) := by
  have hno := take_cut (c := 63) h.le (fun j hj => h.no j (by omega) hj)
  by_cases hk : k = L.length
  · left
    rw [hk, List.take_of_length_le (Nat.le_refl _)] at hno
    exact ⟨hk, cutC_none hno⟩
  · right
    have hlt : k < L.length := by have := h.le; omega
    refine ⟨hlt, ?_⟩
    have h63 : L[k] = 63 := by
      rcases h.is with e | e
      · exact absurd e hk
      · simp only [List.getD, List.getElem?_eq_getElem hlt, Option.getD_some] at e
        exact e
    have e := List.take_append_drop k L
    rw [List.drop_eq_getElem_cons hlt, h63] at e
    have := cutC_app (c := 63) (l := L.take k) (L.drop (k + 1)) hno
    rw [e] at this
    exact this
theorem head_of {L : List UInt8} (h : 0 < L.length) : (L.head? = some 47) ↔ L.getD 0 0 = 47 := by
  cases L with
  | nil => simp at h
  | cons b r => simp

set_option maxRecDepth 20000 in
set_option maxHeartbeats 4000000 in
theorem rtarget_any (l : List UInt8) (w : World) (hs : l.length ≤ 9223372036854775807) :
    Calls Tryz.prog 29 #[.string ⟨l.toArray⟩] w fun e w' => ∃ v', e = .returned (.tuple #[.string ⟨(tgt l).path.toArray⟩, v', .int .i64 (tgt l).err, .int .i64 ((tgt l).at' : Int)]) ∧ OwnsP w' w.heap.size v' (tgt l).query ∧ Below w.heap.size w w' := by
  obtain ⟨s, hse⟩ : ∃ s : ByteArray, s = ⟨l.toArray⟩ := ⟨_, rfl⟩
  have hsz : s.size = l.length := by rw [hse, size_list]
  have hsl : s.data.toList = l := by rw [hse]
  obtain ⟨T, hT⟩ : ∃ T, T = tgt l := ⟨_, rfl⟩
  rw [← hT]
  by_cases hlong : 1024 < l.length
  · have hl' : (1024 : Int) < (s.size : Int) := by omega
    rw [tgt, if_pos hlong] at hT
    rw [hT, ← hse]
    clear hT hse hsz hsl
    go_enter Tryz.func29, Tryz.ntmps29
    go_wp2
    (try simp only [Exit.inBlock, Exit.then])
    refine bodyPost_ret (results_tmp4 rfl _ _ _) rfl ?_
    exact ⟨_, rfl, OwnsP.nil _ _, Below.refl _ _⟩
  have hl' : ¬ (1024 : Int) < (s.size : Int) := by omega
  rw [tgt, if_neg hlong] at hT
  rw [← hse]
  by_cases hemp : l.length = 0
  · have he : l = [] := List.eq_nil_of_length_eq_zero hemp
    subst he
    have hv : standsV ([] : List UInt8) = some 0 := by rw [standsV, if_neg (by simp)]
    rw [hv] at hT
    simp only at hT
    rw [hT, hse]
    clear hT hse hsl hv
    go_enter Tryz.func29, Tryz.ntmps29
    go_wp2
    (try simp only [Exit.inBlock, Exit.then])
    refine bodyPost_ret (results_tmp4 rfl _ _ _) rfl ?_
    exact ⟨_, rfl, OwnsP.nil _ _, Below.refl _ _⟩
  have h0s : 0 < s.size := by omega
  have h0 : (0 : Int) < (s.size : Int) := by omega
  have i0 := index_byte s .i64 0 0 rfl h0s
  have hs0 : l.getD 0 0 = s[0] := by rw [← hsl]; exact getD_str s 0 h0s
  have hns0 : ¬ s.toList = [] := by
    rw [ByteArray.toList_eq, hsl]
    intro e
    rw [e] at hemp
    simp at hemp
  have hns : s.toList.isEmpty = false := by
    cases h : s.toList with
    | nil => exact absurd h hns0
    | cons b r => rfl
  by_cases h47 : s[0] = 47
  · have hb0 : ((((s[0]).toNat : Nat) : Int) != 47) = false := by rw [h47]; rfl
    have hhead : l.head? = some 47 := (head_of (by omega)).2 (by rw [hs0]; exact h47)
    have HV := hid (show standsV l = firstBad l by rw [standsV, if_pos hhead])
    have HT := hid hT
    have HSL := hid hsl
    have HSE := hid hse
    have HSZ := hid hsz
    have hlen : l.length ≤ 1024 := by omega
    obtain ⟨b0, hb0e⟩ : ∃ b, b = s[0] := ⟨_, rfl⟩
    rw [← hb0e] at i0 hb0
    clear hT hsl hse hsz h47 hs0 hhead hemp hlong hb0e
    go_enter Tryz.func29, Tryz.ntmps29
    go_wp2_with fail
    go_loop [6, 7] (fun k i => ∃ (m n : Nat), m ≤ l.length ∧ i = .int .i64 ((m : Int) - 1) ∧ k = .int .i64 (n : Int) ∧ QAt l m n) (fun _ i => (intOf i + 1).toNat)
    case atStart =>
      have hsz := HSZ.out
      refine ⟨l.length, l.length, Nat.le_refl _, ?_, by rw [hsz], ⟨Nat.le_refl _, Nat.le_refl _, fun j h1 h2 => by omega, Or.inl rfl⟩⟩
      first | (rw [hsz]; done) | (rw [hsz]; congr 1; omega)
    case round =>
      obtain ⟨m, k, hm, rfl, rfl, hQ⟩ := hrel
      have hsz := HSZ.out
      have HQ := hid hQ
      have hkl := hQ.le
      clear hQ
      by_cases hm0 : 0 < m
      · obtain ⟨j, rfl⟩ : ∃ j, m = j + 1 := ⟨m - 1, by omega⟩
        have hi : ((j + 1 : Nat) : Int) - 1 = (j : Int) := by omega
        rw [hi]
        have hj0 : (0 : Int) ≤ (j : Int) := by omega
        have hjs : j < s.size := by omega
        have hjs' : (j : Int) < (s.size : Int) := by omega
        have i1 := index_byte s .i64 (j : Int) j rfl hjs
        have hg : l.getD j 0 = s[j] := by rw [← HSL.out]; exact getD_str s j hjs
        by_cases h63 : s[j] = 63
        · have hb : ((((s[j]).toNat : Nat) : Int) == 63) = true := by rw [h63]; rfl
          have HN := hid (show QAt l j j from ⟨by omega, Nat.le_refl _, fun i g1 g2 => by omega, Or.inr (by rw [hg]; exact h63)⟩)
          obtain ⟨b, hbe⟩ : ∃ b, b = s[j] := ⟨_, rfl⟩
          rw [← hbe] at i1 hb
          clear hg h63 HQ hsz hbe hi
          go_wp2
          go_round
          case rel => exact ⟨j, j, by omega, by go_num, rfl, HN.out⟩
          case measure => simp [intOf]
        · have hb : ((((s[j]).toNat : Nat) : Int) == 63) = false := by
            rw [beq_eq_false_iff_ne]
            intro e
            apply h63
            have := byte_eq (b := s[j]) (n := 63) (by omega)
            simpa using this
          have HN : Hid (QAt l j k) := by
            obtain ⟨q1, q2, q3, q4⟩ := HQ.out
            refine hid ⟨q1, by omega, fun i g1 g2 => ?_, q4⟩
            by_cases hij : i = j
            · subst hij; rw [hg]; exact h63
            · exact q3 i (by omega) g2
          obtain ⟨b, hbe⟩ : ∃ b, b = s[j] := ⟨_, rfl⟩
          rw [← hbe] at i1 hb
          clear hg h63 HQ hsz hbe hi
          go_wp2
          go_round
          case rel => exact ⟨j, k, by omega, by go_num, rfl, HN.out⟩
          case measure => simp [intOf]
      · have hm' : m = 0 := by omega
        subst hm'
        have hj0 : ¬ (0 : Int) ≤ (((0 : Nat) : Int) - 1) := by omega
        obtain ⟨M1, hM1⟩ : ∃ x : Int, x = (((0 : Nat) : Int) - 1) := ⟨_, rfl⟩
        rw [← hM1] at hj0 ⊢
        clear hM1 hm0 hm
        go_wp2_with fail
        go_loop [8] (fun i => ∃ (j : Nat), j ≤ l.length ∧ i = .int .i64 (j : Int) ∧ ∀ n, n < j → ¬ badB (l.getD n 0)) (fun i => l.length - (intOf i).toNat)
        case atStart => exact ⟨0, Nat.zero_le _, rfl, fun n hn => by omega⟩
        case round =>
          obtain ⟨j, hj, rfl, hno⟩ := hrel
          have HNo := hid hno
          clear hno
          by_cases hlt : j < l.length
          · have hjs : j < s.size := by omega
            have hjs' : (j : Int) < (s.size : Int) := by omega
            have i1 := index_byte s .i64 (j : Int) j rfl hjs
            have hg : l.getD j 0 = s[j] := by rw [← HSL.out]; exact getD_str s j hjs
            have hge : l[j] = s[j] := by
              rw [← hg]
              simp [List.getD, hlt]
            have HB : Hid (badB s[j] → T = ⟨[], [], 60, j⟩) := by
              unfold Hid
              intro hb
              have hv := HV.out
              rw [firstBad_at l j hlt HNo.out (by rw [hge]; exact hb)] at hv
              have hT := HT.out
              rw [hv] at hT
              exact hT
            have HG : Hid (¬ badB s[j] → ∀ n, n < j + 1 → ¬ badB (l.getD n 0)) := by
              unfold Hid
              intro hb n hn
              by_cases hnj : n = j
              · subst hnj; rw [hg]; exact hb
              · exact HNo.out n (by omega)
            obtain ⟨b, hbe⟩ : ∃ b, b = s[j] := ⟨_, rfl⟩
            rw [← hbe] at i1 HB HG
            have lb := b.toNat_lt
            clear hbe hg hge hsz HNo
            by_cases h1 : b.toNat < 33
            · have h1' : ((b.toNat : Nat) : Int) < 33 := by omega
              have HE := hid (HB.out (Or.inl h1))
              clear HB HG
              go_wp2
              (try simp only [Exit.inBlock, Exit.then])
              refine bodyPost_ret (results_tmp4 rfl _ _ _) rfl ?_
              rw [HE.out]
              exact ⟨_, rfl, OwnsP.nil _ _, Below.refl _ _⟩
            · have h1' : ¬ ((b.toNat : Nat) : Int) < 33 := by omega
              by_cases h2 : 126 < b.toNat
              · have h2' : (126 : Int) < ((b.toNat : Nat) : Int) := by omega
                have HE := hid (HB.out (Or.inr (Or.inl h2)))
                clear HB HG
                go_wp2
                (try simp only [Exit.inBlock, Exit.then])
                refine bodyPost_ret (results_tmp4 rfl _ _ _) rfl ?_
                rw [HE.out]
                exact ⟨_, rfl, OwnsP.nil _ _, Below.refl _ _⟩
              · have h2' : ¬ (126 : Int) < ((b.toNat : Nat) : Int) := by omega
                by_cases h3 : b.toNat = 35
                · have h3' : (((b.toNat : Nat) : Int) == 35) = true := by rw [beq_iff_eq]; omega
                  have HE := hid (HB.out (Or.inr (Or.inr h3)))
                  clear HB HG h3
                  go_wp2
                  (try simp only [Exit.inBlock, Exit.then])
                  refine bodyPost_ret (results_tmp4 rfl _ _ _) rfl ?_
                  rw [HE.out]
                  exact ⟨_, rfl, OwnsP.nil _ _, Below.refl _ _⟩
                · have h3' : (((b.toNat : Nat) : Int) == 35) = false := by rw [beq_eq_false_iff_ne]; omega
                  have HE := hid (HG.out (by unfold badB; omega))
                  clear HB HG h3
                  go_wp2
                  go_round
                  case rel => exact ⟨j + 1, by omega, by go_num, HE.out⟩
                  case measure => simp [intOf]; omega
          · have hjs' : ¬ (j : Int) < (s.size : Int) := by omega
            have HTT : Hid (T = match (dec false (cutC 63 l).1).2 with
                | some p => ⟨[], [], 60, p⟩
                | none => match (dec true (cutC 63 l).2.1).2 with
                  | some p => ⟨[], [], 60, (cutC 63 l).1.length + 1 + p⟩
                  | none => if 32 < (formL (cutC 63 l).2.1).length then ⟨[], [], 2, 0⟩ else ⟨(dec false (cutC 63 l).1).1, formL (cutC 63 l).2.1, 0, 0⟩) := by
              unfold Hid
              have hv := HV.out
              rw [firstBad_none l (fun n hn => HNo.out n (by omega))] at hv
              have hT := HT.out
              rw [hv] at hT
              exact hT
            have hks : (k : Int) ≤ (s.size : Int) := by omega
            have he : s.extract 0 k = ⟨(l.take k).toArray⟩ := by rw [HSE.out, extract_take]
            have HX := hid he
            have hD := fun w => rdecode_list (l.take k) false w (by rw [List.length_take]; omega)
            have hcut := HQ.out.cut
            clear HT HV HNo he hlt hj
            have ha : (cutC 63 l).1 = l.take k := by
              rcases hcut with ⟨h1, h2⟩ | ⟨h1, h2⟩
              · rw [h2, h1, List.take_of_length_le (Nat.le_refl _)]
              · rw [h2]
            rw [ha] at HTT
            have htl : (l.take k).length = k := by rw [List.length_take]; omega
            rw [htl] at HTT
            cases hd : (dec false (l.take k)).2 with
            | some p =>
              obtain ⟨x1, x2, x3⟩ := dec_some_any hd
              rw [x1, x2, x3] at hD
              have hTT := HTT.out
              rw [hd] at hTT
              simp only at hTT
              have HE := hid hTT
              have HD := hid hD
              clear HTT hTT hd x1 x2 x3 hD hcut ha htl hsz HQ
              go_wp2_with fail
              rw [HX.out]
              refine (HD.out _).mono ?_
              clear HD
              rintro e w3 ⟨rfl, hB⟩
              have HB3 := hid hB
              clear hB
              go_wp2
              (try simp only [Exit.inBlock, Exit.then])
              refine bodyPost_ret (results_tmp4 rfl _ _ _) rfl ?_
              rw [HE.out]
              exact ⟨_, rfl, OwnsP.nil _ _, HB3.out⟩
            | none =>
              obtain ⟨x1, x2, x3⟩ := dec_none_any hd
              rw [x1, x2, x3] at hD
              have hTT := HTT.out
              rw [hd] at hTT
              simp only at hTT
              have HD := hid hD
              obtain ⟨A, hA⟩ : ∃ x, x = (dec false (l.take k)).1 := ⟨_, rfl⟩
              rw [← hA] at HD hTT
              clear HTT hd x1 x2 x3 hD ha htl HQ hA
              rcases hcut with ⟨h1, h2⟩ | ⟨h1, h2⟩
              · rw [h2] at hTT
                simp only [dec_nil, formL_nil] at hTT
                have HE : Hid (T = ⟨A, [], 0, 0⟩) := hid (by rw [hTT]; simp)
                have hkk : ((k : Int) == (s.size : Int)) = true := by rw [beq_iff_eq]; omega
                clear hTT h2 h1 hsz
                go_wp2_with fail
                rw [HX.out]
                refine (HD.out _).mono ?_
                clear HD
                rintro e w3 ⟨rfl, hB⟩
                have HB3 := hid hB
                clear hB
                go_wp2
                (try simp only [Exit.inBlock, Exit.then])
                refine bodyPost_ret (results_tmp4 rfl _ _ _) rfl ?_
                rw [HE.out]
                exact ⟨_, rfl, OwnsP.nil _ _, HB3.out⟩
              · rw [h2] at hTT
                simp only at hTT
                have hkk : ((k : Int) == (s.size : Int)) = false := by rw [beq_eq_false_iff_ne]; omega
                have hk1 : (k : Int) + 1 ≤ (s.size : Int) := by omega
                have he2 : s.extract (k + 1) s.size = ⟨(l.drop (k + 1)).toArray⟩ := by rw [hsz, HSE.out, extract_from _ _ _ rfl]
                have HX2 := hid he2
                have hbl : (l.drop (k + 1)).length ≤ 1024 := by rw [List.length_drop]; omega
                have hFo := fun w => rform_any (l.drop (k + 1)) w (by omega)
                obtain ⟨b, hb⟩ : ∃ x, x = l.drop (k + 1) := ⟨_, rfl⟩
                rw [← hb] at hTT HX2 hFo hbl
                have HF : Hid (∀ w, Calls Tryz.prog 47 #[.string ⟨b.toArray⟩] w fun e w' => ∃ v', e = .returned (.tuple #[v', .int .i64 (formE b), .int .i64 (decPl b : Int)]) ∧ OwnsP w' w.heap.size v' (formO b) ∧ Below w.heap.size w w') := hid hFo
                have hk1024 : k ≤ 1024 := by omega
                have key : ∃ (E : Int) (D : Nat) (O : List PairL), formE b = E ∧ decPl b = D ∧ formO b = O ∧
                    ((E = 60 ∧ D ≤ 1024 ∧ T = ⟨[], [], 60, k + 1 + D⟩) ∨ (E = 2 ∧ T = ⟨[], [], 2, 0⟩) ∨ (E = 0 ∧ T = ⟨A, O, 0, 0⟩)) := by
                  cases hb2 : (dec true b).2 with
                  | some p =>
                    obtain ⟨y1, y2, y3⟩ := formE_some' hb2
                    have := dec_place true b p hb2
                    refine ⟨_, _, _, rfl, rfl, rfl, Or.inl ⟨y1, by omega, ?_⟩⟩
                    rw [hTT, hb2, y3]
                  | none =>
                    by_cases h32 : 32 < (formL b).length
                    · obtain ⟨y1, y2, y3⟩ := formE_full hb2 h32
                      refine ⟨_, _, _, rfl, rfl, rfl, Or.inr (Or.inl ⟨y1, ?_⟩)⟩
                      rw [hTT, hb2]
                      simp [h32]
                    · obtain ⟨y1, y2, y3⟩ := formE_ok hb2 h32
                      refine ⟨_, _, _, rfl, rfl, rfl, Or.inr (Or.inr ⟨y1, ?_⟩)⟩
                      rw [hTT, hb2, y2]
                      simp [h32]
                obtain ⟨E, D, O, k1, k2, k3, hcase⟩ := key
                rw [k1, k2, k3] at HF
                clear k1 k2 k3 hTT h2 hsz he2 hFo hb
                rcases hcase with ⟨rfl, hD, hTe⟩ | ⟨rfl, hTe⟩ | ⟨rfl, hTe⟩
                all_goals
                  have HTE := hid hTe
                  clear hTe
                  go_wp2_with fail
                  rw [HX.out]
                  refine (HD.out _).mono ?_
                  clear HD
                  rintro e w3 ⟨rfl, hB⟩
                  have HB3 := hid hB
                  clear hB
                  go_wp2_with fail
                  rw [HX2.out]
                  refine (HF.out _).mono ?_
                  clear HF
                  rintro e w4 ⟨v4, rfl, hO4, hB⟩
                  have HB4 := hid (HB3.out.trans (hB.mono HB3.out.size))
                  have HO4 := hid (hO4.le HB3.out.size)
                  clear hO4 hB HB3
                  go_wp2
                  (try simp only [Exit.inBlock, Exit.then])
                  refine bodyPost_ret (results_tmp4 rfl _ _ _) rfl ?_
                  rw [HTE.out]
                  first
                    | exact ⟨_, rfl, OwnsP.nil _ _, HB4.out⟩
                    | exact ⟨_, rfl, HO4.out, HB4.out⟩
  · have hb0 : ((((s[0]).toNat : Nat) : Int) != 47) = true := by
      rw [bne_iff_ne]
      intro e
      apply h47
      have := byte_eq (b := s[0]) (n := 47) (by omega)
      simpa using this
    have hv : standsV l = some 0 := by
      rw [standsV, if_neg]
      intro e
      exact h47 (by rw [← hs0]; exact (head_of (by omega)).1 e)
    rw [hv] at hT
    simp only at hT
    rw [hT]
    obtain ⟨b0, hb0e⟩ : ∃ b, b = s[0] := ⟨_, rfl⟩
    rw [← hb0e] at i0 hb0
    clear hT hsl hse hsz h47 hs0 hemp hlong hb0e hv
    go_enter Tryz.func29, Tryz.ntmps29
    go_wp2
    (try simp only [Exit.inBlock, Exit.then])
    refine bodyPost_ret (results_tmp4 rfl _ _ _) rfl ?_
    exact ⟨_, rfl, OwnsP.nil _ _, Below.refl _ _⟩

end Go.Proofs.YtllhibdjopfcnaaGreatDoor
