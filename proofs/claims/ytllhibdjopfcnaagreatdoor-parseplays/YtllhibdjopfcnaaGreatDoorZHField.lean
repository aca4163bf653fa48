/-
  A field's line: the code's.
-/
import Derived.Test.YtllhibdjopfcnaaGreatDoorZHReq
namespace Go.Proofs.YtllhibdjopfcnaaGreatDoor
open Go.RowKit
set_option linter.unusedVariables false

theorem trim_list (l : List UInt8) (w : World) (hs : l.length ≤ 140737488355328) : Calls Tryz.prog 61 #[.string ⟨l.toArray⟩, .string ⟨#[32, 9]⟩] w fun e w' => e = .returned (.string ⟨(trimB l).toArray⟩) ∧ Below w.heap.size w w' :=
  Tryz.strings_Trim_blanks ⟨l.toArray⟩ w (by rw [size_list]; omega)
theorem trimB_len (l : List UInt8) : (trimB l).length ≤ l.length := by
  unfold trimB Lib.trimS Lib.trimLeftS Lib.trimRightS
  refine Nat.le_trans (List.dropWhile_sublist _).length_le ?_
  rw [List.length_reverse]
  refine Nat.le_trans (List.dropWhile_sublist _).length_le ?_
  rw [List.length_reverse]
  exact Nat.le_refl _

def fldL (fs : List PairL) (l : List UInt8) : List PairL × Int := if 32 ≤ fs.length then (fs, 431) else match fieldL l with | none => (fs, 400) | some q => (fs ++ [q], 0)
theorem fldL_full {fs : List PairL} {l : List UInt8} (h : 32 ≤ fs.length) : fldL fs l = (fs, 431) := by rw [fldL, if_pos h]
theorem fldL_bad {fs : List PairL} {l : List UInt8} (h : ¬ 32 ≤ fs.length) (hf : fieldL l = none) : fldL fs l = (fs, 400) := by rw [fldL, if_neg h, hf]
theorem fldL_ok {fs : List PairL} {l : List UInt8} {q : PairL} (h : ¬ 32 ≤ fs.length) (hf : fieldL l = some q) : fldL fs l = (fs ++ [q], 0) := by rw [fldL, if_neg h, hf]

set_option maxRecDepth 20000 in
set_option maxHeartbeats 4000000 in
theorem takeField_any (l : List UInt8) (p B : Nat) (a b c v : Value) (fs : List PairL) (w : World) (hH : HeadAt w p a b c v) (hO : OwnsP w B v fs) (hpB : p < B) (hB : B ≤ w.heap.size) (hs : l.length ≤ 4096) (hf : fs.length ≤ 32) :
    Calls Tryz.prog 104 #[.pointer (some ⟨p, 0, none⟩), .string ⟨l.toArray⟩] w fun e w' => e = .returned (.int .i64 (fldL fs l).2) ∧ Kept p B w w' ∧ ∃ v', HeadAt w' p a b c v' ∧ OwnsP w' B v' (fldL fs l).1 := by
  obtain ⟨_, _, _, q3, _, _, _, z3⟩ := hH.cells
  obtain ⟨ao, cap, rfl⟩ := hO.shape
  have HH := hid hH
  have HO := hid hO
  have hpl := hH.lt
  clear hH hO
  by_cases h32 : 32 ≤ fs.length
  · have h32' : (32 : Int) ≤ (fs.length : Int) := by omega
    rw [fldL_full h32]
    go_enter Tryz.func104, Tryz.ntmps104
    go_wp2
    go_ret
    exact ⟨rfl, Kept.refl _ _ _, _, HH.out, HO.out⟩
  have h32' : ¬ (32 : Int) ≤ (fs.length : Int) := by omega
  have hC := fun w => cut_any l 58 w (by omega)
  obtain ⟨g1, _, g2⟩ := cutC_len 58 l
  have g3 := trimB_len (cutC 58 l).2.1
  have hT := fun w => trim_list (cutC 58 l).2.1 w (by omega)
  have hN := fun w => madeL_Nm (cutC 58 l).1 w (by omega)
  have hL := fun w => madeL_Vl (trimB (cutC 58 l).2.1) w (by omega)
  have hF1 := fun w => small_any (cutC 58 l).1 w (by omega)
  have hF2 := fun w => fresh_any (trimB (cutC 58 l).2.1) w
  obtain ⟨R, hR⟩ : ∃ R, R = fieldL l := ⟨_, rfl⟩
  have HBad := hid (fun (h : R = none) => fldL_bad (fs := fs) h32 (hR.symm.trans h))
  have HOk := hid (fun q (h : R = some q) => fldL_ok (fs := fs) h32 (hR.symm.trans h))
  obtain ⟨F, hF⟩ : ∃ F, F = fldL fs l := ⟨_, rfl⟩
  rw [← hF] at HBad HOk ⊢
  unfold fieldL at hR
  obtain ⟨n, hn⟩ : ∃ x, x = (cutC 58 l).1 := ⟨_, rfl⟩
  obtain ⟨u, hu⟩ : ∃ x, x = (cutC 58 l).2.1 := ⟨_, rfl⟩
  obtain ⟨ok, hok⟩ : ∃ x, x = (cutC 58 l).2.2 := ⟨_, rfl⟩
  rw [← hn, ← hu, ← hok] at hR hC
  rw [← hn] at hN hF1
  rw [← hu] at hT hL hF2
  obtain ⟨T, hTe⟩ : ∃ x, x = trimB u := ⟨_, rfl⟩
  rw [← hTe] at hR hT hL hF2
  have HC := hid hC
  have HT := hid hT
  have HN := hid hN
  have HL := hid hL
  have HF1 := hid hF1
  have HF2 := hid hF2
  clear hn hu hok hTe hC hT hN hL hF1 hF2 hF g1 g2 g3 h32
  cases ok with
  | false =>
    have HE := hid (HBad.out (by rw [hR]; simp))
    clear hR HBad HOk
    go_enter Tryz.func104, Tryz.ntmps104
    go_wp2_with fail
    refine (HC.out _).mono ?_
    clear HC
    rintro e wa ⟨rfl, n1, hw1⟩
    have HBa : Hid (Below w.heap.size w wa) := by unfold Hid; rw [hw1]; exact below_drewN' _ _ _
    clear hw1
    go_wp2_with fail
    refine (HT.out _).mono ?_
    clear HT
    rintro e wb ⟨rfl, hw2⟩
    have HBb := hid (HBa.out.trans (hw2.mono HBa.out.size))
    clear hw2 HBa
    go_wp2
    go_ret
    rw [HE.out]
    exact ⟨rfl, Kept.of_below (HBb.out.mono hB), _, HH.out.below HBb.out hpl, HO.out.below HBb.out⟩
  | true =>
    cases hm : madeL isNm n with
    | false =>
      rw [hm] at HN
      have HE := hid (HBad.out (by rw [hR, hm]; simp))
      clear hR HBad HOk
      go_enter Tryz.func104, Tryz.ntmps104
      go_wp2_with fail
      refine (HC.out _).mono ?_
      clear HC
      rintro e wa ⟨rfl, n1, hw1⟩
      have HBa : Hid (Below w.heap.size w wa) := by unfold Hid; rw [hw1]; exact below_drewN' _ _ _
      clear hw1
      go_wp2_with fail
      refine (HT.out _).mono ?_
      clear HT
      rintro e wb ⟨rfl, hw2⟩
      have HBb := hid (HBa.out.trans (hw2.mono HBa.out.size))
      clear hw2 HBa
      go_wp2_with fail
      refine (HN.out _).mono ?_
      clear HN
      rintro e w3 ⟨rfl, hw3⟩
      subst hw3
      go_wp2
      go_ret
      rw [HE.out]
      exact ⟨rfl, Kept.of_below (HBb.out.mono hB), _, HH.out.below HBb.out hpl, HO.out.below HBb.out⟩
    | true =>
      rw [hm] at HN
      cases he : T.isEmpty with
      | true =>
        have hall : T.all isVl = true := by
          cases T with
          | nil => rfl
          | cons x r => simp at he
        have HE := hid (HOk.out (small n, T) (by rw [hR, hm, hall]; simp))
        clear hR HBad HOk hall
        go_enter Tryz.func104, Tryz.ntmps104
        go_wp2_with fail
        refine (HC.out _).mono ?_
        clear HC
        rintro e wa ⟨rfl, n1, hw1⟩
        have HBa : Hid (Below w.heap.size w wa) := by unfold Hid; rw [hw1]; exact below_drewN' _ _ _
        clear hw1
        go_wp2_with fail
        refine (HT.out _).mono ?_
        clear HT
        rintro e wb ⟨rfl, hw2⟩
        have HBb := hid (HBa.out.trans (hw2.mono HBa.out.size))
        clear hw2 HBa
        go_wp2_with fail
        refine (HN.out _).mono ?_
        clear HN
        rintro e w3 ⟨rfl, hw3⟩
        subst hw3
        have hltb : p < w3.heap.size := Nat.lt_of_lt_of_le hpl HBb.out.size
        have HHb := hid (HH.out.below HBb.out hpl)
        have HOb := hid (HO.out.below HBb.out)
        obtain ⟨_, _, _, k1, _, _, _, k2⟩ := HHb.out.cells
        have hszb : B ≤ w3.heap.size := Nat.le_trans hB HBb.out.size
        have HB := hid (HBb.out.mono hB)
        clear HBb HH HO
        go_wp2_with fail
        go_region_law
          (first
            | (refine step_appP (by rfl) _ _ (by rfl) B (.slice ao fs.length cap) fs (by rfl) (OwnsP.below HO2.out (below_alloc w2 _)) _ (small n, T) (by rfl) (news_pair w2 (small n) T 73) (by omega) (by (try simp); (try omega)) ?_
               intro v4 w4 h1 h2
               have HB4 : Hid (Below B w w4) := by
                 refine hid (HB2.out.trans (Below.grown ((below_alloc w2 (.cells #[strV (small n), strV T] 73)).mono (by omega)) h2 (by (try simp); (try omega)) (fun k hk => ?_)))
                 exact OwnsP.block HO2.out k hk
               have hq : HeadAt w4 p a b c (.slice ao fs.length cap) := by
                 have hq1 : HeadAt (w2.alloc (.cells #[strV (small n), strV T] 73)) p a b c (.slice ao fs.length cap) := HH2.out.below (below_alloc w2 _) HH2.out.lt
                 refine hq1.same ?_
                 exact h2.block p (by (try simp); (try omega)) (fun h => by have := OwnsP.block HO2.out p h.symm; omega)
               obtain ⟨ao4, cap4, rfl⟩ : ∃ ao4 cap4, v4 = .slice ao4 (fs.length + 1) cap4 := by
                 obtain ⟨ao4, cap4, h⟩ := OwnsP.shape h1
                 exact ⟨ao4, cap4, by rw [h]; simp⟩
               have HO4 := hid h1
               have HQ := hid hq
               obtain ⟨_, _, _, k5, _, _, _, k6⟩ := hq.cells
               clear h1 h2 hq)
            | (go_simp
               refine (HF1.out _).mono ?_
               rintro e' w1 ⟨rfl, hB1⟩
               have hB1' : Below w3.heap.size w3 w1 := (Below.drew (Below.refl w3.heap.size w3)).trans hB1
               have HO1 := hid (HOb.out.below hB1')
               have HH1 := hid (HHb.out.below hB1' hltb)
               obtain ⟨_, _, _, k3, _, _, _, k4⟩ := HH1.out.cells
               have HB1 := hid (HB.out.trans (hB1'.mono hszb))
               have hlt1 := HH1.out.lt
               have hsz1 : B ≤ w1.heap.size := Nat.le_trans hszb hB1'.size
               clear hB1 hB1' HF1)
            | (go_simp
               refine (HF2.out _).mono ?_
               rintro e' w2 ⟨rfl, hB2⟩
               have HO2 := hid (HO1.out.below hB2)
               have HH2 := hid (HH1.out.below hB2 hlt1)
               obtain ⟨_, _, _, k3b, _, _, _, k4b⟩ := HH2.out.cells
               obtain ⟨_, _, _, k3a, _, _, _, k4a⟩ := (show HeadAt (w2.alloc (.cells #[.string ⟨(small n).toArray⟩, .string ⟨T.toArray⟩] 73)) p a b c (.slice ao fs.length cap) from HH2.out.below (below_alloc w2 _) HH2.out.lt).cells
               have HB2 := hid (HB1.out.trans (hB2.mono hsz1))
               have hlt2 := HH2.out.lt
               have hsz2 : B ≤ w2.heap.size := Nat.le_trans hsz1 hB2.size
               clear hB2 HF2))
        all_goals
          have HO5 := hid (show OwnsP (w4.setCell ⟨p, 3, none⟩ (.slice ao4 (fs.length + 1) cap4)) B (.slice ao4 (fs.length + 1) cap4) (fs ++ [(small n, T)]) from ownsRow_setCell_below HO4.out (a := ⟨p, 3, none⟩) (by simp; exact hpB) _)
          have HH5 := hid (HQ.out.store3 (x := .slice ao4 (fs.length + 1) cap4))
          have HB5 := hid ((Kept.of_below (p := p) HB4.out).trans (Kept.store w4 3 (.slice ao4 (fs.length + 1) cap4)))
          go_wp2
          go_ret
          rw [HE.out]
          exact ⟨rfl, HB5.out, _, HH5.out, HO5.out⟩
      | false =>
        cases hall : madeL isVl T with
        | false =>
          rw [hall] at HL
          have hall' : T.all isVl = false := by
            rw [madeL, he] at hall
            simpa using hall
          have HE := hid (HBad.out (by rw [hR, hm, hall']; simp))
          clear hR HBad HOk hall'
          go_enter Tryz.func104, Tryz.ntmps104
          go_wp2_with fail
          refine (HC.out _).mono ?_
          clear HC
          rintro e wa ⟨rfl, n1, hw1⟩
          have HBa : Hid (Below w.heap.size w wa) := by unfold Hid; rw [hw1]; exact below_drewN' _ _ _
          clear hw1
          go_wp2_with fail
          refine (HT.out _).mono ?_
          clear HT
          rintro e wb ⟨rfl, hw2⟩
          have HBb := hid (HBa.out.trans (hw2.mono HBa.out.size))
          clear hw2 HBa
          go_wp2_with fail
          refine (HN.out _).mono ?_
          clear HN
          rintro e w3 ⟨rfl, hw3⟩
          subst hw3
          go_wp2_with fail
          refine (HL.out _).mono ?_
          clear HL
          rintro e w4 ⟨rfl, hw4⟩
          subst hw4
          go_wp2
          go_ret
          rw [HE.out]
          exact ⟨rfl, Kept.of_below (HBb.out.mono hB), _, HH.out.below HBb.out hpl, HO.out.below HBb.out⟩
        | true =>
          rw [hall] at HL
          have hall' := (madeL_iff.1 hall).1
          have HE := hid (HOk.out (small n, T) (by rw [hR, hm, hall']; simp))
          clear hR HBad HOk hall'
          go_enter Tryz.func104, Tryz.ntmps104
          go_wp2_with fail
          refine (HC.out _).mono ?_
          clear HC
          rintro e wa ⟨rfl, n1, hw1⟩
          have HBa : Hid (Below w.heap.size w wa) := by unfold Hid; rw [hw1]; exact below_drewN' _ _ _
          clear hw1
          go_wp2_with fail
          refine (HT.out _).mono ?_
          clear HT
          rintro e wb ⟨rfl, hw2⟩
          have HBb := hid (HBa.out.trans (hw2.mono HBa.out.size))
          clear hw2 HBa
          go_wp2_with fail
          refine (HN.out _).mono ?_
          clear HN
          rintro e w3 ⟨rfl, hw3⟩
          subst hw3
          go_wp2_with fail
          refine (HL.out _).mono ?_
          clear HL
          rintro e w4 ⟨rfl, hw4⟩
          subst hw4
          have hltb : p < w4.heap.size := Nat.lt_of_lt_of_le hpl HBb.out.size
          have HHb := hid (HH.out.below HBb.out hpl)
          have HOb := hid (HO.out.below HBb.out)
          obtain ⟨_, _, _, k1, _, _, _, k2⟩ := HHb.out.cells
          have hszb : B ≤ w4.heap.size := Nat.le_trans hB HBb.out.size
          have HB := hid (HBb.out.mono hB)
          clear HBb HH HO
          go_wp2_with fail
          go_region_law
            (first
              | (refine step_appP (by rfl) _ _ (by rfl) B (.slice ao fs.length cap) fs (by rfl) (OwnsP.below HO2.out (below_alloc w2 _)) _ (small n, T) (by rfl) (news_pair w2 (small n) T 73) (by omega) (by (try simp); (try omega)) ?_
                 intro v4 w4 h1 h2
                 have HB4 : Hid (Below B w w4) := by
                   refine hid (HB2.out.trans (Below.grown ((below_alloc w2 (.cells #[strV (small n), strV T] 73)).mono (by omega)) h2 (by (try simp); (try omega)) (fun k hk => ?_)))
                   exact OwnsP.block HO2.out k hk
                 have hq : HeadAt w4 p a b c (.slice ao fs.length cap) := by
                   have hq1 : HeadAt (w2.alloc (.cells #[strV (small n), strV T] 73)) p a b c (.slice ao fs.length cap) := HH2.out.below (below_alloc w2 _) HH2.out.lt
                   refine hq1.same ?_
                   exact h2.block p (by (try simp); (try omega)) (fun h => by have := OwnsP.block HO2.out p h.symm; omega)
                 obtain ⟨ao4, cap4, rfl⟩ : ∃ ao4 cap4, v4 = .slice ao4 (fs.length + 1) cap4 := by
                   obtain ⟨ao4, cap4, h⟩ := OwnsP.shape h1
                   exact ⟨ao4, cap4, by rw [h]; simp⟩
                 have HO4 := hid h1
                 have HQ := hid hq
                 obtain ⟨_, _, _, k5, _, _, _, k6⟩ := hq.cells
                 clear h1 h2 hq)
              | (go_simp
                 refine (HF1.out _).mono ?_
                 rintro e' w1 ⟨rfl, hB1⟩
                 have hB1' : Below w4.heap.size w4 w1 := (Below.drew (Below.refl w4.heap.size w4)).trans hB1
                 have HO1 := hid (HOb.out.below hB1')
                 have HH1 := hid (HHb.out.below hB1' hltb)
                 obtain ⟨_, _, _, k3, _, _, _, k4⟩ := HH1.out.cells
                 have HB1 := hid (HB.out.trans (hB1'.mono hszb))
                 have hlt1 := HH1.out.lt
                 have hsz1 : B ≤ w1.heap.size := Nat.le_trans hszb hB1'.size
                 clear hB1 hB1' HF1)
              | (go_simp
                 refine (HF2.out _).mono ?_
                 rintro e' w2 ⟨rfl, hB2⟩
                 have HO2 := hid (HO1.out.below hB2)
                 have HH2 := hid (HH1.out.below hB2 hlt1)
                 obtain ⟨_, _, _, k3b, _, _, _, k4b⟩ := HH2.out.cells
                 obtain ⟨_, _, _, k3a, _, _, _, k4a⟩ := (show HeadAt (w2.alloc (.cells #[.string ⟨(small n).toArray⟩, .string ⟨T.toArray⟩] 73)) p a b c (.slice ao fs.length cap) from HH2.out.below (below_alloc w2 _) HH2.out.lt).cells
                 have HB2 := hid (HB1.out.trans (hB2.mono hsz1))
                 have hlt2 := HH2.out.lt
                 have hsz2 : B ≤ w2.heap.size := Nat.le_trans hsz1 hB2.size
                 clear hB2 HF2))
          all_goals
            have HO5 := hid (show OwnsP (w4.setCell ⟨p, 3, none⟩ (.slice ao4 (fs.length + 1) cap4)) B (.slice ao4 (fs.length + 1) cap4) (fs ++ [(small n, T)]) from ownsRow_setCell_below HO4.out (a := ⟨p, 3, none⟩) (by simp; exact hpB) _)
            have HH5 := hid (HQ.out.store3 (x := .slice ao4 (fs.length + 1) cap4))
            have HB5 := hid ((Kept.of_below (p := p) HB4.out).trans (Kept.store w4 3 (.slice ao4 (fs.length + 1) cap4)))
            go_wp2
            go_ret
            rw [HE.out]
            exact ⟨rfl, HB5.out, _, HH5.out, HO5.out⟩
end Go.Proofs.YtllhibdjopfcnaaGreatDoor
