/-
  Cookies of the code.
-/
import Derived.Test.YtomjclkijakcpaaDoorCookB
import Derived.Test.YtomjclkijakcpaaDoorFormB
import Derived.Deep.RegionLaw
namespace Go.Proofs.YtomjclkijakcpaaDoor
open Go.RowKit
set_option linter.unusedVariables false

/-- The cookie of a part. -/
def cookP (p : List UInt8) : List PairL := if (cutC 61 (Lib.trimS p [32, 9])).2.2 = true then [((cutC 61 (Lib.trimS p [32, 9])).1, (cutC 61 (Lib.trimS p [32, 9])).2.1)] else []
def cookAll (l : List UInt8) : List PairL := (splitC 59 l).flatMap cookP
theorem cookAll_cut (l : List UInt8) : cookAll l = cookP (cutC 59 l).1 ++ (if (cutC 59 l).2.2 = true then cookAll (cutC 59 l).2.1 else []) := by
  unfold cookAll
  rw [splitC_cut, List.flatMap_cons]
  congr 1
  split <;> rfl
theorem cookP_len (p : List UInt8) : (cookP p).length ≤ 1 := by
  unfold cookP
  split <;> simp
theorem dropWhile_len (p : UInt8 → Bool) : ∀ l : List UInt8, (l.dropWhile p).length ≤ l.length
  | [] => by simp
  | b :: r => by
    have := dropWhile_len p r
    rw [List.dropWhile_cons]
    split
    · simp; omega
    · exact Nat.le_refl _
theorem trimS_len (l : List UInt8) : (Lib.trimS l [32, 9]).length ≤ l.length := by
  unfold Lib.trimS Lib.trimLeftS Lib.trimRightS
  have h1 := dropWhile_len (fun x => [32, 9].contains x) (List.dropWhile (fun x => [32, 9].contains x) l.reverse).reverse
  have h2 := dropWhile_len (fun x => [32, 9].contains x) l.reverse
  simp only [List.length_reverse] at h1 h2
  omega

theorem trim_list (l : List UInt8) (w : World) (hs : l.length ≤ 140737488355328) : Calls Tryd.prog 16 #[.string ⟨l.toArray⟩, .string ⟨#[32, 9]⟩] w fun e w' => e = .returned (.string ⟨(Lib.trimS l [32, 9]).toArray⟩) ∧ Below w.heap.size w w' :=
  Tryd.strings_Trim_blanks ⟨l.toArray⟩ w (by rw [size_list]; omega)

theorem dec_lt32 (n : Nat) : decide ((n : Int) < 32) = decide (n < 32) := by
  by_cases h : n < 32
  · rw [decide_eq_true h, decide_eq_true (by omega)]
  · rw [decide_eq_false h, decide_eq_false (by omega)]

set_option maxRecDepth 20000 in
set_option maxHeartbeats 2000000 in
theorem takeC_any (l : List UInt8) (q : Nat) (v : Value) (out : List PairL) (w : World) (hV : VarAt 22 w q v) (hO : OwnsP w (q + 1) v out) (hs : l.length ≤ 140737488355328) (ho : out.length ≤ 1000) :
    Calls Tryd.prog 14 #[.string ⟨l.toArray⟩, .pointer (some ⟨q, 0, none⟩)] w fun e w' => e = .returned (.bool (decide ((out ++ cookP l).length < 32))) ∧ ∃ v', VarAt 22 w' q v' ∧ OwnsP w' (q + 1) v' (out ++ cookP l) ∧ Below q w w' := by
  have hTr := trim_list l w hs
  have htl := trimS_len l
  have HCut := hid (fun w => cut_any (Lib.trimS l [32, 9]) 61 w (by omega))
  have hck : cookP l = if (cutC 61 (Lib.trimS l [32, 9])).2.2 = true then [((cutC 61 (Lib.trimS l [32, 9])).1, (cutC 61 (Lib.trimS l [32, 9])).2.1)] else [] := rfl
  obtain ⟨c1, hc1⟩ : ∃ x, x = (cutC 61 (Lib.trimS l [32, 9])).1 := ⟨_, rfl⟩
  obtain ⟨c2, hc2⟩ : ∃ x, x = (cutC 61 (Lib.trimS l [32, 9])).2.1 := ⟨_, rfl⟩
  obtain ⟨c3, hc3⟩ : ∃ x, x = (cutC 61 (Lib.trimS l [32, 9])).2.2 := ⟨_, rfl⟩
  rw [← hc1, ← hc2, ← hc3] at HCut hck
  have hlt := hV.lt
  have HV0 := hid hV
  have HO0 := hid hO
  obtain ⟨ao, cap, rfl⟩ := hO.shape
  clear hV hO hc1 hc2 hc3 htl
  cases c3 with
  | false =>
    have hck2 : cookP l = [] := by rw [hck]; simp
    rw [hck2, List.append_nil]
    have HBb := hid (dec_lt32 out.length)
    clear hck hck2
    go_enter Tryd.func14, Tryd.ntmps14
    go_wp2_with fail
    refine hTr.mono ?_
    clear hTr
    rintro e w1 ⟨rfl, hB1⟩
    have HV1 := hid (HV0.out.below hB1 hlt)
    have HO1 := hid (HO0.out.below hB1)
    have HB1 := hid (hB1.mono (Nat.le_of_lt hlt))
    clear hB1 HV0 HO0
    go_wp2_with fail
    refine (HCut.out _).mono ?_
    clear HCut
    rintro e w2 ⟨rfl, n, hw2⟩
    have HV2 : Hid (VarAt 22 w2 q (.slice ao out.length cap)) := by unfold Hid; rw [hw2]; exact HV1.out.drewN n
    have HO2 : Hid (OwnsP w2 (q + 1) (.slice ao out.length cap) out) := by unfold Hid; rw [hw2]; exact HO1.out.below (below_drewN' _ _ _)
    have HB2 : Hid (Below q w w2) := by unfold Hid; rw [hw2]; exact below_drewN HB1.out n
    obtain ⟨k1, k2⟩ := HV2.out.cells
    clear hw2 HV1 HO1 HB1
    go_wp2
    go_ret
    exact ⟨ret_bool HBb.out, _, HV2.out, HO2.out, HB2.out⟩
  | true =>
    have hck2 : cookP l = [(c1, c2)] := by rw [hck]; simp
    rw [hck2]
    have HBb := hid (dec_lt32 (out.length + 1))
    have hLen : (out ++ [(c1, c2)]).length = out.length + 1 := by simp
    have HLen := hid hLen
    rw [hLen]
    have HF1 := hid (fun w => fresh_any c1 w)
    have HF2 := hid (fun w => fresh_any c2 w)
    clear hck hck2 hLen
    go_enter Tryd.func14, Tryd.ntmps14
    go_wp2_with fail
    refine hTr.mono ?_
    clear hTr
    rintro e wa ⟨rfl, hB1⟩
    have HV1 := hid (HV0.out.below hB1 hlt)
    have HO1 := hid (HO0.out.below hB1)
    have HB1 := hid (hB1.mono (Nat.le_of_lt hlt))
    clear hB1 HV0 HO0
    go_wp2_with fail
    refine (HCut.out _).mono ?_
    clear HCut
    rintro e wb ⟨rfl, n, hw2⟩
    have HV : Hid (VarAt 22 wb q (.slice ao out.length cap)) := by unfold Hid; rw [hw2]; exact HV1.out.drewN n
    have HO : Hid (OwnsP wb (q + 1) (.slice ao out.length cap) out) := by unfold Hid; rw [hw2]; exact HO1.out.below (below_drewN' _ _ _)
    have HB : Hid (Below q w wb) := by unfold Hid; rw [hw2]; exact below_drewN HB1.out n
    obtain ⟨k1, k2⟩ := HV.out.cells
    have hltb := HV.out.lt
    clear hw2 HV1 HO1 HB1 hlt
    go_wp2_with fail
    go_region_law
      (first
        | (refine step_appP (by rfl) _ _ (by rfl) (q + 1) (.slice ao out.length cap) out (by rfl) (OwnsP.below HO2.out (below_alloc w2 _)) _ (c1, c2) (by rfl) (news_pair w2 c1 c2 31) (by omega) (by simp; omega) ?_
           intro v4 w4 h1 h2
           have hq : VarAt 22 w4 q (.slice ao out.length cap) := by
             have hq1 : VarAt 22 (w2.alloc (.cells #[strV c1, strV c2] 31)) q (.slice ao out.length cap) := HV2.out.below (below_alloc w2 _) (by omega)
             unfold VarAt at hq1 ⊢
             rw [h2.block q (by simp; omega) (fun h => by have := OwnsP.block HO2.out q h.symm; omega)]
             exact hq1
           have HB4 : Hid (Below q w w4) := by
             refine hid (HB2.out.trans (Below.grown ((below_alloc w2 (.cells #[strV c1, strV c2] 31)).mono (by omega)) h2 (by simp; omega) (fun k hk => ?_)))
             have := OwnsP.block HO2.out k hk
             omega
           obtain ⟨ao4, cap4, rfl⟩ : ∃ ao4 cap4, v4 = .slice ao4 (out.length + 1) cap4 := by
             obtain ⟨ao4, cap4, h⟩ := OwnsP.shape h1
             exact ⟨ao4, cap4, by rw [h]; simp⟩
           have HO4 := hid h1
           have HQ := hid hq
           obtain ⟨k5, k6⟩ := hq.cells
           clear h1 h2 hq)
        | (go_simp
           refine (HF1.out _).mono ?_
           rintro e' w1 ⟨rfl, hB1⟩
           have hB1' : Below wb.heap.size wb w1 := (Below.drew (Below.refl wb.heap.size wb)).trans hB1
           have HO1 := hid (HO.out.below hB1')
           have HV1 := hid (HV.out.below hB1' hltb)
           obtain ⟨k3, k4⟩ := HV1.out.cells
           have HB1 := hid (HB.out.trans (hB1'.mono (Nat.le_of_lt hltb)))
           have hlt1 := HV1.out.lt
           clear hB1 hB1' HF1)
        | (go_simp
           refine (HF2.out _).mono ?_
           rintro e' w2 ⟨rfl, hB2⟩
           have HO2 := hid (HO1.out.below hB2)
           have HV2 := hid (HV1.out.below hB2 hlt1)
           obtain ⟨k3b, k4b⟩ := HV2.out.cells
           obtain ⟨k3a, k4a⟩ := (show VarAt 22 (w2.alloc (.cells #[.string ⟨c1.toArray⟩, .string ⟨c2.toArray⟩] 31)) q (.slice ao out.length cap) from HV2.out.below (below_alloc w2 _) HV2.out.lt).cells
           have HB2 := hid (HB1.out.trans (hB2.mono (Nat.le_of_lt hlt1)))
           have hlt2 := HV2.out.lt
           clear hB2 HF2))
    all_goals
      have HO5 := hid (show OwnsP (w4.setCell ⟨q, 0, none⟩ (.slice ao4 (out.length + 1) cap4)) (q + 1) (.slice ao4 (out.length + 1) cap4) (out ++ [(c1, c2)]) from ownsRow_setCell_below HO4.out (a := ⟨q, 0, none⟩) (by simp) _)
      have hV5 := HQ.out.store (v' := .slice ao4 (out.length + 1) cap4)
      have HB5 := hid (HB4.out.setCell (p := ⟨q, 0, none⟩) (by simp) (.slice ao4 (out.length + 1) cap4))
      obtain ⟨k7, k8⟩ := hV5.cells
      have HV5 := hid hV5
      clear hV5
      go_wp2
      go_ret
      exact ⟨ret_bool (by rw [← HBb.out]; rfl), _, HV5.out, HO5.out, HB5.out⟩

end Go.Proofs.YtomjclkijakcpaaDoor
