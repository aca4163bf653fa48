/-
  The code's: fields of a text.
-/
import Derived.Test.YtgkipeehmckbdaaDoorYParseA
namespace Go.Proofs.YtgkipeehmckbdaaDoor
open Go.RowKit
set_option linter.unusedVariables false

def lenV : Value → Nat
  | .slice _ n _ => n
  | _ => 0
theorem fieldsY_go {f : Nat} {D : List UInt8} (h1 : (cutS (cutE D).1).2.2 = true) (h2 : (cutS (cutE D).1).1 ≠ clS) :
    fieldsY (f + 1) D = (((cutS (cutE D).1).1, (cutS (cutE D).1).2.1) :: (fieldsY f (cutE D).2.1).1, (fieldsY f (cutE D).2.1).2) := by
  rw [fieldsY, if_neg (fun h => by
    rcases h with h | h
    · rw [h1] at h; cases h
    · exact h2 h)]
theorem fieldsY_stop {f : Nat} {D : List UInt8} (h : (cutS (cutE D).1).2.2 = false ∨ (cutS (cutE D).1).1 = clS) : fieldsY (f + 1) D = ([], D) := by
  rw [fieldsY, if_pos h]
set_option maxRecDepth 20000 in
set_option maxHeartbeats 4000000 in
theorem fieldsOf_any (L : List UInt8) (w : World) (hm : ML w) (hs : L.length ≤ 1000000000) :
    Calls Tryd.prog 37 #[.string ⟨L.toArray⟩] w fun e w' => ∃ v, e = .returned (.tuple #[v, .string ⟨(fieldsY 32 L).2.toArray⟩]) ∧ OwnsP w' w.heap.size v (fieldsY 32 L).1 ∧ Below w.heap.size w w' := by
  have HM := hid (fun W (hb : Below w.heap.size w W) => hm.below hb hm.lt)
  obtain ⟨F, hF⟩ : ∃ F, F = fieldsY 32 L := ⟨_, rfl⟩
  rw [← hF]
  obtain ⟨F1, F2⟩ := F
  have HF := hid hF
  clear hm hF
  simp only
  go_enter Tryd.func37, Tryd.ntmps37
  go_wp2_with fail
  go_loopw [0, 2] (fun s u wr => ∃ (D : List UInt8) (acc : List PairL), s = .string ⟨D.toArray⟩ ∧ D.length ≤ L.length ∧ acc.length ≤ 32 ∧ OwnsP wr w.heap.size u acc ∧ (acc ++ (fieldsY (32 - acc.length) D).1, (fieldsY (32 - acc.length) D).2) = (F1, F2) ∧ Below w.heap.size w wr) (fun _ u _ => 32 - lenV u)
  case atStart => exact ⟨L, [], rfl, Nat.le_refl _, by simp, OwnsP.nil _ _, by rw [HF.out]; rfl, Below.refl _ _⟩
  case round =>
    obtain ⟨D, acc, rfl, hD, hacc, hO, hfd, hB⟩ := hrel
    obtain ⟨ao, cap, rfl⟩ := hO.shape
    have HO := hid hO
    have HB := hid hB
    have hsw := hB.size
    by_cases hlt : acc.length < 32
    · have hlt' : (acc.length : Int) < 32 := by omega
      obtain ⟨f, hf⟩ : ∃ f, 32 - acc.length = f + 1 := ⟨31 - acc.length, by omega⟩
      rw [hf] at hfd
      have hgo := fun h1 h2 => @fieldsY_go f D h1 h2
      have hst := fun h => @fieldsY_stop f D h
      have c1 := cut_at D [13, 10] _ (cutE_lib D) wr (HM.out wr hB) (by omega)
      have n1 := cutE_len2 D
      obtain ⟨A, hA⟩ : ∃ A, A = cutE D := ⟨_, rfl⟩
      rw [← hA] at c1 hgo hst n1
      have c2 := fun W hb => cut_at A.1 [58, 32] _ (cutS_lib A.1) W (HM.out W hb) (by omega)
      have n2 := cutS_len A.1
      obtain ⟨E, hE⟩ : ∃ E, E = cutS A.1 := ⟨_, rfl⟩
      rw [← hE] at c2 hgo hst n2
      have C2 := hid c2
      have HGo := hid hgo
      have HSt := hid hst
      have HFd := hid hfd
      have HFf := hid hf
      obtain ⟨A1, A2, A3⟩ := A
      obtain ⟨E1, E2, E3⟩ := E
      simp only at c1 C2 HGo HSt n1 n2
      rw [show ([13, 10] : List UInt8).toArray = #[13, 10] from rfl] at c1
      rw [show ([58, 32] : List UInt8).toArray = #[58, 32] from rfl] at C2
      have q1 := eql_list E1 [99, 111, 110, 116, 101, 110, 116, 45, 108, 101, 110, 103, 116, 104]
      clear hO hB hfd hf hA hE hgo hst c2
      go_wp2_with fail
      refine c1.mono ?_
      clear c1
      rintro e w1 ⟨rfl, hB1⟩
      have hB01 := HB.out.trans (hB1.mono hsw)
      have c2 := C2.out w1 hB01
      have HB1 := hid hB01
      have HO1 := hid (HO.out.below hB1)
      clear C2 hB1 hB01
      go_wp2_with fail
      refine c2.mono ?_
      clear c2
      rintro e w2 ⟨rfl, hB2⟩
      have hB02 := HB1.out.trans (hB2.mono HB1.out.size)
      have HB2 := hid hB02
      have HO2 := hid (HO1.out.below hB2)
      clear hB2 hB02 HO1 HB1
      cases E3 with
      | false =>
        have HN : Hid ((acc, D) = (F1, F2)) := by
          unfold Hid
          rw [← HFd.out, HSt.out (Or.inl rfl)]
          simp
        clear HGo HSt HFd
        go_wp2
        go_ret2
        have e1 := HN.out
        injection e1 with e1 e2
        subst e1
        subst e2
        exact ⟨_, rfl, HO2.out, HB2.out⟩
      | true =>
        by_cases hcl : E1 = clS
        · have hcl' : E1 = [99, 111, 110, 116, 101, 110, 116, 45, 108, 101, 110, 103, 116, 104] := hcl
          rw [decide_eq_true hcl'] at q1
          have HN : Hid ((acc, D) = (F1, F2)) := by
            unfold Hid
            rw [← HFd.out, HSt.out (Or.inr hcl)]
            simp
          clear HGo HSt HFd hcl hcl'
          go_wp2
          go_ret2
          have e1 := HN.out
          injection e1 with e1 e2
          subst e1
          subst e2
          exact ⟨_, rfl, HO2.out, HB2.out⟩
        · have hcl' : ¬ E1 = [99, 111, 110, 116, 101, 110, 116, 45, 108, 101, 110, 103, 116, 104] := hcl
          rw [decide_eq_false hcl'] at q1
          have HN : Hid (((acc ++ [(E1, E2)]) ++ (fieldsY (32 - (acc ++ [(E1, E2)]).length) A2).1, (fieldsY (32 - (acc ++ [(E1, E2)]).length) A2).2) = (F1, F2)) := by
            unfold Hid
            have hff := HFf.out
            rw [← HFd.out, HGo.out rfl hcl, show 32 - (acc ++ [(E1, E2)]).length = f by simp; omega]
            simp
          have hF1 := fresh_any E1 w2
          have HF2 := hid (fun W => fresh_any E2 W)
          clear HGo HSt HFd hcl hcl'
          go_wp2_with fail
          refine hF1.mono ?_
          clear hF1
          rintro e w3 ⟨rfl, hB3⟩
          have HB3 := hid (HB2.out.trans (hB3.mono HB2.out.size))
          have HO3 := hid (HO2.out.below hB3)
          have hF2 := HF2.out w3
          clear hB3 HB2 HO2 HF2
          go_wp2_with fail
          refine hF2.mono ?_
          clear hF2
          rintro e w4 ⟨rfl, hB4⟩
          have HB4 := hid (HB3.out.trans (hB4.mono HB3.out.size))
          have HO4 := hid (HO3.out.below hB4)
          have hs4 := HB4.out.size
          clear hB4 HB3 HO3
          go_wp2_with (first
            | (at_builtin
               refine wpList_appP rfl _ _ rfl w.heap.size (.slice ao acc.length cap) acc rfl (HO4.out.below (below_alloc w4 _)) w4.heap.size (E1, E2) rfl (news_pair w4 E1 E2 _) (by omega) (by simp; omega) ?_
               intro v5 w5 hO5 hG5
               obtain ⟨ao5, cap5, rfl⟩ := hO5.shape
               have HO5 := hid hO5
               have HB5 := hid (below_grownBy (HB4.out.trans ((below_alloc w4 (.cells #[strV E1, strV E2] 45)).mono hs4)) hG5 (OwnsP.block HO4.out) (by simp; omega))
               clear hO5 hG5)
            | fail)
          go_roundw
          case rel => exact ⟨A2, acc ++ [(E1, E2)], rfl, by omega, by simp; omega, by have h := HO5.out; rw [List.length_append] at h; exact h, HN.out, HB5.out⟩
          case measure => simp [lenV]; omega
    · have hlt' : ¬ (acc.length : Int) < 32 := by omega
      have HN : Hid ((acc, D) = (F1, F2)) := by
        unfold Hid
        rw [← hfd, show 32 - acc.length = 0 by omega]
        simp [fieldsY]
      clear hO hB hfd
      go_wp2
      go_ret2
      have e1 := HN.out
      injection e1 with e1 e2
      subst e1
      subst e2
      exact ⟨_, rfl, HO.out, HB.out⟩
end Go.Proofs.YtgkipeehmckbdaaDoor
