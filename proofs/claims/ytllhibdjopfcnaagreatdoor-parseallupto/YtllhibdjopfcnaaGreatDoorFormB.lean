/-
  Form of the code, whole.
-/
import Derived.Test.YtllhibdjopfcnaaGreatDoorForm
namespace Go.Proofs.YtllhibdjopfcnaaGreatDoor
open Go.RowKit
set_option linter.unusedVariables false

theorem dec_amp {a b : List UInt8} (h : (dec true (a ++ 38 :: b)).2 = none) : (dec true a).2 = none ∧ (dec true b).2 = none := by
  have k := dec_app true 38 (by decide) hexD_amp b a
  cases ha : (dec true a).2 with
  | none =>
    have := k.1 ha
    rw [this] at h
    exact ⟨rfl, by simpa using h⟩
  | some q => rw [k.2 q ha] at h; cases h
theorem dec_cut38 {l : List UInt8} (h : (dec true l).2 = none) : (dec true (cutC 38 l).1).2 = none ∧ (dec true (cutC 38 l).2.1).2 = none := by
  rcases cutC_spec 38 l with ⟨_, h2⟩ | ⟨a, b, rfl, h2, h3⟩
  · rw [h2]; exact ⟨h, by rw [dec_nil]⟩
  · rw [h3]; exact dec_amp h

def lenOf : Value → Nat
  | .string b => b.size
  | _ => 0
def isT : Value → Nat
  | .bool true => 1
  | _ => 0
theorem lenOf_str (l : List UInt8) : lenOf (.string ⟨l.toArray⟩) = l.length := by
  show (ByteArray.mk l.toArray).size = l.length
  rw [size_list]

/-- How far a form was read. -/
def FormAt (l l' : List UInt8) (b : Bool) (out : List PairL) : Prop :=
  out.length ≤ 32 ∧ (b = true → formL l = out ++ formL l' ∧ (dec true l').2 = none) ∧ (b = false → formL l = out)
theorem FormAt.step {l l' : List UInt8} {out : List PairL} (h : FormAt l l' true out) :
    (dec true (cutC 38 l').1).2 = none ∧ formL l = (out ++ if (cutC 38 l').1 = [] then [] else [pairP (cutC 38 l').1]) ++ (if (cutC 38 l').2.2 = true then formL (cutC 38 l').2.1 else []) ∧
    ((out ++ if (cutC 38 l').1 = [] then [] else [pairP (cutC 38 l').1]).length ≤ 32 → FormAt l (cutC 38 l').2.1 (cutC 38 l').2.2 (out ++ if (cutC 38 l').1 = [] then [] else [pairP (cutC 38 l').1])) := by
  obtain ⟨h1, h2, _⟩ := h
  obtain ⟨h2, h3⟩ := h2 rfl
  have h4 := dec_cut38 h3
  rw [formL_cut l', ← List.append_assoc] at h2
  refine ⟨h4.1, h2, fun hl => ⟨hl, fun hb => ⟨?_, h4.2⟩, fun hb => ?_⟩⟩
  · rw [h2, if_pos hb]
  · rw [h2]; simp [hb]

set_option maxRecDepth 20000 in
set_option maxHeartbeats 1000000 in
theorem partsF_any (l : List UInt8) (q : Nat) (w : World) (hs : l.length + 1 ≤ 140737488355328) (hV : VarAt 32 w q (.slice none 0 0)) (hd : (dec true l).2 = none) :
    Calls Tryz.prog 88 #[.string ⟨l.toArray⟩, .string ⟨#[38]⟩, .func (.func 89) #[] #[.pointer (some ⟨q, 0, none⟩)]] w fun e w' => e = .returned (.tuple #[]) ∧ ∃ v' out, VarAt 32 w' q v' ∧ OwnsP w' (q + 1) v' out ∧ Below q w w' ∧ ((out = formL l ∧ out.length ≤ 32) ∨ (32 < out.length ∧ 32 < (formL l).length)) := by
  have HV := hid hV
  have HF : Hid (FormAt l l true []) := hid ⟨by simp, fun _ => ⟨by simp, hd⟩, fun h => by cases h⟩
  have hlt := hV.lt
  clear hV hd
  go_enter Tryz.func88, Tryz.ntmps88
  go_wp2
  go_loopw [0, 6] (fun s m wr => ∃ (l' : List UInt8) (b : Bool) (out : List PairL) (v : Value), s = .string ⟨l'.toArray⟩ ∧ m = .bool b ∧ l'.length ≤ l.length ∧ FormAt l l' b out ∧ VarAt 32 wr q v ∧ OwnsP wr (q + 1) v out ∧ Below q w wr) (fun s m _ => isT m * (lenOf s + 1))
  case atStart => exact ⟨l, true, [], .slice none 0 0, rfl, rfl, Nat.le_refl _, HF.out, HV.out, OwnsP.nil _ _, Below.refl _ _⟩
  clear HF HV
  case round =>
    obtain ⟨l', b, out, v, rfl, rfl, hl, hF, hV, hO, hB⟩ := hrel
    cases b
    · have HF := hid hF
      have HV := hid hV
      have HO := hid hO
      have HB := hid hB
      clear hF hV hO hB
      go_wp2
      go_returns
      exact ⟨rfl, v, out, HV.out, HO.out, HB.out, Or.inl ⟨(HF.out.2.2 rfl).symm, HF.out.1⟩⟩
    · obtain ⟨f1, f2, f3⟩ := hF.step
      obtain ⟨g1, g2, g3⟩ := cutC_len 38 l'
      have hout := hF.1
      rw [← pairR_right f1] at f2 f3
      have HF2 := hid f2
      have HF3 := hid f3
      have hCut := cut_any l' 38 wr (by omega)
      have HV := hid hV
      have HO := hid hO
      have HB := hid hB
      obtain ⟨c1, hc1⟩ : ∃ x, x = (cutC 38 l').1 := ⟨_, rfl⟩
      obtain ⟨c2, hc2⟩ : ∃ x, x = (cutC 38 l').2.1 := ⟨_, rfl⟩
      obtain ⟨c3, hc3⟩ : ∃ x, x = (cutC 38 l').2.2 := ⟨_, rfl⟩
      rw [← hc1, ← hc2, ← hc3] at HF2 HF3 hCut
      rw [← hc1] at g1
      rw [← hc2, ← hc3] at g2
      rw [← hc2] at g3
      clear hF f1 f2 f3 hV hO hB hc1 hc2 hc3
      go_wp2_with fail
      refine hCut.mono ?_
      clear hCut
      rintro e w1 ⟨rfl, n, hw1⟩
      have hB1 : Below q wr w1 := by rw [hw1]; exact below_drewN' _ _ _
      have hV1 : VarAt 32 w1 q v := by rw [hw1]; exact HV.out.drewN n
      have hO1 : OwnsP w1 (q + 1) v out := by rw [hw1]; exact HO.out.below (below_drewN' _ _ _)
      clear hw1
      have hT := takeF_any c1 q v out w1 hV1 hO1 (by omega) (by omega)
      have HB1 := hid (HB.out.trans hB1)
      clear hV1 hO1 hB1 HV HO HB
      obtain ⟨out2, ho2⟩ : ∃ x, x = (out ++ if c1 = [] then [] else [pairR c1]) := ⟨_, rfl⟩
      rw [← ho2] at hT HF2 HF3
      clear ho2
      go_wp2_with fail
      refine hT.mono ?_
      clear hT
      rintro e w2 ⟨rfl, v2, hV2, hO2, hB2⟩
      have HV2 := hid hV2
      have HO2 := hid hO2
      have HB2 := hid (HB1.out.trans hB2)
      clear hV2 hO2 hB2 HB1
      by_cases hok : out2.length ≤ 32
      · rw [decide_eq_true hok]
        have HN := hid (HF3.out hok)
        clear HF2 HF3
        cases c3
        · go_wp2
          go_roundw
          case rel => exact ⟨c2, false, out2, v2, rfl, rfl, by omega, HN.out, HV2.out, HO2.out, HB2.out⟩
          case measure => simp [isT, lenOf_str]
        · have g2' := g2 rfl
          go_wp2
          go_roundw
          case rel => exact ⟨c2, true, out2, v2, rfl, rfl, by omega, HN.out, HV2.out, HO2.out, HB2.out⟩
          case measure => simp [isT, lenOf_str]; omega
      · rw [decide_eq_false hok]
        have HN := hid (show 32 < (formL l).length by rw [HF2.out, List.length_append]; omega)
        clear HF2 HF3
        go_wp2
        go_returns
        exact ⟨rfl, v2, out2, HV2.out, HO2.out, HB2.out, Or.inr ⟨by omega, HN.out⟩⟩

/-! ### What Form answers -/
def formE (L : List UInt8) : Int := if (dec true L).2 = none then (if 32 < (formL L).length then 2 else 0) else 60
def formO (L : List UInt8) : List PairL := if (dec true L).2 = none then (if 32 < (formL L).length then [] else formL L) else []

set_option maxRecDepth 20000 in
set_option maxHeartbeats 1000000 in
theorem form_any (l : List UInt8) (w : World) (hs : l.length + 1 ≤ 140737488355328) :
    Calls Tryz.prog 57 #[.string ⟨l.toArray⟩] w fun e w' => ∃ v', e = .returned (.tuple #[v', .int .i64 (formE l), .int .i64 (decPl l : Int)]) ∧ OwnsP w' w.heap.size v' (formO l) ∧ Below w.heap.size w w' := by
  have hW := walkF_any ⟨l.toArray⟩ w (by rw [size_list]; exact hs)
  rw [show (⟨l.toArray⟩ : ByteArray).data.toList = l from rfl] at hW
  cases hd : (dec true l).2 with
  | some p =>
    have e1 : formE l = 60 := by rw [formE, hd]; simp
    have e2 : formO l = [] := by rw [formO, hd]; simp
    have e3 : decPl l = p := by rw [decPl, hd]; rfl
    rw [hd] at hW
    rw [e1, e2, e3]
    clear e1 e2 e3 hd
    go_enter Tryz.func57, Tryz.ntmps57
    go_wp2_with fail
    refine hW.mono ?_
    clear hW
    rintro e w1 ⟨rfl, n, hw1⟩
    have HB : Hid (Below w.heap.size w w1) := by unfold Hid; rw [hw1]; exact below_drewN' _ _ _
    clear hw1
    go_wp2
    go_ret3
    exact ⟨_, rfl, OwnsP.nil _ _, HB.out⟩
  | none =>
    have e1 : formE l = if 32 < (formL l).length then 2 else 0 := by rw [formE, if_pos hd]
    have e2 : formO l = if 32 < (formL l).length then [] else formL l := by rw [formO, if_pos hd]
    have e3 : decPl l = 0 := by rw [decPl, hd]; rfl
    have hP := fun w1 hV => partsF_any l w.heap.size w1 hs hV hd
    have HP := hid hP
    rw [hd] at hW
    rw [e3]
    obtain ⟨E, hE⟩ : ∃ x, x = formE l := ⟨_, rfl⟩
    obtain ⟨O, hO⟩ : ∃ x, x = formO l := ⟨_, rfl⟩
    rw [← hE] at e1 ⊢
    rw [← hO] at e2 ⊢
    have HE := hid e1
    have HO := hid e2
    clear e1 e2 e3 hd hE hO hP
    go_enter Tryz.func57, Tryz.ntmps57
    go_wp2_with fail
    refine hW.mono ?_
    clear hW
    rintro e w1 ⟨rfl, n, hw1⟩
    have hB1 : Below w.heap.size w w1 := by rw [hw1]; exact below_drewN' _ _ _
    have hz1 : w1.heap.size = w.heap.size := by rw [hw1]; rfl
    clear hw1
    have hV : VarAt 32 (w1.alloc (.cells #[.slice none 0 0] 32)) w.heap.size (.slice none 0 0) := by
      unfold VarAt
      rw [← hz1]
      exact heap_alloc_new w1 _
    have hP := HP.out _ hV
    have HB2 := hid (hB1.alloc (by omega) (.cells #[.slice none 0 0] 32))
    clear HP hV hB1
    go_wp2_with fail
    first | refine hP.mono ?_ | (rw [hz1]; refine hP.mono ?_)
    clear hP
    rintro e w2 ⟨rfl, v2, out, hV2, hO2, hB3, hcase⟩
    obtain ⟨k1, k2⟩ := hV2.cells
    have HB := hid (HB2.out.trans hB3)
    have HO2 := hid (hO2.le (base' := w.heap.size) (by omega))
    obtain ⟨ao, cap, rfl⟩ := hO2.shape
    clear hV2 hB3 hO2 HB2
    rcases hcase with ⟨h1, h2⟩ | ⟨h1, h2⟩
    · have hlen : ¬ (32 : Int) < (out.length : Int) := by omega
      have HE2 : Hid (E = 0) := by unfold Hid; rw [HE.out, if_neg (by rw [← h1]; omega)]
      have HO3 : Hid (O = out) := by unfold Hid; rw [HO.out, if_neg (by rw [← h1]; omega), h1]
      clear HE HO h1
      go_wp2
      go_ret3
      exact ⟨_, by rw [HE2.out]; rfl, by rw [HO3.out]; exact HO2.out, HB.out⟩
    · have hlen : (32 : Int) < (out.length : Int) := by omega
      have HE2 : Hid (E = 2) := by unfold Hid; rw [HE.out, if_pos h2]
      have HO3 : Hid (O = []) := by unfold Hid; rw [HO.out, if_pos h2]
      clear HE HO h2
      go_wp2
      go_ret3
      exact ⟨_, by rw [HE2.out]; rfl, by rw [HO3.out]; exact OwnsP.nil _ _, HB.out⟩

end Go.Proofs.YtllhibdjopfcnaaGreatDoor
