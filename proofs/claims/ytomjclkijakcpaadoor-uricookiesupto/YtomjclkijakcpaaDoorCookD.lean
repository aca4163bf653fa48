/-
  Cookies of the code, whole.
-/
import Derived.Test.YtomjclkijakcpaaDoorCookC
namespace Go.Proofs.YtomjclkijakcpaaDoor
open Go.RowKit
set_option linter.unusedVariables false

def cookL (l : List UInt8) : List PairL := (cookAll l).take 32
/-- How far cookies were read. -/
def CookAt (l l' : List UInt8) (b : Bool) (out : List PairL) : Prop :=
  out.length < 32 ∧ (b = true → cookAll l = out ++ cookAll l') ∧ (b = false → cookAll l = out)
theorem CookAt.done {l l' : List UInt8} {out : List PairL} (h : CookAt l l' false out) : out = cookL l := by
  rw [cookL, h.2.2 rfl, List.take_of_length_le (by have := h.1; omega)]
theorem CookAt.step {l l' : List UInt8} {out : List PairL} (h : CookAt l l' true out) :
    ((out ++ cookP (cutC 59 l').1).length < 32 → CookAt l (cutC 59 l').2.1 (cutC 59 l').2.2 (out ++ cookP (cutC 59 l').1)) ∧
    (¬ (out ++ cookP (cutC 59 l').1).length < 32 → out ++ cookP (cutC 59 l').1 = cookL l) := by
  obtain ⟨h1, h2, _⟩ := h
  have h2 := h2 rfl
  rw [cookAll_cut l', ← List.append_assoc] at h2
  have hl := cookP_len (cutC 59 l').1
  refine ⟨fun hlt => ⟨hlt, fun hb => ?_, fun hb => ?_⟩, fun hge => ?_⟩
  · rw [h2, if_pos hb]
  · rw [h2]; simp [hb]
  · have h32 : (out ++ cookP (cutC 59 l').1).length = 32 := by rw [List.length_append] at hge ⊢; omega
    rw [cookL, h2, ← h32, List.take_left]

set_option maxRecDepth 20000 in
set_option maxHeartbeats 1000000 in
theorem partsC_any (l : List UInt8) (q : Nat) (w : World) (hs : l.length ≤ 140737488355328) (hV : VarAt 22 w q (.slice none 0 0)) :
    Calls Tryd.prog 13 #[.string ⟨l.toArray⟩, .string ⟨#[59]⟩, .func (.func 14) #[] #[.pointer (some ⟨q, 0, none⟩)]] w fun e w' => e = .returned (.tuple #[]) ∧ ∃ v', VarAt 22 w' q v' ∧ OwnsP w' (q + 1) v' (cookL l) ∧ Below q w w' := by
  have HV := hid hV
  have HF : Hid (CookAt l l true []) := hid ⟨by simp, fun _ => by simp, fun h => by cases h⟩
  have hlt := hV.lt
  clear hV
  go_enter Tryd.func13, Tryd.ntmps13
  go_wp2
  go_loopw [0, 6] (fun s m wr => ∃ (l' : List UInt8) (b : Bool) (out : List PairL) (v : Value), s = .string ⟨l'.toArray⟩ ∧ m = .bool b ∧ l'.length ≤ l.length ∧ CookAt l l' b out ∧ VarAt 22 wr q v ∧ OwnsP wr (q + 1) v out ∧ Below q w wr) (fun s m _ => isT m * (lenOf s + 1))
  case atStart => exact ⟨l, true, [], .slice none 0 0, rfl, rfl, Nat.le_refl _, HF.out, HV.out, OwnsP.nil _ _, Below.refl _ _⟩
  clear HF HV
  case round =>
    obtain ⟨l', b, out, v, rfl, rfl, hl, hF, hV, hO, hB⟩ := hrel
    cases b
    · have HF := hid hF
      have HV := hid hV
      have HO := hid hO
      have HB := hid hB
      clear hF hV hO hB
      go_wp2
      go_returns
      exact ⟨rfl, v, HV.out, by rw [← HF.out.done]; exact HO.out, HB.out⟩
    · obtain ⟨f2, f3⟩ := hF.step
      obtain ⟨g1, g2, g3⟩ := cutC_len 59 l'
      have hout := hF.1
      have HF2 := hid f2
      have HF3 := hid f3
      have hCut := cut_any l' 59 wr (by omega)
      have HV := hid hV
      have HO := hid hO
      have HB := hid hB
      obtain ⟨c1, hc1⟩ : ∃ x, x = (cutC 59 l').1 := ⟨_, rfl⟩
      obtain ⟨c2, hc2⟩ : ∃ x, x = (cutC 59 l').2.1 := ⟨_, rfl⟩
      obtain ⟨c3, hc3⟩ : ∃ x, x = (cutC 59 l').2.2 := ⟨_, rfl⟩
      rw [← hc1, ← hc2, ← hc3] at HF2 hCut
      rw [← hc1] at g1 HF3
      rw [← hc2, ← hc3] at g2
      rw [← hc2] at g3
      clear hF f2 f3 hV hO hB hc1 hc2 hc3
      go_wp2_with fail
      refine hCut.mono ?_
      clear hCut
      rintro e w1 ⟨rfl, n, hw1⟩
      have hB1 : Below q wr w1 := by rw [hw1]; exact below_drewN' _ _ _
      have hV1 : VarAt 22 w1 q v := by rw [hw1]; exact HV.out.drewN n
      have hO1 : OwnsP w1 (q + 1) v out := by rw [hw1]; exact HO.out.below (below_drewN' _ _ _)
      clear hw1
      have hT := takeC_any c1 q v out w1 hV1 hO1 (by omega) (by omega)
      have HB1 := hid (HB.out.trans hB1)
      clear hV1 hO1 hB1 HV HO HB
      obtain ⟨out2, ho2⟩ : ∃ x, x = (out ++ cookP c1) := ⟨_, rfl⟩
      rw [← ho2] at hT HF2 HF3
      clear ho2
      go_wp2_with fail
      refine hT.mono ?_
      clear hT
      rintro e w2 ⟨rfl, v2, hV2, hO2, hB2⟩
      have HV2 := hid hV2
      have HO2 := hid hO2
      have HB2 := hid (HB1.out.trans hB2)
      clear hV2 hO2 hB2 HB1
      by_cases hok : out2.length < 32
      · rw [decide_eq_true hok]
        have HN := hid (HF2.out hok)
        clear HF2 HF3
        cases c3
        · go_wp2
          go_roundw
          case rel => exact ⟨c2, false, out2, v2, rfl, rfl, by omega, HN.out, HV2.out, HO2.out, HB2.out⟩
          case measure => simp [isT, lenOf_str]
        · have g2' := g2 rfl
          go_wp2
          go_roundw
          case rel => exact ⟨c2, true, out2, v2, rfl, rfl, by omega, HN.out, HV2.out, HO2.out, HB2.out⟩
          case measure => simp [isT, lenOf_str]; omega
      · rw [decide_eq_false hok]
        have HN := hid (HF3.out hok)
        clear HF2 HF3
        go_wp2
        go_returns
        exact ⟨rfl, v2, HV2.out, by rw [← HN.out]; exact HO2.out, HB2.out⟩

set_option maxHeartbeats 1000000 in
theorem cookies_any (l : List UInt8) (w : World) (hs : l.length ≤ 140737488355328) :
    Calls Tryd.prog 7 #[.string ⟨l.toArray⟩] w fun e w' => ∃ v', e = .returned v' ∧ OwnsP w' w.heap.size v' (cookL l) ∧ Below w.heap.size w w' := by
  have hP := partsC_any l w.heap.size (w.alloc (.cells #[.slice none 0 0] 22)) hs (heap_alloc_new w _)
  have HZ := hid (below_alloc w (.cells #[.slice none 0 0] 22))
  go_enter Tryd.func7, Tryd.ntmps7
  go_wp2_with fail
  refine hP.mono ?_
  clear hP
  rintro e w2 ⟨rfl, v2, hV2, hO2, hB2⟩
  obtain ⟨k1, k2⟩ := hV2.cells
  have HB := hid (HZ.out.trans hB2)
  have HO := hid (hO2.le (base' := w.heap.size) (by omega))
  obtain ⟨ao, cap, rfl⟩ := hO2.shape
  clear hV2 hO2 hB2 HZ
  go_wp2
  go_ret
  exact ⟨_, rfl, HO.out, HB.out⟩

end Go.Proofs.YtomjclkijakcpaaDoor
