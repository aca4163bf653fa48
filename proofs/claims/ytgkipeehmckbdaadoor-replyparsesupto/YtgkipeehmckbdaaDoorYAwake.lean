/-
  What must come whatever the arguments are; how long a text is.
-/
import Derived.Test.YtgkipeehmckbdaaDoorYParse
namespace Go.Proofs.YtgkipeehmckbdaaDoor
open Go.RowKit
set_option linter.unusedVariables false

theorem text_len {r : RespL} {c : Nat} (h : mayY r = true) (hc : ∀ p ∈ r.2.1, p.1.length ≤ c ∧ p.2.length ≤ c) : (textY r).length ≤ 1048876 + 32 * (2 * c + 4) := by
  obtain ⟨⟨k1, k2, k3, k4⟩, _⟩ := mayY_ok h
  have e : textY r = lineY r.1 ++ 13 :: 10 :: (joinE (r.2.1.map rawOf) ++ tailY r) := rfl
  have j := join_take_le (fs := r.2.1) (c := 2 * c + 4) (fun p hp => by have := hc p hp; omega) 32
  rw [List.take_of_length_le k3] at j
  have l1 := reason_len r.1
  have l2 : (Lib.itoa r.1).length ≤ 7 := itoa_len9 (by omega) (by omega)
  have l3 : (Lib.itoa (r.2.2.1.length : Int)).length ≤ 7 := itoa_len9 (by omega) (by omega)
  have l4 : (wordY r.2.2.2).length ≤ 10 := by cases r.2.2.2 <;> decide
  rw [e]
  simp [lineY, tailY, clY, cnY, v11, clS, cnS]
  omega
def awR : RespL := (200, [], [104, 105], false)
def awT : List UInt8 := [72, 84, 84, 80, 47, 49, 46, 49, 32, 50, 48, 48, 32, 79, 75, 13, 10, 99, 111, 110, 116, 101, 110, 116, 45, 108, 101, 110, 103, 116, 104, 58, 32, 50, 13, 10, 99, 111, 110, 110, 101, 99, 116, 105, 111, 110, 58, 32, 107, 101, 101, 112, 45, 97, 108, 105, 118, 101, 13, 10, 13, 10, 104, 105]
theorem aw_prn : prnY awR = some awT := by
  have e1 : Lib.itoa 200 = [50, 48, 48] := by
    have := itoa_nat 200
    rw [show ((200 : Nat) : Int) = 200 from rfl] at this
    rw [this, dec_step, if_neg (by decide), dec_step, if_neg (by decide), dec_step, if_pos (by decide)]
    rfl
  have e2 : Lib.itoa ((([104, 105] : List UInt8).length : Nat) : Int) = [50] := by
    rw [itoa_nat, dec_step, if_pos (by decide)]
    rfl
  have hm : mayY awR = true := by decide
  unfold prnY
  rw [if_pos hm]
  have : textY awR = v11 ++ 32 :: (Lib.itoa 200 ++ 32 :: reasonO 200) ++ 13 :: 10 :: (joinE ([].map rawOf) ++ ((clS ++ 58 :: 32 :: Lib.itoa ((([104, 105] : List UInt8).length : Nat) : Int)) ++ 13 :: 10 :: (cnY false ++ 13 :: 10 :: 13 :: 10 :: [104, 105]))) := rfl
  rw [this, e1, e2]
  rfl
set_option maxRecDepth 20000 in
set_option maxHeartbeats 2000000 in
theorem awake_any (w : World) (hI : ItoaAt w) (hT : Tab w) : Calls Tryd.prog 14 #[] w fun e w' => e = .returned (.bool true) ∧ Below w.heap.size w w' := by
  have hP := plain_any 200 [104, 105] false w
  have hQ := fun W (hb : Below w.heap.size w W) => print_any awR (.slice none 0 0) W (hI.below hb) (hT.below hb) (⟨0, 0, none, 0, rfl, Nat.le_refl _, fun _ => rfl, fun h => absurd rfl h, fun j hj => by simp [awR] at hj⟩) (fun p hp => by cases hp) (by decide)
  simp only [aw_prn] at hQ
  have q1 : (awT == [72, 84, 84, 80, 47, 49, 46, 49, 32, 50, 48, 48, 32, 79, 75, 13, 10, 99, 111, 110, 116, 101, 110, 116, 45, 108, 101, 110, 103, 116, 104, 58, 32, 50, 13, 10, 99, 111, 110, 110, 101, 99, 116, 105, 111, 110, 58, 32, 107, 101, 101, 112, 45, 97, 108, 105, 118, 101, 13, 10, 13, 10, 104, 105]) = true := by decide
  have q2 : awT = [72, 84, 84, 80, 47, 49, 46, 49, 32, 50, 48, 48, 32, 79, 75, 13, 10, 99, 111, 110, 116, 101, 110, 116, 45, 108, 101, 110, 103, 116, 104, 58, 32, 50, 13, 10, 99, 111, 110, 110, 101, 99, 116, 105, 111, 110, 58, 32, 107, 101, 101, 112, 45, 97, 108, 105, 118, 101, 13, 10, 13, 10, 104, 105] := rfl
  obtain ⟨AT, hAT⟩ : ∃ AT, AT = awT := ⟨_, rfl⟩
  rw [← hAT] at q1 q2
  simp only [← hAT, awR, rspV, Option.getD_some, Option.isSome_some] at hQ
  have HQ := hid hQ
  have HQ2 := hid q2
  clear hQ hI hT hAT q2
  rw [show (⟨([104, 105] : List UInt8).toArray⟩ : ByteArray) = ⟨#[104, 105]⟩ from rfl] at hP HQ
  go_enter Tryd.func14, Tryd.ntmps14
  go_wp2_with fail
  refine hP.mono ?_
  clear hP
  rintro e w1 ⟨rfl, hB1⟩
  have hQ := HQ.out w1 hB1
  have HB1 := hid hB1
  clear hB1 HQ
  go_wp2_with fail
  refine hQ.mono ?_
  clear hQ
  rintro e w2 ⟨rfl, hB2⟩
  have HB2 := hid (HB1.out.trans (hB2.mono HB1.out.size))
  clear hB2
  go_wp2
  go_ret
  exact ⟨by rfl, HB2.out⟩
end Go.Proofs.YtgkipeehmckbdaaDoor
