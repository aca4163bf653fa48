/-
  Target of the code.
-/
import Derived.Test.YtllhibdjopfcnaaGreatDoorZCut
import Derived.Deep.RegionLaw
import Derived.Test.YtllhibdjopfcnaaGreatDoorZMath
namespace Go.Proofs.YtllhibdjopfcnaaGreatDoor
open Go.RowKit
set_option linter.unusedVariables false

/-- At p lies a pair. -/
def PairAt (w : World) (p : Nat) (u v : Value) : Prop := w.heap[p]? = some (.cells #[u, v] 73 (0, 0))
theorem PairAt.lt {w : World} {p : Nat} {u v : Value} (h : PairAt w p u v) : p < w.heap.size := (Array.getElem?_eq_some_iff.1 h).1
theorem PairAt.below {w w' : World} {p B : Nat} {u v : Value} (h : PairAt w p u v) (hb : Below B w w') (hp : p < B) : PairAt w' p u v := by
  unfold PairAt
  rw [hb.block p hp]
  exact h
theorem PairAt.cells {w : World} {p : Nat} {u v : Value} (h : PairAt w p u v) :
    w.cell? ⟨p, 0, none⟩ = some u ∧ w.cell? ⟨p, 1, none⟩ = some v ∧ w.frozen? ⟨p, 0, none⟩ = false ∧ w.frozen? ⟨p, 1, none⟩ = false := by
  unfold PairAt at h
  refine ⟨?_, ?_, ?_, ?_⟩ <;> simp [World.cell?, World.frozen?, h]
theorem PairAt.new (w : World) (u v : Value) : PairAt (w.alloc (.cells #[u, v] 73)) w.heap.size u v := heap_alloc_new w _
theorem PairAt.store0 {w : World} {p : Nat} {u v u' : Value} (h : PairAt w p u v) : PairAt (w.setCell ⟨p, 0, none⟩ u') p u' v := by
  unfold PairAt at *
  simp only [World.setCell, Array.getElem?_modify, h]
  simp
theorem PairAt.store1 {w : World} {p : Nat} {u v v' : Value} (h : PairAt w p u v) : PairAt (w.setCell ⟨p, 1, none⟩ v') p u v' := by
  unfold PairAt at *
  simp only [World.setCell, Array.getElem?_modify, h]
  simp

theorem decode_list (l : List UInt8) (plus : Bool) (w : World) (hs : l.length + 1 ≤ 140737488355328) :
    Calls Tryz.prog 56 #[.string ⟨l.toArray⟩, .bool plus] w fun e w' => e = .returned (.tuple #[.string ⟨(decOut plus l).toArray⟩, .int .i64 (decErr l), .int .i64 (decPl l : Int)]) ∧ Below w.heap.size w w' :=
  decode_any ⟨l.toArray⟩ plus w (by rw [size_list]; exact hs)

/-- What pair answers. -/
def pairR (l : List UInt8) : PairL := (decOut true (cutC 61 l).1, decOut true (cutC 61 l).2.1)
theorem pairR_right {l : List UInt8} (h : (dec true l).2 = none) : pairR l = pairP l := by
  obtain ⟨h1, h2⟩ := dec_part_none h
  unfold pairR pairP decOut
  rw [if_pos h1, if_pos h2]

set_option maxHeartbeats 1000000 in
theorem pair_any (l : List UInt8) (w : World) (hs : l.length + 1 ≤ 140737488355328) :
    Calls Tryz.prog 90 #[.string ⟨l.toArray⟩] w fun e w' => e = .returned (.agg #[strV (pairR l).1, strV (pairR l).2]) ∧ Below w.heap.size w w' := by
  obtain ⟨g1, _, g3⟩ := cutC_len 61 l
  have HCut := hid (fun w1 => cut_any l 61 w1 (by omega))
  have HD1 := hid (fun w1 => decode_list (cutC 61 l).1 true w1 (by omega))
  have HD2 := hid (fun w1 => decode_list (cutC 61 l).2.1 true w1 (by omega))
  have HL0 := hid (PairAt.new w (.string ⟨#[]⟩) (.string ⟨#[]⟩))
  have HB0 := hid (below_alloc w (.cells #[.string ⟨#[]⟩, .string ⟨#[]⟩] 73))
  obtain ⟨P1, hP1⟩ : ∃ x, x = (pairR l).1 := ⟨_, rfl⟩
  obtain ⟨P2, hP2⟩ : ∃ x, x = (pairR l).2 := ⟨_, rfl⟩
  rw [← hP1, ← hP2]
  rw [show decOut true (cutC 61 l).1 = P1 from hP1.symm] at HD1
  rw [show decOut true (cutC 61 l).2.1 = P2 from hP2.symm] at HD2
  clear hP1 hP2 g1 g3
  unfold strV
  go_enter Tryz.func90, Tryz.ntmps90
  go_wp2_with fail
  refine (HCut.out _).mono ?_
  clear HCut
  rintro e w1 ⟨rfl, n, hw1⟩
  have HL1 : Hid (PairAt w1 w.heap.size (.string ⟨#[]⟩) (.string ⟨#[]⟩)) := by unfold Hid; rw [hw1]; exact HL0.out.below (below_drewN' _ _ _) HL0.out.lt
  have HB1 : Hid (Below w.heap.size w w1) := by unfold Hid; rw [hw1]; exact below_drewN HB0.out n
  clear hw1 HL0 HB0
  go_wp2_with fail
  refine (HD1.out _).mono ?_
  clear HD1
  rintro e w2 ⟨rfl, hB⟩
  have HL2 := hid (HL1.out.below hB HL1.out.lt)
  have HB2 := hid (HB1.out.trans (hB.mono HB1.out.size))
  clear hB HL1 HB1
  go_wp2_with fail
  refine (HD2.out _).mono ?_
  clear HD2
  rintro e w3 ⟨rfl, hB⟩
  have HL := hid (HL2.out.below hB HL2.out.lt)
  have HB := hid (HB2.out.trans (hB.mono HB2.out.size))
  clear hB HL2 HB2
  obtain ⟨q1, q2, q3, q4⟩ := HL.out.cells
  have HLF := hid ((HL.out.store0 (u' := .string ⟨P1.toArray⟩)).store1 (v' := .string ⟨P2.toArray⟩))
  have HBF := hid ((HB.out.setCell (p := ⟨w.heap.size, 0, none⟩) (by simp) (.string ⟨P1.toArray⟩)).setCell (p := ⟨w.heap.size, 1, none⟩) (by simp) (.string ⟨P2.toArray⟩))
  go_wp2
  obtain ⟨y1, y2, _, _⟩ := HLF.out.cells
  refine bodyPost_ret (v := .agg #[.string ⟨P1.toArray⟩, .string ⟨P2.toArray⟩]) (by simp [results, Tryz.results90, go_sem, y1, y2]) rfl ?_
  exact ⟨rfl, HBF.out⟩

set_option maxRecDepth 20000 in
set_option maxHeartbeats 1000000 in
theorem takeF_any (l : List UInt8) (q : Nat) (v : Value) (out : List PairL) (w : World) (hV : VarAt 32 w q v) (hO : OwnsP w (q + 1) v out) (hs : l.length + 1 ≤ 140737488355328) (ho : out.length ≤ 1000) :
    Calls Tryz.prog 89 #[.string ⟨l.toArray⟩, .pointer (some ⟨q, 0, none⟩)] w fun e w' => e = .returned (.bool (decide (((out ++ if l = [] then [] else [pairR l]).length) ≤ 32))) ∧ ∃ v', VarAt 32 w' q v' ∧ OwnsP w' (q + 1) v' (out ++ if l = [] then [] else [pairR l]) ∧ Below q w w' := by
  obtain ⟨k1, k2⟩ := hV.cells
  have hlt := hV.lt
  have HV := hid hV
  have HO := hid hO
  obtain ⟨ao, cap, rfl⟩ := hO.shape
  clear hV hO
  by_cases hl : l = []
  · subst hl
    have hb : decide (((out.length : Int)) ≤ 32) = decide (out.length ≤ 32) := by
      by_cases h : out.length ≤ 32
      · rw [decide_eq_true h, decide_eq_true (by omega)]
      · rw [decide_eq_false h, decide_eq_false (by omega)]
    have HBb := hid hb
    clear hb
    rw [if_pos rfl, List.append_nil]
    go_enter Tryz.func89, Tryz.ntmps89
    go_wp2
    go_ret
    exact ⟨ret_bool HBb.out, _, HV.out, HO.out, Below.refl _ _⟩
  · rw [if_neg hl]
    have hne : l.isEmpty = false := by
      cases l with
      | nil => exact absurd rfl hl
      | cons b r => rfl
    have hP := pair_any l w.drew hs
    have HP := hid (fun w1 => pair_any l w1 hs)
    obtain ⟨P, hPe⟩ : ∃ P, P = pairR l := ⟨_, rfl⟩
    rw [← hPe] at HP ⊢
    clear hPe hP
    have hb : decide ((((out ++ [P]).length : Int)) ≤ 32) = decide ((out ++ [P]).length ≤ 32) := by
      by_cases h : (out ++ [P]).length ≤ 32
      · rw [decide_eq_true h, decide_eq_true (by omega)]
      · rw [decide_eq_false h, decide_eq_false (by omega)]
    rw [List.length_append, List.length_singleton] at hb ⊢
    have HBb := hid hb
    clear hb hl
    go_enter Tryz.func89, Tryz.ntmps89
    go_wp2_with fail
    go_region_law
      (first
        | (refine step_appP (by rfl) _ _ (by rfl) (q + 1) (.slice ao out.length cap) out (by rfl) (OwnsP.below HO1.out (below_alloc w1 _)) _ P (by rfl) (news_pair w1 P.1 P.2 73) (by omega) (by simp; omega) ?_
           intro v4 w4 h1 h2
           have hq : VarAt 32 w4 q (.slice ao out.length cap) := by
             have hq1 : VarAt 32 (w1.alloc (.cells #[strV P.1, strV P.2] 73)) q (.slice ao out.length cap) := HV1.out.below (below_alloc w1 _) (by omega)
             unfold VarAt at hq1 ⊢
             rw [h2.block q (by simp; omega) (fun h => by have := OwnsP.block HO1.out q h.symm; omega)]
             exact hq1
           have HB4 : Hid (Below q w w4) := by
             refine hid (HB1.out.trans (Below.grown ((below_alloc w1 (.cells #[strV P.1, strV P.2] 73)).mono (by omega)) h2 (by simp; omega) (fun k hk => ?_)))
             have := OwnsP.block HO1.out k hk
             omega
           obtain ⟨ao4, cap4, rfl⟩ : ∃ ao4 cap4, v4 = .slice ao4 (out.length + 1) cap4 := by
             obtain ⟨ao4, cap4, h⟩ := OwnsP.shape h1
             exact ⟨ao4, cap4, by rw [h]; simp⟩
           have HO4 := hid h1
           have HQ := hid hq
           obtain ⟨k5, k6⟩ := hq.cells
           clear h1 h2 hq)
        | (go_simp
           refine (HP.out _).mono ?_
           rintro e' w1 ⟨rfl, hB1⟩
           have hB1' : Below w.heap.size w w1 := (Below.drew (Below.refl w.heap.size w)).trans hB1
           have HO1 := hid (HO.out.below hB1')
           have HV1 := hid (HV.out.below hB1' hlt)
           obtain ⟨k3, k4⟩ := HV1.out.cells
           obtain ⟨k3a, k4a⟩ := (show VarAt 32 (w1.alloc (.cells #[strV P.1, strV P.2] 73)) q (.slice ao out.length cap) from HV1.out.below (below_alloc w1 _) HV1.out.lt).cells
           have hsz1 := hB1'.size
           have HB1 := hid (hB1'.mono (Nat.le_of_lt hlt))
           clear hB1 hB1' HP))
    all_goals
      have HO5 := hid (show OwnsP (w4.setCell ⟨q, 0, none⟩ (.slice ao4 (out.length + 1) cap4)) (q + 1) (.slice ao4 (out.length + 1) cap4) (out ++ [P]) from ownsRow_setCell_below HO4.out (a := ⟨q, 0, none⟩) (by simp) _)
      have hV5 := HQ.out.store (v' := .slice ao4 (out.length + 1) cap4)
      have HB5 := hid (HB4.out.setCell (p := ⟨q, 0, none⟩) (by simp) (.slice ao4 (out.length + 1) cap4))
      obtain ⟨k7, k8⟩ := hV5.cells
      have HV5 := hid hV5
      clear hV5
      go_wp2
      go_ret
      exact ⟨ret_bool (by rw [← HBb.out]; rfl), _, HV5.out, HO5.out, HB5.out⟩

end Go.Proofs.YtllhibdjopfcnaaGreatDoor

namespace Go.Proofs.YtllhibdjopfcnaaGreatDoor
open Go.RowKit
set_option linter.unusedVariables false

theorem dec_amp {a b : List UInt8} (h : (dec true (a ++ 38 :: b)).2 = none) : (dec true a).2 = none ∧ (dec true b).2 = none := by
  have k := dec_app true 38 (by decide) hexD_amp b a
  cases ha : (dec true a).2 with
  | none =>
    have := k.1 ha
    rw [this] at h
    exact ⟨rfl, by simpa using h⟩
  | some q => rw [k.2 q ha] at h; cases h
theorem dec_cut38 {l : List UInt8} (h : (dec true l).2 = none) : (dec true (cutC 38 l).1).2 = none ∧ (dec true (cutC 38 l).2.1).2 = none := by
  rcases cutC_spec 38 l with ⟨_, h2⟩ | ⟨a, b, rfl, h2, h3⟩
  · rw [h2]; exact ⟨h, by rw [dec_nil]⟩
  · rw [h3]; exact dec_amp h

def lenOf : Value → Nat
  | .string b => b.size
  | _ => 0
def isT : Value → Nat
  | .bool true => 1
  | _ => 0
theorem lenOf_str (l : List UInt8) : lenOf (.string ⟨l.toArray⟩) = l.length := by
  show (ByteArray.mk l.toArray).size = l.length
  rw [size_list]

/-- How far a form was read. -/
def FormAt (l l' : List UInt8) (b : Bool) (out : List PairL) : Prop :=
  out.length ≤ 32 ∧ (b = true → formL l = out ++ formL l' ∧ (dec true l').2 = none) ∧ (b = false → formL l = out)
theorem FormAt.step {l l' : List UInt8} {out : List PairL} (h : FormAt l l' true out) :
    (dec true (cutC 38 l').1).2 = none ∧ formL l = (out ++ if (cutC 38 l').1 = [] then [] else [pairP (cutC 38 l').1]) ++ (if (cutC 38 l').2.2 = true then formL (cutC 38 l').2.1 else []) ∧
    ((out ++ if (cutC 38 l').1 = [] then [] else [pairP (cutC 38 l').1]).length ≤ 32 → FormAt l (cutC 38 l').2.1 (cutC 38 l').2.2 (out ++ if (cutC 38 l').1 = [] then [] else [pairP (cutC 38 l').1])) := by
  obtain ⟨h1, h2, _⟩ := h
  obtain ⟨h2, h3⟩ := h2 rfl
  have h4 := dec_cut38 h3
  rw [formL_cut l', ← List.append_assoc] at h2
  refine ⟨h4.1, h2, fun hl => ⟨hl, fun hb => ⟨?_, h4.2⟩, fun hb => ?_⟩⟩
  · rw [h2, if_pos hb]
  · rw [h2]; simp [hb]

set_option maxRecDepth 20000 in
set_option maxHeartbeats 1000000 in
theorem partsF_any (l : List UInt8) (q : Nat) (w : World) (hs : l.length + 1 ≤ 140737488355328) (hV : VarAt 32 w q (.slice none 0 0)) (hd : (dec true l).2 = none) :
    Calls Tryz.prog 88 #[.string ⟨l.toArray⟩, .string ⟨#[38]⟩, .func (.func 89) #[] #[.pointer (some ⟨q, 0, none⟩)]] w fun e w' => e = .returned (.tuple #[]) ∧ ∃ v' out, VarAt 32 w' q v' ∧ OwnsP w' (q + 1) v' out ∧ Below q w w' ∧ ((out = formL l ∧ out.length ≤ 32) ∨ (32 < out.length ∧ 32 < (formL l).length)) := by
  have HV := hid hV
  have HF : Hid (FormAt l l true []) := hid ⟨by simp, fun _ => ⟨by simp, hd⟩, fun h => by cases h⟩
  have hlt := hV.lt
  clear hV hd
  go_enter Tryz.func88, Tryz.ntmps88
  go_wp2
  go_loopw [0, 6] (fun s m wr => ∃ (l' : List UInt8) (b : Bool) (out : List PairL) (v : Value), s = .string ⟨l'.toArray⟩ ∧ m = .bool b ∧ l'.length ≤ l.length ∧ FormAt l l' b out ∧ VarAt 32 wr q v ∧ OwnsP wr (q + 1) v out ∧ Below q w wr) (fun s m _ => isT m * (lenOf s + 1))
  case atStart => exact ⟨l, true, [], .slice none 0 0, rfl, rfl, Nat.le_refl _, HF.out, HV.out, OwnsP.nil _ _, Below.refl _ _⟩
  clear HF HV
  case round =>
    obtain ⟨l', b, out, v, rfl, rfl, hl, hF, hV, hO, hB⟩ := hrel
    cases b
    · have HF := hid hF
      have HV := hid hV
      have HO := hid hO
      have HB := hid hB
      clear hF hV hO hB
      go_wp2
      go_returns
      exact ⟨rfl, v, out, HV.out, HO.out, HB.out, Or.inl ⟨(HF.out.2.2 rfl).symm, HF.out.1⟩⟩
    · obtain ⟨f1, f2, f3⟩ := hF.step
      obtain ⟨g1, g2, g3⟩ := cutC_len 38 l'
      have hout := hF.1
      rw [← pairR_right f1] at f2 f3
      have HF2 := hid f2
      have HF3 := hid f3
      have hCut := cut_any l' 38 wr (by omega)
      have HV := hid hV
      have HO := hid hO
      have HB := hid hB
      obtain ⟨c1, hc1⟩ : ∃ x, x = (cutC 38 l').1 := ⟨_, rfl⟩
      obtain ⟨c2, hc2⟩ : ∃ x, x = (cutC 38 l').2.1 := ⟨_, rfl⟩
      obtain ⟨c3, hc3⟩ : ∃ x, x = (cutC 38 l').2.2 := ⟨_, rfl⟩
      rw [← hc1, ← hc2, ← hc3] at HF2 HF3 hCut
      rw [← hc1] at g1
      rw [← hc2, ← hc3] at g2
      rw [← hc2] at g3
      clear hF f1 f2 f3 hV hO hB hc1 hc2 hc3
      go_wp2_with fail
      refine hCut.mono ?_
      clear hCut
      rintro e w1 ⟨rfl, n, hw1⟩
      have hB1 : Below q wr w1 := by rw [hw1]; exact below_drewN' _ _ _
      have hV1 : VarAt 32 w1 q v := by rw [hw1]; exact HV.out.drewN n
      have hO1 : OwnsP w1 (q + 1) v out := by rw [hw1]; exact HO.out.below (below_drewN' _ _ _)
      clear hw1
      have hT := takeF_any c1 q v out w1 hV1 hO1 (by omega) (by omega)
      have HB1 := hid (HB.out.trans hB1)
      clear hV1 hO1 hB1 HV HO HB
      obtain ⟨out2, ho2⟩ : ∃ x, x = (out ++ if c1 = [] then [] else [pairR c1]) := ⟨_, rfl⟩
      rw [← ho2] at hT HF2 HF3
      clear ho2
      go_wp2_with fail
      refine hT.mono ?_
      clear hT
      rintro e w2 ⟨rfl, v2, hV2, hO2, hB2⟩
      have HV2 := hid hV2
      have HO2 := hid hO2
      have HB2 := hid (HB1.out.trans hB2)
      clear hV2 hO2 hB2 HB1
      by_cases hok : out2.length ≤ 32
      · rw [decide_eq_true hok]
        have HN := hid (HF3.out hok)
        clear HF2 HF3
        cases c3
        · go_wp2
          go_roundw
          case rel => exact ⟨c2, false, out2, v2, rfl, rfl, by omega, HN.out, HV2.out, HO2.out, HB2.out⟩
          case measure => simp [isT, lenOf_str]
        · have g2' := g2 rfl
          go_wp2
          go_roundw
          case rel => exact ⟨c2, true, out2, v2, rfl, rfl, by omega, HN.out, HV2.out, HO2.out, HB2.out⟩
          case measure => simp [isT, lenOf_str]; omega
      · rw [decide_eq_false hok]
        have HN := hid (show 32 < (formL l).length by rw [HF2.out, List.length_append]; omega)
        clear HF2 HF3
        go_wp2
        go_returns
        exact ⟨rfl, v2, out2, HV2.out, HO2.out, HB2.out, Or.inr ⟨by omega, HN.out⟩⟩

/-! ### What Form answers -/
def formE (L : List UInt8) : Int := if (dec true L).2 = none then (if 32 < (formL L).length then 2 else 0) else 60
def formO (L : List UInt8) : List PairL := if (dec true L).2 = none then (if 32 < (formL L).length then [] else formL L) else []

set_option maxRecDepth 20000 in
set_option maxHeartbeats 1000000 in
theorem form_any (l : List UInt8) (w : World) (hs : l.length + 1 ≤ 140737488355328) :
    Calls Tryz.prog 57 #[.string ⟨l.toArray⟩] w fun e w' => ∃ v', e = .returned (.tuple #[v', .int .i64 (formE l), .int .i64 (decPl l : Int)]) ∧ OwnsP w' w.heap.size v' (formO l) ∧ Below w.heap.size w w' := by
  have hW := walkF_any ⟨l.toArray⟩ w (by rw [size_list]; exact hs)
  rw [show (⟨l.toArray⟩ : ByteArray).data.toList = l from rfl] at hW
  cases hd : (dec true l).2 with
  | some p =>
    have e1 : formE l = 60 := by rw [formE, hd]; simp
    have e2 : formO l = [] := by rw [formO, hd]; simp
    have e3 : decPl l = p := by rw [decPl, hd]; rfl
    rw [hd] at hW
    rw [e1, e2, e3]
    clear e1 e2 e3 hd
    go_enter Tryz.func57, Tryz.ntmps57
    go_wp2_with fail
    refine hW.mono ?_
    clear hW
    rintro e w1 ⟨rfl, n, hw1⟩
    have HB : Hid (Below w.heap.size w w1) := by unfold Hid; rw [hw1]; exact below_drewN' _ _ _
    clear hw1
    go_wp2
    go_ret3
    exact ⟨_, rfl, OwnsP.nil _ _, HB.out⟩
  | none =>
    have e1 : formE l = if 32 < (formL l).length then 2 else 0 := by rw [formE, if_pos hd]
    have e2 : formO l = if 32 < (formL l).length then [] else formL l := by rw [formO, if_pos hd]
    have e3 : decPl l = 0 := by rw [decPl, hd]; rfl
    have hP := fun w1 hV => partsF_any l w.heap.size w1 hs hV hd
    have HP := hid hP
    rw [hd] at hW
    rw [e3]
    obtain ⟨E, hE⟩ : ∃ x, x = formE l := ⟨_, rfl⟩
    obtain ⟨O, hO⟩ : ∃ x, x = formO l := ⟨_, rfl⟩
    rw [← hE] at e1 ⊢
    rw [← hO] at e2 ⊢
    have HE := hid e1
    have HO := hid e2
    clear e1 e2 e3 hd hE hO hP
    go_enter Tryz.func57, Tryz.ntmps57
    go_wp2_with fail
    refine hW.mono ?_
    clear hW
    rintro e w1 ⟨rfl, n, hw1⟩
    have hB1 : Below w.heap.size w w1 := by rw [hw1]; exact below_drewN' _ _ _
    have hz1 : w1.heap.size = w.heap.size := by rw [hw1]; rfl
    clear hw1
    have hV : VarAt 32 (w1.alloc (.cells #[.slice none 0 0] 32)) w.heap.size (.slice none 0 0) := by
      unfold VarAt
      rw [← hz1]
      exact heap_alloc_new w1 _
    have hP := HP.out _ hV
    have HB2 := hid (hB1.alloc (by omega) (.cells #[.slice none 0 0] 32))
    clear HP hV hB1
    go_wp2_with fail
    first | refine hP.mono ?_ | (rw [hz1]; refine hP.mono ?_)
    clear hP
    rintro e w2 ⟨rfl, v2, out, hV2, hO2, hB3, hcase⟩
    obtain ⟨k1, k2⟩ := hV2.cells
    have HB := hid (HB2.out.trans hB3)
    have HO2 := hid (hO2.le (base' := w.heap.size) (by omega))
    obtain ⟨ao, cap, rfl⟩ := hO2.shape
    clear hV2 hB3 hO2 HB2
    rcases hcase with ⟨h1, h2⟩ | ⟨h1, h2⟩
    · have hlen : ¬ (32 : Int) < (out.length : Int) := by omega
      have HE2 : Hid (E = 0) := by unfold Hid; rw [HE.out, if_neg (by rw [← h1]; omega)]
      have HO3 : Hid (O = out) := by unfold Hid; rw [HO.out, if_neg (by rw [← h1]; omega), h1]
      clear HE HO h1
      go_wp2
      go_ret3
      exact ⟨_, by rw [HE2.out]; rfl, by rw [HO3.out]; exact HO2.out, HB.out⟩
    · have hlen : (32 : Int) < (out.length : Int) := by omega
      have HE2 : Hid (E = 2) := by unfold Hid; rw [HE.out, if_pos h2]
      have HO3 : Hid (O = []) := by unfold Hid; rw [HO.out, if_pos h2]
      clear HE HO h2
      go_wp2
      go_ret3
      exact ⟨_, by rw [HE2.out]; rfl, by rw [HO3.out]; exact OwnsP.nil _ _, HB.out⟩

end Go.Proofs.YtllhibdjopfcnaaGreatDoor

namespace Go.Proofs.YtllhibdjopfcnaaGreatDoor
set_option linter.unusedVariables false

def badB (b : UInt8) : Prop := b.toNat < 33 ∨ 126 < b.toNat ∨ b.toNat = 35
/-- The place of the first byte that no target has. -/
def firstBad : List UInt8 → Option Nat
  | [] => none
  | b :: r => if b.toNat < 33 ∨ 126 < b.toNat ∨ b.toNat = 35 then some 0 else (firstBad r).map (· + 1)
def standsV (L : List UInt8) : Option Nat := if L.head? = some 47 then firstBad L else some 0
theorem firstBad_at : ∀ (L : List UInt8) (k : Nat) (h : k < L.length), (∀ j, j < k → ¬ badB (L.getD j 0)) → badB L[k] → firstBad L = some k
  | [], k, h, _, _ => by simp at h
  | b :: r, 0, h, _, hb => by
    have : b.toNat < 33 ∨ 126 < b.toNat ∨ b.toNat = 35 := hb
    rw [firstBad, if_pos this]
  | b :: r, k + 1, h, hno, hb => by
    have h0 : ¬ (b.toNat < 33 ∨ 126 < b.toNat ∨ b.toNat = 35) := hno 0 (by omega)
    have ih := firstBad_at r k (by simpa using h) (fun j hj => by have := hno (j + 1) (by omega); simpa using this) (by simpa using hb)
    rw [firstBad, if_neg h0, ih]
    rfl
theorem firstBad_none : ∀ (L : List UInt8), (∀ j, j < L.length → ¬ badB (L.getD j 0)) → firstBad L = none
  | [], _ => rfl
  | b :: r, hno => by
    have h0 : ¬ (b.toNat < 33 ∨ 126 < b.toNat ∨ b.toNat = 35) := hno 0 (by simp)
    have ih := firstBad_none r (fun j hj => by have := hno (j + 1) (by simpa using hj); simpa using this)
    rw [firstBad, if_neg h0, ih]
    rfl
/-! ### What Target answers -/
structure Tgt where
  path : List UInt8
  query : List PairL
  err : Int
  at' : Nat
def tgt (L : List UInt8) : Tgt :=
  if 1024 < L.length then ⟨[], [], 4, 0⟩ else
  match standsV L with
  | some p => ⟨[], [], 60, p⟩
  | none => match (dec false (cutC 63 L).1).2 with
    | some p => ⟨[], [], 60, p⟩
    | none => match (dec true (cutC 63 L).2.1).2 with
      | some p => ⟨[], [], 60, (cutC 63 L).1.length + 1 + p⟩
      | none => if 32 < (formL (cutC 63 L).2.1).length then ⟨[], [], 2, 0⟩ else ⟨(dec false (cutC 63 L).1).1, formL (cutC 63 L).2.1, 0, 0⟩
end Go.Proofs.YtllhibdjopfcnaaGreatDoor

namespace Go.Proofs.YtllhibdjopfcnaaGreatDoor
open Go.RowKit
set_option linter.unusedVariables false

theorem results_tmp4 {fn : Func} {t u v x : Tmp} (h : fn.results = #[.tmp t, .tmp u, .tmp v, .tmp x]) (tmps : Array Value) (P : Program) (w : World) :
    (results fn tmps).run P w = .ok (.tuple #[tmps.getD t undef, tmps.getD u undef, tmps.getD v undef, tmps.getD x undef]) w := by
  simp [results, h]

theorem hasPrefix_slash (L : List UInt8) : Lib.hasPrefix L [47] = decide (L.head? = some 47) := by
  cases L with
  | nil => rfl
  | cons b r =>
    by_cases h : b = 47
    · subst h; simp [Lib.hasPrefix]
    · have h2 : ¬ (47 : UInt8) = b := fun e => h e.symm
      simp [Lib.hasPrefix, List.isPrefixOf, h, h2]
theorem getD_strN (s : ByteArray) (k : Nat) (h : k < s.size) : s.data.toList.getD k 0 = s[k] := by
  have hl : k < s.data.toList.length := by rw [len_str]; exact h
  simp only [List.getD, List.getElem?_eq_getElem hl, Option.getD_some]
  rfl

set_option maxRecDepth 20000 in
set_option maxHeartbeats 1000000 in
theorem stands_any (s : ByteArray) (w : World) (hs : s.size ≤ 140737488355328) :
    Calls Tryz.prog 54 #[.string s] w fun e w' => e = .returned (.tuple #[.int .i64 (((standsV s.data.toList).getD 0 : Nat) : Int), .bool (standsV s.data.toList).isNone]) ∧ w' = w := by
  have hP := Tryz.strings_HasPrefix s ⟨#[47]⟩ w
  rw [show (⟨#[47]⟩ : ByteArray).data.toList = [47] from rfl, hasPrefix_slash] at hP
  obtain ⟨V, hV⟩ : ∃ V, V = standsV s.data.toList := ⟨_, rfl⟩
  rw [← hV]
  have HV := hid hV
  clear hV
  by_cases hh : s.data.toList.head? = some 47
  · rw [decide_eq_true hh] at hP
    have HVV : Hid (V = firstBad s.data.toList) := by unfold Hid; rw [HV.out, standsV, if_pos hh]
    clear HV hh
    go_enter Tryz.func54, Tryz.ntmps54
    go_wp2_with fail
    refine hP.mono ?_
    clear hP
    rintro e w1 ⟨rfl, hw1⟩
    subst hw1
    go_wp2_with fail
    go_loop [10] (fun i => ∃ (k : Nat), k ≤ s.size ∧ i = .int .i64 (k : Int) ∧ ∀ j, j < k → ¬ badB (s.data.toList.getD j 0)) (fun i => s.size - (intOf i).toNat)
    case atStart => exact ⟨0, Nat.zero_le _, rfl, fun j hj => by omega⟩
    case round =>
      obtain ⟨k, hk, rfl, hno⟩ := hrel
      have HNo := hid hno
      clear hno
      by_cases hlt : k < s.size
      · have hlt' : (k : Int) < (s.size : Int) := by omega
        have i1 := index_byte s .i64 (k : Int) k rfl hlt
        have hll : k < s.data.toList.length := by rw [len_str]; exact hlt
        have hge : s.data.toList[k] = s[k] := rfl
        have HB : Hid (badB s[k] → V = some k) := by
          unfold Hid
          intro hb
          rw [HVV.out]
          exact firstBad_at _ k hll HNo.out (by rw [hge]; exact hb)
        have HG : Hid (¬ badB s[k] → ∀ j, j < k + 1 → ¬ badB (s.data.toList.getD j 0)) := by
          unfold Hid
          intro hb j hj
          by_cases hjk : j = k
          · subst hjk; rw [getD_strN s j hlt]; exact hb
          · exact HNo.out j (by omega)
        obtain ⟨b, hb⟩ : ∃ b, b = s[k] := ⟨_, rfl⟩
        rw [← hb] at i1 HB HG
        have lb := b.toNat_lt
        clear hb hll hge
        by_cases h1 : b.toNat < 33
        · have h1' : ((b.toNat : Nat) : Int) < 33 := by omega
          have HE := hid (HB.out (Or.inl h1))
          clear HB HG
          go_wp2
          go_ret2
          exact ⟨by rw [HE.out]; rfl, rfl⟩
        · have h1' : ¬ ((b.toNat : Nat) : Int) < 33 := by omega
          by_cases h2 : 126 < b.toNat
          · have h2' : (126 : Int) < ((b.toNat : Nat) : Int) := by omega
            have HE := hid (HB.out (Or.inr (Or.inl h2)))
            clear HB HG
            go_wp2
            go_ret2
            exact ⟨by rw [HE.out]; rfl, rfl⟩
          · have h2' : ¬ (126 : Int) < ((b.toNat : Nat) : Int) := by omega
            by_cases h3 : b.toNat = 35
            · have h3' : (((b.toNat : Nat) : Int) == 35) = true := by rw [beq_iff_eq]; omega
              have HE := hid (HB.out (Or.inr (Or.inr h3)))
              clear HB HG h3
              go_wp2
              go_ret2
              exact ⟨by rw [HE.out]; rfl, rfl⟩
            · have h3' : (((b.toNat : Nat) : Int) == 35) = false := by rw [beq_eq_false_iff_ne]; omega
              have HE := hid (HG.out (by unfold badB; omega))
              clear HB HG h3
              go_wp2
              go_round
              case rel => exact ⟨k + 1, by omega, by go_num, HE.out⟩
              case measure => simp [intOf]; omega
      · have hlt' : ¬ (k : Int) < (s.size : Int) := by omega
        have HE : Hid (V = none) := by
          unfold Hid
          rw [HVV.out]
          exact firstBad_none _ (fun j hj => HNo.out j (by rw [len_str] at hj; omega))
        clear HNo
        go_wp2
        go_ret2
        exact ⟨by rw [HE.out]; rfl, rfl⟩
  · rw [decide_eq_false hh] at hP
    have HE : Hid (V = some 0) := by unfold Hid; rw [HV.out, standsV, if_neg hh]
    clear HV hh
    go_enter Tryz.func54, Tryz.ntmps54
    go_wp2_with fail
    refine hP.mono ?_
    clear hP
    rintro e w1 ⟨rfl, hw1⟩
    subst hw1
    go_wp2
    go_ret2
    exact ⟨by rw [HE.out]; rfl, rfl⟩

theorem dec_some_any {L : List UInt8} {p : Nat} (h : (dec false L).2 = some p) : decErr L = 60 ∧ decPl L = p ∧ decOut false L = [] := by
  have h2 : (dec true L).2 = some p := by rw [dec_any true false]; exact h
  refine ⟨by rw [decErr, h2]; simp, by rw [decPl, h2]; rfl, by rw [decOut, h]; simp⟩
theorem dec_none_any {L : List UInt8} (h : (dec false L).2 = none) : decErr L = 0 ∧ decPl L = 0 ∧ decOut false L = (dec false L).1 := by
  have h2 : (dec true L).2 = none := by rw [dec_any true false]; exact h
  refine ⟨by rw [decErr, h2]; simp, by rw [decPl, h2]; rfl, by rw [decOut, h]; simp⟩
theorem formE_some' {L : List UInt8} {p : Nat} (h : (dec true L).2 = some p) : formE L = 60 ∧ formO L = [] ∧ decPl L = p := by
  rw [formE, formO, decPl, h]; simp
theorem formE_full {L : List UInt8} (h : (dec true L).2 = none) (h2 : 32 < (formL L).length) : formE L = 2 ∧ formO L = [] ∧ decPl L = 0 := by
  rw [formE, formO, decPl, h]; simp [h2]
theorem formE_ok {L : List UInt8} (h : (dec true L).2 = none) (h2 : ¬ 32 < (formL L).length) : formE L = 0 ∧ formO L = formL L ∧ decPl L = 0 := by
  rw [formE, formO, decPl, h]; simp [h2]

set_option maxRecDepth 20000 in
set_option maxHeartbeats 2000000 in
theorem target_any (l : List UInt8) (w : World) (hs : l.length ≤ 9223372036854775807) :
    Calls Tryz.prog 38 #[.string ⟨l.toArray⟩] w fun e w' => ∃ v', e = .returned (.tuple #[.string ⟨(tgt l).path.toArray⟩, v', .int .i64 (tgt l).err, .int .i64 ((tgt l).at' : Int)]) ∧ OwnsP w' w.heap.size v' (tgt l).query ∧ Below w.heap.size w w' := by
  obtain ⟨s, hse⟩ : ∃ s : ByteArray, s = ⟨l.toArray⟩ := ⟨_, rfl⟩
  have hsz : s.size = l.length := by rw [hse, size_list]
  obtain ⟨T, hT⟩ : ∃ T, T = tgt l := ⟨_, rfl⟩
  rw [← hT]
  by_cases hlong : 1024 < l.length
  · have hl' : (1024 : Int) < (s.size : Int) := by omega
    rw [tgt, if_pos hlong] at hT
    rw [hT, ← hse]
    clear hT hse hsz
    go_enter Tryz.func38, Tryz.ntmps38
    go_wp2
    (try simp only [Exit.inBlock, Exit.then])
    refine bodyPost_ret (results_tmp4 rfl _ _ _) rfl ?_
    exact ⟨_, rfl, OwnsP.nil _ _, Below.refl _ _⟩
  · have hl' : ¬ (1024 : Int) < (s.size : Int) := by omega
    rw [tgt, if_neg hlong] at hT
    have hSt := stands_any s w (by omega)
    have hCut := fun w => cut_any l 63 w (by omega)
    rw [← hse] at hCut
    rw [show s.data.toList = l by rw [hse]] at hSt
    obtain ⟨g1, _, g3⟩ := cutC_len 63 l
    rw [← hse]
    clear hse hsz
    cases hv : standsV l with
    | some p =>
      rw [hv] at hT hSt
      simp only at hT
      rw [hT]
      clear hT hv hCut g1 g3
      go_enter Tryz.func38, Tryz.ntmps38
      go_wp2_with fail
      refine hSt.mono ?_
      clear hSt
      rintro e w1 ⟨rfl, hw1⟩
      subst hw1
      go_wp2
      (try simp only [Exit.inBlock, Exit.then])
      refine bodyPost_ret (results_tmp4 rfl _ _ _) rfl ?_
      exact ⟨_, rfl, OwnsP.nil _ _, Below.refl _ _⟩
    | none =>
      rw [hv] at hT hSt
      simp only at hT
      have hDe := fun w => decode_list (cutC 63 l).1 false w (by omega)
      have hFo := fun w => form_any (cutC 63 l).2.1 w (by omega)
      obtain ⟨a, ha⟩ : ∃ x, x = (cutC 63 l).1 := ⟨_, rfl⟩
      obtain ⟨b, hb⟩ : ∃ x, x = (cutC 63 l).2.1 := ⟨_, rfl⟩
      obtain ⟨c, hc⟩ : ∃ x, x = (cutC 63 l).2.2 := ⟨_, rfl⟩
      rw [← ha, ← hb, ← hc] at hCut
      rw [← ha] at hDe g1
      rw [← hb] at hFo g3
      rw [← ha, ← hb] at hT
      have HC := hid hCut
      clear hv ha hb hc hCut
      cases hd : (dec false a).2 with
      | some p =>
        rw [hd] at hT
        simp only at hT
        obtain ⟨x1, x2, x3⟩ := dec_some_any hd
        rw [x1, x2, x3] at hDe
        rw [hT]
        have HD := hid hDe
        clear hT hd x1 x2 x3 hDe hFo
        go_enter Tryz.func38, Tryz.ntmps38
        go_wp2_with fail
        refine hSt.mono ?_
        clear hSt
        rintro e w1 ⟨rfl, hw1⟩
        subst hw1
        go_wp2_with fail
        refine (HC.out _).mono ?_
        clear HC
        rintro e w2 ⟨rfl, n, hw2⟩
        have HB2 : Hid (Below w1.heap.size w1 w2) := by unfold Hid; rw [hw2]; exact below_drewN' _ _ _
        clear hw2
        go_wp2_with fail
        refine (HD.out _).mono ?_
        clear HD
        rintro e w3 ⟨rfl, hB⟩
        have HB3 := hid (HB2.out.trans (hB.mono HB2.out.size))
        clear hB HB2
        go_wp2
        (try simp only [Exit.inBlock, Exit.then])
        refine bodyPost_ret (results_tmp4 rfl _ _ _) rfl ?_
        exact ⟨_, rfl, OwnsP.nil _ _, HB3.out⟩
      | none =>
        rw [hd] at hT
        simp only at hT
        obtain ⟨x1, x2, x3⟩ := dec_none_any hd
        rw [x1, x2, x3] at hDe
        have HD := hid hDe
        have HF : Hid (∀ w, Calls Tryz.prog 57 #[.string ⟨b.toArray⟩] w fun e w' => ∃ v', e = .returned (.tuple #[v', .int .i64 (formE b), .int .i64 (decPl b : Int)]) ∧ OwnsP w' w.heap.size v' (formO b) ∧ Below w.heap.size w w') := hid hFo
        have HSt := hid hSt
        have hal : a.length ≤ 1024 := by omega
        have hasz : (⟨a.toArray⟩ : ByteArray).size = a.length := size_list a
        clear hd x1 x2 x3 hDe hFo hSt
        have key : ∃ (E : Int) (D : Nat) (O : List PairL), formE b = E ∧ decPl b = D ∧ formO b = O ∧
            ((E = 60 ∧ D ≤ 1024 ∧ T = ⟨[], [], 60, a.length + 1 + D⟩) ∨ (E = 2 ∧ T = ⟨[], [], 2, 0⟩) ∨ (E = 0 ∧ T = ⟨(dec false a).1, O, 0, 0⟩)) := by
          cases hb2 : (dec true b).2 with
          | some p =>
            obtain ⟨y1, y2, y3⟩ := formE_some' hb2
            have := dec_place true b p hb2
            refine ⟨_, _, _, rfl, rfl, rfl, Or.inl ⟨y1, by omega, ?_⟩⟩
            rw [hT, hb2, y3]
          | none =>
            by_cases h32 : 32 < (formL b).length
            · obtain ⟨y1, y2, y3⟩ := formE_full hb2 h32
              refine ⟨_, _, _, rfl, rfl, rfl, Or.inr (Or.inl ⟨y1, ?_⟩)⟩
              rw [hT, hb2]
              simp [h32]
            · obtain ⟨y1, y2, y3⟩ := formE_ok hb2 h32
              refine ⟨_, _, _, rfl, rfl, rfl, Or.inr (Or.inr ⟨y1, ?_⟩)⟩
              rw [hT, hb2, y2]
              simp [h32]
        obtain ⟨E, D, O, k1, k2, k3, hcase⟩ := key
        rw [k1, k2, k3] at HF
        clear k1 k2 k3 hT
        rcases hcase with ⟨rfl, hD, hTe⟩ | ⟨rfl, hTe⟩ | ⟨rfl, hTe⟩
        all_goals
          rw [hTe]
          clear hTe
          go_enter Tryz.func38, Tryz.ntmps38
          go_wp2_with fail
          refine HSt.out.mono ?_
          clear HSt
          rintro e w1 ⟨rfl, hw1⟩
          subst hw1
          go_wp2_with fail
          refine (HC.out _).mono ?_
          clear HC
          rintro e w2 ⟨rfl, n, hw2⟩
          have HB2 : Hid (Below w1.heap.size w1 w2) := by unfold Hid; rw [hw2]; exact below_drewN' _ _ _
          clear hw2
          go_wp2_with fail
          refine (HD.out _).mono ?_
          clear HD
          rintro e w3 ⟨rfl, hB⟩
          have HB3 := hid (HB2.out.trans (hB.mono HB2.out.size))
          clear hB HB2
          go_wp2_with fail
          refine (HF.out _).mono ?_
          clear HF
          rintro e w4 ⟨v4, rfl, hO4, hB⟩
          have HB4 := hid (HB3.out.trans (hB.mono HB3.out.size))
          have HO4 := hid (hO4.le HB3.out.size)
          clear hO4 hB HB3
          go_wp2
          (try simp only [Exit.inBlock, Exit.then])
          refine bodyPost_ret (results_tmp4 rfl _ _ _) rfl ?_
          first
            | exact ⟨_, rfl, OwnsP.nil _ _, HB4.out⟩
            | exact ⟨_, rfl, HO4.out, HB4.out⟩
            | (refine ⟨_, ?_, OwnsP.nil _ _, HB4.out⟩; show Ending.returned _ = Ending.returned _; congr 3; omega)

end Go.Proofs.YtllhibdjopfcnaaGreatDoor
