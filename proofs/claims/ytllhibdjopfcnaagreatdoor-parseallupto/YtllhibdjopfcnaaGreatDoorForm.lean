/-
  Form of the code: pair, its closure, parts.
-/
import Derived.Test.YtllhibdjopfcnaaGreatDoorPairs
import Derived.Test.YtllhibdjopfcnaaGreatDoorDecC
import Derived.Deep.RegionLaw
namespace Go.Proofs.YtllhibdjopfcnaaGreatDoor
open Go.RowKit
set_option linter.unusedVariables false

/-- At p lies a pair. -/
def PairAt (w : World) (p : Nat) (u v : Value) : Prop := w.heap[p]? = some (.cells #[u, v] 73 (0, 0))
theorem PairAt.lt {w : World} {p : Nat} {u v : Value} (h : PairAt w p u v) : p < w.heap.size := (Array.getElem?_eq_some_iff.1 h).1
theorem PairAt.below {w w' : World} {p B : Nat} {u v : Value} (h : PairAt w p u v) (hb : Below B w w') (hp : p < B) : PairAt w' p u v := by
  unfold PairAt
  rw [hb.block p hp]
  exact h
theorem PairAt.cells {w : World} {p : Nat} {u v : Value} (h : PairAt w p u v) :
    w.cell? ⟨p, 0, none⟩ = some u ∧ w.cell? ⟨p, 1, none⟩ = some v ∧ w.frozen? ⟨p, 0, none⟩ = false ∧ w.frozen? ⟨p, 1, none⟩ = false := by
  unfold PairAt at h
  refine ⟨?_, ?_, ?_, ?_⟩ <;> simp [World.cell?, World.frozen?, h]
theorem PairAt.new (w : World) (u v : Value) : PairAt (w.alloc (.cells #[u, v] 73)) w.heap.size u v := heap_alloc_new w _
theorem PairAt.store0 {w : World} {p : Nat} {u v u' : Value} (h : PairAt w p u v) : PairAt (w.setCell ⟨p, 0, none⟩ u') p u' v := by
  unfold PairAt at *
  simp only [World.setCell, Array.getElem?_modify, h]
  simp
theorem PairAt.store1 {w : World} {p : Nat} {u v v' : Value} (h : PairAt w p u v) : PairAt (w.setCell ⟨p, 1, none⟩ v') p u v' := by
  unfold PairAt at *
  simp only [World.setCell, Array.getElem?_modify, h]
  simp

theorem decode_list (l : List UInt8) (plus : Bool) (w : World) (hs : l.length + 1 ≤ 140737488355328) :
    Calls Tryz.prog 56 #[.string ⟨l.toArray⟩, .bool plus] w fun e w' => e = .returned (.tuple #[.string ⟨(decOut plus l).toArray⟩, .int .i64 (decErr l), .int .i64 (decPl l : Int)]) ∧ Below w.heap.size w w' :=
  decode_any ⟨l.toArray⟩ plus w (by rw [size_list]; exact hs)

/-- What pair answers. -/
def pairR (l : List UInt8) : PairL := (decOut true (cutC 61 l).1, decOut true (cutC 61 l).2.1)
theorem pairR_right {l : List UInt8} (h : (dec true l).2 = none) : pairR l = pairP l := by
  obtain ⟨h1, h2⟩ := dec_part_none h
  unfold pairR pairP decOut
  rw [if_pos h1, if_pos h2]

set_option maxHeartbeats 1000000 in
theorem pair_any (l : List UInt8) (w : World) (hs : l.length + 1 ≤ 140737488355328) :
    Calls Tryz.prog 90 #[.string ⟨l.toArray⟩] w fun e w' => e = .returned (.agg #[strV (pairR l).1, strV (pairR l).2]) ∧ Below w.heap.size w w' := by
  obtain ⟨g1, _, g3⟩ := cutC_len 61 l
  have HCut := hid (fun w1 => cut_any l 61 w1 (by omega))
  have HD1 := hid (fun w1 => decode_list (cutC 61 l).1 true w1 (by omega))
  have HD2 := hid (fun w1 => decode_list (cutC 61 l).2.1 true w1 (by omega))
  have HL0 := hid (PairAt.new w (.string ⟨#[]⟩) (.string ⟨#[]⟩))
  have HB0 := hid (below_alloc w (.cells #[.string ⟨#[]⟩, .string ⟨#[]⟩] 73))
  obtain ⟨P1, hP1⟩ : ∃ x, x = (pairR l).1 := ⟨_, rfl⟩
  obtain ⟨P2, hP2⟩ : ∃ x, x = (pairR l).2 := ⟨_, rfl⟩
  rw [← hP1, ← hP2]
  rw [show decOut true (cutC 61 l).1 = P1 from hP1.symm] at HD1
  rw [show decOut true (cutC 61 l).2.1 = P2 from hP2.symm] at HD2
  clear hP1 hP2 g1 g3
  unfold strV
  go_enter Tryz.func90, Tryz.ntmps90
  go_wp2_with fail
  refine (HCut.out _).mono ?_
  clear HCut
  rintro e w1 ⟨rfl, n, hw1⟩
  have HL1 : Hid (PairAt w1 w.heap.size (.string ⟨#[]⟩) (.string ⟨#[]⟩)) := by unfold Hid; rw [hw1]; exact HL0.out.below (below_drewN' _ _ _) HL0.out.lt
  have HB1 : Hid (Below w.heap.size w w1) := by unfold Hid; rw [hw1]; exact below_drewN HB0.out n
  clear hw1 HL0 HB0
  go_wp2_with fail
  refine (HD1.out _).mono ?_
  clear HD1
  rintro e w2 ⟨rfl, hB⟩
  have HL2 := hid (HL1.out.below hB HL1.out.lt)
  have HB2 := hid (HB1.out.trans (hB.mono HB1.out.size))
  clear hB HL1 HB1
  go_wp2_with fail
  refine (HD2.out _).mono ?_
  clear HD2
  rintro e w3 ⟨rfl, hB⟩
  have HL := hid (HL2.out.below hB HL2.out.lt)
  have HB := hid (HB2.out.trans (hB.mono HB2.out.size))
  clear hB HL2 HB2
  obtain ⟨q1, q2, q3, q4⟩ := HL.out.cells
  have HLF := hid ((HL.out.store0 (u' := .string ⟨P1.toArray⟩)).store1 (v' := .string ⟨P2.toArray⟩))
  have HBF := hid ((HB.out.setCell (p := ⟨w.heap.size, 0, none⟩) (by simp) (.string ⟨P1.toArray⟩)).setCell (p := ⟨w.heap.size, 1, none⟩) (by simp) (.string ⟨P2.toArray⟩))
  go_wp2
  obtain ⟨y1, y2, _, _⟩ := HLF.out.cells
  refine bodyPost_ret (v := .agg #[.string ⟨P1.toArray⟩, .string ⟨P2.toArray⟩]) (by simp [results, Tryz.results90, go_sem, y1, y2]) rfl ?_
  exact ⟨rfl, HBF.out⟩

set_option maxRecDepth 20000 in
set_option maxHeartbeats 1000000 in
theorem takeF_any (l : List UInt8) (q : Nat) (v : Value) (out : List PairL) (w : World) (hV : VarAt 32 w q v) (hO : OwnsP w (q + 1) v out) (hs : l.length + 1 ≤ 140737488355328) (ho : out.length ≤ 1000) :
    Calls Tryz.prog 89 #[.string ⟨l.toArray⟩, .pointer (some ⟨q, 0, none⟩)] w fun e w' => e = .returned (.bool (decide (((out ++ if l = [] then [] else [pairR l]).length) ≤ 32))) ∧ ∃ v', VarAt 32 w' q v' ∧ OwnsP w' (q + 1) v' (out ++ if l = [] then [] else [pairR l]) ∧ Below q w w' := by
  obtain ⟨k1, k2⟩ := hV.cells
  have hlt := hV.lt
  have HV := hid hV
  have HO := hid hO
  obtain ⟨ao, cap, rfl⟩ := hO.shape
  clear hV hO
  by_cases hl : l = []
  · subst hl
    have hb : decide (((out.length : Int)) ≤ 32) = decide (out.length ≤ 32) := by
      by_cases h : out.length ≤ 32
      · rw [decide_eq_true h, decide_eq_true (by omega)]
      · rw [decide_eq_false h, decide_eq_false (by omega)]
    have HBb := hid hb
    clear hb
    rw [if_pos rfl, List.append_nil]
    go_enter Tryz.func89, Tryz.ntmps89
    go_wp2
    go_ret
    exact ⟨ret_bool HBb.out, _, HV.out, HO.out, Below.refl _ _⟩
  · rw [if_neg hl]
    have hne : l.isEmpty = false := by
      cases l with
      | nil => exact absurd rfl hl
      | cons b r => rfl
    have hP := pair_any l w.drew hs
    have HP := hid (fun w1 => pair_any l w1 hs)
    obtain ⟨P, hPe⟩ : ∃ P, P = pairR l := ⟨_, rfl⟩
    rw [← hPe] at HP ⊢
    clear hPe hP
    have hb : decide ((((out ++ [P]).length : Int)) ≤ 32) = decide ((out ++ [P]).length ≤ 32) := by
      by_cases h : (out ++ [P]).length ≤ 32
      · rw [decide_eq_true h, decide_eq_true (by omega)]
      · rw [decide_eq_false h, decide_eq_false (by omega)]
    rw [List.length_append, List.length_singleton] at hb ⊢
    have HBb := hid hb
    clear hb hl
    go_enter Tryz.func89, Tryz.ntmps89
    go_wp2_with fail
    go_region_law
      (first
        | (refine step_appP (by rfl) _ _ (by rfl) (q + 1) (.slice ao out.length cap) out (by rfl) (OwnsP.below HO1.out (below_alloc w1 _)) _ P (by rfl) (news_pair w1 P.1 P.2 73) (by omega) (by simp; omega) ?_
           intro v4 w4 h1 h2
           have hq : VarAt 32 w4 q (.slice ao out.length cap) := by
             have hq1 : VarAt 32 (w1.alloc (.cells #[strV P.1, strV P.2] 73)) q (.slice ao out.length cap) := HV1.out.below (below_alloc w1 _) (by omega)
             unfold VarAt at hq1 ⊢
             rw [h2.block q (by simp; omega) (fun h => by have := OwnsP.block HO1.out q h.symm; omega)]
             exact hq1
           have HB4 : Hid (Below q w w4) := by
             refine hid (HB1.out.trans (Below.grown ((below_alloc w1 (.cells #[strV P.1, strV P.2] 73)).mono (by omega)) h2 (by simp; omega) (fun k hk => ?_)))
             have := OwnsP.block HO1.out k hk
             omega
           obtain ⟨ao4, cap4, rfl⟩ : ∃ ao4 cap4, v4 = .slice ao4 (out.length + 1) cap4 := by
             obtain ⟨ao4, cap4, h⟩ := OwnsP.shape h1
             exact ⟨ao4, cap4, by rw [h]; simp⟩
           have HO4 := hid h1
           have HQ := hid hq
           obtain ⟨k5, k6⟩ := hq.cells
           clear h1 h2 hq)
        | (go_simp
           refine (HP.out _).mono ?_
           rintro e' w1 ⟨rfl, hB1⟩
           have hB1' : Below w.heap.size w w1 := (Below.drew (Below.refl w.heap.size w)).trans hB1
           have HO1 := hid (HO.out.below hB1')
           have HV1 := hid (HV.out.below hB1' hlt)
           obtain ⟨k3, k4⟩ := HV1.out.cells
           obtain ⟨k3a, k4a⟩ := (show VarAt 32 (w1.alloc (.cells #[strV P.1, strV P.2] 73)) q (.slice ao out.length cap) from HV1.out.below (below_alloc w1 _) HV1.out.lt).cells
           have hsz1 := hB1'.size
           have HB1 := hid (hB1'.mono (Nat.le_of_lt hlt))
           clear hB1 hB1' HP))
    all_goals
      have HO5 := hid (show OwnsP (w4.setCell ⟨q, 0, none⟩ (.slice ao4 (out.length + 1) cap4)) (q + 1) (.slice ao4 (out.length + 1) cap4) (out ++ [P]) from ownsRow_setCell_below HO4.out (a := ⟨q, 0, none⟩) (by simp) _)
      have hV5 := HQ.out.store (v' := .slice ao4 (out.length + 1) cap4)
      have HB5 := hid (HB4.out.setCell (p := ⟨q, 0, none⟩) (by simp) (.slice ao4 (out.length + 1) cap4))
      obtain ⟨k7, k8⟩ := hV5.cells
      have HV5 := hid hV5
      clear hV5
      go_wp2
      go_ret
      exact ⟨ret_bool (by rw [← HBb.out]; rfl), _, HV5.out, HO5.out, HB5.out⟩

end Go.Proofs.YtllhibdjopfcnaaGreatDoor
