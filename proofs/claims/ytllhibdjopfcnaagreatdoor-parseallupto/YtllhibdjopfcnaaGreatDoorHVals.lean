/-
  Values of a field, hosts: the code's.
-/
import Derived.Test.YtllhibdjopfcnaaGreatDoorHLines
namespace Go.Proofs.YtllhibdjopfcnaaGreatDoor
open Go.RowKit
set_option linter.unusedVariables false

def valsF (fs : List PairL) (sm : List UInt8) : List (List UInt8) := (fs.filter fun p => p.1 == sm).map (·.2)
theorem valsL_F (h : HeadL) (nm : List UInt8) : valsL h nm = valsF h.2.2.2 (small nm) := rfl
theorem valsF_yes {fs : List PairL} {sm : List UInt8} {k : Nat} (hk : k < fs.length) (h : (fs[k].1 == sm) = true) : valsF (fs.take (k + 1)) sm = valsF (fs.take k) sm ++ [fs[k].2] := by
  unfold valsF
  rw [List.take_succ_eq_append_getElem hk, List.filter_append, List.filter_cons, if_pos h]
  simp
theorem valsF_no {fs : List PairL} {sm : List UInt8} {k : Nat} (hk : k < fs.length) (h : (fs[k].1 == sm) = false) : valsF (fs.take (k + 1)) sm = valsF (fs.take k) sm := by
  unfold valsF
  rw [List.take_succ_eq_append_getElem hk, List.filter_append, List.filter_cons, if_neg (by rw [h]; simp)]
  simp
theorem valsF_len (fs : List PairL) (sm : List UInt8) : (valsF fs sm).length ≤ fs.length := by
  unfold valsF
  rw [List.length_map]
  exact List.length_filter_le _ _

set_option maxRecDepth 20000 in
set_option maxHeartbeats 2000000 in
theorem values_any (a b c v : Value) (fs : List PairL) (nm : List UInt8) (w : World) (hS : SeesP w v fs) (hl : fs.length ≤ 1048576) (hn : nm.length ≤ 140737488355328) :
    Calls Tryz.prog 58 #[.agg #[a, b, c, v], .string ⟨nm.toArray⟩] w fun e w' => ∃ v', e = .returned v' ∧ OwnsS w' w.heap.size v' (valsF fs (small nm)) ∧ Below w.heap.size w w' := by
  obtain ⟨bb, off, ao, cap, rfl, hcap, _, hao, hcell⟩ := hS
  have hSm := small_any nm (w.alloc (.cells #[a, b, c, .slice ao fs.length cap] 34)) hn
  have hH0 := HeadAt.new w a b c (.slice ao fs.length cap)
  have HB0 := hid (below_alloc w (.cells #[a, b, c, .slice ao fs.length cap] 34))
  obtain ⟨w0, hw0⟩ : ∃ w0, w0 = w.alloc (.cells #[a, b, c, .slice ao fs.length cap] 34) := ⟨_, rfl⟩
  have hsz0 : w0.heap.size = w.heap.size + 1 := by rw [hw0]; simp
  rw [← hw0] at hSm hH0 HB0
  have HW0 := hid hw0
  have HH0 := hid hH0
  have HC := hid hcell
  obtain ⟨sm, hsm⟩ : ∃ sm, sm = small nm := ⟨_, rfl⟩
  rw [← hsm] at hSm ⊢
  clear hw0 hH0 hcell hsm
  go_enter Tryz.func58, Tryz.ntmps58
  go_wp2_with fail
  rw [← HW0.out]
  refine hSm.mono ?_
  clear hSm
  rintro e w1 ⟨rfl, hB1⟩
  have HB1 := hid (HB0.out.trans (hB1.mono (by omega)))
  obtain ⟨_, _, _, q3, _, _, _, _⟩ := (HH0.out.below hB1 HH0.out.lt).cells
  have hsz1 := hB1.size
  clear hB1 HB0 HH0 HW0
  go_wp2_with fail
  go_loopw [5, 13] (fun u i wr => ∃ (k : Nat), k ≤ fs.length ∧ i = .int .i64 (k : Int) ∧ OwnsS wr w.heap.size u (valsF (fs.take k) sm) ∧ Below w.heap.size w wr) (fun _ i _ => fs.length - (intOf i).toNat)
  case atStart => exact ⟨0, Nat.zero_le _, rfl, OwnsS.nil _ _, HB1.out⟩
  clear HB1
  case round =>
    obtain ⟨k, hk, rfl, hO, hB⟩ := hrel
    have hsw : w.heap.size ≤ wr.heap.size := hB.size
    by_cases hlt : k < fs.length
    · have hlt' : (k : Int) < (fs.length : Int) := by omega
      obtain rfl := hao (by intro h; rw [h] at hlt; simp at hlt)
      obtain ⟨d1, d2⟩ := HC.out k hlt
      have hb1 := World.block_lt_of_cell? w _ d1
      have hb2 := World.block_lt_of_cell? w _ d2
      rw [← hB.cell hb1] at d1
      rw [← hB.cell hb2] at d2
      unfold strV at d1 d2
      have HY := hid (fun h => valsF_yes (sm := sm) hlt h)
      have HN := hid (fun h => valsF_no (sm := sm) hlt h)
      have hvl := valsF_len (fs.take k) sm
      rw [List.length_take] at hvl
      obtain ⟨P, hP⟩ : ∃ P, P = fs[k] := ⟨_, rfl⟩
      rw [← hP] at d1 d2 HY HN
      obtain ⟨ys, hys⟩ : ∃ ys, ys = valsF (fs.take k) sm := ⟨_, rfl⟩
      rw [← hys] at hO hvl HY HN
      have HO := hid hO
      have HB2 := hid (hB.trans ((below_alloc wr (.cells #[.string ⟨P.1.toArray⟩, .string ⟨P.2.toArray⟩] 73)).mono hsw))
      obtain ⟨ao2, cap2, rfl⟩ := hO.shape
      clear hP hb1 hb2 hO hys hB
      cases he : (P.1 == sm) with
      | true =>
        have HE := hid (HY.out he)
        have hF := fresh_any P.2 (wr.alloc (.cells #[.string ⟨P.1.toArray⟩, .string ⟨P.2.toArray⟩] 73))
        clear HY HN
        go_wp2_with fail
        refine hF.mono ?_
        clear hF
        rintro e w3 ⟨rfl, hB3⟩
        have HB3 := hid (HB2.out.trans (hB3.mono HB2.out.size))
        have HO3 := hid ((HO.out.below (below_alloc wr (.cells #[.string ⟨P.1.toArray⟩, .string ⟨P.2.toArray⟩] 73))).below hB3)
        have hsz3 : w.heap.size ≤ w3.heap.size := HB3.out.size
        clear hB3 HB2
        go_wp2_with (first
          | (at_builtin
             refine wpList_appS rfl _ _ rfl w.heap.size (.slice ao2 ys.length cap2) ys rfl (HO3.out.below (below_alloc w3 _)) _ P.2 rfl (by simp [strV]) (by omega) (by simp; omega) ?_
             intro v4 w4 hO4 hG4
             have HO4 : Hid (OwnsS w4 w.heap.size v4 (valsF (fs.take (k + 1)) sm)) := by
               unfold Hid
               rw [HE.out]
               exact hO4
             have HB4 := hid (below_grownBy (HB3.out.trans ((below_alloc w3 _).mono hsz3)) hG4 (OwnsS.block HO3.out) (by simp; omega))
             clear hO4 hG4)
          | fail)
        go_roundw
        case rel => exact ⟨k + 1, by omega, by go_num, HO4.out, HB4.out⟩
        case measure => simp [intOf]; omega
      | false =>
        have HE := hid (HN.out he)
        have HO3 := hid (HO.out.below (below_alloc wr (.cells #[.string ⟨P.1.toArray⟩, .string ⟨P.2.toArray⟩] 73)))
        clear HY HN
        go_wp2
        go_roundw
        case rel => exact ⟨k + 1, by omega, by go_num, by rw [HE.out]; exact HO3.out, HB2.out⟩
        case measure => simp [intOf]; omega
    · have hlt' : ¬ (k : Int) < (fs.length : Int) := by omega
      rw [List.take_of_length_le (by omega)] at hO
      have HO := hid hO
      have HB := hid hB
      clear hO hB
      go_wp2
      go_ret
      exact ⟨_, rfl, HO.out, HB.out⟩

def hostsF (fs : List PairL) (minor : Int) : Bool := decide ((valsF fs hostS).length = 1 ∨ (valsF fs hostS).length = 0 ∧ minor = 0)
theorem hostsF_eq (h : HeadL) : hostsF h.2.2.2 h.2.2.1 = hostOk h := by
  unfold hostsF hostOk
  rw [valsL_F, show small hostS = hostS by decide]
set_option maxRecDepth 20000 in
set_option maxHeartbeats 1000000 in
theorem hostFits_any (a b v : Value) (m : Int) (fs : List PairL) (w : World) (hS : SeesP w v fs) (hl : fs.length ≤ 1048576) :
    Calls Tryz.prog 52 #[.agg #[a, b, .int .i64 m, v]] w fun e w' => e = .returned (.bool (hostsF fs m)) ∧ Below w.heap.size w w' := by
  have hV := values_any a b (.int .i64 m) v fs hostS (w.alloc (.cells #[a, b, .int .i64 m, v] 34)) (hS.below (below_alloc w _)) hl (by decide)
  rw [show small hostS = hostS by decide] at hV
  have hH0 := HeadAt.new w a b (.int .i64 m) v
  have HB0 := hid (below_alloc w (.cells #[a, b, .int .i64 m, v] 34))
  obtain ⟨w0, hw0⟩ : ∃ w0, w0 = w.alloc (.cells #[a, b, .int .i64 m, v] 34) := ⟨_, rfl⟩
  have hsz0 : w0.heap.size = w.heap.size + 1 := by rw [hw0]; simp
  rw [← hw0] at hV hH0 HB0
  have HW0 := hid hw0
  have HH0 := hid hH0
  obtain ⟨ys, hys⟩ : ∃ ys, ys = valsF fs hostS := ⟨_, rfl⟩
  unfold hostsF
  rw [← hys] at hV ⊢
  rw [show (⟨hostS.toArray⟩ : ByteArray) = ⟨#[104, 111, 115, 116]⟩ from rfl] at hV
  clear hw0 hH0 hys
  go_enter Tryz.func52, Tryz.ntmps52
  go_wp2_with fail
  rw [← HW0.out]
  refine hV.mono ?_
  clear hV
  rintro e w1 ⟨v1, rfl, hO1, hB1⟩
  have HB1 := hid (HB0.out.trans (hB1.mono (by omega)))
  obtain ⟨ao1, cap1, rfl⟩ := hO1.shape
  obtain ⟨_, _, q2, _, _, _, _, _⟩ := (HH0.out.below hB1 HH0.out.lt).cells
  clear hB1 HB0 HH0 HW0 hO1
  by_cases h1 : ys.length = 1
  · have f1 : ((ys.length : Int) == 1) = true := by rw [beq_iff_eq]; omega
    have HE : Hid (decide (ys.length = 1 ∨ ys.length = 0 ∧ m = 0) = true) := by unfold Hid; rw [decide_eq_true_eq]; exact Or.inl h1
    clear h1
    go_wp2
    go_ret
    exact ⟨by rw [HE.out]; rfl, HB1.out⟩
  · have f1 : ((ys.length : Int) == 1) = false := by rw [beq_eq_false_iff_ne]; omega
    by_cases h0 : ys.length = 0
    · have f0 : ((ys.length : Int) == 0) = true := by rw [beq_iff_eq]; omega
      have HE : Hid (decide (ys.length = 1 ∨ ys.length = 0 ∧ m = 0) = (m == 0)) := by
        unfold Hid
        by_cases hm : m = 0
        · rw [decide_eq_true (Or.inr ⟨h0, hm⟩), hm]; rfl
        · rw [decide_eq_false (by simp [h1, hm]), beq_eq_false_iff_ne.2 hm]
      clear h1 h0
      go_wp2
      go_ret
      exact ⟨by rw [HE.out]; rfl, HB1.out⟩
    · have f0 : ((ys.length : Int) == 0) = false := by rw [beq_eq_false_iff_ne]; omega
      have HE : Hid (decide (ys.length = 1 ∨ ys.length = 0 ∧ m = 0) = false) := by
        unfold Hid
        rw [decide_eq_false]
        simp [h1, h0]
      clear h1 h0
      go_wp2
      go_ret
      exact ⟨by rw [HE.out]; rfl, HB1.out⟩
end Go.Proofs.YtllhibdjopfcnaaGreatDoor
