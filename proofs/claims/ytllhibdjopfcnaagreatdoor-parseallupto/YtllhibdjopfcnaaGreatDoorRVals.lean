/-
  Values of a field, hosts, whether heads are the same: the document's.
-/
import Derived.Test.YtllhibdjopfcnaaGreatDoorRSmall
import Derived.Test.YtllhibdjopfcnaaGreatDoorHVals
namespace Go.Proofs.YtllhibdjopfcnaaGreatDoor
open Go.RowKit
set_option linter.unusedVariables false

set_option maxRecDepth 20000 in
set_option maxHeartbeats 4000000 in
theorem rvalues_any (a b c v : Value) (fs : List PairL) (nm : List UInt8) (w : World) (hS : SeesP w v fs) (hl : fs.length ≤ 1048576) (hn : nm.length + 1 ≤ 140737488355328) :
    Calls Tryz.prog 33 #[.agg #[a, b, c, v], .string ⟨nm.toArray⟩] w fun e w' => ∃ v', e = .returned v' ∧ OwnsS w' w.heap.size v' (valsF fs (small nm)) ∧ Below w.heap.size w w' := by
  obtain ⟨bb, off, ao, cap, rfl, hcap, _, hao, hcell⟩ := hS
  have hSm := fun w => rsmall_any nm w hn
  have hH0 := HeadAt.new w a b c (.slice ao fs.length cap)
  have HB0 := hid (below_alloc w (.cells #[a, b, c, .slice ao fs.length cap] 34))
  obtain ⟨w0, hw0⟩ : ∃ w0, w0 = w.alloc (.cells #[a, b, c, .slice ao fs.length cap] 34) := ⟨_, rfl⟩
  rw [← hw0] at hH0 HB0
  have HW0 := hid hw0
  have HH0 := hid hH0
  have HC := hid hcell
  have HSm0 := hid hSm
  obtain ⟨sm, hsm⟩ : ∃ sm, sm = small nm := ⟨_, rfl⟩
  rw [← hsm] at HSm0 ⊢
  clear hw0 hH0 hcell hsm hSm
  go_enter Tryz.func33, Tryz.ntmps33
  go_wp2_with fail
  rw [← HW0.out]
  go_loopw [5, 6] (fun u i wr => ∃ (k : Nat), k ≤ fs.length ∧ i = .int .i64 (k : Int) ∧ OwnsS wr (w.heap.size + 1) u (valsF (fs.take k) sm) ∧ Below w.heap.size w wr ∧ HeadAt wr w.heap.size a b c (.slice ao fs.length cap)) (fun _ i _ => fs.length - (intOf i).toNat)
  case atStart => exact ⟨0, Nat.zero_le _, rfl, OwnsS.nil _ _, HB0.out, HH0.out⟩
  clear HB0 HH0 HW0
  case round =>
    obtain ⟨k, hk, rfl, hO, hB, hH⟩ := hrel
    have HSm := HSm0
    have hsw : w.heap.size ≤ wr.heap.size := hB.size
    have hpw := hH.lt
    obtain ⟨_, _, _, q3, _, _, _, _⟩ := hH.cells
    by_cases hlt : k < fs.length
    · have hlt' : (k : Int) < (fs.length : Int) := by omega
      obtain rfl := hao (by intro h; rw [h] at hlt; simp at hlt)
      obtain ⟨d1, d2⟩ := HC.out k hlt
      have hb1 := World.block_lt_of_cell? w _ d1
      have hb2 := World.block_lt_of_cell? w _ d2
      rw [← hB.cell hb1] at d1
      rw [← hB.cell hb2] at d2
      unfold strV at d1 d2
      have HY := hid (fun h => valsF_yes (sm := sm) hlt h)
      have HN := hid (fun h => valsF_no (sm := sm) hlt h)
      have hvl := valsF_len (fs.take k) sm
      rw [List.length_take] at hvl
      obtain ⟨P, hP⟩ : ∃ P, P = fs[k] := ⟨_, rfl⟩
      rw [← hP] at d1 d2 HY HN
      obtain ⟨ys, hys⟩ : ∃ ys, ys = valsF (fs.take k) sm := ⟨_, rfl⟩
      rw [← hys] at hO hvl HY HN
      have HO := hid hO
      have HB := hid hB
      have HH := hid hH
      obtain ⟨ao2, cap2, rfl⟩ := hO.shape
      clear hP hO hys hB hH
      cases he : (P.1 == sm) with
      | true =>
        have HE := hid (HY.out he)
        clear HY HN
        go_wp2_with fail
        go_region_law
          (first
            | (go_simp
               refine (HSm.out _).mono ?_
               rintro e' w1 ⟨rfl, hB1⟩
               have hB1' : Below wr.heap.size wr w1 := (Below.drew (Below.refl wr.heap.size wr)).trans hB1
               have HB1 := hid (HB.out.trans (hB1'.mono hsw))
               have HO1 := hid (HO.out.below hB1')
               obtain ⟨_, _, _, k3, _, _, _, _⟩ := (HH.out.below hB1' hpw).cells
               have d1' := (hB1'.cell (Nat.lt_of_lt_of_le hb1 hsw)).trans d1
               have d2' := (hB1'.cell (Nat.lt_of_lt_of_le hb2 hsw)).trans d2
               have hsz1 : w.heap.size ≤ w1.heap.size := Nat.le_trans hsw hB1'.size
               have HH1 := hid (HH.out.below hB1' hpw)
               clear hB1 hB1' HSm))
        all_goals
          go_wp2_with (first
            | (at_builtin
               refine wpList_appS rfl _ _ rfl (w.heap.size + 1) (.slice ao2 ys.length cap2) ys rfl (HO1.out.below (below_alloc w1 _)) _ P.2 rfl (by simp [strV]) (by omega) (by simp; have := HH1.out.lt; omega) ?_
               intro v4 w4 hO4 hG4
               have HO4 : Hid (OwnsS w4 (w.heap.size + 1) v4 (valsF (fs.take (k + 1)) sm)) := by
                 unfold Hid
                 rw [HE.out]
                 exact hO4
               have HB4 := hid (below_grownBy (HB1.out.trans ((below_alloc w1 _).mono hsz1)) hG4 (fun j hj => Nat.le_of_succ_le (OwnsS.block HO1.out j hj)) (by simp; omega))
               have HH4 : Hid (HeadAt w4 w.heap.size a b c (.slice (some ⟨bb, off, none⟩) fs.length cap)) := by
                 unfold Hid
                 refine (HH1.out.below (below_alloc w1 _) HH1.out.lt).same (hG4.block _ (by have := HH1.out.lt; simp; omega) ?_)
                 intro h
                 have := OwnsS.block HO1.out _ h.symm
                 omega
               clear hO4 hG4)
            | fail)
          go_roundw
          case rel => exact ⟨k + 1, by omega, by go_num, HO4.out, HB4.out, HH4.out⟩
          case measure => simp [intOf]; omega
      | false =>
        have HE := hid (HN.out he)
        clear HY HN
        go_wp2_with fail
        go_region_law
          (first
            | (go_simp
               refine (HSm.out _).mono ?_
               rintro e' w1 ⟨rfl, hB1⟩
               have hB1' : Below wr.heap.size wr w1 := (Below.drew (Below.refl wr.heap.size wr)).trans hB1
               have HB1 := hid (HB.out.trans (hB1'.mono hsw))
               have HO1 := hid (HO.out.below hB1')
               obtain ⟨_, _, _, k3, _, _, _, _⟩ := (HH.out.below hB1' hpw).cells
               have d1' := (hB1'.cell (Nat.lt_of_lt_of_le hb1 hsw)).trans d1
               have d2' := (hB1'.cell (Nat.lt_of_lt_of_le hb2 hsw)).trans d2
               have hsz1 : w.heap.size ≤ w1.heap.size := Nat.le_trans hsw hB1'.size
               have HH1 := hid (HH.out.below hB1' hpw)
               clear hB1 hB1' HSm))
        all_goals
          go_wp2
          go_roundw
          case rel => exact ⟨k + 1, by omega, by go_num, by rw [HE.out]; exact HO1.out, HB1.out, HH1.out⟩
          case measure => simp [intOf]; omega
    · have hlt' : ¬ (k : Int) < (fs.length : Int) := by omega
      rw [List.take_of_length_le (by omega)] at hO
      have HO := hid (hO.le (Nat.le_succ _))
      have HB := hid hB
      clear hO hB hH
      go_wp2
      go_ret
      exact ⟨_, rfl, HO.out, HB.out⟩
end Go.Proofs.YtllhibdjopfcnaaGreatDoor
