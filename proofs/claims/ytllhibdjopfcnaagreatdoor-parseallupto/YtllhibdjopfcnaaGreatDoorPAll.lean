/-
  All requests of bytes: the code's; and what must come, whatever the arguments are.
-/
import Derived.Test.YtllhibdjopfcnaaGreatDoorPReqs
namespace Go.Proofs.YtllhibdjopfcnaaGreatDoor
open Go.RowKit
set_option linter.unusedVariables false

theorem firT_stat {T : Tell ReqL} {t : Int} (h : T = (.error (some t))) : firT T = (rz, 0, t) := by rw [h]; rfl
set_option maxRecDepth 20000 in
set_option maxHeartbeats 8000000 in
theorem all_any (L : List UInt8) (w : World) (hM : ML w) (hs : L.length ≤ 1000000000) :
    Calls Tryz.prog 16 #[.string ⟨L.toArray⟩] w fun e w' => ∃ v es, e = .returned (.tuple #[v, .int .i64 (allL L).2]) ∧ OwnsQ w' w.heap.size v es ∧ es.map RqE.q = (allL L).1 ∧ Below w.heap.size w w' := by
  obtain ⟨A, hA⟩ : ∃ A, A = allL L := ⟨_, rfl⟩
  rw [← hA]
  have HA := hid hA
  have hgl := hM.lt
  have HM := hid hM
  clear hA hM
  go_enter Tryz.func16, Tryz.ntmps16
  go_wp2_with fail
  go_loopw [0, 4] (fun sv out wr => ∃ (m : Nat) (es : List RqE), m ≤ L.length ∧ sv = .string ⟨(L.drop m).toArray⟩ ∧ OwnsQ wr w.heap.size out es ∧ es.length ≤ m ∧ A = (es.map RqE.q ++ (allL (L.drop m)).1, (allL (L.drop m)).2) ∧ Below w.heap.size w wr) (fun sv _ _ => match sv with | .string s => s.size | _ => 0)
  case atStart =>
    refine ⟨0, [], Nat.zero_le _, rfl, OwnsQ.nil _ _, Nat.le_refl _, ?_, Below.refl _ _⟩
    rw [HA.out]
    rfl
  case round =>
    obtain ⟨m, es, hm, rfl, hO, hel, hEq, hB⟩ := hrel
    obtain ⟨M, hMe⟩ : ∃ M, M = L.drop m := ⟨_, rfl⟩
    have hMl : M.length ≤ 1000000000 := by rw [hMe, List.length_drop]; omega
    have hMm : m + M.length = L.length := by rw [hMe, List.length_drop]; omega
    rw [← hMe] at hEq ⊢
    obtain ⟨s, hse⟩ : ∃ s : ByteArray, s = ⟨M.toArray⟩ := ⟨_, rfl⟩
    have hsz : s.size = M.length := by rw [hse, size_list]
    obtain ⟨c, hc⟩ : ∃ c, c = min M.length 65536 := ⟨_, rfl⟩
    have hx : s.extract 0 c = ⟨(M.take 65536).toArray⟩ := by
      rw [hse, extract_list]
      simp only [List.drop_zero, Nat.sub_zero]
      congr 2
      rw [hc]
      rcases Nat.le_total M.length 65536 with h | h
      · rw [Nat.min_eq_left h, List.take_of_length_le (Nat.le_refl _), List.take_of_length_le h]
      · rw [Nat.min_eq_right h]
    have hF := first_any (M.take 65536) wr (HM.out.below hB hgl) (by rw [List.length_take]; omega)
    rw [← hx] at hF
    have hst := allL_step M
    obtain ⟨T, hT⟩ : ∃ T, T = firstL (M.take 65536) := ⟨_, rfl⟩
    rw [← hT] at hF hst
    have HT := hid hT
    have hmin : min (s.size : Int) 65536 = (c : Int) := by omega
    have hcs : (c : Int) ≤ (s.size : Int) := by omega
    rw [← hse]
    have HO := hid hO
    have HB := hid hB
    have HSE := hid hse
    have HEQ := hid hEq
    have HST := hid hst
    have HSZ := hid hsz
    have HMM := hid hMm
    have HME := hid hMe
    obtain ⟨ao, cap, rfl⟩ := hO.shape
    have hsb := hB.size
    clear hO hB hse hEq hst hT hx hc hMe hsz hMm
    go_wp2_with fail
    refine hF.mono ?_
    clear hF
    rintro e w2 ⟨v, rfl, hR, hB2⟩
    obtain ⟨e1, he1, rfl, hp1⟩ := hR.elem
    have hsz2 := hB2.size
    have HB2 := hid (HB.out.trans (hB2.mono hsb))
    have HO2 := hid (HO.out.below hB2)
    have HP2 := hid hp1
    have HE1 := hid he1
    clear hR hp1 hB2 he1 HB HO
    simp only [RqE.val, reqV, RqE.vf, RqE.vq]
    have HB3 := hid (HB2.out.trans ((below_alloc w2 (.cells #[.string ⟨e1.q.head.1.toArray⟩, .string ⟨e1.q.head.2.1.toArray⟩, .int .i64 e1.q.head.2.2.1, .slice e1.af e1.q.head.2.2.2.length e1.cf, .string ⟨e1.q.path.toArray⟩, .slice e1.aq e1.q.query.length e1.cq, .string ⟨e1.q.body.toArray⟩, .bool e1.q.close] 36)).mono HB2.out.size))
    have HO3 := hid (HO2.out.below (below_alloc w2 (.cells #[.string ⟨e1.q.head.1.toArray⟩, .string ⟨e1.q.head.2.1.toArray⟩, .int .i64 e1.q.head.2.2.1, .slice e1.af e1.q.head.2.2.2.length e1.cf, .string ⟨e1.q.path.toArray⟩, .slice e1.aq e1.q.query.length e1.cq, .string ⟨e1.q.body.toArray⟩, .bool e1.q.close] 36)))
    match hTc : T with
    | .error (some t) =>
      have HT4 := hid (first_stat (show firstL (M.take 65536) = (.error (some t)) by first | rw [← HT.out, hTc] | rw [← HT.out]))
      have hst := HST.out
      (try rw [hTc] at hst)
      simp only at hst
      have ft : (t != 0) = true := by rw [bne_iff_ne]; exact stat4_ne HT4.out
      have HE : Hid (A = (es.map RqE.q, t)) := by
        unfold Hid
        rw [HEQ.out, hst]
        simp
      simp only [firT]
      clear hTc hst HT HST HEQ HT4 HE1
      go_wp2
      go_ret2
      rw [HE.out]
      exact ⟨_, es, rfl, HO3.out, rfl, HB3.out⟩
    | .error none =>
      have hst := HST.out
      (try rw [hTc] at hst)
      simp only at hst
      simp only [firT]
      by_cases hl : 65536 < M.length
      · have fl : decide ((65536 : Int) < (s.size : Int)) = true := by have := HSZ.out; simp; omega
        have HE : Hid (A = (es.map RqE.q, 413)) := by
          unfold Hid
          rw [HEQ.out, hst, if_pos hl]
          simp
        clear hTc hst HT HST HEQ HE1 hl
        go_wp2
        go_ret2
        rw [HE.out]
        exact ⟨_, es, rfl, HO3.out, rfl, HB3.out⟩
      · have fl : decide ((65536 : Int) < (s.size : Int)) = false := by have := HSZ.out; simp; omega
        have HE : Hid (A = (es.map RqE.q, 0)) := by
          unfold Hid
          rw [HEQ.out, hst, if_neg hl]
          simp
        clear hTc hst HT HST HEQ HE1 hl
        go_wp2
        go_ret2
        rw [HE.out]
        exact ⟨_, es, rfl, HO3.out, rfl, HB3.out⟩
    | .ok (q, n) =>
      have hn := firstL_got (show firstL (M.take 65536) = (.ok (q, n)) by first | rw [← HT.out, hTc] | rw [← HT.out])
      rw [List.length_take] at hn
      have hst := HST.out
      (try rw [hTc] at hst)
      simp only at hst
      have fn : ((n : Int) == 0) = false := by rw [beq_eq_false_iff_ne]; omega
      have hns : (n : Int) ≤ (s.size : Int) := by have := HSZ.out; omega
      have hq : e1.q = q := by have := HE1.out; (try rw [hTc] at this); exact this
      have hmm := HMM.out
      have hdd : L.drop (m + n) = M.drop n := by rw [HME.out, List.drop_drop]
      have HE : Hid (A = ((es ++ [e1]).map RqE.q ++ (allL (L.drop (m + n))).1, (allL (L.drop (m + n))).2)) := by
        unfold Hid
        rw [HEQ.out, hst, hdd, List.map_append, List.map_singleton, hq]
        simp
      have HN := hid (show m + n ≤ L.length ∧ es.length + 1 ≤ m + n ∧ 4 ≤ n by omega)
      have hcap : (es.length + 1) * 128 ≤ 140737488355328 := by omega
      have HXN : Hid (s.extract n s.size = ⟨(L.drop (m + n)).toArray⟩) := by
        unfold Hid
        rw [hdd, HSZ.out, HSE.out, extract_list, List.take_of_length_le (by simp)]
      simp only [firT]
      have hal := ReqAt.new w2 (.string ⟨e1.q.head.1.toArray⟩) (.string ⟨e1.q.head.2.1.toArray⟩) (.int .i64 e1.q.head.2.2.1) (.slice e1.af e1.q.head.2.2.2.length e1.cf) (.string ⟨e1.q.path.toArray⟩) (.slice e1.aq e1.q.query.length e1.cq) (.string ⟨e1.q.body.toArray⟩) (.bool e1.q.close)
      obtain ⟨y0, y1, y2, y3, y4, y5, y6, y7⟩ := hal.cells
      have hB34 := below_alloc w2 (.cells #[.string ⟨e1.q.head.1.toArray⟩, .string ⟨e1.q.head.2.1.toArray⟩, .int .i64 e1.q.head.2.2.1, .slice e1.af e1.q.head.2.2.2.length e1.cf, .string ⟨e1.q.path.toArray⟩, .slice e1.aq e1.q.query.length e1.cq, .string ⟨e1.q.body.toArray⟩, .bool e1.q.close] 36)
      clear hTc hst HT HST HEQ HE1 hdd hmm hq hn hal
      have hsb2 : w.heap.size ≤ w2.heap.size := by omega
      go_wp2_with (first | (at_builtin; refine wpList_appQ rfl _ _ rfl w.heap.size (.slice ao es.length cap) es rfl ?ho _ e1 rfl ?hs ?hp hcap ?hbase ?_; (case hs => exact news_atQ _ _ (by simp) e1 36); (case ho => exact HO3.out.below (below_alloc _ _)); (case hp => exact ⟨OwnsP.low (OwnsP.below (OwnsP.below HP2.out.1 hB34) (below_alloc _ _)) hsb, OwnsP.low (OwnsP.below (OwnsP.below HP2.out.2 hB34) (below_alloc _ _)) hsb⟩); (case hbase => simp; omega); intro v4 w4 hO4 hG4))
      have HB4 : Hid (Below w.heap.size w w4) := by
        unfold Hid
        exact below_grownBy (HB3.out.trans ((below_alloc _ _).mono HB3.out.size)) hG4 (OwnsQ.block HO3.out) (by simp; omega)
      have HO4 := hid hO4
      clear hO4 hG4
      go_wp2
      go_roundw
      case rel => exact ⟨m + n, es ++ [e1], HN.out.1, by rw [← HXN.out], HO4.out, by have := HN.out; simp; omega, HE.out, HB4.out⟩
      case measure =>
        have h1 := HN.out
        have h2 := HSZ.out
        have h3 := HMM.out
        have h4 : (s.extract n s.size).size = L.length - (m + n) := by rw [HXN.out, size_list, List.length_drop]
        simp only [h4]
        omega

set_option maxRecDepth 20000 in
set_option maxHeartbeats 4000000 in
theorem awakeP_any (w : World) (hM : ML w) : Calls Tryz.prog 15 #[] w fun e w' => e = .returned (.bool true) ∧ Below w.heap.size w w' := by
  have hA := all_any awS w hM (by decide)
  have hC := fun w => chunksN_any awC 0 w (by decide) (by decide)
  rw [aw_chunks] at hC
  rw [aw_all] at hA
  simp only at hA
  simp only [chkV, chkT] at hC
  rw [show (⟨awS.toArray⟩ : ByteArray) = ⟨#[71, 69, 84, 32, 47, 120, 32, 72, 84, 84, 80, 47, 49, 46, 49, 13, 10, 72, 111, 115, 116, 58, 32, 97, 13, 10, 13, 10, 71, 69, 84, 32, 47, 120, 32, 72, 84, 84, 80, 47, 49, 46, 49, 13, 10, 72, 111, 115, 116, 58, 32, 97, 13, 10, 13, 10, 120]⟩ from rfl] at hA
  rw [show (⟨awC.toArray⟩ : ByteArray) = ⟨#[51, 13, 10, 97, 98, 99, 13, 10, 48, 13, 10, 13, 10]⟩ from rfl, show (((0 : Nat) : Int)) = 0 from rfl] at hC
  go_enter Tryz.func15, Tryz.ntmps15
  go_wp2_with fail
  refine hA.mono ?_
  clear hA
  rintro e w1 ⟨v, es, rfl, hO, hq, hB1⟩
  have hpath : es.map (fun e => e.q.path) = [[47, 120], [47, 120]] := by
    have h := congrArg (List.map ReqL.path) hq
    rw [List.map_map, aw_reqs] at h
    exact h
  obtain ⟨e1, e2, rfl⟩ : ∃ e1 e2, es = [e1, e2] := by
    have hl : es.length = 2 := by
      have h := congrArg List.length hpath
      rw [List.length_map] at h
      exact h
    match es, hl with
    | [e1, e2], _ => exact ⟨e1, e2, rfl⟩
  have hp2 : e2.q.path = [47, 120] := by
    rw [List.map_cons, List.map_cons, List.map_nil] at hpath
    injection hpath with _ h
    injection h with h _
  have HO := hid hO
  obtain ⟨ao, cap, rfl⟩ := hO.shape
  have HB1 := hid hB1
  clear hO hq hB1 hpath
  go_wp2_with fail
  refine (hC _).mono ?_
  clear hC
  rintro e w2 ⟨rfl, hB2⟩
  have HB2 := hid (HB1.out.trans (hB2.mono HB1.out.size))
  obtain ⟨b, ao', cap', hv, hcap, hao, hcell, _⟩ := (HO.out.below hB2).sees
  injection hv with hv1 _ hv3
  have := hao (by simp)
  rw [this] at hv1
  subst hv1
  subst hv3
  have c4 := hcell 1 4 (by simp) (by decide)
  simp only [List.getElem_cons_succ, List.getElem_cons_zero, RqE.row, List.getElem?_cons_succ, List.getElem?_cons_zero, hp2] at c4
  have hcp : (1 : Int) < ((2 : Nat) : Int) := by decide
  simp only [List.length_cons, List.length_nil] at hcap ⊢
  clear HO HB1 hB2 hcell hao this hp2
  go_wp2
  go_ret
  exact ⟨rfl, HB2.out⟩
end Go.Proofs.YtllhibdjopfcnaaGreatDoor
