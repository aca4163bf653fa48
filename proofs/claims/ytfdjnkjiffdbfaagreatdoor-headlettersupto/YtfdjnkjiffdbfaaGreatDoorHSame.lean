/-
  Whether two heads are alike, as the code tells it.
-/
import Derived.Test.YtfdjnkjiffdbfaaGreatDoorRSame7
namespace Go.Proofs.YtfdjnkjiffdbfaaGreatDoor
open Go.RowKit
set_option linter.unusedVariables false

set_option maxRecDepth 20000 in
set_option maxHeartbeats 1000000 in
theorem equal_any (v1 v2 : Value) (l1 l2 : List PairL) (w : World) (h1 : SeesP w v1 l1) (h2 : SeesP w v2 l2) (hbig : l1.length ≤ 140737488355328) :
    Calls Tryz.prog 32 #[v1, v2] w fun e w' => e = .returned (.bool (decide (l1 = l2))) ∧ ∃ n, w' = w.drewN n := by
  obtain ⟨b1, o1, a1, c1, rfl, g1, _, ha1, hc1⟩ := h1
  obtain ⟨b2, o2, a2, c2, rfl, g2, _, ha2, hc2⟩ := h2
  have HC1 := hid hc1
  have HC2 := hid hc2
  clear hc1 hc2
  obtain ⟨T, hT⟩ : ∃ T, T = decide (l1 = l2) := ⟨_, rfl⟩
  rw [← hT]
  have HT := hid hT
  clear hT
  by_cases hlen : l1.length = l2.length
  · have HL := hid hlen
    have hl' : ((l1.length : Int) != (l2.length : Int)) = false := by simp [hlen]
    clear hlen
    go_enter Tryz.func32, Tryz.ntmps32
    go_wp2_with fail
    go_loopw [13] (fun i wr => ∃ (k : Nat), k ≤ l1.length ∧ i = .int .i64 (k : Int) ∧ l1.take k = l2.take k ∧ ∃ n, wr = w.drewN n) (fun i _ => l1.length - (intOf i).toNat)
    case atStart => exact ⟨0, Nat.zero_le _, rfl, by simp, 0, rfl⟩
    case round =>
      obtain ⟨k, hk, rfl, hsame, n, rfl⟩ := hrel
      have HS := hid hsame
      clear hsame
      have hlen := HL.out
      by_cases hlt : k < l1.length
      · have hlt' : (k : Int) < (l1.length : Int) := by omega
        have hlt2 : k < l2.length := by omega
        have hlt2' : (k : Int) < (l2.length : Int) := by omega
        obtain rfl := ha1 (by intro h; rw [h] at hlt; simp at hlt)
        obtain rfl := ha2 (by intro h; rw [h] at hlt2; simp at hlt2)
        clear hlen
        obtain ⟨d1, d2⟩ := HC1.out k hlt
        obtain ⟨d3, d4⟩ := HC2.out k hlt2
        unfold strV at d1 d2 d3 d4
        have hn := fun w => neqP l1[k] l2[k] w
        have hg := guardP
        have HE := hid (fun e => take_eq_succ hlt hlt2 HS.out e)
        have HNE : Hid (l1[k] ≠ l2[k] → T = false) := by
          unfold Hid
          intro hne
          rw [HT.out, decide_eq_false_iff_not]
          intro e
          apply hne
          subst e
          rfl
        obtain ⟨p, hp⟩ : ∃ p, p = l1[k] := ⟨_, rfl⟩
        obtain ⟨q, hq⟩ : ∃ q, q = l2[k] := ⟨_, rfl⟩
        rw [← hp] at d1 d2 hn HE HNE
        rw [← hq] at d3 d4 hn HE HNE
        clear hp hq
        by_cases hpq : p = q
        · rw [decide_eq_true hpq] at hn
          have HN := hid (HE.out hpq)
          clear HE HNE hpq
          go_wp2_with fail
          go_quiet (fail)
          go_wp2
          go_roundw
          case rel => exact ⟨k + 1, by omega, by go_num, HN.out, _, rfl⟩
          case measure => simp [intOf]; omega
        · rw [decide_eq_false hpq] at hn
          have HN := hid (HNE.out hpq)
          clear HE HNE hpq
          go_wp2_with fail
          go_quiet (fail)
          go_wp2
          go_ret
          exact ⟨ret_bool HN.out.symm, _, World.drewN_drewN _ _ _⟩
      · have hlt' : ¬ (k : Int) < (l1.length : Int) := by omega
        have HN : Hid (T = true) := by
          unfold Hid
          have h := HS.out
          rw [List.take_of_length_le (by omega), List.take_of_length_le (by omega)] at h
          rw [HT.out, decide_eq_true h]
        clear hlen HS
        go_wp2
        go_ret
        exact ⟨ret_bool HN.out.symm, _, rfl⟩
  · have hl' : ((l1.length : Int) != (l2.length : Int)) = true := by
      rw [bne_iff_ne]; omega
    have HN : Hid (T = false) := by
      unfold Hid
      rw [HT.out, decide_eq_false_iff_not]
      intro e
      exact hlen (by rw [e])
    clear hlen
    go_enter Tryz.func32, Tryz.ntmps32
    go_wp2
    go_ret
    exact ⟨ret_bool HN.out.symm, 0, rfl⟩


set_option maxRecDepth 20000 in
set_option maxHeartbeats 4000000 in
theorem hsame_any (h1 h2 : HeadL) (v1 v2 : Value) (w : World) (hS1 : SeesP w v1 h1.2.2.2) (hS2 : SeesP w v2 h2.2.2.2) (hbig : h1.2.2.2.length ≤ 140737488355328) :
    Calls Tryz.prog 18 #[.agg #[strV h1.1, strV h1.2.1, .int .i64 h1.2.2.1, v1], .agg #[strV h2.1, strV h2.2.1, .int .i64 h2.2.2.1, v2]] w fun e w' => e = .returned (.bool (sameL h1 h2)) ∧ Below w.heap.size w w' := by
  obtain ⟨a1, a2, m1, f1⟩ := h1
  obtain ⟨b1, b2, m2, f2⟩ := h2
  simp only at hS1 hS2 hbig ⊢
  have hH1 := HeadAt.new w (strV a1) (strV a2) (.int .i64 m1) v1
  obtain ⟨w0, hw0⟩ : ∃ w0, w0 = w.alloc (.cells #[strV a1, strV a2, .int .i64 m1, v1] 24) := ⟨_, rfl⟩
  have hB0 : Below w.heap.size w w0 := by rw [hw0]; exact below_alloc w _
  have hz0 : w0.heap.size = w.heap.size + 1 := by rw [hw0]; simp
  rw [← hw0] at hH1
  have hH2 := HeadAt.new w0 (strV b1) (strV b2) (.int .i64 m2) v2
  obtain ⟨w1, hw1⟩ : ∃ w1, w1 = w0.alloc (.cells #[strV b1, strV b2, .int .i64 m2, v2] 24) := ⟨_, rfl⟩
  have hB1 : Below w0.heap.size w0 w1 := by rw [hw1]; exact below_alloc w0 _
  rw [← hw1] at hH2
  have hH1' := hH1.below hB1 hH1.lt
  have hB01 := hB0.trans (hB1.mono (by omega))
  rw [hz0] at hH2
  obtain ⟨p0, p1, p2, p3, _, _, _, _⟩ := hH1'.cells
  obtain ⟨r0, r1, r2, r3, _, _, _, _⟩ := hH2.cells
  have hSm := equal_any v1 v2 f1 f2 w1 (hS1.below hB01) (hS2.below hB01) hbig
  have HWW : Hid ((w.alloc (.cells #[.string ⟨a1.toArray⟩, .string ⟨a2.toArray⟩, .int .i64 m1, v1] 24)).alloc (.cells #[.string ⟨b1.toArray⟩, .string ⟨b2.toArray⟩, .int .i64 m2, v2] 24) = w1) := by
    unfold Hid
    rw [hw1, hw0]
    rfl
  have HB := hid hB01
  have hsame : sameL (a1, a2, m1, f1) (b1, b2, m2, f2) = (decide (a1 = b1) && decide (a2 = b2) && decide (m1 = m2) && decide (f1 = f2)) := rfl
  rw [hsame]
  unfold strV at p0 p1 r0 r1 ⊢
  clear hS1 hS2 hw0 hw1 hH1 hH2 hH1' hB0 hB1 hB01 hsame hz0
  have g1 := beq_dec a1 b1
  have g2 := beq_dec a2 b2
  have g3 := beq_decI m1 m2
  by_cases e1 : a1 = b1
  · rw [decide_eq_true e1] at g1 ⊢
    by_cases e2 : a2 = b2
    · rw [decide_eq_true e2] at g2 ⊢
      by_cases e3 : m1 = m2
      · rw [decide_eq_true e3] at g3 ⊢
        obtain ⟨F, hF⟩ : ∃ F, F = decide (f1 = f2) := ⟨_, rfl⟩
        rw [← hF] at hSm ⊢
        clear hF e1 e2 e3
        go_enter Tryz.func18, Tryz.ntmps18
        go_wp2_with fail
        rw [HWW.out]
        go_wp2_with fail
        refine hSm.mono ?_
        clear hSm
        rintro e w2 ⟨rfl, n, hw2⟩
        have HB2 : Hid (Below w.heap.size w w2) := by unfold Hid; rw [hw2]; exact below_drewN HB.out n
        clear hw2
        go_wp2
        go_ret
        exact ⟨rfl, HB2.out⟩
      · rw [decide_eq_false e3] at g3 ⊢
        clear e1 e2 e3 hSm
        go_enter Tryz.func18, Tryz.ntmps18
        go_wp2_with fail
        rw [HWW.out]
        go_wp2
        go_ret
        exact ⟨rfl, HB.out⟩
    · rw [decide_eq_false e2] at g2 ⊢
      clear e1 e2 hSm g3
      go_enter Tryz.func18, Tryz.ntmps18
      go_wp2_with fail
      rw [HWW.out]
      go_wp2
      go_ret
      exact ⟨rfl, HB.out⟩
  · rw [decide_eq_false e1] at g1 ⊢
    clear e1 hSm g2 g3
    go_enter Tryz.func18, Tryz.ntmps18
    go_wp2_with fail
    rw [HWW.out]
    go_wp2
    go_ret
    exact ⟨rfl, HB.out⟩
end Go.Proofs.YtfdjnkjiffdbfaaGreatDoor
