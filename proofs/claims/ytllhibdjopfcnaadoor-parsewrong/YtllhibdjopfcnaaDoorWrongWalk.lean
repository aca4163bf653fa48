/-
  ParseWrong: what breaks a parser is one of four statuses, and it stays broken: the walk.
-/
import Derived.Test.YtllhibdjopfcnaaDoorPNext
namespace Go.Proofs.YtllhibdjopfcnaaDoor
open Go.RowKit
set_option linter.unusedVariables false

theorem eql_some_nil (a : Addr) (w : World) : (binOp .eql 30 (.pointer (some a)) (.pointer none)).run Tryd.prog w = .ok (.bool false) w := by
  have h : ∀ d : Nat, (Op.equalIn (d + 1) 30 (.pointer (some a)) (.pointer none)).run Tryd.prog w = .ok false w := fun d => by
    simp [Op.equalIn, run_underlying Tryd.underlying30]
  simp only [binOp]
  simp [Op.equal, Op.maxDepth, h 9999]
theorem Below.kept {b p B : Nat} {w0 w w' : World} (h : Below b w0 w) (k : Kept p B w w') (hb : b ≤ p) (hB : b ≤ B) : Below b w0 w' :=
  ⟨k.os.trans h.os, k.tape.trans h.tape, k.output.trans h.output, Nat.le_trans h.size k.size, fun i hi => (k.block i (by omega) (by omega)).trans (h.block i hi)⟩

set_option maxRecDepth 20000 in
set_option maxHeartbeats 16000000 in
theorem wrong_walk (s0 s1 : ByteArray) (w : World) (hM : ML w) :
    Calls Tryd.prog 5 #[.string s0, .string s1] w fun e w' => e = .returned (.bool true) ∧ Below w.heap.size w w' := by
  obtain ⟨L0, hL0⟩ : ∃ L, L = s0.data.toList := ⟨_, rfl⟩
  have hs0 : s0 = ⟨L0.toArray⟩ := by rw [hL0]
  have hz0 : s0.size = L0.length := by rw [hs0, size_list]
  obtain ⟨L1, hL1⟩ : ∃ L, L = s1.data.toList := ⟨_, rfl⟩
  have hs1 : s1 = ⟨L1.toArray⟩ := by rw [hL1]
  have hgl := hM.lt
  have HM := hid hM
  have hN := new_any w
  obtain ⟨p, hp⟩ : ∃ p, p = w.heap.size := ⟨_, rfl⟩
  have HS0 := hid hs0
  have HS1 := hid hs1
  have HZ0 := hid hz0
  have HP := hid hp
  rw [← hp] at hN ⊢
  have hgp : 0 < p := by rw [hp]; exact hgl
  have HPS : Hid (∀ w', Below p w w' → p ≤ w'.heap.size) := hid (fun w' h => by rw [hp]; exact h.size)
  clear hL0 hL1 hs0 hs1 hz0 hM hp
  go_enter Tryd.func5, Tryd.ntmps5
  go_wp2_with fail
  refine hN.mono ?_
  clear hN
  rintro e w1 ⟨rfl, hP1, hB1⟩
  have hF := feed_any p [] L0 0 w1 hP1 (by simp)
  rw [← HS0.out] at hF
  have HP1 := hid hP1
  have HB1 := hid hB1
  have hpl1 := hP1.lt
  have heq := eql_some_nil ⟨p, 0, none⟩ w1
  clear hP1 hB1
  by_cases hl : 65536 < L0.length
  · rw [(fed_full (W := []) (y := L0) (by simpa using hl)).1, (fed_full (W := []) (y := L0) (by simpa using hl)).2] at hF
    have fl : decide ((65536 : Int) < (s0.size : Int)) = true := by have := HZ0.out; simp; omega
    clear hl
    go_wp2_with fail
    refine hF.mono ?_
    clear hF
    rintro e w2 ⟨rfl, hP2, hK2⟩
    have hB2 := Below.kept HB1.out hK2 (Nat.le_refl _) (by omega)
    have hA := awakeP_any w2 (HM.out.below hB2 (by omega))
    have HB2 := hid hB2
    clear hP2 hK2 hB2 HB1
    go_wp2_with fail
    refine hA.mono ?_
    clear hA
    rintro e w3 ⟨rfl, hB3⟩
    have HB3 := hid (HB2.out.trans (hB3.mono (HPS.out _ HB2.out)))
    clear hB3
    go_wp2
    go_ret
    exact ⟨rfl, by rw [HP.out] at HB3; rw [HP.out]; exact HB3.out⟩
  · rw [(fed_ok (W := []) (y := L0) (by simpa using hl)).1, (fed_ok (W := []) (y := L0) (by simpa using hl)).2, List.nil_append] at hF
    go_wp2_with fail
    refine hF.mono ?_
    clear hF
    rintro e w2 ⟨rfl, hP2, hK2⟩
    have HB2 := hid (Below.kept HB1.out hK2 (Nat.le_refl _) (by omega))
    have HP2 := hid hP2
    clear hP2 hK2 HB1
    go_wp2_with fail
    go_loopw [6] (fun i wr => ∃ (k : Nat) (Wt : List UInt8), i = .int .i64 (k : Int) ∧ PsAt wr p Wt 0 ∧ Wt.length ≤ 65536 ∧ Below p w wr) (fun i _ => s0.size + 1 - (intOf i).toNat)
    case atStart => exact ⟨0, L0, rfl, HP2.out, by omega, HB2.out⟩
    clear HP2 HB2
    case round =>
      obtain ⟨k, Wt, rfl, hPs, hWt, hB⟩ := hrel
      have hsz := HPS.out _ hB
      have HPs := hid hPs
      have HB := hid hB
      have hMr := HM.out.below hB (by omega)
      by_cases hlt : k ≤ s0.size
      · have hlt' : (k : Int) ≤ (s0.size : Int) := by omega
        have hk16 : (k : Int) ≤ 65536 := by have := HZ0.out; omega
        have hNx := next_any p Wt 0 wr hMr hPs hWt
        clear hPs hB
        match hT : firstL Wt with
        | .error none =>
          rw [nxt_more hT] at hNx
          simp only at hNx
          clear hT
          go_wp2_with fail
          refine hNx.mono ?_
          clear hNx
          rintro e w3 ⟨v, rfl, hO3, hP3, hK3⟩
          obtain ⟨e1, he1, rfl, hp1⟩ := hO3.elem
          simp only [RqE.val, reqV, RqE.vf, RqE.vq]
          have hB3 := Below.kept HB.out hK3 (Nat.le_refl _) (by omega)
          have hBa := below_alloc w3 (.cells #[.string ⟨e1.q.head.1.toArray⟩, .string ⟨e1.q.head.2.1.toArray⟩, .int .i64 e1.q.head.2.2.1, .slice e1.af e1.q.head.2.2.2.length e1.cf, .string ⟨e1.q.path.toArray⟩, .slice e1.aq e1.q.query.length e1.cq, .string ⟨e1.q.body.toArray⟩, .bool e1.q.close] 38)
          have hP4 := hP3.below hBa hP3.lt
          have hB4 := hB3.trans (hBa.mono (HPS.out _ hB3))
          have hBr := broken_any p Wt 0 _ hP4
          have hA := awakeP_any _ (HM.out.below hB4 (by omega))
          have HB4 := hid hB4
          clear hO3 hp1 he1 hP3 hK3 hB3 hBa hP4 hB4 HB HPs
          go_wp2_with fail
          refine hBr.mono ?_
          clear hBr
          rintro e w5 ⟨rfl, hw5⟩
          subst hw5
          go_wp2_with fail
          refine hA.mono ?_
          clear hA
          rintro e w6 ⟨rfl, hB6⟩
          have HB6 := hid (HB4.out.trans (hB6.mono (HPS.out _ HB4.out)))
          clear hB6
          go_wp2
          go_ret
          exact ⟨rfl, by rw [HP.out] at HB6; rw [HP.out]; exact HB6.out⟩
        | .ok (q, n) =>
          rw [nxt_got hT] at hNx
          simp only at hNx
          have HD := hid (show (Wt.drop n).length ≤ 65536 by rw [List.length_drop]; omega)
          clear hT
          go_wp2_with fail
          refine hNx.mono ?_
          clear hNx
          rintro e w3 ⟨v, rfl, hO3, hP3, hK3⟩
          obtain ⟨e1, he1, rfl, hp1⟩ := hO3.elem
          simp only [RqE.val, reqV, RqE.vf, RqE.vq]
          have hB3 := Below.kept HB.out hK3 (Nat.le_refl _) (by omega)
          have hBa := below_alloc w3 (.cells #[.string ⟨e1.q.head.1.toArray⟩, .string ⟨e1.q.head.2.1.toArray⟩, .int .i64 e1.q.head.2.2.1, .slice e1.af e1.q.head.2.2.2.length e1.cf, .string ⟨e1.q.path.toArray⟩, .slice e1.aq e1.q.query.length e1.cq, .string ⟨e1.q.body.toArray⟩, .bool e1.q.close] 38)
          have HP4 := hid (hP3.below hBa hP3.lt)
          have HB4 := hid (hB3.trans (hBa.mono (HPS.out _ hB3)))
          clear hO3 hp1 he1 hP3 hK3 hB3 hBa HB HPs
          go_wp2
          go_roundw
          case rel => exact ⟨k + 1, Wt.drop n, by go_num, HP4.out, HD.out, HB4.out⟩
          case measure => simp [intOf]; omega
        | .error (some t) =>
          rw [nxt_wrong hT] at hNx
          simp only at hNx
          have h4 := first_stat hT
          clear hT
          go_wp2_with fail
          refine hNx.mono ?_
          clear hNx
          rintro e w3 ⟨v, rfl, hO3, hP3, hK3⟩
          obtain ⟨e1, he1, rfl, hp1⟩ := hO3.elem
          simp only [RqE.val, reqV, RqE.vf, RqE.vq]
          have hB3 := Below.kept HB.out hK3 (Nat.le_refl _) (by omega)
          have hBa := below_alloc w3 (.cells #[.string ⟨e1.q.head.1.toArray⟩, .string ⟨e1.q.head.2.1.toArray⟩, .int .i64 e1.q.head.2.2.1, .slice e1.af e1.q.head.2.2.2.length e1.cf, .string ⟨e1.q.path.toArray⟩, .slice e1.aq e1.q.query.length e1.cq, .string ⟨e1.q.body.toArray⟩, .bool e1.q.close] 38)
          have hP4 := hP3.below hBa hP3.lt
          have hB4 := hB3.trans (hBa.mono (HPS.out _ hB3))
          have hNx2 := next_any p [] t _ (HM.out.below hB4 (by omega)) hP4 (by simp)
          rw [nxt_bad (stat4_ne h4)] at hNx2
          simp only at hNx2
          have HB4 := hid hB4
          have hsz4 := HPS.out _ hB4
          have ft : (t != 0) = true := by rw [bne_iff_ne]; exact stat4_ne h4
          clear hO3 hp1 he1 hP3 hK3 hB3 hBa hP4 hB4 HB HPs
          go_wp2_with fail
          refine hNx2.mono ?_
          clear hNx2
          rintro e w5 ⟨v5, rfl, hO5, hP5, hK5⟩
          obtain ⟨e5, he5, rfl, hp5⟩ := hO5.elem
          simp only [RqE.val, reqV, RqE.vf, RqE.vq]
          have hB5 := Below.kept HB4.out hK5 (Nat.le_refl _) (by omega)
          have hBa := below_alloc w5 (.cells #[.string ⟨e5.q.head.1.toArray⟩, .string ⟨e5.q.head.2.1.toArray⟩, .int .i64 e5.q.head.2.2.1, .slice e5.af e5.q.head.2.2.2.length e5.cf, .string ⟨e5.q.path.toArray⟩, .slice e5.aq e5.q.query.length e5.cq, .string ⟨e5.q.body.toArray⟩, .bool e5.q.close] 38)
          have hP6 := hP5.below hBa hP5.lt
          have hB6 := hB5.trans (hBa.mono (HPS.out _ hB5))
          have hFe := feed_any p [] L1 t _ hP6 (by simp)
          rw [(fed_bad (stat4_ne h4)).1, (fed_bad (stat4_ne h4)).2, ← HS1.out] at hFe
          have HB6 := hid hB6
          have hsz6 := HPS.out _ hB6
          clear hO5 hp5 he5 hP5 hK5 hB5 hBa hP6 hB6 HB4 ft
          have key : ∀ t', t = t' → (t' = 400 ∨ t' = 413 ∨ t' = 431 ∨ t' = 505) → True := fun _ _ _ => trivial
          clear key
          rcases h4 with rfl | rfl | rfl | rfl
          all_goals
            go_wp2_with fail
            refine hFe.mono ?_
            clear hFe
            rintro e w7 ⟨rfl, hP7, hK7⟩
            have hB7 := Below.kept HB6.out hK7 (Nat.le_refl _) (by omega)
            have hLe := left_any p [] _ w7 hP7
            have hBr := broken_any p [] _ w7 hP7
            have hA := awakeP_any w7 (HM.out.below hB7 (by omega))
            have HB7 := hid hB7
            clear hP7 hK7 hB7 HB6
            go_wp2_with fail
            refine hLe.mono ?_
            clear hLe
            rintro e w8 ⟨rfl, hw8⟩
            subst hw8
            go_wp2_with fail
            refine hBr.mono ?_
            clear hBr
            rintro e w9 ⟨rfl, hw9⟩
            subst hw9
            go_wp2_with fail
            refine hA.mono ?_
            clear hA
            rintro e w10 ⟨rfl, hB10⟩
            have HB10 := hid (HB7.out.trans (hB10.mono (HPS.out _ HB7.out)))
            clear hB10
            go_wp2
            go_ret
            exact ⟨rfl, by rw [HP.out] at HB10; rw [HP.out]; exact HB10.out⟩
      · have hlt' : ¬ (k : Int) ≤ (s0.size : Int) := by omega
        have hBr := broken_any p Wt 0 wr hPs
        have hA := awakeP_any wr hMr
        clear hPs hB hlt HPs
        go_wp2_with fail
        refine hBr.mono ?_
        clear hBr
        rintro e w5 ⟨rfl, hw5⟩
        subst hw5
        go_wp2_with fail
        refine hA.mono ?_
        clear hA
        rintro e w6 ⟨rfl, hB6⟩
        have HB6 := hid (HB.out.trans (hB6.mono (HPS.out _ HB.out)))
        clear hB6
        go_wp2
        go_ret
        exact ⟨rfl, by rw [HP.out] at HB6; rw [HP.out]; exact HB6.out⟩
end Go.Proofs.YtllhibdjopfcnaaDoor
