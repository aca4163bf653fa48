/-
  The document's reading of one line's words.
-/
import Derived.Test.YtkidcoolcjmcfaaDoorCRNum
namespace Go.Proofs.YtkidcoolcjmcfaaDoor
open Go.RowKit
set_option linter.unusedVariables false
set_option linter.unusedSimpArgs false
set_option maxRecDepth 100000

theorem insQ_none {IL : Option InsL} {w w' : World} (op a : Int) (h : IL = none) (hb : Below w.heap.size w w') : InsQ IL w (.returned (.tuple #[.agg #[.int .i64 op, .int .i64 a], .bool false])) w' := by
  subst h
  exact ⟨op, a, rfl, fun i hi => (by cases hi), hb⟩
theorem insQ_some {IL : Option InsL} {w w' : World} {op a : Int} (h : IL = some (op, a)) (hb : Below w.heap.size w w') : InsQ IL w (.returned (.tuple #[.agg #[.int .i64 op, .int .i64 a], .bool true])) w' := by
  subst h
  exact ⟨op, a, rfl, fun i hi => (by cases hi; rfl), hb⟩
/-- Where the first blank is. -/
theorem head_len {s : List UInt8} {k : Nat} (hk : k ≤ s.length) (hno : ∀ j (hj : j < s.length), j < k → blB s[j] = false) (hend : k = s.length ∨ ∃ h : k < s.length, blB s[k] = true) : (headW s).length = k := by
  have e : s.takeWhile (fun c => !blB c) = s.take k := by
    have h1 : s = s.take k ++ s.drop k := (List.take_append_drop k s).symm
    conv => lhs; rw [h1]
    refine (plain_takeWhile (fun c hc => ?_) (fun c hc => ?_)).1
    · obtain ⟨j, hj, rfl⟩ := List.getElem_of_mem hc
      rw [List.length_take] at hj
      rw [List.getElem_take]
      exact hno j (by omega) (by omega)
    · rcases hend with h | ⟨h, hb⟩
      · rw [List.drop_eq_nil_of_le (by omega)] at hc; simp at hc
      · rw [List.drop_eq_getElem_cons h, List.head?_cons] at hc
        have hc2 : s[k] = c := Option.some.inj hc
        rw [← hc2]; exact hb
  unfold headW
  rw [e, List.length_take]
  omega
/-- What is told of a name and what stands behind it. -/
def insEnd (FO : Option (Nat × Int)) (k0 len : Nat) (D : Option Int) : Option InsL :=
  match FO with
  | none => none
  | some o => if o.2 = 0 then (if k0 = len then some (1 + (o.1 : Int), 0) else none) else if k0 < len then D.map fun a => (1 + (o.1 : Int), a) else none
theorem insEnd_none (k0 len : Nat) (D : Option Int) : insEnd none k0 len D = none := rfl
theorem insEnd_zero {k : Nat} {wi : Int} (h : wi = 0) (k0 len : Nat) (D : Option Int) : insEnd (some (k, wi)) k0 len D = if k0 = len then some ((k : Int) + 1, 0) else none := by
  unfold insEnd
  simp only
  rw [if_pos h, Int.add_comm]
theorem insEnd_more {k : Nat} {wi : Int} (h : ¬ wi = 0) (k0 len : Nat) (D : Option Int) : insEnd (some (k, wi)) k0 len D = if k0 < len then D.map fun a => ((k : Int) + 1, a) else none := by
  unfold insEnd
  simp only
  rw [if_neg h, Int.add_comm]
set_option maxHeartbeats 8000000 in
theorem rone_any (s : List UInt8) (w : World) (hs : s.length ≤ 1000000) (hE : EndB s) :
    Calls Tryd.prog 29 #[.string ⟨s.toArray⟩] w (InsQ (insL s) w) := by
  obtain ⟨IL, hIL⟩ : ∃ IL, IL = insL s := ⟨_, rfl⟩
  obtain ⟨nm, hnm⟩ : ∃ nm, nm = headW s := ⟨_, rfl⟩
  obtain ⟨k0, hk0⟩ : ∃ k0, k0 = (headW s).length := ⟨_, rfl⟩
  obtain ⟨rs, hrs⟩ : ∃ rs, rs = Lib.trimS (s.drop k0) [32, 9] := ⟨_, rfl⟩
  obtain ⟨D, hD⟩ : ∃ D, D = docNum rs := ⟨_, rfl⟩
  obtain ⟨FO, hFO⟩ : ∃ FO, FO = findO nm opT 0 := ⟨_, rfl⟩
  have HIN : Hid (IL = insEnd FO k0 s.length D) := hid (by
    rw [hIL, ← docIns_eq hE, docIns, hFO, hnm, hD, hrs, hk0]
    rfl)
  have hsz : (⟨s.toArray⟩ : ByteArray).size = s.length := rfl
  obtain ⟨t1, t2, t3⟩ := head_take s
  rw [← hk0] at t1 t2 t3
  have hex0 : (⟨s.toArray⟩ : ByteArray).extract 0 k0 = ⟨nm.toArray⟩ := by
    rw [extract_listC, List.drop_zero, Nat.sub_zero, t1, hnm]
  have hex1 : (⟨s.toArray⟩ : ByteArray).extract k0 s.length = ⟨(s.drop k0).toArray⟩ := by
    rw [extract_listC, List.take_of_length_le (by rw [List.length_drop]; omega)]
  have HEX0 := hid hex0
  have HEX1 := hid hex1
  have hdl : (s.drop k0).length ≤ 140737488355328 := by rw [List.length_drop]; omega
  have HTr := hid (fun W => rtrim_any (s.drop k0) W hdl)
  rw [← hrs] at HTr
  have hrl : rs.length ≤ 140737488355328 := by
    rw [hrs]
    refine Nat.le_trans (trimS_len _) ?_
    rw [List.length_drop]; omega
  have HNu := hid (fun W => rnumber_any rs W hrl)
  rw [← hD] at HNu
  have HK0 := hid hk0
  have HFO := hid hFO
  rw [← hIL]
  clear hIL hnm hk0 hrs hD hFO t1 t2 hex0 hex1 hdl hrl hE
  go_enter Tryd.func29, Tryd.ntmps29
  go_upto_block 0 with fail
  go_cut [4] (fun x4 wx => x4 = .int .i64 (k0 : Int) ∧ Hid (wx = w.alloc (.cells #[.int .i64 0, .int .i64 0] 38)))
  case first =>
    go_wp2_with fail
    go_loop [4] (fun a => ∃ (k : Nat), k ≤ s.length ∧ a = .int .i64 (k : Int) ∧ Hid (∀ j (hj : j < s.length), j < k → blB s[j] = false)) (fun a => s.length - (intOf a).toNat)
    case atStart => exact ⟨0, Nat.zero_le _, rfl, hid (fun j hj h => by omega)⟩
    case round =>
      obtain ⟨k, hk, rfl, HNo⟩ := hrel
      by_cases hlt : k < s.length
      · have hlt' : (k : Int) < (s.length : Int) := by omega
        have i1 := index_byte ⟨s.toArray⟩ .i64 (k : Int) k rfl (show k < (⟨s.toArray⟩ : ByteArray).size from hlt)
        rw [show (⟨s.toArray⟩ : ByteArray)[k]'(show k < (⟨s.toArray⟩ : ByteArray).size from hlt) = s[k] from rfl] at i1
        have HE : Hid (blB s[k] = true → k = k0) := hid (fun h => by rw [HK0.out]; exact (head_len hk HNo.out (Or.inr ⟨hlt, h⟩)).symm)
        have HG : Hid (blB s[k] = false → ∀ j (hj : j < s.length), j < k + 1 → blB s[j] = false) := hid (fun he j hj hjk => by
          by_cases h : j = k
          · subst h; exact he
          · exact HNo.out j hj (by omega))
        obtain ⟨b, hb⟩ : ∃ b, b = s[k] := ⟨_, rfl⟩
        rw [← hb] at i1 HE HG
        clear hb
        refine blank_cases b _ (fun z1 zb => ?_) (fun z1 z2 zb => ?_) (fun z1 z2 zb => ?_)
        · have HN := hid (HE.out zb)
          have f1 : ((b.toNat : Int) != 32) = false := by simp [bne, z1]
          clear HG HE zb
          go_wp2
          go_meet
          case rel => exact ⟨by rw [HN.out], hid rfl⟩
        · have HN := hid (HE.out zb)
          have f1 : ((b.toNat : Int) != 32) = true := by simp [bne, z1]
          have f2 : ((b.toNat : Int) != 9) = false := by simp [bne, z2]
          clear HG HE zb
          go_wp2
          go_meet
          case rel => exact ⟨by rw [HN.out], hid rfl⟩
        · have HN := hid (HG.out zb)
          have f1 : ((b.toNat : Int) != 32) = true := by simp [bne, z1]
          have f2 : ((b.toNat : Int) != 9) = true := by simp [bne, z2]
          clear HG HE zb
          go_wp2
          go_round
          case rel => exact ⟨k + 1, by omega, by go_num, HN⟩
          case measure => simp [intOf]; omega
      · have hlt' : ¬ (k : Int) < (s.length : Int) := by omega
        have HN : Hid (k = k0) := hid (by rw [HK0.out]; exact (head_len hk HNo.out (Or.inl (by omega))).symm)
        clear HNo hlt
        go_wp2
        go_meet
        case rel => exact ⟨by rw [HN.out], hid rfl⟩
  case rest =>
    obtain ⟨rfl, HW⟩ := hcut
    have hb0 : Below w.heap.size w wc := by rw [HW.out]; exact below_alloc w _
    have hq0 : wc.heap[w.heap.size]? = some (.cells #[.int .i64 0, .int .i64 0] 38 (0, 0)) := by rw [HW.out]; exact heap_alloc_new w _
    have HX : Hid (wc.heap[w.heap.size]? = some (.cells #[.int .i64 0, .int .i64 0] 38 (0, 0)) ∧ Below w.heap.size w wc) := hid ⟨hq0, hb0⟩
    have hk0i : (k0 : Int) ≤ (s.length : Int) := by omega
    clear HW hb0 hq0
    go_wp2_with fail
    go_loopw [5] (fun i wr => ∃ k : Nat, k ≤ 25 ∧ i = .int .i64 ((k : Int) + 1) ∧ Hid (findO nm (opT.drop k) k = FO ∧ wr.heap[w.heap.size]? = some (.cells #[.int .i64 0, .int .i64 0] 38 (0, 0)) ∧ Below w.heap.size w wr)) (fun i _ => 26 - (intOf i).toNat)
    case atStart => exact ⟨0, by decide, rfl, hid ⟨HFO.out.symm, HX.out.1, HX.out.2⟩⟩
    case round =>
      obtain ⟨k, hk, rfl, HI⟩ := hrel
      obtain ⟨hfd, hq, hB⟩ := HI.out
      clear HI
      have hlw : w.heap.size < wr.heap.size := (Array.getElem?_eq_some_iff.1 hq).1
      by_cases hlt : k < 25
      · have hlt' : (k : Int) + 1 ≤ 25 := by omega
        have hfd1 := findO_drop (nm := nm) (k := k) hlt
        rw [hfd] at hfd1
        have HNa := hid (fun W => rname_any ((k : Int) + 1) W)
        rw [nameR_yes k hlt] at HNa
        have HHa := hid (fun W => hasA_any k hlt W)
        obtain ⟨P, hP⟩ : ∃ P, P = opT.getD k ([], 0) := ⟨_, rfl⟩
        rw [← hP] at hfd1 HNa HHa
        obtain ⟨c, wi⟩ := P
        simp only at hfd1 HNa HHa
        have HQ := hid hq
        have HB := hid hB
        have HLW := hid hlw
        clear hP hq hB hlw hfd
        go_wp2_with fail
        refine (HNa.out _).mono ?_
        clear HNa
        rintro e w2 ⟨rfl, hb2⟩
        have HB2 := hid (HB.out.trans (hb2.mono HB.out.size))
        have HQ2 := hid ((hb2.block _ HLW.out).trans HQ.out)
        clear hb2
        by_cases he : c = nm
        · rw [if_pos he] at hfd1
          have f1 : (c == nm) = true := by rw [beq_iff_eq]; exact he
          have f2 : (c != nm) = false := by simp [he]
          have hex0 := HEX0.out
          have hex1 := HEX1.out
          by_cases hz : wi = 0
          · have hd : decide (wi ≠ 0) = false := by simp [hz]
            rw [hd] at HHa
            have HN : Hid (IL = if k0 = s.length then some ((k : Int) + 1, 0) else none) := hid (by
              rw [HIN.out, hfd1, insEnd_zero hz])
            clear hfd1 he hz hd
            go_wp2_with fail
            refine (HHa.out _).mono ?_
            clear HHa
            rintro e w3 ⟨rfl, hb3⟩
            have HB3 := hid (HB2.out.trans (hb3.mono HB2.out.size))
            have hq3 := (hb3.block _ (Array.getElem?_eq_some_iff.1 HQ2.out).1).trans HQ2.out
            have x0 : w3.cell? ⟨w.heap.size, 0, none⟩ = some (.int .i64 0) := by simp [World.cell?, hq3]
            have x1 : w3.cell? ⟨w.heap.size, 1, none⟩ = some (.int .i64 0) := by simp [World.cell?, hq3]
            have y0 : w3.frozen? ⟨w.heap.size, 0, none⟩ = false := by simp [World.frozen?, hq3]
            have y1 : w3.frozen? ⟨w.heap.size, 1, none⟩ = false := by simp [World.frozen?, hq3]
            obtain ⟨hg, hbf⟩ := ins_fin hq3 HB3.out (Nat.le_refl _) (.int .i64 ((k : Int) + 1)) (.int .i64 0)
            have HG := hid hg
            have HBF := hid hbf
            clear hb3 hq3 hg hbf
            by_cases hks : k0 = s.length
            · have f3 : ((k0 : Int) == (s.length : Int)) = true := by rw [beq_iff_eq]; omega
              have HF := hid (show IL = some ((k : Int) + 1, 0) by rw [HN.out, if_pos hks])
              clear hks HN
              go_wp2
              refine bodyPost_ret (v := .tuple #[.agg #[.int .i64 ((k : Int) + 1), .int .i64 0], .bool true]) (results_ct (fn := Tryd.f29) (p := 2) (u := 3) rfl _ _ w.heap.size 38 #[.int .i64 ((k : Int) + 1), .int .i64 0] (0, 0) _ _ rfl rfl HG.out Tryd.underlying38 rfl) rfl ?_
              exact insQ_some HF.out HBF.out
            · have f3 : ((k0 : Int) == (s.length : Int)) = false := by rw [beq_eq_false_iff_ne]; omega
              have HF := hid (show IL = none by rw [HN.out, if_neg hks])
              clear hks HN
              go_wp2
              refine bodyPost_ret (v := .tuple #[.agg #[.int .i64 ((k : Int) + 1), .int .i64 0], .bool false]) (results_ct (fn := Tryd.f29) (p := 2) (u := 3) rfl _ _ w.heap.size 38 #[.int .i64 ((k : Int) + 1), .int .i64 0] (0, 0) _ _ rfl rfl HG.out Tryd.underlying38 rfl) rfl ?_
              exact insQ_none _ _ HF.out HBF.out
          · have hd : decide (wi ≠ 0) = true := by simp [hz]
            rw [hd] at HHa
            have HN : Hid (IL = if k0 < s.length then D.map fun a => ((k : Int) + 1, a) else none) := hid (by
              rw [HIN.out, hfd1, insEnd_more hz])
            clear hfd1 he hz hd
            go_wp2_with fail
            refine (HHa.out _).mono ?_
            clear HHa
            rintro e w3 ⟨rfl, hb3⟩
            have HB3 := hid (HB2.out.trans (hb3.mono HB2.out.size))
            have HQ3 := hid ((hb3.block _ (Array.getElem?_eq_some_iff.1 HQ2.out).1).trans HQ2.out)
            clear hb3
            go_wp2_with fail
            try rw [hex1]
            refine (HTr.out _).mono ?_
            rintro e w4 ⟨rfl, rfl⟩
            go_wp2_with fail
            refine (HNu.out _).mono ?_
            clear HTr HNu
            rintro e w5 ⟨a, rfl, ha, rfl⟩
            have HAA := hid ha
            obtain ⟨ds, hds⟩ : ∃ ds, ds = D.isSome := ⟨_, rfl⟩
            rw [← hds]
            have HDS := hid hds
            have hq3 := HQ3.out
            have x0 : w5.cell? ⟨w.heap.size, 0, none⟩ = some (.int .i64 0) := by simp [World.cell?, hq3]
            have x1 : w5.cell? ⟨w.heap.size, 1, none⟩ = some (.int .i64 0) := by simp [World.cell?, hq3]
            have y0 : w5.frozen? ⟨w.heap.size, 0, none⟩ = false := by simp [World.frozen?, hq3]
            have y1 : w5.frozen? ⟨w.heap.size, 1, none⟩ = false := by simp [World.frozen?, hq3]
            obtain ⟨hg, hbf⟩ := ins_fin hq3 HB3.out (Nat.le_refl _) (.int .i64 ((k : Int) + 1)) (.int .i64 a)
            have HG := hid hg
            have HBF := hid hbf
            clear ha hds hq3 hg hbf
            cases ds with
            | false =>
              have HF := hid (show IL = none by
                have hn : D = none := by cases D with | none => rfl | some v => have := HDS.out; simp at this
                rw [HN.out, hn]
                simp)
              clear HN
              go_wp2
              refine bodyPost_ret (v := .tuple #[.agg #[.int .i64 ((k : Int) + 1), .int .i64 a], .bool false]) (results_ct (fn := Tryd.f29) (p := 2) (u := 3) rfl _ _ w.heap.size 38 #[.int .i64 ((k : Int) + 1), .int .i64 a] (0, 0) _ _ rfl rfl HG.out Tryd.underlying38 rfl) rfl ?_
              exact insQ_none _ _ HF.out HBF.out
            | true =>
              have hv : D = some a := by
                cases hD : D with
                | none => have := HDS.out; rw [hD] at this; simp at this
                | some v => rw [HAA.out v hD]
              have HV := hid hv
              clear hv
              go_wp2
              refine bodyPost_ret (v := .tuple #[.agg #[.int .i64 ((k : Int) + 1), .int .i64 a], .bool (decide (k0 < s.length))]) (results_ct (fn := Tryd.f29) (p := 2) (u := 3) rfl _ _ w.heap.size 38 #[.int .i64 ((k : Int) + 1), .int .i64 a] (0, 0) _ _ rfl rfl HG.out Tryd.underlying38 rfl) rfl ?_
              by_cases hks : k0 < s.length
              · rw [decide_eq_true hks]
                exact insQ_some (by rw [HN.out, if_pos hks, HV.out]; rfl) HBF.out
              · rw [decide_eq_false hks]
                exact insQ_none _ _ (by rw [HN.out, if_neg hks]) HBF.out
        · rw [if_neg he] at hfd1
          have f1 : (c == nm) = false := by rw [beq_eq_false_iff_ne]; exact he
          have f2 : (c != nm) = true := by simp [he]
          have hex0 := HEX0.out
          have HF := hid hfd1
          clear hfd1 he HHa
          go_wp2
          go_roundw
          case rel => exact ⟨k + 1, by omega, by go_num, hid ⟨HF.out.symm, HQ2.out, HB2.out⟩⟩
          case measure => simp [intOf]; omega
      · have hlt' : ¬ (k : Int) + 1 ≤ 25 := by omega
        have HN : Hid (IL = none) := by
          unfold Hid
          have : FO = none := by
            rw [← hfd, List.drop_eq_nil_of_le (by show 25 ≤ k; omega)]
            rfl
          rw [HIN.out, this, insEnd_none]
        have HB := hid hB
        have HQ := hid hq
        have hx0 : wr.cell? ⟨w.heap.size, 0, none⟩ = some (.int .i64 0) := by simp [World.cell?, hq]
        have hx1 : wr.cell? ⟨w.heap.size, 1, none⟩ = some (.int .i64 0) := by simp [World.cell?, hq]
        have hy0 : wr.frozen? ⟨w.heap.size, 0, none⟩ = false := by simp [World.frozen?, hq]
        have hy1 : wr.frozen? ⟨w.heap.size, 1, none⟩ = false := by simp [World.frozen?, hq]
        obtain ⟨hg, hbf⟩ := ins_fin HQ.out HB.out (Nat.le_refl _) (.int .i64 0) (.int .i64 0)
        have HG := hid hg
        have HBF := hid hbf
        clear hfd hB hlt hq hg hbf
        go_wp2
        refine bodyPost_ret (v := .tuple #[.agg #[.int .i64 0, .int .i64 0], .bool false]) (results_ct (fn := Tryd.f29) (p := 2) (u := 3) rfl _ _ w.heap.size 38 #[.int .i64 0, .int .i64 0] (0, 0) _ _ rfl rfl HG.out Tryd.underlying38 rfl) rfl ?_
        exact insQ_none _ _ HN.out HBF.out
end Go.Proofs.YtkidcoolcjmcfaaDoor
