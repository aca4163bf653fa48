/-
  The law PortOrder.
-/
import Derived.Test.YtahibklmcooanaaOOrdA
namespace Go.Proofs.Ytahibklmcooanaa
open Go.RowKit
set_option linter.unusedVariables false
set_option linter.unusedSimpArgs false

def txs (m : Nat → List Msg) (j : Nat) : List ByteArray := (m j).map (·.2)
def OSt (w0 wr : World) (p b : Nat) (m : Nat → List Msg) (W : Nat → List ByteArray) : Prop :=
  ∃ bx ql v r, ql.length = 3 ∧ PoAt wr p bx 64 ql v m ∧ Below w0.heap.size w0 wr ∧ (∀ k, its p bx ql v k → w0.heap.size ≤ k) ∧ Want wr w0.heap.size b r W

theorem step_append_run {ops : Array Oper} {o : Oper} {a : Act} {w : World} {K : Act → World → Prop} {Q : Exit → Act → World → Prop} {E : Prop}
    (hg : o.guard = none) (d x : Operand) (dT sT : TypeId) (hop : o.op = Op.call { callee := Callee.builtin Builtin.append, args := #[d, x], argTypes := #[dT, sT] })
    (v u : Value) (hd : a.eval d = v) (hx : a.eval x = u) {v' : Value} {w' : World} (hr : (Builtin.append_ #[dT, sT] o.type #[v, u]).run Try.prog w = .ok v' w') (hK : K (a.put o.dst v') w') :
    if Region.wanted o (yielded ops a.tmps) = true then Oper.wp Try.prog o a w K Q else E := by
  have hw : Region.wanted o (yielded ops a.tmps) = true := by simp [Region.wanted, hg]
  rw [if_pos hw]
  unfold Oper.wp
  simp [execOp, hop, resolve, invoke, builtin, hd, hx, hr, Result.andThen]
  exact hK
theorem txs_put (m : Nat → List Msg) (tn : Nat) (y : Msg) (h : (m tn).length < 64) : txs (fun j => if j = tn then pushed 64 (m tn) y else m j) = (fun j => if j = tn then txs m tn ++ [y.2] else txs m j) := by
  funext j
  unfold txs
  by_cases e : j = tn
  · simp only [e, if_true]
    rw [pushed_map _ _ (by omega), if_pos h]
  · simp only [e, if_false]
theorem txs_full (m : Nat → List Msg) (tn : Nat) (y : Msg) (h : ¬ (m tn).length < 64) : txs (fun j => if j = tn then pushed 64 (m tn) y else m j) = txs m := by
  funext j
  unfold txs
  by_cases e : j = tn
  · simp only [e, if_true]
    unfold pushed
    rw [if_neg (by omega)]
  · simp only [e, if_false]
theorem ord_send (p bx : Nat) (ql : List (Nat × Nat)) (v : Nat → Rg) (m : Nat → List Msg) (i to : Nat) (hi : i < ql.length) (ht : to < ql.length) (vs vo : Value) (x : ByteArray) (w : World) (hP : PoAt w p bx 64 ql v m) (hS : SuAt w vs (.slice none 0 0) vo [2 * (i : Int) + 1] [] [2 * (i : Int) + 1]) (E : Int) (hE : E = if x.size ≤ 1024 then 0 else 4) :
    Calls Try.prog 15 #[.pointer (some ⟨p, 0, none⟩), .agg #[.int .i64 i, vs, .slice none 0 0, vo], .int .i64 to, .string x, .bool true] w fun e w' => ∃ ua un uc, e = .returned (.tuple #[.slice ua un uc, .int .i64 E]) ∧ PoTurn w w' p bx 64 ql v (if x.size ≤ 1024 then (fun j => if j = to then pushed 64 (m to) ((i : Int), x) else m j) else m) := by
  subst hE
  by_cases hx : x.size ≤ 1024
  · refine (send_subject p bx 64 ql v m i to hi ht vs vo x true w hP hS hx).mono ?_
    rintro e w' ⟨u, rfl, hO, hT⟩
    obtain ⟨b, off, ao, cap, hv, _⟩ := hO.sees
    subst hv
    rw [comes_open] at hT
    simp only [if_true] at hT
    rw [if_pos hx, if_pos hx]
    exact ⟨_, _, _, rfl, hT⟩
  · have he := err_subject ql.length i to x.size hi ht hP.n2
    rw [if_neg hx] at he
    have h := send_bad p bx 64 ql v m i to vs (.slice none 0 0) vo _ _ _ x true w hP hS (by rw [he]; decide)
    rw [he] at h
    refine h.mono ?_
    rintro e w' ⟨rfl, hB⟩
    rw [if_neg hx, if_neg hx]
    exact ⟨_, _, _, rfl, PoTurn.of hP hB⟩
set_option maxRecDepth 20000 in
set_option maxHeartbeats 8000000 in
theorem order_walk (vt vi : Value) (ts : List ByteArray) (is : List Int) (w : World) (hT : SeesT w vt ts) (hI : Sees w vi is) (szt : ts.length * 16 ≤ 140737488351232 ∧ ∀ s ∈ ts, s.size ≤ 140737488351232) (szi : is.length * 8 ≤ 140737488351232) :
    Calls Try.prog 5 #[vt, vi] w fun e w' => e = .returned (.bool true) ∧ Below w.heap.size w w' := by
  have hN := hid (new_any 3 64 w (by decide) (by decide) (by decide) (by decide))
  have hPN := eqlP_some_nil
  obtain ⟨tb, toff, ta, tc, rfl, htc, _, hta, htcell⟩ := hT
  obtain ⟨ib, ioff, ia, ic, rfl, hic, _, hia, hicell⟩ := hI
  have HT := hid htcell
  have HI := hid hicell
  have st := szt.1
  have hle1 : ts.length ≤ 4611686018427387904 := by omega
  have hle2 : is.length ≤ 4611686018427387904 := by omega
  clear htcell hicell szt htc hic
  go_enter Try.func5, Try.ntmps5
  go_wp2_with fail
  refine hN.out.mono ?_
  clear hN
  rintro e w1 ⟨p, m, rfl, ⟨bx, ql, v, hn, hP1, hB1, hF1⟩, hm⟩
  have H0 : Hid (∃ m, OSt w (w1.alloc (.cells #[.slice none 0 0, .slice none 0 0, .slice none 0 0] 52)) p w1.heap.size m (txs m)) := by
    refine hid ⟨m, bx, ql, v, fun _ => .slice none 0 0, hn, hP1.below (below_alloc _ _), hB1.trans ((below_alloc _ _).mono hB1.size), hF1, ⟨heap_alloc_new w1 _, fun k hk => ?_, fun j k g hj hk hjk hg => ?_⟩⟩
    · unfold txs
      rw [hm k hk]
      exact World.ownsRow_nil _ _ _ _
    · simp [Value.ownBlock] at hg
  have hb0 : w.heap.size ≤ w1.heap.size := hB1.size
  obtain ⟨b, hb⟩ : ∃ b, b = w1.heap.size := ⟨_, rfl⟩
  obtain ⟨W1, hW1⟩ : ∃ W1, W1 = w1.alloc (.cells #[.slice none 0 0, .slice none 0 0, .slice none 0 0] 52) := ⟨_, rfl⟩
  rw [← hb] at hb0
  rw [← hb, ← hW1] at H0
  have HW1 := hid hW1
  have HBB := hid hb
  clear hn hP1 hB1 hF1 hm hW1 hb bx ql v m
  go_wp2
  rw [← HW1.out, ← HBB.out]
  clear HW1 HBB
  go_loopw [8] (fun i wr => ∃ k : Nat, k ≤ ts.length ∧ i = .int .i64 k ∧ ∃ m, OSt w wr p b m (txs m)) (fun i _ => ts.length - (intOf i).toNat)
  case atStart => exact ⟨0, Nat.zero_le _, rfl, H0.out⟩
  case round =>
    clear H0
    obtain ⟨k, hk, rfl, m, bx, ql, v, r, hn, hP, hB, hF, hW⟩ := hrel
    have HP := hid hP
    have HB := hid hB
    have HF := hid hF
    have HN := hid hn
    have HW := hid hW
    clear hP hB hF hn hW
    by_cases hlt : k < ts.length ∧ k < is.length
    · obtain ⟨hlt1, hlt2⟩ := hlt
      have hl1 : (k : Int) < ts.length := by omega
      have hl2 : (k : Int) < is.length := by omega
      obtain rfl := hta (by intro h; rw [h] at hlt1; simp at hlt1)
      obtain rfl := hia (by intro h; rw [h] at hlt2; simp at hlt2)
      have ht0 := HT.out k hlt1
      have hi0 := HI.out k hlt2
      have ht1 := (HB.out.cell (World.block_lt_of_cell? w _ ht0)).trans ht0
      have hi1 := (HB.out.cell (World.block_lt_of_cell? w _ hi0)).trans hi0
      have HTB := hid (World.block_lt_of_cell? w _ ht0)
      obtain ⟨x, hx⟩ : ∃ x, x = ts.getD k ByteArray.empty := ⟨_, rfl⟩
      obtain ⟨z, hz⟩ : ∃ z, z = is.getD k 0 := ⟨_, rfl⟩
      rw [← hx] at ht1
      rw [← hz] at hi1
      obtain ⟨tn, htn, hrem⟩ := rem3 z
      have hkm : (k : Int).tmod 3 = ((k % 3 : Nat) : Int) := by rw [Int.tmod_eq_emod_of_nonneg (by omega)]; omega
      have HX := hid hx
      clear ht0 hi0 hx hz
      have HTX := hid (show w.cell? ⟨tb, toff + k, none⟩ = some (.string x) from by rw [HX.out]; exact HT.out k hlt1)
      clear HX
      rcases hrem with ⟨hr1, hr2⟩ | ⟨hr1, hr2⟩
      · go_wp2_with fail
        have hn := HN.out
        obtain ⟨E, hE⟩ : ∃ E : Int, E = if x.size ≤ 1024 then 0 else 4 := ⟨_, rfl⟩
        have HSe := hid (fun (w2 : World) (h2 : Below wr.heap.size wr w2) vs vo hS => ord_send p bx ql v m (k % 3) tn (by omega) (by omega) vs vo x w2 (HP.out.below h2) hS E hE)
        have hk3 : k % 3 ≤ 1000 := by omega
        have HE := hid hE
        clear hi1 hn hE
        go_region_held3 (fun w' => w'.cell? ⟨tb, toff + k, none⟩ = some (.string x))
          (first | assumption | go_keep)
          (first
            | (go_at_call 19; refine (subject_any (k % 3) hk3 _).mono ?_; rintro e w2 ⟨vs2, vo2, rfl, hS2, hB2⟩
               have hB12 : Below wr.heap.size wr w2 := (Below.drew (Below.refl _ _)).trans hB2
               have ht2 := (hB12.cell (World.block_lt_of_cell? wr _ ht1)).trans ht1
               have HB12 := hid hB12
               have HS2 := hid hS2
               clear hB2 hB12 hS2 ht1
               unfold suV)
            | (go_at_call 15; refine (HSe.out _ HB12.out _ _ HS2.out).mono ?_; clear HSe; rintro e w3 ⟨ua, un, uc, rfl, hT3⟩
               have hB3 : Below w.heap.size w w3 := by
                 obtain ⟨v3, t1, t2, t3⟩ := hT3
                 exact bel_turn (HB.out.trans (HB12.out.mono HB.out.size)) HF.out t2
               have ht3 := (hB3.cell HTB.out).trans (HTX.out)
               have HT3 := hid hT3
               have HB3 := hid hB3
               clear hT3 hB3 ht2))
        obtain ⟨v3, hP3, hG3, hM3⟩ := HT3.out
        have HF3 := hid (its_turn HF.out (Nat.le_trans HB.out.size HB12.out.size) hM3)
        have HW3 := hid ((HW.out.below HB12.out).turn (HP.out.below HB12.out) hG3)
        have HP3 := hid hP3
        have hml := HP.out.len tn (by have := HN.out; omega)
        clear hP3 hG3 hM3 HT3 HW HP HB HF HB12 HS2
        by_cases hs : x.size ≤ 1024
        · have hs' : (x.size : Int) ≤ 1024 := by omega
          have hE := HE.out
          rw [if_pos hs] at hE
          subst hE
          simp only [hs, if_true] at HP3
          obtain ⟨ra, rk, hrv⟩ := (HW3.out.own tn htn).shape
          have hcw := HW3.out.cell tn htn
          rw [hrv] at hcw
          have hlen : (txs m tn).length = (m tn).length := by unfold txs; simp
          rw [hlen] at hcw
          have htnI : (tn : Int) < 3 := by omega
          by_cases hl : (m tn).length < 64
          · have hlI : ((m tn).length : Int) < 64 := by omega
            have hbl3 : b < w3.heap.size := (Array.getElem?_eq_some_iff.1 HW3.out.blk).1
            obtain ⟨V, hV⟩ : ∃ V, V = (w3.alloc (.cells #[.string x] 9)).drew := ⟨_, rfl⟩
            have hbV : Below w3.heap.size w3 V := by rw [hV]; exact Below.drew (below_alloc w3 _)
            have hcV : V.cell? ⟨w3.heap.size, 0, none⟩ = some (.string x) := by rw [hV]; simp
            have hWV := HW3.out.below hbV
            obtain ⟨v', w4, hrun, hO4, hg4, hF4⟩ := run_appT V 51 w.heap.size (r tn) (txs m tn) (hWV.own tn htn) w3.heap.size x hcV (by omega) (Nat.le_trans HB3.out.size hbV.size)
            have hput := hWV.put tn htn hO4 hg4 hF4
            have hpo := want_its hWV htn (v' := v') (HP3.out.below hbV) hg4
            obtain ⟨va, vk, hvv⟩ := hO4.shape
            have hbl : b < V.heap.size := (Array.getElem?_eq_some_iff.1 hWV.blk).1
            have hnb : (r tn).ownBlock ≠ some b := fun e => by
              obtain ⟨cur, hc⟩ := ownsRow_ty (hWV.own tn htn) e
              exact ty_ne hc hWV.blk (by decide) rfl
            have hb4 : w4.heap[b]? = V.heap[b]? := hg4.block b hbl (fun e => hnb e.symm)
            have hc4 : w4.cell? ⟨b, tn, none⟩ = some (r tn) := (Mq.World.cell?_of_block hb4 tn).trans (hWV.cell tn htn)
            have hf4 : w4.frozen? ⟨b, tn, none⟩ = false := (Mq.World.frozen?_of_block (j := tn) hb4).trans (hWV.warm tn)
            have hbel4 : Below w.heap.size w (w4.setCell ⟨b, tn, none⟩ v') := by
              have h1 : Below w.heap.size w V := HB3.out.trans (hbV.mono HB3.out.size)
              have h2 : Below w.heap.size w w4 := h1.grown hg4 h1.size (fun g hg => ((hWV.own tn htn).lt g hg).1)
              exact h2.setCell (by simpa using hb0) _
            rw [show (txs m tn ++ [x]).length = (txs m tn).length + 1 by simp] at hvv
            have HFIN := hid (And.intro hput (And.intro hpo hbel4))
            have HR := hid hrun
            rw [hrv, hlen] at HR hc4
            subst hvv
            rw [hV] at HR
            clear hbV hcV hWV hput hpo hrun hO4 hg4 hF4 hbl hnb hb4 hbel4 hV HP3 HW3 HB3 hlen hrv
            go_wp2_with fail
            go_region_law (refine step_append_run rfl (.tmp 83) (.tmp 88) 51 51 rfl _ _ (by simp [Act.eval, Act.put]) (by simp [Act.eval, Act.put]) HR.out ?_)
            all_goals
              go_wp2
              go_roundw
              case rel => exact ⟨k + 1, by omega, by go_num, _, bx, ql, v3, _, HN.out, HFIN.out.2.1, HFIN.out.2.2, HF3.out, by rw [txs_put m tn _ hl]; exact HFIN.out.1⟩
              case measure => simp [intOf]; omega
          · have hlI : ¬ ((m tn).length : Int) < 64 := by omega
            have hTX := hid (txs_full m tn (((k % 3 : Nat) : Int), x) hl)
            go_wp2
            go_roundw
            case rel => exact ⟨k + 1, by omega, by go_num, _, bx, ql, v3, r, HN.out, HP3.out, HB3.out, HF3.out, by rw [hTX.out]; exact HW3.out⟩
            case measure => simp [intOf]; omega
        · have hs' : ¬ (x.size : Int) ≤ 1024 := by omega
          have hE := HE.out
          rw [if_neg hs] at hE
          subst hE
          simp only [hs, if_false] at HP3
          go_wp2
          go_roundw
          case rel => exact ⟨k + 1, by omega, by go_num, m, bx, ql, v3, r, HN.out, HP3.out, HB3.out, HF3.out, HW3.out⟩
          case measure => simp [intOf]; omega
      · go_wp2_with fail
        have hn := HN.out
        obtain ⟨E, hE⟩ : ∃ E : Int, E = if x.size ≤ 1024 then 0 else 4 := ⟨_, rfl⟩
        have HSe := hid (fun (w2 : World) (h2 : Below wr.heap.size wr w2) vs vo hS => ord_send p bx ql v m (k % 3) tn (by omega) (by omega) vs vo x w2 (HP.out.below h2) hS E hE)
        have hk3 : k % 3 ≤ 1000 := by omega
        have HE := hid hE
        clear hi1 hn hE
        go_region_held3 (fun w' => w'.cell? ⟨tb, toff + k, none⟩ = some (.string x))
          (first | assumption | go_keep)
          (first
            | (go_at_call 19; refine (subject_any (k % 3) hk3 _).mono ?_; rintro e w2 ⟨vs2, vo2, rfl, hS2, hB2⟩
               have hB12 : Below wr.heap.size wr w2 := (Below.drew (Below.refl _ _)).trans hB2
               have ht2 := (hB12.cell (World.block_lt_of_cell? wr _ ht1)).trans ht1
               have HB12 := hid hB12
               have HS2 := hid hS2
               clear hB2 hB12 hS2 ht1
               unfold suV)
            | (go_at_call 15; refine (HSe.out _ HB12.out _ _ HS2.out).mono ?_; clear HSe; rintro e w3 ⟨ua, un, uc, rfl, hT3⟩
               have hB3 : Below w.heap.size w w3 := by
                 obtain ⟨v3, t1, t2, t3⟩ := hT3
                 exact bel_turn (HB.out.trans (HB12.out.mono HB.out.size)) HF.out t2
               have ht3 := (hB3.cell HTB.out).trans (HTX.out)
               have HT3 := hid hT3
               have HB3 := hid hB3
               clear hT3 hB3 ht2))
        obtain ⟨v3, hP3, hG3, hM3⟩ := HT3.out
        have HF3 := hid (its_turn HF.out (Nat.le_trans HB.out.size HB12.out.size) hM3)
        have HW3 := hid ((HW.out.below HB12.out).turn (HP.out.below HB12.out) hG3)
        have HP3 := hid hP3
        have hml := HP.out.len tn (by have := HN.out; omega)
        clear hP3 hG3 hM3 HT3 HW HP HB HF HB12 HS2
        by_cases hs : x.size ≤ 1024
        · have hs' : (x.size : Int) ≤ 1024 := by omega
          have hE := HE.out
          rw [if_pos hs] at hE
          subst hE
          simp only [hs, if_true] at HP3
          obtain ⟨ra, rk, hrv⟩ := (HW3.out.own tn htn).shape
          have hcw := HW3.out.cell tn htn
          rw [hrv] at hcw
          have hlen : (txs m tn).length = (m tn).length := by unfold txs; simp
          rw [hlen] at hcw
          have htnI : (tn : Int) < 3 := by omega
          by_cases hl : (m tn).length < 64
          · have hlI : ((m tn).length : Int) < 64 := by omega
            have hbl3 : b < w3.heap.size := (Array.getElem?_eq_some_iff.1 HW3.out.blk).1
            obtain ⟨V, hV⟩ : ∃ V, V = (w3.alloc (.cells #[.string x] 9)).drew := ⟨_, rfl⟩
            have hbV : Below w3.heap.size w3 V := by rw [hV]; exact Below.drew (below_alloc w3 _)
            have hcV : V.cell? ⟨w3.heap.size, 0, none⟩ = some (.string x) := by rw [hV]; simp
            have hWV := HW3.out.below hbV
            obtain ⟨v', w4, hrun, hO4, hg4, hF4⟩ := run_appT V 51 w.heap.size (r tn) (txs m tn) (hWV.own tn htn) w3.heap.size x hcV (by omega) (Nat.le_trans HB3.out.size hbV.size)
            have hput := hWV.put tn htn hO4 hg4 hF4
            have hpo := want_its hWV htn (v' := v') (HP3.out.below hbV) hg4
            obtain ⟨va, vk, hvv⟩ := hO4.shape
            have hbl : b < V.heap.size := (Array.getElem?_eq_some_iff.1 hWV.blk).1
            have hnb : (r tn).ownBlock ≠ some b := fun e => by
              obtain ⟨cur, hc⟩ := ownsRow_ty (hWV.own tn htn) e
              exact ty_ne hc hWV.blk (by decide) rfl
            have hb4 : w4.heap[b]? = V.heap[b]? := hg4.block b hbl (fun e => hnb e.symm)
            have hc4 : w4.cell? ⟨b, tn, none⟩ = some (r tn) := (Mq.World.cell?_of_block hb4 tn).trans (hWV.cell tn htn)
            have hf4 : w4.frozen? ⟨b, tn, none⟩ = false := (Mq.World.frozen?_of_block (j := tn) hb4).trans (hWV.warm tn)
            have hbel4 : Below w.heap.size w (w4.setCell ⟨b, tn, none⟩ v') := by
              have h1 : Below w.heap.size w V := HB3.out.trans (hbV.mono HB3.out.size)
              have h2 : Below w.heap.size w w4 := h1.grown hg4 h1.size (fun g hg => ((hWV.own tn htn).lt g hg).1)
              exact h2.setCell (by simpa using hb0) _
            rw [show (txs m tn ++ [x]).length = (txs m tn).length + 1 by simp] at hvv
            have HFIN := hid (And.intro hput (And.intro hpo hbel4))
            have HR := hid hrun
            rw [hrv, hlen] at HR hc4
            subst hvv
            rw [hV] at HR
            clear hbV hcV hWV hput hpo hrun hO4 hg4 hF4 hbl hnb hb4 hbel4 hV HP3 HW3 HB3 hlen hrv
            go_wp2_with fail
            go_region_law (refine step_append_run rfl (.tmp 83) (.tmp 88) 51 51 rfl _ _ (by simp [Act.eval, Act.put]) (by simp [Act.eval, Act.put]) HR.out ?_)
            all_goals
              go_wp2
              go_roundw
              case rel => exact ⟨k + 1, by omega, by go_num, _, bx, ql, v3, _, HN.out, HFIN.out.2.1, HFIN.out.2.2, HF3.out, by rw [txs_put m tn _ hl]; exact HFIN.out.1⟩
              case measure => simp [intOf]; omega
          · have hlI : ¬ ((m tn).length : Int) < 64 := by omega
            have hTX := hid (txs_full m tn (((k % 3 : Nat) : Int), x) hl)
            go_wp2
            go_roundw
            case rel => exact ⟨k + 1, by omega, by go_num, _, bx, ql, v3, r, HN.out, HP3.out, HB3.out, HF3.out, by rw [hTX.out]; exact HW3.out⟩
            case measure => simp [intOf]; omega
        · have hs' : ¬ (x.size : Int) ≤ 1024 := by omega
          have hE := HE.out
          rw [if_neg hs] at hE
          subst hE
          simp only [hs, if_false] at HP3
          go_wp2
          go_roundw
          case rel => exact ⟨k + 1, by omega, by go_num, m, bx, ql, v3, r, HN.out, HP3.out, HB3.out, HF3.out, HW3.out⟩
          case measure => simp [intOf]; omega
    · have HML := hid (fun j (hj : j < 3) => (show (m j).length ≤ 64 from by have h1 := HP.out.len j (by have := HN.out; omega); omega))
      by_cases hk1 : k < ts.length
      · have hl1 : (k : Int) < ts.length := by omega
        have hl2 : ¬ (k : Int) < is.length := by omega
        have H2 := hid (show ∃ m', (∀ j, j < 3 → m' j = if j < 0 then [] else m j) ∧ OSt w wr p b m' (txs m) from ⟨m, fun j hj => by simp, bx, ql, v, r, HN.out, HP.out, HB.out, HF.out, HW.out⟩)
        clear HP HB HF HN HW hlt bx ql v r
        go_wp2
        go_loopw [12] (fun i w' => ∃ q : Nat, q ≤ 3 ∧ i = .int .i64 q ∧ ∃ m', (∀ j, j < 3 → m' j = if j < q then [] else m j) ∧ OSt w w' p b m' (txs m)) (fun i _ => 3 - (intOf i).toNat)
        case atStart => exact ⟨0, by decide, rfl, H2.out⟩
        case round =>
          clear H2
          obtain ⟨q, hq, rfl, m1, hm1, hO1⟩ := hrel
          have HO1 := hid hO1
          have HM1 := hid hm1
          clear hO1 hm1
          by_cases hq3 : q < 3
          · have hqI : (q : Int) < 3 := by omega
            have H3 := hid (show ∃ m', (∀ j, j < 3 → m' j = if j < q then [] else if j = q then (m q).drop 0 else m j) ∧ OSt w wr p b m' (txs m) from ⟨m1, fun j hj => by
              rw [HM1.out j hj]
              by_cases e : j = q
              · simp [e]
              · simp [e], HO1.out⟩)
            clear HO1 HM1
            go_wp2
            go_loopw [13] (fun i w' => ∃ n : Nat, n ≤ (m q).length ∧ i = .int .i64 n ∧ ∃ m', (∀ j, j < 3 → m' j = if j < q then [] else if j = q then (m q).drop n else m j) ∧ OSt w w' p b m' (txs m)) (fun i _ => (m q).length - (intOf i).toNat)
            case atStart => exact ⟨0, Nat.zero_le _, rfl, H3.out⟩
            case round =>
              clear H3
              obtain ⟨n, hn, rfl, m2, hm2, bx, ql, v, r, hql, hP, hB, hF, hW⟩ := hrel
              have hmq := hm2 q hq3
              rw [if_neg (by omega), if_pos rfl] at hmq
              obtain ⟨ra, rk, hrv⟩ := (hW.own q hq3).shape
              have hcw := hW.cell q hq3
              rw [hrv] at hcw
              have hlen : (txs m q).length = (m q).length := by unfold txs; simp
              rw [hlen] at hcw
              have hml : (m q).length ≤ 64 := HML.out q hq3
              by_cases hnl : n < (m q).length
              · have hnI : (n : Int) < (m q).length := by omega
                obtain ⟨g, gc, hgv, hgc⟩ := (hW.own q hq3).at n (by omega)
                have hx2 : (txs m q)[n]'(by omega) = ((m q)[n]).2 := by unfold txs; simp
                rw [hx2] at hgc
                rw [hrv] at hgv
                cases hgv
                obtain ⟨y, hy⟩ : ∃ y, y = (m q)[n] := ⟨_, rfl⟩
                rw [← hy] at hgc
                have hdr : m2 q = y :: (m q).drop (n + 1) := by rw [hmq, hy]; exact List.drop_eq_getElem_cons hnl
                obtain ⟨y1, y2⟩ := y
                have HTk := hid (take_some p bx 64 ql v m2 q (by omega) wr hP (y1, y2) _ hdr)
                unfold Mq.mV at HTk
                have HP := hid hP
                have HB := hid hB
                have HF := hid hF
                have HW := hid hW
                have HQ := hid hql
                have HM2 := hid hm2
                dsimp only at hgc
                have HGC := hid hgc
                have HRV := hid hrv
                have HGT := hid (show ∃ cur, wr.heap[g]? = some (.cells cur 9 (0, 0)) from ownsRow_ty (hW.own q hq3) (by rw [hrv]; rfl))
                have hn64 : n ≤ 64 := by omega
                clear hP hB hF hW hql hm2 hmq hdr hy hgc hrv hx2 hlen
                go_wp2_with fail
                refine HTk.out.mono ?_
                clear HTk
                rintro e w3 ⟨rfl, v3, hP3, hG3, hM3⟩
                have HP3 := hid hP3
                have HF3 := hid (its_turn HF.out HB.out.size hM3)
                have HB3 := hid (bel_turn HB.out HF.out hG3)
                have hW3 := HW.out.turn HP.out hG3
                have hc3 := hW3.cell q hq3
                rw [HRV.out, show (txs m q).length = (m q).length by unfold txs; simp] at hc3
                obtain ⟨gcur, hgt⟩ := HGT.out
                have hg3 := (Mq.World.cell?_of_block (ty_kept HP.out hG3 hgt (by decide) (by decide)) n).trans HGC.out
                have HW3 := hid hW3
                obtain ⟨W4, hW4⟩ : ∃ W4, W4 = w3.alloc (.cells #[.int .i64 y1, .string y2] 55) := ⟨_, rfl⟩
                have hb4 : Below w3.heap.size w3 W4 := by rw [hW4]; exact below_alloc w3 _
                have k1 : W4.cell? ⟨w3.heap.size, 1, none⟩ = some (.string y2) := by rw [hW4]; simp
                have hc4 := (hb4.cell (World.block_lt_of_cell? w3 _ hc3)).trans hc3
                have hg4 := (hb4.cell (World.block_lt_of_cell? w3 _ hg3)).trans hg3
                have HS4 := hid (And.intro (HP3.out.below hb4) (And.intro (HB3.out.trans (hb4.mono HB3.out.size)) (HW3.out.below hb4)))
                have HW4 := hid hW4
                clear hP3 hG3 hM3 hW3 hc3 hg3 hgt hW4 hb4 hcw HP HB HF HW HGT HGC HRV HP3 HB3 HW3
                go_wp2_with fail
                rw [← HW4.out]
                go_region_held3 (fun w' => w'.cell? ⟨w3.heap.size, 1, none⟩ = some (.string y2) ∧ w'.cell? ⟨b, q, none⟩ = some (.slice (some ⟨g, 0, none⟩) (m q).length rk) ∧ w'.cell? ⟨g, n, none⟩ = some (.string y2))
                  (first | (refine ⟨?_, ?_, ?_⟩ <;> first | assumption | go_keep))
                  (fail)
                go_wp2
                go_roundw
                case rel =>
                  refine ⟨n + 1, by omega, by go_num, _, ?_, bx, ql, v3, r, HQ.out, HS4.out.1.below (Below.drew (Below.refl _ _)), Below.drew HS4.out.2.1, HF3.out, HS4.out.2.2.below (Below.drew (Below.refl _ _))⟩
                  intro j hj
                  by_cases e : j = q
                  · subst e
                    simp
                  · simp only [e, if_false]
                    rw [HM2.out j hj]
                    simp [e]
                case measure => simp [intOf]; omega
              · have hne : n = (m q).length := by omega
                have hnI : ¬ (n : Int) < (m q).length := by omega
                have hnil : m2 q = [] := by rw [hmq, hne]; simp
                have HTk := hid (take_none p bx 64 ql v m2 q (by omega) wr hP hnil)
                unfold Mq.mV Mq.z0 at HTk
                have HP := hid hP
                have HB := hid hB
                have HF := hid hF
                have HW := hid hW
                have HQ := hid hql
                have HM2 := hid hm2
                have HNE := hid hne
                clear hP hB hF hW hql hm2 hmq hne hrv hlen hml
                go_wp2_with fail
                refine HTk.out.mono ?_
                clear HTk
                rintro e w3 ⟨rfl, v3, hP3, hG3, hM3⟩
                have ha := below_alloc w3 (.cells #[.int .i64 0, .string ByteArray.empty] 55)
                have hB3 := bel_turn HB.out HF.out hG3
                have HS4 := hid (And.intro (hP3.below ha) (And.intro (hB3.trans (ha.mono hB3.size)) ((HW.out.turn HP.out hG3).below ha)))
                have HF3 := hid (its_turn HF.out HB.out.size hM3)
                clear hP3 hG3 hM3 ha hB3 hcw HP HB HF HW
                go_wp2
                go_roundw
                case rel =>
                  refine ⟨q + 1, by omega, by go_num, m2, ?_, bx, ql, v3, r, HQ.out, HS4.out.1, HS4.out.2.1, HF3.out, HS4.out.2.2⟩
                  intro j hj
                  rw [HM2.out j hj]
                  by_cases e : j = q
                  · subst e
                    rw [if_neg (by omega), if_pos rfl, if_pos (by omega), HNE.out]
                    simp
                  · by_cases e2 : j < q
                    · rw [if_pos e2, if_pos (by omega)]
                    · rw [if_neg e2, if_neg e, if_neg (by omega)]
                case measure => simp [intOf]; omega
          · have hqe : q = 3 := by omega
            subst hqe
            obtain ⟨bx, ql, v, r, hql, hP, hB, hF, hW⟩ := HO1.out
            have HB := hid hB
            clear hql hP hB hF hW
            go_wp2_with fail
            refine (awake_any _).mono ?_
            rintro e w9 ⟨rfl, hB9⟩
            have HB9 := hid (HB.out.trans (hB9.mono HB.out.size))
            clear hB9
            go_wp2
            go_ret
            exact ⟨rfl, HB9.out⟩
      · have hl1 : ¬ (k : Int) < ts.length := by omega
        have H2 := hid (show ∃ m', (∀ j, j < 3 → m' j = if j < 0 then [] else m j) ∧ OSt w wr p b m' (txs m) from ⟨m, fun j hj => by simp, bx, ql, v, r, HN.out, HP.out, HB.out, HF.out, HW.out⟩)
        clear HP HB HF HN HW hlt bx ql v r
        go_wp2
        go_loopw [12] (fun i w' => ∃ q : Nat, q ≤ 3 ∧ i = .int .i64 q ∧ ∃ m', (∀ j, j < 3 → m' j = if j < q then [] else m j) ∧ OSt w w' p b m' (txs m)) (fun i _ => 3 - (intOf i).toNat)
        case atStart => exact ⟨0, by decide, rfl, H2.out⟩
        case round =>
          clear H2
          obtain ⟨q, hq, rfl, m1, hm1, hO1⟩ := hrel
          have HO1 := hid hO1
          have HM1 := hid hm1
          clear hO1 hm1
          by_cases hq3 : q < 3
          · have hqI : (q : Int) < 3 := by omega
            have H3 := hid (show ∃ m', (∀ j, j < 3 → m' j = if j < q then [] else if j = q then (m q).drop 0 else m j) ∧ OSt w wr p b m' (txs m) from ⟨m1, fun j hj => by
              rw [HM1.out j hj]
              by_cases e : j = q
              · simp [e]
              · simp [e], HO1.out⟩)
            clear HO1 HM1
            go_wp2
            go_loopw [13] (fun i w' => ∃ n : Nat, n ≤ (m q).length ∧ i = .int .i64 n ∧ ∃ m', (∀ j, j < 3 → m' j = if j < q then [] else if j = q then (m q).drop n else m j) ∧ OSt w w' p b m' (txs m)) (fun i _ => (m q).length - (intOf i).toNat)
            case atStart => exact ⟨0, Nat.zero_le _, rfl, H3.out⟩
            case round =>
              clear H3
              obtain ⟨n, hn, rfl, m2, hm2, bx, ql, v, r, hql, hP, hB, hF, hW⟩ := hrel
              have hmq := hm2 q hq3
              rw [if_neg (by omega), if_pos rfl] at hmq
              obtain ⟨ra, rk, hrv⟩ := (hW.own q hq3).shape
              have hcw := hW.cell q hq3
              rw [hrv] at hcw
              have hlen : (txs m q).length = (m q).length := by unfold txs; simp
              rw [hlen] at hcw
              have hml : (m q).length ≤ 64 := HML.out q hq3
              by_cases hnl : n < (m q).length
              · have hnI : (n : Int) < (m q).length := by omega
                obtain ⟨g, gc, hgv, hgc⟩ := (hW.own q hq3).at n (by omega)
                have hx2 : (txs m q)[n]'(by omega) = ((m q)[n]).2 := by unfold txs; simp
                rw [hx2] at hgc
                rw [hrv] at hgv
                cases hgv
                obtain ⟨y, hy⟩ : ∃ y, y = (m q)[n] := ⟨_, rfl⟩
                rw [← hy] at hgc
                have hdr : m2 q = y :: (m q).drop (n + 1) := by rw [hmq, hy]; exact List.drop_eq_getElem_cons hnl
                obtain ⟨y1, y2⟩ := y
                have HTk := hid (take_some p bx 64 ql v m2 q (by omega) wr hP (y1, y2) _ hdr)
                unfold Mq.mV at HTk
                have HP := hid hP
                have HB := hid hB
                have HF := hid hF
                have HW := hid hW
                have HQ := hid hql
                have HM2 := hid hm2
                dsimp only at hgc
                have HGC := hid hgc
                have HRV := hid hrv
                have HGT := hid (show ∃ cur, wr.heap[g]? = some (.cells cur 9 (0, 0)) from ownsRow_ty (hW.own q hq3) (by rw [hrv]; rfl))
                have hn64 : n ≤ 64 := by omega
                clear hP hB hF hW hql hm2 hmq hdr hy hgc hrv hx2 hlen
                go_wp2_with fail
                refine HTk.out.mono ?_
                clear HTk
                rintro e w3 ⟨rfl, v3, hP3, hG3, hM3⟩
                have HP3 := hid hP3
                have HF3 := hid (its_turn HF.out HB.out.size hM3)
                have HB3 := hid (bel_turn HB.out HF.out hG3)
                have hW3 := HW.out.turn HP.out hG3
                have hc3 := hW3.cell q hq3
                rw [HRV.out, show (txs m q).length = (m q).length by unfold txs; simp] at hc3
                obtain ⟨gcur, hgt⟩ := HGT.out
                have hg3 := (Mq.World.cell?_of_block (ty_kept HP.out hG3 hgt (by decide) (by decide)) n).trans HGC.out
                have HW3 := hid hW3
                obtain ⟨W4, hW4⟩ : ∃ W4, W4 = w3.alloc (.cells #[.int .i64 y1, .string y2] 55) := ⟨_, rfl⟩
                have hb4 : Below w3.heap.size w3 W4 := by rw [hW4]; exact below_alloc w3 _
                have k1 : W4.cell? ⟨w3.heap.size, 1, none⟩ = some (.string y2) := by rw [hW4]; simp
                have hc4 := (hb4.cell (World.block_lt_of_cell? w3 _ hc3)).trans hc3
                have hg4 := (hb4.cell (World.block_lt_of_cell? w3 _ hg3)).trans hg3
                have HS4 := hid (And.intro (HP3.out.below hb4) (And.intro (HB3.out.trans (hb4.mono HB3.out.size)) (HW3.out.below hb4)))
                have HW4 := hid hW4
                clear hP3 hG3 hM3 hW3 hc3 hg3 hgt hW4 hb4 hcw HP HB HF HW HGT HGC HRV HP3 HB3 HW3
                go_wp2_with fail
                rw [← HW4.out]
                go_region_held3 (fun w' => w'.cell? ⟨w3.heap.size, 1, none⟩ = some (.string y2) ∧ w'.cell? ⟨b, q, none⟩ = some (.slice (some ⟨g, 0, none⟩) (m q).length rk) ∧ w'.cell? ⟨g, n, none⟩ = some (.string y2))
                  (first | (refine ⟨?_, ?_, ?_⟩ <;> first | assumption | go_keep))
                  (fail)
                go_wp2
                go_roundw
                case rel =>
                  refine ⟨n + 1, by omega, by go_num, _, ?_, bx, ql, v3, r, HQ.out, HS4.out.1.below (Below.drew (Below.refl _ _)), Below.drew HS4.out.2.1, HF3.out, HS4.out.2.2.below (Below.drew (Below.refl _ _))⟩
                  intro j hj
                  by_cases e : j = q
                  · subst e
                    simp
                  · simp only [e, if_false]
                    rw [HM2.out j hj]
                    simp [e]
                case measure => simp [intOf]; omega
              · have hne : n = (m q).length := by omega
                have hnI : ¬ (n : Int) < (m q).length := by omega
                have hnil : m2 q = [] := by rw [hmq, hne]; simp
                have HTk := hid (take_none p bx 64 ql v m2 q (by omega) wr hP hnil)
                unfold Mq.mV Mq.z0 at HTk
                have HP := hid hP
                have HB := hid hB
                have HF := hid hF
                have HW := hid hW
                have HQ := hid hql
                have HM2 := hid hm2
                have HNE := hid hne
                clear hP hB hF hW hql hm2 hmq hne hrv hlen hml
                go_wp2_with fail
                refine HTk.out.mono ?_
                clear HTk
                rintro e w3 ⟨rfl, v3, hP3, hG3, hM3⟩
                have ha := below_alloc w3 (.cells #[.int .i64 0, .string ByteArray.empty] 55)
                have hB3 := bel_turn HB.out HF.out hG3
                have HS4 := hid (And.intro (hP3.below ha) (And.intro (hB3.trans (ha.mono hB3.size)) ((HW.out.turn HP.out hG3).below ha)))
                have HF3 := hid (its_turn HF.out HB.out.size hM3)
                clear hP3 hG3 hM3 ha hB3 hcw HP HB HF HW
                go_wp2
                go_roundw
                case rel =>
                  refine ⟨q + 1, by omega, by go_num, m2, ?_, bx, ql, v3, r, HQ.out, HS4.out.1, HS4.out.2.1, HF3.out, HS4.out.2.2⟩
                  intro j hj
                  rw [HM2.out j hj]
                  by_cases e : j = q
                  · subst e
                    rw [if_neg (by omega), if_pos rfl, if_pos (by omega), HNE.out]
                    simp
                  · by_cases e2 : j < q
                    · rw [if_pos e2, if_pos (by omega)]
                    · rw [if_neg e2, if_neg e, if_neg (by omega)]
                case measure => simp [intOf]; omega
          · have hqe : q = 3 := by omega
            subst hqe
            obtain ⟨bx, ql, v, r, hql, hP, hB, hF, hW⟩ := HO1.out
            have HB := hid hB
            clear hql hP hB hF hW
            go_wp2_with fail
            refine (awake_any _).mono ?_
            rintro e w9 ⟨rfl, hB9⟩
            have HB9 := hid (HB.out.trans (hB9.mono HB.out.size))
            clear hB9
            go_wp2
            go_ret
            exact ⟨rfl, HB9.out⟩
end Go.Proofs.Ytahibklmcooanaa
