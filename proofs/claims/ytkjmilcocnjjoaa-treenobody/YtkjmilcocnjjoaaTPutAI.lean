/-
  put: a key that is there; a leaf.
-/
import Derived.Test.YtkjmilcocnjjoaaTLeafI
namespace Go.Proofs.Ytkjmilcocnjjoaa.I
open Go.RowKit Tm
set_option linter.unusedVariables false

theorem one_leaf (k : ByteArray) (v : Int) : ∀ u ∈ [Value.string k, encI v], u.oneCell' = true := by
  intro u hu
  simp only [List.mem_cons, List.mem_nil_iff, or_false] at hu
  rcases hu with rfl | rfl
  · rfl
  · exact encI_one v

/-- A leaf's row is turned. -/
theorem leaf_turn {w w' : World} {p : Nat} {vi vi' : Value} {is is' : List It} (h : At w 0 (lf p vi is)) (h1 : ∀ b, cnt b 0 (lf p vi is) ≤ 1) (hg : Gr (fun b => 0 < cnt b 0 (lf p vi is)) w w')
    (hb : w'.heap[p]? = some (.cells #[vi', .slice none 0 0] 69 (0, 0))) (hr : RowI w' vi' is') (hv : vi'.ownBlock = vi.ownBlock ∨ ∃ g, vi'.ownBlock = some g ∧ w.heap.size ≤ g) :
    Turn w w' 0 0 (lf p vi is) (lf p vi' is') := by
  have hp := heap_lt h.1
  refine ⟨hg, fun b => ?_, fun b hb => ?_, at_lf.2 ⟨hb, hr⟩⟩
  · have := h1 b
    rw [cnt_lf] at this ⊢
    rcases hv with hv | ⟨g, hv, hgs⟩
    · rw [rc_eq hv]; exact this
    · have e1 := eqN_one p b
      have e2 := rc_one vi' b
      by_cases hpb : p = b
      · have : rc vi' b = 0 := by unfold rc; rw [hv, if_neg (by intro e; cases e; change p < _ at hp; omega)]
        omega
      · have : eqN p b = 0 := by unfold eqN; rw [if_neg hpb]
        omega
  · rw [cnt_lf, cnt_lf]
    rcases hv with hv | ⟨g, hv, hgs⟩
    · rw [rc_eq hv]; exact Nat.le_refl _
    · have : rc vi' b = 0 := by unfold rc; rw [hv, if_neg (by intro e; cases e; omega)]
      omega

def setI : (d : Nat) → LT d → List It → LT d
  | 0, t, l => (Prod.fst t, l)
  | _ + 1, t, l => (Prod.fst t, l, (Prod.snd t).2)
theorem setI_cnt (b d : Nat) (t : LT d) (l : List It) : cnt b d (setI d t l) = cnt b d t := by cases d <;> rfl
theorem setI_p (d : Nat) (t : LT d) (l : List It) : pT d (setI d t l) = pT d t := by cases d <;> rfl
theorem cnt_p (d : Nat) (t : LT d) : 0 < cnt (pT d t) d t := by
  cases d with
  | zero => have := eqN_self (pT 0 t); change 0 < eqN (pT 0 t) (pT 0 t) + _; omega
  | succ d => have := eqN_self (pT (d + 1) t); change 0 < eqN (pT (d + 1) t) (pT (d + 1) t) + _ + _ + _; omega

/-- One value of a node's row is set. -/
theorem val_turn {w : World} {d : Nat} {t : LT d} (h : At w d t) (h1 : ∀ b, cnt b d t ≤ 1) {g n cap : Nat} (hv : viT d t = .slice (some ⟨g, 0, none⟩) n cap) (j : Nat) (hj : j < (isT d t).length) (v : Int) :
    Turn w (w.setCell ⟨g, j * 2 + 1, none⟩ (encI v)) d d t (setI d t ((isT d t).take j ++ ((isT d t)[j].1, v) :: (isT d t).drop (j + 1))) := by
  have hr := at_row h
  rw [hv] at hr
  obtain ⟨r1, r2⟩ := row_set hr j hj v
  have hrg : rc (viT d t) g = 1 := by rw [hv, rc_at, if_pos rfl]
  have hrg2 : rc (.slice (some ⟨g, 0, none⟩) n cap) g = 1 := by rw [rc_at, if_pos rfl]
  refine ⟨Gr.of_grownBy r2 (fun b hb => ?_), fun b => by rw [setI_cnt]; exact h1 b, fun b _ => by rw [setI_cnt]; exact Nat.le_refl _, ?_⟩
  · cases hb
    cases d with
    | zero => change 0 < _ + rc (viT 0 t) g; omega
    | succ d => change 0 < _ + rc (viT (d + 1) t) g + _ + _; omega
  · cases d with
    | zero =>
      obtain ⟨p, vi, is, rfl⟩ := at_leaf h
      obtain ⟨a1, a2⟩ := at_lf.1 h
      change vi = _ at hv
      subst hv
      have := h1 g
      rw [cnt_lf] at this
      refine at_lf.2 ⟨?_, r1⟩
      rw [r2.block p (heap_lt a1) (fun e => by cases e; have := eqN_self g; omega)]
      exact a1
    | succ d =>
      obtain ⟨p, vi, vk, is, ks, rfl⟩ := at_node t
      obtain ⟨a1, a2, a3, a4⟩ := at_nd.1 h
      change vi = _ at hv
      subst hv
      have hx := h1 g
      rw [cnt_nd] at hx
      have hG : Gr (fun b => b = g) w (w.setCell ⟨g, j * 2 + 1, none⟩ (encI v)) := Gr.of_grownBy r2 (fun b hb => by cases hb; rfl)
      refine at_nd.2 ⟨node_gr a1 hG (fun e => by subst e; have := eqN_self p; omega), r1, ownsRow_gr a3 hG (fun b hb e => by subst e; have := rc_pos.2 hb; omega), fun k hk => at_gr hG (a4 k hk) (fun b hb e => by subst e; have := sum_mem (cnt b d) ks k hk; omega)⟩

set_option maxHeartbeats 4000000 in
set_option maxRecDepth 100000 in
theorem put_leaf (o : Nat) (ho : 2 ≤ o) (ho2 : o ≤ 64) (k : ByteArray) (v : Int) (p : Nat) (vi : Value) (is : List It) (w : World) (h : At w 0 (lf p vi is)) (h1 : ∀ b, cnt b 0 (lf p vi is) ≤ 1) (hlen : is.length ≤ 2 * o - 1) (hs : srt keyLt is) :
    Calls Try.prog 34 #[ptr p, .string k, encI v, .int .i64 o] w fun e w' =>
      ∃ t', e = .returned (.bool (!hasL keyLt k is)) ∧ Turn w w' 0 0 (lf p vi is) t' ∧ pT 0 t' = p ∧ er 0 t' = leafT (putL keyLt k v is) := by
  obtain ⟨a1, a2⟩ := at_lf.1 h
  have hf := find_any p vi is k w (node_cell0 a1) a2.sees hs (by omega)
  have hat := at_le (lt := keyLt) k is
  have HH : Hid (At w 0 (lf p vi is)) := h
  have H1 : Hid (∀ b, cnt b 0 (lf p vi is) ≤ 1) := h1
  have hpc : 0 < cnt p 0 (lf p vi is) := by rw [cnt_lf]; have := eqN_self p; omega
  clear h h1
  cases hh : hasL keyLt k is with
  | true =>
    obtain ⟨hlt, hltx⟩ := (has_iff k is).1 hh
    have hkey := key_old totB k is hh hlt
    obtain ⟨g, cap, rfl, hcap, hgl, hfro, hcell⟩ := row_form a2 (by omega)
    rw [hh] at hf
    have HK : Hid (putL keyLt k v is = is.take (atL keyLt k is) ++ (k, v) :: is.drop (atL keyLt k is + 1)) := hid (put_old totB k v is hh)
    have HY : Hid ((is[atL keyLt k is]).1 = k) := hid hkey
    have HL : Hid (atL keyLt k is < is.length) := hid hlt
    have hlt2 : atL keyLt k is < is.length := hlt
    have hc2 := (hcell (atL keyLt k is) hlt2).2
    clear hkey hltx hh
    generalize atL keyLt k is = at' at *
    clear hcell
    simp only [encI] at *
    unfold ptr at *
    have HA1 := hid a1
    have HA2 := hid a2
    have HPC := hid hpc
    have hg63 : cap ≤ 9223372036854775807 := by
      obtain ⟨_, c, e, _, hm⟩ := ownsRow_shape a2
      cases e; simp only [maxLen] at hm; omega
    clear a2 hpc
    go_enter Try.func34, Try.ntmps34
    go_wp2_with fail
    refine hf.mono ?_
    rintro e w' ⟨rfl, hw'⟩
    have c0 : w'.cell? ⟨p, 0, none⟩ = some (.slice (some ⟨g, 0, none⟩) is.length cap) := (hw'.cell (heap_lt a1)).trans (node_cell0 a1)
    have c1 := (hw'.cell (p := ⟨g, at' * 2 + 1, none⟩) hgl).trans hc2
    have c2 : w'.frozen? ⟨g, at' * 2 + 1, none⟩ = false := (hw'.frozen (p := ⟨g, at' * 2 + 1, none⟩) hgl).trans (hfro _)
    have HW := hid hw'
    have HF := hid hfro
    clear hc2 hfro hf a1 hw'
    go_wp2
    go_ret
    have t1 := Turn.below HH.out H1.out HW.out
    refine ⟨_, rfl, t1.trans (val_turn t1.lies t1.one (g := g) (n := is.length) (cap := cap) rfl at' HL.out v), rfl, ?_⟩
    change leafT (is.take at' ++ ((is[at']).1, v) :: is.drop (at' + 1)) = _
    rw [HK.out, HY.out]
  | false =>
    rw [hh] at hf
    have HK : Hid (putL keyLt k v is = is.take (atL keyLt k is) ++ (k, v) :: is.drop (atL keyLt k is)) := hid (put_new k v is hh)
    clear hh
    have HAT := hid hat
    generalize atL keyLt k is = at' at *
    have HA1 := hid a1
    have HA2 := hid a2
    obtain ⟨ao, cap, hvi, hcap, hmx⟩ := ownsRow_shape a2
    have HVI := hid hvi
    have hins := fun (w2 : World) (hr : RowI w2 vi is) (vb : Nat) (hvb : w2.heap[vb]? = some (.cells #[.string k, encI v] 47 (0, 0))) (hne : vi.ownBlock ≠ some vb) =>
      I.ins_any vi is.length at' vb (itC encI is) [.string k, encI v] w2 hr hat (by omega) hvb rfl (itC_one encI encI_one is) (one_leaf k v) hne
    have HI := hid hins
    clear a2 hcap hmx hins
    subst hvi
    simp only [encI] at hf ⊢
    unfold ptr at *
    go_enter Try.func34, Try.ntmps34
    go_wp2_with fail
    refine hf.mono ?_
    rintro e w1 ⟨rfl, hw1⟩
    have c0 : w1.cell? ⟨p, 0, none⟩ = some (.slice ao is.length cap) := (hw1.cell (heap_lt a1)).trans (node_cell0 a1)
    have c1 : w1.cell? ⟨p, 1, none⟩ = some (.slice none 0 0) := (hw1.cell (heap_lt a1)).trans (node_cell1 a1)
    have c2 : w1.frozen? ⟨p, 0, none⟩ = false := (hw1.frozen (heap_lt a1)).trans (node_fro a1)
    have HW := hid hw1
    clear hf a1 hw1
    go_wp2_with fail
    refine (leaf_yes p 0 w1 c1).mono ?_
    rintro e w1 ⟨rfl, rfl⟩
    go_wp2_with fail
    have t1 := Turn.below HH.out H1.out (HW.out.trans ((Below.refl _ w1).alloc (by have := HW.out.size; omega) (.cells #[.string k, encI v] 47)))
    obtain ⟨w2, hw2⟩ : ∃ w2, w2 = w1.alloc (.cells #[.string k, encI v] 47) := ⟨_, rfl⟩
    have hvb : w2.heap[w1.heap.size]? = some (.cells #[.string k, encI v] 47 (0, 0)) := by rw [hw2]; exact heap_alloc_new w1 _
    rw [← hw2] at t1
    simp only [encI] at hw2
    rw [← hw2]
    obtain ⟨b1, b2⟩ := at_lf.1 t1.lies
    have hnb : (Value.slice ao is.length cap).ownBlock ≠ some w1.heap.size := fun e => by
      have := ownsRow_blk HA2.out e
      have := HW.out.size
      omega
    refine (HI.out w2 b2 w1.heap.size hvb hnb).mono ?_
    rintro e w3 ⟨v', rfl, r1, r2, r3⟩
    have hpn : some p ≠ (Value.slice ao is.length cap).ownBlock := fun e => by
      have := H1.out p
      rw [cnt_lf] at this
      have e1 := eqN_self p
      have e2 := rc_pos.2 e.symm
      omega
    have d1 : w3.heap[p]? = some (.cells #[.slice ao is.length cap, .slice none 0 0] 69 (0, 0)) := by rw [r2.block p (heap_lt b1) hpn]; exact b1
    have c3 := node_cell0 d1
    have c4 := node_fro (j := 0) d1
    obtain ⟨ao', cap', hv', _, _⟩ := ownsRow_shape r1
    have HT1 := hid t1
    have HR1 := hid r1
    have HR2 := hid r2
    have HR3 := hid r3
    have HD1 := hid d1
    have HV' := hid hv'
    have HW2 : Hid (w2 = w1.alloc (.cells #[.string k, encI v] 47)) := hid (by simp only [encI]; exact hw2)
    subst hv'
    clear t1 r1 r2 r3 d1 hvb hnb b1 b2 hpn hpc hw2
    go_wp2
    go_ret
    have hsz : w.heap.size ≤ w2.heap.size := HT1.out.gr.size
    have hrow : RowI w3 (.slice ao' (is.length + 1) cap') (is.take at' ++ (k, v) :: is.drop at') := row_of HR1.out (by simp; have := HAT.out; omega) (by rw [itC_app, itC_take, itC_drop]; simp [itC])
    have hpn2 : ∀ b, (Value.slice ao' (is.length + 1) cap').ownBlock = some b → b ≠ p := fun b hb e => by
      subst e
      rcases HR3.out with h3 | h3
      · rw [hb] at h3
        have := H1.out b
        rw [cnt_lf] at this
        have e1 := eqN_self b
        have e2 := rc_pos.2 h3.symm
        omega
      · rw [hb] at h3
        cases h3
        have := heap_lt HD1.out
        have := heap_lt HA1.out
        omega
    refine ⟨lf p (.slice ao' (is.length + 1) cap') (is.take at' ++ (k, v) :: is.drop at'), rfl, HT1.out.trans (leaf_turn (vi' := .slice ao' (is.length + 1) cap') HT1.out.lies HT1.out.one ?_ (node_set0 _ HD1.out) (ownsRow_gr hrow (Gr.setCell (F := fun b => b = p) w3 rfl _) hpn2) ?_), rfl, by rw [er_lf, HK.out]⟩
    · refine (Gr.of_grownBy HR2.out (fun b hb => ?_)).trans (Gr.setCell (F := fun b => b = p) w3 rfl _) (fun x hx hp => ?_)
      · rw [cnt_lf]; have := rc_pos.2 hb; omega
      · rw [hp, cnt_lf]; have := eqN_self p; omega
    · rcases HR3.out with h3 | h3
      · exact .inl h3
      · exact .inr ⟨_, h3, Nat.le_refl _⟩

end Go.Proofs.Ytkjmilcocnjjoaa.I
