/-
  Whether lists of texts, and rows, are the same: the document's.
-/
import Derived.Test.YtkbceaofijngoaaWLeaf
namespace Go.Proofs.Ytkbceaofijngoaa
open Go.RowKit
set_option linter.unusedVariables false

theorem toList_inj {a b : ByteArray} (h : a.toList = b.toList) : a = b := by
  rw [Go.ByteArray.toList_eq, Go.ByteArray.toList_eq] at h
  cases a with
  | mk x => cases b with
    | mk y => exact congrArg ByteArray.mk (Array.toList_inj.1 h)
theorem beq_str (a b : ByteArray) : (a.toList == b.toList) = decide (a = b) := by
  by_cases h : a = b
  · rw [decide_eq_true h, h, beq_iff_eq]
  · rw [decide_eq_false h, beq_eq_false_iff_ne]
    exact fun e => h (toList_inj e)
theorem beq_int (a b : Int) : (a == b) = decide (a = b) := by
  by_cases h : a = b
  · rw [decide_eq_true h, beq_iff_eq]; exact h
  · rw [decide_eq_false h, beq_eq_false_iff_ne]; exact h
theorem take_eq_succT {l1 l2 : List ByteArray} {k : Nat} (h1 : k < l1.length) (h2 : k < l2.length) (h : l1.take k = l2.take k) (e : l1[k] = l2[k]) : l1.take (k + 1) = l2.take (k + 1) := by
  rw [List.take_succ_eq_append_getElem h1, List.take_succ_eq_append_getElem h2, h, e]

set_option maxRecDepth 20000 in
set_option maxHeartbeats 1000000 in
theorem texts_any (v1 v2 : Value) (l1 l2 : List ByteArray) (w : World) (h1 : SeesT w v1 l1) (h2 : SeesT w v2 l2) (hb1 : l1.length ≤ 140737488355328) (hb2 : l2.length ≤ 140737488355328) :
    Calls Try.prog 46 #[v1, v2] w fun e w' => e = .returned (.bool (decide (l1 = l2))) ∧ Below w.heap.size w w' := by
  obtain ⟨b1, o1, a1, c1, rfl, g1, _, ha1, hc1⟩ := h1
  obtain ⟨b2, o2, a2, c2, rfl, g2, _, ha2, hc2⟩ := h2
  have HC1 := hid hc1
  have HC2 := hid hc2
  clear hc1 hc2
  obtain ⟨T, hT⟩ : ∃ T, T = decide (l1 = l2) := ⟨_, rfl⟩
  rw [← hT]
  have HT := hid hT
  clear hT
  by_cases hlen : l1.length = l2.length
  · have HL := hid hlen
    have hl' : ((l1.length : Int) != (l2.length : Int)) = false := by simp [hlen]
    clear hlen
    go_enter Try.func46, Try.ntmps46
    go_wp2_with fail
    go_loopw [5] (fun i wr => ∃ (k : Nat), k ≤ l1.length ∧ i = .int .i64 (k : Int) ∧ l1.take k = l2.take k ∧ ∃ n, wr = w.drewN n) (fun i _ => l1.length - (intOf i).toNat)
    case atStart => exact ⟨0, Nat.zero_le _, rfl, by simp, 0, rfl⟩
    case round =>
      obtain ⟨k, hk, rfl, hsame, n, rfl⟩ := hrel
      have HS := hid hsame
      clear hsame
      have hlen := HL.out
      by_cases hlt : k < l1.length
      · have hlt' : (k : Int) < (l1.length : Int) := by omega
        have hlt2 : k < l2.length := by omega
        have hlt2' : (k : Int) < (l2.length : Int) := by omega
        obtain rfl := ha1 (by intro h; rw [h] at hlt; simp at hlt)
        obtain rfl := ha2 (by intro h; rw [h] at hlt2; simp at hlt2)
        clear hlen
        have d1 := HC1.out k hlt
        have d2 := HC2.out k hlt2
        have HE := hid (fun e => take_eq_succT hlt hlt2 HS.out e)
        have HNE : Hid (l1[k] ≠ l2[k] → T = false) := by
          unfold Hid
          intro hne
          rw [HT.out, decide_eq_false_iff_not]
          intro e
          apply hne
          subst e
          rfl
        obtain ⟨p, hp⟩ : ∃ p, p = l1[k] := ⟨_, rfl⟩
        obtain ⟨q, hq⟩ : ∃ q, q = l2[k] := ⟨_, rfl⟩
        rw [← hp] at d1 HE HNE
        rw [← hq] at d2 HE HNE
        clear hp hq
        by_cases hpq : p = q
        · have hn : (p.toList == q.toList) = true := by rw [beq_str, decide_eq_true hpq]
          have HN := hid (HE.out hpq)
          clear HE HNE hpq
          go_wp2_with fail
          go_quiet (fail)
          go_wp2
          go_roundw
          case rel => exact ⟨k + 1, by omega, by go_num, HN.out, _, rfl⟩
          case measure => simp [intOf]; omega
        · have hn : (p.toList == q.toList) = false := by rw [beq_str, decide_eq_false hpq]
          have HN := hid (HNE.out hpq)
          clear HE HNE hpq
          go_wp2_with fail
          go_quiet (fail)
          go_wp2
          go_ret
          exact ⟨ret_bool HN.out.symm, below_drewN (below_drewN (Below.refl _ _) _) _⟩
      · have hlt' : ¬ (k : Int) < (l1.length : Int) := by omega
        have HN : Hid (T = true) := by
          unfold Hid
          have h := HS.out
          rw [List.take_of_length_le (by omega), List.take_of_length_le (by omega)] at h
          rw [HT.out, decide_eq_true h]
        clear hlen HS
        go_wp2
        go_ret
        exact ⟨ret_bool HN.out.symm, below_drewN (Below.refl _ _) _⟩
  · have hl' : ((l1.length : Int) != (l2.length : Int)) = true := by
      rw [bne_iff_ne]; omega
    have HN : Hid (T = false) := by
      unfold Hid
      rw [HT.out, decide_eq_false_iff_not]
      intro e
      exact hlen (by rw [e])
    clear hlen
    go_enter Try.func46, Try.ntmps46
    go_wp2
    go_ret
    exact ⟨ret_bool HN.out.symm, Below.refl _ _⟩

/-- Whether two rows are the same. -/
def sameRow (a b : RowV) : Bool := decide (a.key = b.key) && (decide (a.cells = b.cells) && (alikeB a.s a.i b.s b.i && decide (a.who = b.who)))
theorem sameRow_iff {a b : RowV} : sameRow a b = true ↔ a = b := by
  constructor
  · intro h
    simp only [sameRow, alikeB, Bool.and_eq_true, decide_eq_true_eq] at h
    exact RowV.ext' h.1 h.2.1 h.2.2.1.1 h.2.2.1.2 h.2.2.2
  · rintro rfl
    simp [sameRow, alikeB]

set_option maxRecDepth 20000 in
set_option maxHeartbeats 2000000 in
theorem same_row (v1 v2 : Value) (r1 r2 : RowV) (vc vs vi uc us ui : Value) (w : World) (h1 : SeesR w v1 r1 vc vs vi) (h2 : SeesR w v2 r2 uc us ui) :
    Calls Try.prog 16 #[v1, v2] w fun e w' => e = .returned (.bool (sameRow r1 r2)) ∧ Below w.heap.size w w' := by
  obtain ⟨W, hW⟩ : ∃ W, W = (w.alloc (.cells #[.string r1.key, vc, vs, vi, .int .i64 r1.who] 27)).alloc (.cells #[.string r2.key, uc, us, ui, .int .i64 r2.who] 27) := ⟨_, rfl⟩
  have hB : Below w.heap.size w W := by rw [hW]; exact (below_alloc w _).alloc (by simp) _
  have hA1 : RowAt W w.heap.size (.string r1.key) vc vs vi (.int .i64 r1.who) := by rw [hW]; exact (RowAt.new _ _ _ _ _ _).box _
  have hA2 : RowAt W (w.heap.size + 1) (.string r2.key) uc us ui (.int .i64 r2.who) := by rw [hW]; exact RowAt.new2 _ _ _ _ _ _ _
  have hsz := hA2.lt
  have s1 := h1.below hB
  have s2 := h2.below hB
  have hT := texts_any vc uc r1.cells r2.cells W s1.cells s2.cells h1.clen h2.clen
  have HL := hid (fun w1 (hb : Below W.heap.size W w1) => alike_any (.agg #[vs, vi]) (.agg #[us, ui]) r1.s r1.i r2.s r2.i w1 (s1.lab.below hb) (s2.lab.below hb))
  have HA1 := hid hA1
  have HA2 := hid hA2
  have HB := hid hB
  obtain ⟨c0, c1, c2, c3, c4, _⟩ := hA1.cells
  obtain ⟨d0, d1, d2, d3, d4, _⟩ := hA2.cells
  have hk := beq_str r1.key r2.key
  have hw := beq_int r1.who r2.who
  have HE : Hid (sameRow r1 r2 = (decide (r1.key = r2.key) && (decide (r1.cells = r2.cells) && (alikeB r1.s r1.i r2.s r2.i && decide (r1.who = r2.who))))) := rfl
  obtain rfl := h1.val
  obtain rfl := h2.val
  unfold rowVal at *
  clear hA1 hA2 hB s1 s2 h1 h2
  generalize decide (r1.key = r2.key) = b1 at *
  generalize decide (r1.cells = r2.cells) = b2 at *
  generalize alikeB r1.s r1.i r2.s r2.i = b3 at *
  generalize decide (r1.who = r2.who) = b4 at *
  generalize sameRow r1 r2 = b0 at *
  generalize r1.key = k1 at *
  generalize r2.key = k2 at *
  generalize r1.who = x1 at *
  generalize r2.who = x2 at *
  cases b1
  · go_enter Try.func16, Try.ntmps16
    go_wp2_with fail
    rw [← hW]
    go_ret
    exact ⟨ret_bool (by rw [HE.out]; rfl), HB.out⟩
  · go_enter Try.func16, Try.ntmps16
    go_wp2_with fail
    rw [← hW]
    refine hT.mono ?_
    clear hT hW
    rintro e w1 ⟨rfl, k1⟩
    have HF := hid (HB.out.trans (k1.mono (by omega)))
    obtain ⟨e0, e1, e2, e3, e4, _⟩ := (HA1.out.below k1 (by omega)).cells
    obtain ⟨f0, f1, f2, f3, f4, _⟩ := (HA2.out.below k1 (by omega)).cells
    have hL := HL.out w1 k1
    have hs1 := k1.size
    have HK1 := hid k1
    clear c0 c1 c2 c3 c4 d0 d1 d2 d3 d4 HL k1
    cases b2
    · go_wp2
      go_ret
      exact ⟨ret_bool (by rw [HE.out]; rfl), HF.out⟩
    · go_wp2_with fail
      refine hL.mono ?_
      clear hL
      rintro e w2 ⟨rfl, k2⟩
      have HF2 := hid (HF.out.trans (k2.mono (by omega)))
      obtain ⟨g0, g1, g2, g3, g4, _⟩ := (HA1.out.below (HK1.out.trans (k2.mono hs1)) (by omega)).cells
      obtain ⟨i0, i1, i2, i3, i4, _⟩ := (HA2.out.below (HK1.out.trans (k2.mono hs1)) (by omega)).cells
      clear e0 e1 e2 e3 e4 f0 f1 f2 f3 f4 k2
      cases b3
      · go_wp2
        go_ret
        exact ⟨ret_bool (by rw [HE.out]; rfl), HF2.out⟩
      · go_wp2
        go_ret
        exact ⟨ret_bool (by rw [HE.out]; simp), HF2.out⟩

end Go.Proofs.Ytkbceaofijngoaa
