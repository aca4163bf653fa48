/-
  Next of the code.
-/
import Derived.Test.YtllhibdjopfcnaaGreatDoorZPParser
namespace Go.Proofs.YtllhibdjopfcnaaGreatDoor
open Go.RowKit
set_option linter.unusedVariables false

/-- What Next answers and leaves: the request, whether there is one, the status; the bytes, the status. -/
def nxtT (W : List UInt8) (st : Int) : ReqL × Bool × Int × List UInt8 × Int :=
  if st ≠ 0 then (rz, false, st, W, st) else match firstL W with
    | (.error none) => (rz, false, 0, W, 0)
    | (.error (some t)) => (rz, false, t, [], t)
    | (.ok (q, n)) => (q, true, 0, W.drop n, 0)
theorem nxt_bad {W : List UInt8} {st : Int} (h : st ≠ 0) : nxtT W st = (rz, false, st, W, st) := if_pos h
theorem nxt_more {W : List UInt8} (h : firstL W = (.error none)) : nxtT W 0 = (rz, false, 0, W, 0) := by rw [nxtT, if_neg (by simp), h]
theorem nxt_wrong {W : List UInt8} {t : Int} (h : firstL W = (.error (some t))) : nxtT W 0 = (rz, false, t, [], t) := by rw [nxtT, if_neg (by simp), h]
theorem nxt_got {W : List UInt8} {q : ReqL} {n : Nat} (h : firstL W = (.ok (q, n))) : nxtT W 0 = (q, true, 0, W.drop n, 0) := by rw [nxtT, if_neg (by simp), h]
theorem ReqAt.k8 {w : World} {p : Nat} {a b c d e f g h : Value} (x : ReqAt w p a b c d e f g h) (B : Nat) (a' b' c' d' e' f' g' h' : Value) : Kept p B w (Go.Proofs.YtllhibdjopfcnaaGreatDoor.set8 w p a' b' c' d' e' f' g' h') := Kept.set8 p B w a' b' c' d' e' f' g' h'
theorem PsAt.k1 {w : World} {p : Nat} {W : List UInt8} {st : Int} (x : PsAt w p W st) (B : Nat) (v : Value) : Kept p B w (w.setCell ⟨p, 1, none⟩ v) := Kept.store _ _ _
theorem OwnsR.kept {w w' : World} {base p : Nat} {v : Value} {q : ReqL} (h : OwnsR w base v q) (hk : Kept p w.heap.size w w') (hp : p < base) : OwnsR w' base v q := by
  obtain ⟨vf, vq, hv, h1, h2⟩ := h
  exact ⟨vf, vq, hv, OwnsP.kept h1 hk hp, OwnsP.kept h2 hk hp⟩
theorem OwnsR.below {w w' : World} {base : Nat} {v : Value} {q : ReqL} (h : OwnsR w base v q) (hb : Below w.heap.size w w') : OwnsR w' base v q := by
  obtain ⟨vf, vq, hv, h1, h2⟩ := h
  exact ⟨vf, vq, hv, OwnsP.below h1 hb, OwnsP.below h2 hb⟩

set_option maxRecDepth 20000 in
set_option maxHeartbeats 8000000 in
theorem next_any (p : Nat) (W : List UInt8) (st : Int) (w : World) (hM : ML w) (h : PsAt w p W st) (hW : W.length ≤ 65536) :
    Calls Tryz.prog 9 #[.pointer (some ⟨p, 0, none⟩)] w fun e w' => ∃ v, e = .returned (.tuple #[v, .bool (nxtT W st).2.1, .int .i64 (nxtT W st).2.2.1]) ∧ OwnsR w' w.heap.size v (nxtT W st).1 ∧ PsAt w' p (nxtT W st).2.2.2.1 (nxtT W st).2.2.2.2 ∧ Kept p w.heap.size w w' := by
  have hR0 := ReqAt.new w (.string ⟨#[]⟩) (.string ⟨#[]⟩) (.int .i64 0) (.slice none 0 0) (.string ⟨#[]⟩) (.slice none 0 0) (.string ⟨#[]⟩) (.bool false)
  have hB0 := below_alloc w (.cells #[.string ⟨#[]⟩, .string ⟨#[]⟩, .int .i64 0, .slice none 0 0, .string ⟨#[]⟩, .slice none 0 0, .string ⟨#[]⟩, .bool false] 36)
  have hpl := h.lt
  have hP1 := h.below hB0 hpl
  have hM1 := hM.below hB0 hM.lt
  obtain ⟨w1, hw1⟩ : ∃ w1, w1 = w.alloc (.cells #[.string ⟨#[]⟩, .string ⟨#[]⟩, .int .i64 0, .slice none 0 0, .string ⟨#[]⟩, .slice none 0 0, .string ⟨#[]⟩, .bool false] 36) := ⟨_, rfl⟩
  have hsz1 : w1.heap.size = w.heap.size + 1 := by rw [hw1]; simp
  rw [← hw1] at hR0 hB0 hP1 hM1
  have hG := given_any p W st w1 hP1
  have HW1 := hid hw1
  have HB1 := hid hB0
  have HR1 := hid hR0
  have HP1 := hid hP1
  obtain ⟨s, hs⟩ : ∃ s : ByteArray, s = ⟨W.toArray⟩ := ⟨_, rfl⟩
  have hsz : s.size = W.length := by rw [hs, size_list]
  have HS := hid hs
  have HSZ := hid hsz
  have hpq : p ≠ w.heap.size := by omega
  have hF := first_any W w1 hM1 hW
  rw [← hs] at hF
  clear hw1 hB0 hR0 h hs hsz
  obtain ⟨y0, y1, y2, y3, y4, y5, y6, y7⟩ := HR1.out.cells
  have x0 := HR1.out.warm 0
  have x1 := HR1.out.warm 1
  have x2 := HR1.out.warm 2
  have x3 := HR1.out.warm 3
  have x4 := HR1.out.warm 4
  have x5 := HR1.out.warm 5
  have x6 := HR1.out.warm 6
  have x7 := HR1.out.warm 7
  obtain ⟨c0, c1, c2, g0, g1, g2⟩ := HP1.out.cells
  rw [← HS.out] at c1
  clear hP1 hM1 hM
  by_cases h0 : st = 0
  · subst h0
    go_enter Tryz.func9, Tryz.ntmps9
    go_wp2_with fail
    rw [← HW1.out]
    refine hG.mono ?_
    clear hG
    rintro e w1 ⟨rfl, hwx⟩
    subst hwx
    go_wp2_with fail
    refine hF.mono ?_
    clear hF
    rintro e w2 ⟨v, rfl, hO, hB2⟩
    obtain ⟨e1, he1, rfl, hp1⟩ := hO.elem
    have hsz2 := hB2.size
    have hR2 := HR1.out.below hB2 HR1.out.lt
    have HP2 := hid (HP1.out.below hB2 HP1.out.lt)
    have HB2 := hid (HB1.out.trans (hB2.mono (by omega)))
    have HE1 := hid he1
    have HO1 := hid hp1
    have HSZ2 := hid (show w1.heap.size ≤ w2.heap.size from hsz2)
    clear hO hp1 he1 hB2 HR1 HP1 HB1 HW1
    simp only [RqE.val, reqV, RqE.vf, RqE.vq]
    have hR3 := hR2.set8 (.string ⟨e1.q.head.1.toArray⟩) (.string ⟨e1.q.head.2.1.toArray⟩) (.int .i64 e1.q.head.2.2.1) (.slice e1.af e1.q.head.2.2.2.length e1.cf) (.string ⟨e1.q.path.toArray⟩) (.slice e1.aq e1.q.query.length e1.cq) (.string ⟨e1.q.body.toArray⟩) (.bool e1.q.close)
    have hK3 := Kept.set8 w.heap.size w2.heap.size w2 (.string ⟨e1.q.head.1.toArray⟩) (.string ⟨e1.q.head.2.1.toArray⟩) (.int .i64 e1.q.head.2.2.1) (.slice e1.af e1.q.head.2.2.2.length e1.cf) (.string ⟨e1.q.path.toArray⟩) (.slice e1.aq e1.q.query.length e1.cq) (.string ⟨e1.q.body.toArray⟩) (.bool e1.q.close)
    have HP3 := hid (HP2.out.same (hK3.block p HP2.out.lt hpq))
    have HB3 := hid (HB2.out.trans (hK3.below (Nat.le_of_lt hR2.lt)))
    have HF3 := hid (OwnsP.kept HO1.out.1 hK3 (by omega))
    have HQ3 := hid (OwnsP.kept HO1.out.2 hK3 (by omega))
    have hsz3 := hK3.size
    obtain ⟨w3, hw3⟩ : ∃ w3, w3 = set8 w2 w.heap.size (.string ⟨e1.q.head.1.toArray⟩) (.string ⟨e1.q.head.2.1.toArray⟩) (.int .i64 e1.q.head.2.2.1) (.slice e1.af e1.q.head.2.2.2.length e1.cf) (.string ⟨e1.q.path.toArray⟩) (.slice e1.aq e1.q.query.length e1.cq) (.string ⟨e1.q.body.toArray⟩) (.bool e1.q.close) := ⟨_, rfl⟩
    rw [← hw3] at hR3 HP3 HB3 HF3 HQ3 hsz3
    unfold set8 at hw3
    have HW3 := hid hw3
    clear y0 y1 y2 y3 y4 y5 y6 y7
    clear x0 x1 x2 x3 x4 x5 x6 x7
    obtain ⟨y0, y1, y2, y3, y4, y5, y6, y7⟩ := hR2.cells
    have x0 := hR2.warm 0
    have x1 := hR2.warm 1
    have x2 := hR2.warm 2
    have x3 := hR2.warm 3
    have x4 := hR2.warm 4
    have x5 := hR2.warm 5
    have x6 := hR2.warm 6
    have x7 := hR2.warm 7
    clear hK3 HO1 HP2 HB2 c0 c1 c2 g0 g1 g2 hw3
    iterate 18 (first | go_values | go_skip | go_guarded | go_step | go_upon | go_back | go_simp)
    rw [← HW3.out]
    obtain ⟨c0, c1, c2, g0, g1, g2⟩ := HP3.out.cells
    rw [← HS.out] at c1
    obtain ⟨T, hT⟩ : ∃ T, T = firstL W := ⟨_, rfl⟩
    rw [← hT] at HE1 ⊢
    have HR3 := hid hR3
    clear y0 y1 y2 y3 y4 y5 y6 y7 x0 x1 x2 x3 x4 x5 x6 x7
    obtain ⟨y0, y1, y2, y3, y4, y5, y6, y7⟩ := HR3.out.cells
    have x0 := HR3.out.warm 0
    have x1 := HR3.out.warm 1
    have x2 := HR3.out.warm 2
    have x3 := HR3.out.warm 3
    have x4 := HR3.out.warm 4
    have x5 := HR3.out.warm 5
    have x6 := HR3.out.warm 6
    have x7 := HR3.out.warm 7
    clear hR2 hR3 HW3
    match hTc : T with
    | .error (some t) =>
      have hT' : firstL W = (.error (some t)) := by first | rw [← hT, hTc] | rw [← hT]
      have ft : (t != 0) = true := by rw [bne_iff_ne]; exact stat4_ne (first_stat hT')
      have HN := hid (nxt_wrong hT')
      simp only [firT]
      have hP4 := (HP3.out.store1 ⟨#[]⟩ [] rfl).store2 t
      have hR4 := (HR3.out.same (((Kept.store (p := p) (B := w.heap.size + 1) _ 1 (.string ⟨#[]⟩)).trans (Kept.store _ 2 (.int .i64 t))).block w.heap.size (by omega) (by omega)))
      have hK4 := (Kept.of_below (p := p) HB3.out).trans ((Kept.store _ 1 (.string ⟨#[]⟩)).trans (Kept.store _ 2 (.int .i64 t)))
      have hR5 := hR4.set8 (.string ⟨#[]⟩) (.string ⟨#[]⟩) (.int .i64 0) (.slice none 0 0) (.string ⟨#[]⟩) (.slice none 0 0) (.string ⟨#[]⟩) (.bool false)
      have hK5 := hR4.k8 (w.heap.size + 1) (.string ⟨#[]⟩) (.string ⟨#[]⟩) (.int .i64 0) (.slice none 0 0) (.string ⟨#[]⟩) (.slice none 0 0) (.string ⟨#[]⟩) (.bool false)
      have HP5 := hid (hP4.same (hK5.block p (by omega) hpq))
      have HK5 := hid (hK4.trans (Kept.of_below (hK5.below (by omega))))
      unfold set8 at hR5 HP5 HK5
      obtain ⟨b0, b1, b2, b3, b4, b5, b6, b7⟩ := hR4.cells
      have bw0 := hR4.warm 0
      have bw1 := hR4.warm 1
      have bw2 := hR4.warm 2
      have bw3 := hR4.warm 3
      have bw4 := hR4.warm 4
      have bw5 := hR4.warm 5
      have bw6 := hR4.warm 6
      have bw7 := hR4.warm 7
      clear hTc hT' hT HF3 HQ3 HE1 hK4 hK5 hP4 hR4 HP3 HR3
      go_wp2
      (try simp only [Exit.inBlock, Exit.then])
      clear y0 y1 y2 y3 y4 y5 y6 y7
      clear x0 x1 x2 x3 x4 x5 x6 x7
      obtain ⟨y0, y1, y2, y3, y4, y5, y6, y7⟩ := hR5.cells
      have x0 := hR5.warm 0
      have x1 := hR5.warm 1
      have x2 := hR5.warm 2
      have x3 := hR5.warm 3
      have x4 := hR5.warm 4
      have x5 := hR5.warm 5
      have x6 := hR5.warm 6
      have x7 := hR5.warm 7
      refine bodyPost_ret (v := .tuple #[.agg #[.string ⟨#[]⟩, .string ⟨#[]⟩, .int .i64 0, .slice none 0 0, .string ⟨#[]⟩, .slice none 0 0, .string ⟨#[]⟩, .bool false], .bool false, .int .i64 t]) (by simp [results, Tryz.results9, go_sem, y0, y1, y2, y3, y4, y5, y6, y7]) rfl ?_
      rw [HN.out]
      exact ⟨_, rfl, OwnsR.zero _ _, HP5.out, HK5.out⟩
    | .error none =>
      have hT' : firstL W = (.error none) := by first | rw [← hT, hTc] | rw [← hT]
      have HN := hid (nxt_more hT')
      simp only [firT]
      have hR5 := HR3.out.set8 (.string ⟨#[]⟩) (.string ⟨#[]⟩) (.int .i64 0) (.slice none 0 0) (.string ⟨#[]⟩) (.slice none 0 0) (.string ⟨#[]⟩) (.bool false)
      have hK5 := HR3.out.k8 (w.heap.size + 1) (.string ⟨#[]⟩) (.string ⟨#[]⟩) (.int .i64 0) (.slice none 0 0) (.string ⟨#[]⟩) (.slice none 0 0) (.string ⟨#[]⟩) (.bool false)
      have HP5 := hid (HP3.out.same (hK5.block p (by omega) hpq))
      have HK5 := hid ((Kept.of_below (p := p) HB3.out).trans (Kept.of_below (hK5.below (by omega))))
      unfold set8 at hR5 HP5 HK5
      clear hTc hT' hT HF3 HQ3 HE1 hK5
      go_wp2
      (try simp only [Exit.inBlock, Exit.then])
      clear y0 y1 y2 y3 y4 y5 y6 y7
      clear x0 x1 x2 x3 x4 x5 x6 x7
      obtain ⟨y0, y1, y2, y3, y4, y5, y6, y7⟩ := hR5.cells
      have x0 := hR5.warm 0
      have x1 := hR5.warm 1
      have x2 := hR5.warm 2
      have x3 := hR5.warm 3
      have x4 := hR5.warm 4
      have x5 := hR5.warm 5
      have x6 := hR5.warm 6
      have x7 := hR5.warm 7
      refine bodyPost_ret (v := .tuple #[.agg #[.string ⟨#[]⟩, .string ⟨#[]⟩, .int .i64 0, .slice none 0 0, .string ⟨#[]⟩, .slice none 0 0, .string ⟨#[]⟩, .bool false], .bool false, .int .i64 0]) (by simp [results, Tryz.results9, go_sem, y0, y1, y2, y3, y4, y5, y6, y7]) rfl ?_
      rw [HN.out]
      exact ⟨_, rfl, OwnsR.zero _ _, HP5.out, HK5.out⟩
    | .ok (q, n) =>
      have hT' : firstL W = (.ok (q, n)) := by first | rw [← hT, hTc] | rw [← hT]
      have hn := firstL_got hT'
      have HN := hid (nxt_got hT')
      have fn : ((n : Int) == 0) = false := by rw [beq_eq_false_iff_ne]; omega
      have hns : (n : Int) ≤ (s.size : Int) := by have := HSZ.out; omega
      have hq : e1.q = q := by have := HE1.out; (try rw [hTc] at this); exact this
      have HQ := hid hq
      simp only [firT]
      have hx : s.extract n s.size = ⟨(W.drop n).toArray⟩ := by
        rw [HSZ.out, HS.out, extract_list, List.take_of_length_le (by simp)]
      have hFr := fun w => freshP_any (W.drop n) w
      rw [← hx] at hFr
      have HX := hid hx
      clear hTc hT' hT hn hq hx HE1
      go_wp2_with fail
      refine (hFr _).mono ?_
      clear hFr
      rintro e w4 ⟨rfl, hB4⟩
      have HP4 := hid (HP3.out.below hB4 HP3.out.lt)
      have HR4 := hid (HR3.out.below hB4 HR3.out.lt)
      have HF4 := hid (OwnsP.below HF3.out hB4)
      have HQ4 := hid (OwnsP.below HQ3.out hB4)
      have HB4 := hid (HB3.out.trans (hB4.mono HB3.out.size))
      have hsz4 := hB4.size
      have hP5 := HP4.out.store1 (s.extract n s.size) _ HX.out
      have hK5 := HP4.out.k1 w4.heap.size (.string (s.extract n s.size))
      have hR5 := HR4.out.same (hK5.block _ HR4.out.lt (by omega))
      have hF5 := OwnsP.kept HF4.out hK5 (by omega)
      have hQ5 := OwnsP.kept HQ4.out hK5 (by omega)
      have hK5' := (Kept.of_below (p := p) HB4.out).trans (hK5.le (C := w.heap.size) (by omega))
      have hsz5 := hK5.size
      have hR6 := hR5.set8 (.string ⟨e1.q.head.1.toArray⟩) (.string ⟨e1.q.head.2.1.toArray⟩) (.int .i64 e1.q.head.2.2.1) (.slice e1.af e1.q.head.2.2.2.length e1.cf) (.string ⟨e1.q.path.toArray⟩) (.slice e1.aq e1.q.query.length e1.cq) (.string ⟨e1.q.body.toArray⟩) (.bool e1.q.close)
      have hK6 := hR5.k8 w4.heap.size (.string ⟨e1.q.head.1.toArray⟩) (.string ⟨e1.q.head.2.1.toArray⟩) (.int .i64 e1.q.head.2.2.1) (.slice e1.af e1.q.head.2.2.2.length e1.cf) (.string ⟨e1.q.path.toArray⟩) (.slice e1.aq e1.q.query.length e1.cq) (.string ⟨e1.q.body.toArray⟩) (.bool e1.q.close)
      have HP6 := hid (hP5.same (hK6.block p HP4.out.lt hpq))
      have HF6 := hid (OwnsP.kept hF5 (hR5.k8 _ (.string ⟨e1.q.head.1.toArray⟩) (.string ⟨e1.q.head.2.1.toArray⟩) (.int .i64 e1.q.head.2.2.1) (.slice e1.af e1.q.head.2.2.2.length e1.cf) (.string ⟨e1.q.path.toArray⟩) (.slice e1.aq e1.q.query.length e1.cq) (.string ⟨e1.q.body.toArray⟩) (.bool e1.q.close)) (by omega))
      have HQ6 := hid (OwnsP.kept hQ5 (hR5.k8 _ (.string ⟨e1.q.head.1.toArray⟩) (.string ⟨e1.q.head.2.1.toArray⟩) (.int .i64 e1.q.head.2.2.1) (.slice e1.af e1.q.head.2.2.2.length e1.cf) (.string ⟨e1.q.path.toArray⟩) (.slice e1.aq e1.q.query.length e1.cq) (.string ⟨e1.q.body.toArray⟩) (.bool e1.q.close)) (by omega))
      have HK6 := hid (hK5'.trans (Kept.of_below (hK6.below (by omega))))
      unfold set8 at hR6 HP6 HF6 HQ6 HK6
      obtain ⟨b0, b1, b2, b3, b4, b5, b6, b7⟩ := hR5.cells
      have bw0 := hR5.warm 0
      have bw1 := hR5.warm 1
      have bw2 := hR5.warm 2
      have bw3 := hR5.warm 3
      have bw4 := hR5.warm 4
      have bw5 := hR5.warm 5
      have bw6 := hR5.warm 6
      have bw7 := hR5.warm 7
      clear hB4 hK5 hK6 hK5' HB4 HF3 HQ3 HF4 HQ4 HR3 HP3 HB3 hP5 hR5 hF5 hQ5 c0 c1 c2 g0 g1 g2
      obtain ⟨c0, c1, c2, g0, g1, g2⟩ := HP4.out.cells
      rw [← HS.out] at c1
      go_wp2
      (try simp only [Exit.inBlock, Exit.then])
      clear y0 y1 y2 y3 y4 y5 y6 y7
      clear x0 x1 x2 x3 x4 x5 x6 x7
      obtain ⟨y0, y1, y2, y3, y4, y5, y6, y7⟩ := hR6.cells
      have x0 := hR6.warm 0
      have x1 := hR6.warm 1
      have x2 := hR6.warm 2
      have x3 := hR6.warm 3
      have x4 := hR6.warm 4
      have x5 := hR6.warm 5
      have x6 := hR6.warm 6
      have x7 := hR6.warm 7
      refine bodyPost_ret (v := .tuple #[.agg #[.string ⟨e1.q.head.1.toArray⟩, .string ⟨e1.q.head.2.1.toArray⟩, .int .i64 e1.q.head.2.2.1, .slice e1.af e1.q.head.2.2.2.length e1.cf, .string ⟨e1.q.path.toArray⟩, .slice e1.aq e1.q.query.length e1.cq, .string ⟨e1.q.body.toArray⟩, .bool e1.q.close], .bool true, .int .i64 0]) (by simp [results, Tryz.results9, go_sem, y0, y1, y2, y3, y4, y5, y6, y7]) rfl ?_
      rw [HN.out]
      exact ⟨_, rfl, ⟨.slice e1.af e1.q.head.2.2.2.length e1.cf, .slice e1.aq e1.q.query.length e1.cq, by rw [← HQ.out]; rfl, by rw [← HQ.out]; exact OwnsP.low HF6.out (by omega), by rw [← HQ.out]; exact OwnsP.low HQ6.out (by omega)⟩, HP6.out, HK6.out⟩
  · have f0 : (st != 0) = true := by rw [bne_iff_ne]; exact h0
    have HN := hid (nxt_bad (W := W) h0)
    clear hF h0
    go_enter Tryz.func9, Tryz.ntmps9
    go_wp2_with fail
    rw [← HW1.out]
    refine hG.mono ?_
    clear hG
    rintro e w1 ⟨rfl, hwx⟩
    subst hwx
    obtain ⟨wd, hwd⟩ : ∃ wd, wd = w1.drew := ⟨_, rfl⟩
    have hR1d : ReqAt wd w.heap.size (.string ⟨#[]⟩) (.string ⟨#[]⟩) (.int .i64 0) (.slice none 0 0) (.string ⟨#[]⟩) (.slice none 0 0) (.string ⟨#[]⟩) (.bool false) := by rw [hwd]; exact HR1.out
    have hP1d : PsAt wd p W st := by rw [hwd]; exact HP1.out
    have hBd : Below w.heap.size w wd := by rw [hwd]; exact HB1.out.trans (Below.drew (Below.refl w.heap.size w1))
    have hR5 := hR1d.set8 (.string ⟨#[]⟩) (.string ⟨#[]⟩) (.int .i64 0) (.slice none 0 0) (.string ⟨#[]⟩) (.slice none 0 0) (.string ⟨#[]⟩) (.bool false)
    have hK5 := hR1d.k8 wd.heap.size (.string ⟨#[]⟩) (.string ⟨#[]⟩) (.int .i64 0) (.slice none 0 0) (.string ⟨#[]⟩) (.slice none 0 0) (.string ⟨#[]⟩) (.bool false)
    have HP5 := hid (hP1d.same (hK5.block p hP1d.lt hpq))
    have HK5 := hid ((Kept.of_below (p := p) hBd).trans (Kept.of_below (hK5.below (Nat.le_of_lt hR1d.lt))))
    unfold set8 at hR5 HP5 HK5
    have c2d : w1.drew.cell? ⟨p, 2, none⟩ = some (.int .i64 st) := c2
    have c2e := HP5.out.cells.2.2.1
    have HWD := hid hwd
    clear y0 y1 y2 y3 y4 y5 y6 y7
    clear x0 x1 x2 x3 x4 x5 x6 x7
    obtain ⟨y0, y1, y2, y3, y4, y5, y6, y7⟩ := hR1d.cells
    have x0 := hR1d.warm 0
    have x1 := hR1d.warm 1
    have x2 := hR1d.warm 2
    have x3 := hR1d.warm 3
    have x4 := hR1d.warm 4
    have x5 := hR1d.warm 5
    have x6 := hR1d.warm 6
    have x7 := hR1d.warm 7
    clear hK5 hP1d hR1d HB1 hwd
    go_wp2_with fail
    refine wp_region_noPanic ?_
    refine wp_region_held_drew (S := (fun W => W.cell? ⟨p, 2, none⟩ = some (.int .i64 st))) (by kernel_rfl) ?_ (fun hHeld => ?_)
    · exact c2d
    rw [← HWD.out] at hHeld ⊢
    refine wpAnyH_take (i := 0) (oi := { dst := some 15, op := Op.build 36 #[], type := 36, pos := "parse.go:63", after := #[], guard := none }) (v := (.agg #[.string ⟨#[]⟩, .string ⟨#[]⟩, .int .i64 0, .slice none 0 0, .string ⟨#[]⟩, .slice none 0 0, .string ⟨#[]⟩, .bool false])) rfl (by kernel_rfl) (by kernel_rfl) (by kernel_rfl) (fun _ _ _ h => h) (Or.inl ⟨by rfl, ?_⟩) (by assumption) ?_
    · intro w hSw
      try dsimp only at hSw
      go_simp
    try simp only [Act.put, List.setIfInBounds_toArray, List.set_cons_zero, List.set_cons_succ]
    refine wpAnyH_take (i := 1) (oi := { dst := some 16, op := Op.move (Operand.tmp 0), type := 24, pos := "parse.go:63", after := #[{ on := 6, ground := Ground.gcOnly Departure.lateStores }], guard := none }) (v := (.pointer (some ⟨p, 0, none⟩))) rfl (by kernel_rfl) (by kernel_rfl) (by kernel_rfl) (fun _ _ _ h => h) (Or.inl ⟨by rfl, ?_⟩) (by assumption) ?_
    · intro w hSw
      try dsimp only at hSw
      go_simp
    try simp only [Act.put, List.setIfInBounds_toArray, List.set_cons_zero, List.set_cons_succ]
    refine wpAnyH_take (i := 2) (oi := { dst := some 17, op := Op.nilCheck (Operand.tmp 16), type := 0, pos := "parse.go:63", after := #[{ on := 1, ground := Ground.data }, { on := 6, ground := Ground.gcOnly Departure.lateStores }], guard := none }) (v := (.pointer (some ⟨p, 0, none⟩))) rfl (by kernel_rfl) (by kernel_rfl) (by kernel_rfl) (fun _ _ _ h => h) (Or.inl ⟨by rfl, ?_⟩) (by assumption) ?_
    · intro w hSw
      try dsimp only at hSw
      go_simp
    try simp only [Act.put, List.setIfInBounds_toArray, List.set_cons_zero, List.set_cons_succ]
    refine wpAnyH_take (i := 3) (oi := { dst := some 18, op := Op.fieldAddr 57 (Operand.tmp 17) 2, type := 0, pos := "parse.go:63", after := #[{ on := 2, ground := Ground.data }, { on := 6, ground := Ground.gcOnly Departure.lateStores }], guard := none }) (v := (.pointer (some ⟨p, 2, none⟩))) rfl (by kernel_rfl) (by kernel_rfl) (by kernel_rfl) (fun _ _ _ h => h) (Or.inl ⟨by rfl, ?_⟩) (by assumption) ?_
    · intro w hSw
      try dsimp only at hSw
      go_simp
    try simp only [Act.put, List.setIfInBounds_toArray, List.set_cons_zero, List.set_cons_succ]
    refine wpAnyH_take (i := 4) (oi := { dst := some 19, op := Op.load 3 (Operand.tmp 18), type := 3, pos := "parse.go:63", after := #[{ on := 3, ground := Ground.data }, { on := 6, ground := Ground.gcOnly Departure.lateStores }], guard := none }) (v := (.int .i64 st)) rfl (by kernel_rfl) (by kernel_rfl) (by kernel_rfl) (fun _ _ _ h => h) (Or.inl ⟨by rfl, ?_⟩) (by assumption) ?_
    · intro w hSw
      try dsimp only at hSw
      go_simp
    try simp only [Act.put, List.setIfInBounds_toArray, List.set_cons_zero, List.set_cons_succ]
    refine wpAnyH_ready (rs := [5]) (by kernel_rfl) (by simp) ?_
    refine AllReadyH.cons (o := { dst := none, op := Op.store 36 (Operand.tmp 2) (Operand.tmp 15), type := 0, pos := "parse.go:63", after := #[{ on := 0, ground := Ground.data }, { on := 0, ground := Ground.phase }, { on := 1, ground := Ground.textOnly Departure.lateStores }, { on := 2, ground := Ground.textOnly Departure.lateStores }, { on := 3, ground := Ground.textOnly Departure.lateStores }, { on := 4, ground := Ground.textOnly Departure.lateStores }], guard := none }) rfl (fun K hK => ?_) AllReadyH.nil
    rw [if_pos (by rfl)]
    go_wp2_with fail
    refine hK.out _ _ ?_ (fun hHeld => ?_)
    · exact c2e
    clear hK K
    try simp only [Act.put, List.setIfInBounds_toArray, List.set_cons_zero, List.set_cons_succ]
    refine wpAnyH_take (i := 6) (oi := { dst := some 3, op := Op.assign (Operand.const (Value.bool false)), type := 4, pos := "parse.go:63", after := #[{ on := 5, ground := Ground.chain }, { on := 0, ground := Ground.phase }, { on := 1, ground := Ground.textOnly Departure.lateStores }, { on := 2, ground := Ground.textOnly Departure.lateStores }, { on := 3, ground := Ground.textOnly Departure.lateStores }, { on := 4, ground := Ground.textOnly Departure.lateStores }, { on := 5, ground := Ground.phase }], guard := none }) (v := (.bool false)) rfl (by kernel_rfl) (by kernel_rfl) (by kernel_rfl) (fun _ _ _ h => h) (Or.inl ⟨by rfl, ?_⟩) (by assumption) ?_
    · intro w hSw
      try dsimp only at hSw
      go_simp
    try simp only [Act.put, List.setIfInBounds_toArray, List.set_cons_zero, List.set_cons_succ]
    refine wpAnyH_take (i := 7) (oi := { dst := some 4, op := Op.assign (Operand.tmp 19), type := 3, pos := "parse.go:63", after := #[{ on := 4, ground := Ground.data }, { on := 6, ground := Ground.chain }, { on := 0, ground := Ground.phase }, { on := 1, ground := Ground.phase }, { on := 2, ground := Ground.phase }, { on := 3, ground := Ground.phase }, { on := 4, ground := Ground.phase }, { on := 5, ground := Ground.phase }, { on := 6, ground := Ground.phase }], guard := none }) (v := (.int .i64 st)) rfl (by kernel_rfl) (by kernel_rfl) (by kernel_rfl) (fun _ _ _ h => h) (Or.inl ⟨by rfl, ?_⟩) (by assumption) ?_
    · intro w hSw
      try dsimp only at hSw
      go_simp
    try simp only [Act.put, List.setIfInBounds_toArray, List.set_cons_zero, List.set_cons_succ]
    refine wpAnyH_done (by kernel_rfl) ?_ _
    refine NoPanic.normal ?_
    go_wp2
    (try simp only [Exit.inBlock, Exit.then])
    clear y0 y1 y2 y3 y4 y5 y6 y7
    clear x0 x1 x2 x3 x4 x5 x6 x7
    obtain ⟨y0, y1, y2, y3, y4, y5, y6, y7⟩ := hR5.cells
    have x0 := hR5.warm 0
    have x1 := hR5.warm 1
    have x2 := hR5.warm 2
    have x3 := hR5.warm 3
    have x4 := hR5.warm 4
    have x5 := hR5.warm 5
    have x6 := hR5.warm 6
    have x7 := hR5.warm 7
    refine bodyPost_ret (v := .tuple #[.agg #[.string ⟨#[]⟩, .string ⟨#[]⟩, .int .i64 0, .slice none 0 0, .string ⟨#[]⟩, .slice none 0 0, .string ⟨#[]⟩, .bool false], .bool false, .int .i64 st]) (by simp [results, Tryz.results9, go_sem, y0, y1, y2, y3, y4, y5, y6, y7]) rfl ?_
    rw [HN.out]
    exact ⟨_, rfl, OwnsR.zero _ _, HP5.out, HK5.out⟩
end Go.Proofs.YtllhibdjopfcnaaGreatDoor
