/-
  The walk of the law RowBack.
-/
import Derived.Test.YtkbceaofijngoaaWOf
import Derived.Test.YtkbceaofijngoaaWSame
import Derived.Test.YtkbceaofijngoaaWAwake
namespace Go.Proofs.Ytkbceaofijngoaa
open Go.RowKit
set_option linter.unusedVariables false

theorem strOf_nil : strOf [] = ⟨#[]⟩ := rfl
theorem rowB_len {r : RowV} (h : mayR r = true) : (rowB r).length ≤ 5000 := by
  obtain ⟨⟨k1, k2⟩, ⟨c1, c2⟩, hl, w1, w2⟩ := mayR_iff.1 h
  obtain ⟨⟨m1, m2⟩, m3, m4⟩ := mayB_iff.1 hl
  have h1 := textB_len (t := r.key) (by omega)
  have h2 := cellsB_len r.cells c2
  have h3 := setB_len m1 m2
  have h4 := setB_len m3 m4
  have h5 := numB_len5 (n := r.cells.length) (by omega)
  have h6 := numB_len5 (n := (r.who + 1).toNat) (by omega)
  simp only [rowB, List.length_append]
  omega

set_option maxRecDepth 20000 in
set_option maxHeartbeats 4000000 in
theorem back_walk (v : Value) (r : RowV) (vc vs vi : Value) (t : ByteArray) (w : World) (h : SeesR w v r vc vs vi) (ht : t.size ≤ 140737488351232) :
    Calls Try.prog 4 #[v, .string t] w fun e w' => e = .returned (.bool true) ∧ Below w.heap.size w w' := by
  obtain ⟨W, hW⟩ : ∃ W, W = w.alloc (.cells #[.string r.key, vc, vs, vi, .int .i64 r.who] 27) := ⟨_, rfl⟩
  have hB : Below w.heap.size w W := by rw [hW]; exact below_alloc w _
  have hA : RowAt W w.heap.size (.string r.key) vc vs vi (.int .i64 r.who) := by rw [hW]; exact RowAt.new _ _ _ _ _ _
  have hsz := hA.lt
  have hS := h.below hB
  have hR := bytes_row v r vc vs vi W hS
  have HM := hid (fun w1 (hb : Below W.heap.size W w1) => mayRow_any v r vc vs vi w1 (hS.below hb))
  have HSE := hid (fun w1 (hb : Below W.heap.size W w1) => hS.below hb)
  have HA := hid hA
  have HB := hid hB
  obtain ⟨c0, c1, c2, c3, c4, _⟩ := hA.cells
  cases hm : mayR r
  · rw [hm, show rowBytesL r = [] by rw [rowBytesL, hm]; rfl, strOf_nil] at hR
    rw [hm] at HM
    obtain rfl := h.val
    unfold rowVal at *
    clear hA hB hS h HSE
    generalize r.key = ky at *
    generalize r.who = x at *
    go_enter Try.func4, Try.ntmps4
    go_wp2_with fail
    rw [← hW]
    refine hR.mono ?_
    clear hR hW
    rintro e w1 ⟨rfl, q1⟩
    obtain ⟨d0, d1, d2, d3, d4, _⟩ := (HA.out.below q1 hsz).cells
    have hM := HM.out w1 q1
    have HQ1 := hid q1
    have hs1 := q1.size
    clear q1 HM c0 c1 c2 c3 c4
    unfold errR
    go_wp2_with fail
    refine hM.mono ?_
    clear hM
    rintro e w2 ⟨rfl, q2⟩
    have HF := hid (HB.out.trans ((HQ1.out.trans (q2.mono hs1)).mono (by omega)))
    have hs2 := q2.size
    have hAW := awake_any w2
    clear q2
    go_wp2_with fail
    refine hAW.mono ?_
    clear hAW
    rintro e w3 ⟨rfl, q3⟩
    go_wp2
    go_ret
    exact ⟨rfl, HF.out.trans (q3.mono (by omega))⟩
  · have hbs : rowBytesL r = rowB r := by rw [rowBytesL, hm, if_pos rfl]
    rw [hm, hbs] at hR
    have hlen := rowB_len hm
    have hback := ofR_back (bytesOf t) hm
    obtain ⟨s, hs⟩ : ∃ s, s = strOf (rowB r) := ⟨_, rfl⟩
    have hss : s.size = (rowB r).length := by rw [hs, strOf_size]
    have hb2 : bytesOf (s ++ t) = rowB r ++ bytesOf t := by rw [bytesOf_append, hs, bytesOf_strOf (rowB_bytes r)]
    rw [← hs] at hR
    have hst : (s ++ t).size = s.size + t.size := by rw [← bytesOf_len, bytesOf_append, List.length_append, bytesOf_len, bytesOf_len]
    have HOF := hid (fun w1 => of_row (s ++ t) w1 (by rw [hst]; omega))
    rw [hb2, hback] at HOF
    have hs5 : s.size ≤ 5000 := by omega
    rw [← hss] at HOF
    have HSM := hid (fun w1 v1 v2 xc xs xi h1 h2 => same_row v1 v2 r r xc xs xi vc vs vi w1 h1 h2)
    rw [sameRow_iff.2 rfl] at HSM
    have HX : Hid (∀ (w1 : World) (xc xs xi : Value), SeesT w1 xc r.cells → Sees w1 xs r.s → Sees w1 xi r.i → SeesR w1 (rowVal r xc xs xi) r xc xs xi) := by
      unfold Hid
      intro w1 xc xs xi a1 a2 a3
      exact ⟨rfl, a1, a2, a3, h.clen, h.slen, h.ilen, h.klen, h.tlen⟩
    have hmx : ¬ 9223372036854775807 < s.size + t.size := by omega
    obtain rfl := h.val
    clear hA hB hS h HM hlen hback hs hss hb2 hm hbs
    unfold rowVal at HX hR HSE
    unfold rowVal
    go_enter Try.func4, Try.ntmps4
    go_wp2_with fail
    rw [← hW]
    refine hR.mono ?_
    clear hR hW
    rintro e w1 ⟨rfl, q1⟩
    have HQ1 := hid q1
    have hs1 := q1.size
    have hOF := HOF.out w1
    clear q1 c0 c1 c2 c3 c4 HOF
    unfold errR
    go_wp2_with fail
    refine hOF.mono ?_
    clear hOF
    unfold OfPost
    rintro e w2 ⟨xc, xs, xi, rfl, a1, a2, a3, q2⟩
    simp only [rowVV, rowNN, Option.getD_some, Option.isSome_some] at a1 a2 a3 ⊢
    unfold rowVal errR
    obtain ⟨ao1, cap1, e1⟩ : ∃ ao cap, xc = .slice ao r.cells.length cap := by obtain ⟨_, _, ao1, cap1, e1, _⟩ := a1; exact ⟨ao1, cap1, e1⟩
    obtain ⟨ao2, cap2, e2⟩ : ∃ ao cap, xs = .slice ao r.s.length cap := by obtain ⟨_, _, ao1, cap1, e1, _⟩ := a2; exact ⟨ao1, cap1, e1⟩
    obtain ⟨ao3, cap3, e3⟩ : ∃ ao cap, xi = .slice ao r.i.length cap := by obtain ⟨_, _, ao1, cap1, e1, _⟩ := a3; exact ⟨ao1, cap1, e1⟩
    subst e1
    subst e2
    subst e3
    obtain ⟨w3, hw3⟩ : ∃ w3, w3 = w2.alloc (.cells #[.string r.key, .slice ao1 r.cells.length cap1, .slice ao2 r.s.length cap2, .slice ao3 r.i.length cap3, .int .i64 r.who] 27) := ⟨_, rfl⟩
    have hB3 : Below w2.heap.size w2 w3 := by rw [hw3]; exact below_alloc w2 _
    have hX3 : RowAt w3 w2.heap.size (.string r.key) (.slice ao1 r.cells.length cap1) (.slice ao2 r.s.length cap2) (.slice ao3 r.i.length cap3) (.int .i64 r.who) := by rw [hw3]; exact RowAt.new _ _ _ _ _ _
    have hs2 := q2.size
    have hQ3 := (HQ1.out.trans (q2.mono hs1)).trans (hB3.mono (by omega))
    obtain ⟨d0, d1, d2, d3, d4, _⟩ := (HA.out.below hQ3 hsz).cells
    obtain ⟨g0, g1, g2, g3, g4, _⟩ := hX3.cells
    rw [hw3] at d0 d1 d2 d3 d4 g0 g1 g2 g3 g4
    have hSM := HSM.out w3 _ _ _ _ _ (HX.out w3 _ _ _ (a1.below hB3) (a2.below hB3) (a3.below hB3)) (HSE.out w3 hQ3)
    have HQ3 := hid hQ3
    have hs3 := hB3.size
    have HW3 := hid hw3
    clear a1 a2 a3 hB3 hX3 hQ3 hw3 HSM HSE HX q2
    go_wp2_with fail
    rw [← HW3.out]
    refine hSM.mono ?_
    clear hSM
    rintro e w4 ⟨rfl, q4⟩
    have HF := hid (HB.out.trans ((HQ3.out.trans (q4.mono (by omega))).mono (by omega)))
    have hs4 := q4.size
    have hAW := awake_any w4
    clear q4
    go_wp2_with fail
    refine hAW.mono ?_
    clear hAW
    rintro e w5 ⟨rfl, q5⟩
    go_wp2
    go_ret
    exact ⟨rfl, HF.out.trans (q5.mono (by omega))⟩

end Go.Proofs.Ytkbceaofijngoaa
