/-
  The contracts of slices.Equal, label's Same and of the law's 'lent'.
-/
import Derived.Test.YtjgohajlabdloaaLabB
import Derived.Handy
import Derived.Test.YtjgohajlabdloaaSet
namespace Go.Proofs.Ytjgohajlabdloaa
open Go.RowKit
set_option linter.unusedVariables false

set_option maxHeartbeats 400000 in
theorem equal_any (v u : Value) (xs ys : List Int) (w : World) (hS : Sees w v xs) (hT : Sees w u ys) (hlen : xs.length ≤ 4611686018427387904) (hlen2 : ys.length ≤ 4611686018427387904) :
    Calls Try.prog 34 #[v, u] w fun e w' => e = .returned (.bool (decide (xs = ys))) ∧ Below w.heap.size w w' := by
  obtain ⟨b, off, ao, cap, rfl, hcap, _, hao, hcell⟩ := hS
  obtain ⟨b2, off2, ao2, cap2, rfl, hcap2, _, hao2, hcell2⟩ := hT
  by_cases hll : xs.length = ys.length
  · have h0 : ((xs.length : Int) != (ys.length : Int)) = false := by rw [hll]; simp
    have HLL : Hid (xs.length = ys.length) := hll
    clear hll
    go_enter Try.func34, Try.ntmps34
    go_wp2
    go_loopw [13] (fun i wr => ∃ k n : Nat, k ≤ xs.length ∧ i = .int .i64 k ∧ xs.take k = ys.take k ∧ wr = w.drewN n) (fun i _ => xs.length - (intOf i).toNat)
    case atStart => exact ⟨0, 0, Nat.zero_le _, rfl, by simp, rfl⟩
    case round =>
      obtain ⟨k, n, hk, rfl, hnot, rfl⟩ := hrel
      by_cases hlt : k < xs.length
      · have hlt2 : k < ys.length := by have := HLL.out; omega
        have hne : xs ≠ [] := by intro h; rw [h] at hlt; simp at hlt
        have hne2 : ys ≠ [] := by intro h; rw [h] at hlt2; simp at hlt2
        obtain rfl := hao hne
        obtain rfl := hao2 hne2
        obtain ⟨x, hx⟩ : ∃ y, y = xs.getD k 0 := ⟨_, rfl⟩
        obtain ⟨y, hy⟩ : ∃ y, y = ys.getD k 0 := ⟨_, rfl⟩
        have hc := hcell k hlt
        have hc2 := hcell2 k hlt2
        rw [← hx] at hc
        rw [← hy] at hc2
        have HX : Hid (x = xs.getD k 0) := hx
        have HY : Hid (y = ys.getD k 0) := hy
        have HN : Hid (xs.take k = ys.take k) := hnot
        clear hx hy hcell hcell2 hnot hne hne2 hao hao2
        by_cases hyx : x = y
        · have h1 : (x != y) = false := by simpa using hyx
          have HE : Hid (x = y) := hyx
          clear hyx
          go_wp2
          go_quiet (fail)
          go_wp2
          go_roundw
          case rel => exact ⟨k + 1, _, by omega, by go_num, take_eq_succ hlt hlt2 HX.out HY.out HN.out HE.out, rfl⟩
          case measure => simp [intOf]; omega
        · have h1 : (x != y) = true := by simpa using hyx
          go_wp2
          go_quiet (fail)
          go_wp2
          go_ret
          refine ⟨ret_bool ?_, below_drewN (below_drewN (Below.refl _ _) _) _⟩
          have hn : xs ≠ ys := by
            intro h
            apply hyx
            rw [HX.out, HY.out, h]
          simp [hn]
      · go_wp2
        go_ret
        refine ⟨ret_bool ?_, below_drewN (Below.refl _ _) _⟩
        have hn : xs = ys := by
          have h2 := HLL.out
          rwa [List.take_of_length_le (by omega), List.take_of_length_le (by omega)] at hnot
        simp [hn]
  · have h0 : ((xs.length : Int) != (ys.length : Int)) = true := by simp; omega
    go_enter Try.func34, Try.ntmps34
    go_wp2
    go_ret
    exact ⟨ret_bool (by simp; intro h; exact hll (by rw [h])), Below.refl _ _⟩


set_option maxHeartbeats 400000 in
theorem lsame_any (a b : Value) (s i t j : List Int) (w : World) (hA : SeesL w a s i) (hB : SeesL w b t j) :
    Calls Try.prog 11 #[a, b] w fun e w' => e = .returned (.tuple #[.bool (sameB s i t j), .int .i64 (errOf (mayB s i && mayB t j))]) ∧ Below w.heap.size w w' := by
  have hA0 := hA
  have hB0 := hB
  obtain ⟨u1, x1, rfl, a1, a2, a3, a4⟩ := hA
  obtain ⟨u2, x2, rfl, b1, b2, b3, b4⟩ := hB
  obtain ⟨W, hW⟩ : ∃ W, W = (w.alloc (.cells #[u1, x1] 24)).alloc (.cells #[u2, x2] 24) := ⟨_, rfl⟩
  have d1 : SeesL W (.agg #[u1, x1]) s i := by rw [hW]; exact (hA0.box _).box _
  have d2 : SeesL W (.agg #[u2, x2]) t j := by rw [hW]; exact (hB0.box _).box _
  have f1 : Sees W u1 s := by rw [hW]; exact (a1.box _).box _
  have f2 : Sees W u2 t := by rw [hW]; exact (b1.box _).box _
  have f3 : Sees W x1 i := by rw [hW]; exact (a2.box _).box _
  have f4 : Sees W x2 j := by rw [hW]; exact (b2.box _).box _
  have hR := hid (checkBoth_any _ _ s i t j W d1 d2)
  have hZ : Below w.heap.size w W := by rw [hW]; exact (below_alloc w _).alloc (by simp) _
  have HA1 := hid (show Boxed W w.heap.size u1 x1 by rw [hW]; exact (Boxed.new _ _ _).box _)
  have HA2 := hid (show Boxed W (w.heap.size + 1) u2 x2 by rw [hW]; exact Boxed.new2 _ _ _ _)
  have hR2 := hid (fun w1 (h : Below W.heap.size W w1) => equal_any u1 u2 s t w1 (f1.below h) (f2.below h) a3 b3)
  have hR3 := hid (fun w1 (h : Below W.heap.size W w1) => equal_any x1 x2 i j w1 (f3.below h) (f4.below h) a4 b4)
  have HZ := hid hZ
  have hsz := hZ.size
  clear a1 a2 b1 b2 hZ d1 d2 hA0 hB0 f1 f2 f3 f4
  unfold sameB alikeB
  generalize (mayB s i && mayB t j) = bm at *
  generalize decide (s = t) = bs at *
  generalize decide (i = j) = bi at *
  go_enter Try.func11, Try.ntmps11
  go_wp2_with fail
  rw [← hW]
  refine hR.out.mono ?_
  clear hR hW
  rintro e w1 ⟨rfl, h1⟩
  have H1 := hid h1
  have hszW := h1.size
  cases bm
  · clear h1
    unfold errOf
    go_wp2
    go_ret2
    exact ⟨rfl, HZ.out.trans (H1.out.mono hsz)⟩
  · obtain ⟨c1, c2⟩ := HA1.out.below h1
    obtain ⟨c3, c4⟩ := HA2.out.below h1
    clear h1
    unfold errOf
    go_wp2_with fail
    refine (hR2.out w1 H1.out).mono ?_
    rintro e w2 ⟨rfl, h2⟩
    have H2 := hid (H1.out.trans (h2.mono hszW))
    clear hR2 h2 c1 c2 c3 c4
    cases bs
    · go_wp2
      go_ret2
      exact ⟨rfl, HZ.out.trans (H2.out.mono hsz)⟩
    · obtain ⟨c1, c2⟩ := HA1.out.below H2.out
      obtain ⟨c3, c4⟩ := HA2.out.below H2.out
      have hszX := H2.out.size
      go_wp2_with fail
      refine (hR3.out w2 H2.out).mono ?_
      rintro e w3 ⟨rfl, h3⟩
      have H3 := hid (H2.out.trans (h3.mono hszX))
      clear hR3 h3
      go_wp2
      go_ret2
      exact ⟨by cases bi <;> rfl, HZ.out.trans (H3.out.mono hsz)⟩

theorem below_grown {w w' : World} (h : w.grownBy w' none) : Below w.heap.size w w' := (Below.refl _ _).grown h (Nat.le_refl _) (fun k hk => by cases hk)

/-- At p lies a label, whole. -/
def LabAt (w : World) (p : Nat) (u v : Value) : Prop := w.heap[p]? = some (.cells #[u, v] 24 (0, 0))
theorem LabAt.lt {w : World} {p : Nat} {u v : Value} (h : LabAt w p u v) : p < w.heap.size := (Array.getElem?_eq_some_iff.1 h).1
theorem LabAt.below {w w' : World} {p B : Nat} {u v : Value} (h : LabAt w p u v) (hb : Below B w w') (hp : p < B) : LabAt w' p u v := by
  unfold LabAt
  rw [hb.block p hp]
  exact h
theorem LabAt.cells {w : World} {p : Nat} {u v : Value} (h : LabAt w p u v) :
    w.cell? ⟨p, 0, none⟩ = some u ∧ w.cell? ⟨p, 1, none⟩ = some v ∧ w.frozen? ⟨p, 0, none⟩ = false ∧ w.frozen? ⟨p, 1, none⟩ = false := by
  unfold LabAt at h
  refine ⟨?_, ?_, ?_, ?_⟩ <;> simp [World.cell?, World.frozen?, h]
theorem LabAt.new (w : World) (u v : Value) : LabAt (w.alloc (.cells #[u, v] 24)) w.heap.size u v := heap_alloc_new w _
theorem LabAt.box {w : World} {p : Nat} {u v : Value} (h : LabAt w p u v) (o : Obj) : LabAt (w.alloc o) p u v := h.below (below_alloc w o) h.lt
theorem LabAt.new2 (w : World) (o : Obj) (u v : Value) : LabAt ((w.alloc o).alloc (.cells #[u, v] 24)) (w.heap.size + 1) u v := by
  have h := LabAt.new (w.alloc o) u v
  simpa using h
theorem LabAt.new3 (w : World) (o o2 : Obj) (u v : Value) : LabAt (((w.alloc o).alloc o2).alloc (.cells #[u, v] 24)) (w.heap.size + 1 + 1) u v := by
  have h := LabAt.new ((w.alloc o).alloc o2) u v
  simpa using h

theorem LabAt.store0 {w : World} {p : Nat} {u v u' : Value} (h : LabAt w p u v) : LabAt (w.setCell ⟨p, 0, none⟩ u') p u' v := by
  unfold LabAt at *
  simp only [World.setCell, Array.getElem?_modify, h]
  simp
theorem LabAt.store1 {w : World} {p : Nat} {u v v' : Value} (h : LabAt w p u v) : LabAt (w.setCell ⟨p, 1, none⟩ v') p u v' := by
  unfold LabAt at *
  simp only [World.setCell, Array.getElem?_modify, h]
  simp
theorem LabAt.far {w : World} {p q o : Nat} {u v x : Value} (h : LabAt w p u v) (hq : p ≠ q) : LabAt (w.setCell ⟨q, o, none⟩ x) p u v := by
  unfold LabAt at h ⊢
  rw [Below.heap_setCell w ⟨q, o, none⟩ x p hq]
  exact h

set_option maxHeartbeats 400000 in
theorem lent_any (v : Value) (s i : List Int) (w : World) (hA : SeesL w v s i) (hs : s.length * 8 ≤ 140737488355328) (hi : i.length * 8 ≤ 140737488355328) :
    Calls Try.prog 8 #[v] w fun e w' => ∃ v1 v2, e = .returned (.agg #[v1, v2]) ∧ Owns w' w.heap.size v1 s ∧ Owns w' w.heap.size v2 i ∧ Below w.heap.size w w' := by
  obtain ⟨u, x, rfl, a1, a2, a3, a4⟩ := hA
  obtain ⟨W, hW⟩ : ∃ W, W = ((w.alloc (.cells #[u, x] 24)).alloc (.cells #[.slice none 0 0, .slice none 0 0] 24)).alloc (.cells #[.slice none 0 0, .slice none 0 0] 24) := ⟨_, rfl⟩
  have f1 : Sees W u s := by rw [hW]; exact ((a1.box _).box _).box _
  have hsz : W.heap.size = w.heap.size + 3 := by rw [hW]; simp
  have hZ : Below w.heap.size w W := by rw [hW]; exact ((below_alloc w _).alloc (by simp) _).alloc (by simp; omega) _
  have g1 : LabAt W w.heap.size u x := by rw [hW]; exact ((LabAt.new _ _ _).box _).box _
  have g2 : LabAt W (w.heap.size + 1) (.slice none 0 0) (.slice none 0 0) := by rw [hW]; exact (LabAt.new2 _ _ _ _).box _
  have g3 : LabAt W (w.heap.size + 1 + 1) (.slice none 0 0) (.slice none 0 0) := by rw [hW]; exact LabAt.new3 _ _ _ _ _
  have HG1 := hid g1
  have HG2 := hid g2
  have HG3 := hid g3
  have HF1 := hid f1
  have HF2 := hid a2
  have HZ := hid hZ
  have HW := hid hW
  clear a1 a2 f1 hZ g1 g2 g3 hW
  go_enter Try.func8, Try.ntmps8
  go_wp2_with (first
    | (at_builtin; rw [← HW.out]; refine wpList_app rfl _ _ rfl W.heap.size (.slice none 0 0) [] rfl (World.ownsRow_nil _ _ _ _) u s rfl HF1.out (by simpa using hs) (Nat.le_refl _) ?_; clear HW; intro v1 w1 h1 h2
       have hB := below_grown h2
       rw [List.nil_append] at h1
       obtain ⟨b1, o1, ao1, cap1, rfl, _⟩ := h1.sees
       have HB := hid hB
       have HO := hid h1
       have hszw := hB.size
       obtain ⟨_, k1, _, _⟩ := (HG1.out.below hB (by omega)).cells
       obtain ⟨k2, k3, k4, k5⟩ := (HG3.out.below hB (by omega)).cells
       clear h1 h2 hB)
    | (at_builtin
       obtain ⟨w2, hw2⟩ : ∃ w2, w2 = w1.setCell ⟨w.heap.size + 1 + 1, 0, none⟩ (.slice ao1 s.length cap1) := ⟨_, rfl⟩
       have q1 : LabAt w2 (w.heap.size + 1 + 1) (.slice ao1 s.length cap1) (.slice none 0 0) := by
         rw [hw2]
         exact (HG3.out.below HB.out (by omega)).store0
       have q2 : Below w.heap.size w w2 := by rw [hw2]; exact (HZ.out.trans (HB.out.mono (by omega))).setCell (by simp; omega) _
       have q3 : LabAt w2 (w.heap.size + 1) (.slice none 0 0) (.slice none 0 0) := by
         rw [hw2]
         exact (HG2.out.below HB.out (by omega)).far (by omega)
       have q4 : Owns w2 W.heap.size (.slice ao1 s.length cap1) s := by
         rw [hw2]
         exact ownsRow_setCell_below HO.out (by simp; omega) _
       rw [← hw2]
       clear hw2 k1 k2 k3 k4 k5 HO HB
       refine wpList_app rfl _ _ rfl w2.heap.size (.slice none 0 0) [] rfl (World.ownsRow_nil _ _ _ _) x i rfl (HF2.out.below q2) (by simpa using hi) (Nat.le_refl _) ?_; intro v2 w3 h1 h2
       have hB := below_grown h2
       rw [List.nil_append] at h1
       obtain ⟨b2, o2, ao2, cap2, rfl, _⟩ := h1.sees
       have hz2 := q2.size
       have HO1 := hid (q4.below hB)
       have HO2 := hid h1
       have HB2 := hid (q2.trans (hB.mono hz2))
       have HL := hid (q1.below hB q1.lt)
       have HL2 := hid (q3.below hB q3.lt)
       have hlt1 := q1.lt
       have hlt3 := hB.size
       obtain ⟨k2, k3, k4, k5⟩ := HL.out.cells
       obtain ⟨k6, k7, k8, k9⟩ := HL2.out.cells
       clear h1 h2 hB q1 q2 q3 q4)
    | fail)
  obtain ⟨w4, hw4⟩ : ∃ w4, w4 = ((w3.setCell ⟨w.heap.size + 1 + 1, 1, none⟩ (.slice ao2 i.length cap2)).setCell ⟨w.heap.size + 1, 0, none⟩ (.slice ao1 s.length cap1)).setCell ⟨w.heap.size + 1, 1, none⟩ (.slice ao2 i.length cap2) := ⟨_, rfl⟩
  have r1 : LabAt w4 (w.heap.size + 1) (.slice ao1 s.length cap1) (.slice ao2 i.length cap2) := by
    rw [hw4]
    exact (HL2.out.far (by omega)).store0.store1
  have r2 : Owns w4 w.heap.size (.slice ao1 s.length cap1) s := by
    rw [hw4]
    exact owns_le (ownsRow_setCell_below (ownsRow_setCell_below (ownsRow_setCell_below HO1.out (by simp; omega) _) (by simp; omega) _) (by simp; omega) _) (by omega)
  have r3 : Owns w4 w.heap.size (.slice ao2 i.length cap2) i := by
    rw [hw4]
    exact owns_le (ownsRow_setCell_below (ownsRow_setCell_below (ownsRow_setCell_below HO2.out (by simp; omega) _) (by simp; omega) _) (by simp; omega) _) (by omega)
  have r4 : Below w.heap.size w w4 := by
    rw [hw4]
    exact ((HB2.out.setCell (by simp; omega) _).setCell (by simp) _).setCell (by simp) _
  rw [← hw4]
  obtain ⟨y1, y2, _, _⟩ := r1.cells
  clear hw4 k2 k3 k4 k5 k6 k7 k8 k9
  refine bodyPost_ret (v := .agg #[.slice ao1 s.length cap1, .slice ao2 i.length cap2]) (by simp [results, Try.results8, go_sem, y1, y2]) rfl ?_
  exact ⟨_, _, rfl, r2, r3, r4⟩

end Go.Proofs.Ytjgohajlabdloaa
