/-
  The document's Of of rows.
-/
import Derived.Test.YtkbceaofijngoaaWROf
namespace Go.Proofs.Ytkbceaofijngoaa
open Go.RowKit
set_option linter.unusedVariables false

/-- Cells one by one: what is read so far, and what is to come. -/
theorem cellsR_next {B m : Nat} {l : List Nat} {full : Option (List ByteArray × Nat)} {cs : List ByteArray} {b0 : Nat} {c : ByteArray} {z : Nat} {l2 : List Nat}
    (h : full = (match cellsR B (m + 1) l with | none => none | some (c2, b2) => some (cs ++ c2, b0 + b2))) (ht : textR 0 B l = some (c, z)) (hl2 : l2 = l.drop z) :
    full = (match cellsR B m l2 with | none => none | some (c2, b2) => some ((cs ++ [c]) ++ c2, (b0 + z) + b2)) := by
  subst hl2
  rw [h, cellsR, ht]
  simp only
  cases cellsR B m (l.drop z) with
  | none => rfl
  | some q =>
    simp only [List.append_assoc, List.singleton_append, Nat.add_assoc]
theorem cellsR_stop {B m : Nat} {l : List Nat} {full : Option (List ByteArray × Nat)} {cs : List ByteArray} {b0 : Nat}
    (h : full = (match cellsR B (m + 1) l with | none => none | some (c2, b2) => some (cs ++ c2, b0 + b2))) (ht : textR 0 B l = none) : full = none := by
  rw [h, cellsR, ht]

set_option maxRecDepth 40000 in
set_option maxHeartbeats 8000000 in
theorem rof_row (s : ByteArray) (w : World) (hs : s.size ≤ 4611686018427387904) :
    Calls Try.prog 13 #[.string s] w (OfPost w (ofR (bytesOf s))) := by
  obtain ⟨W, hW⟩ : ∃ W, W = (w.alloc (.cells #[.string ⟨#[]⟩, .slice none 0 0, .slice none 0 0, .slice none 0 0, .int .i64 0] 27)).alloc (.cells #[.string ⟨#[]⟩, .slice none 0 0, .slice none 0 0, .slice none 0 0, .int .i64 0] 27) := ⟨_, rfl⟩
  have hB : Below w.heap.size w W := by rw [hW]; exact (below_alloc w _).alloc (by simp) _
  have hQ : RowAt W w.heap.size (.string ⟨#[]⟩) (.slice none 0 0) (.slice none 0 0) (.slice none 0 0) (.int .i64 0) := by rw [hW]; exact (RowAt.new _ _ _ _ _ _).box _
  have hN : RowAt W (w.heap.size + 1) (.string ⟨#[]⟩) (.slice none 0 0) (.slice none 0 0) (.slice none 0 0) (.int .i64 0) := by rw [hW]; exact RowAt.new2 _ _ _ _ _ _ _
  have hsz := hN.lt
  have hT := textOf_any s 0 W hs (Nat.zero_le _)
  rw [List.drop_zero] at hT
  have HD : Hid (ofR (bytesOf s) = docR (bytesOf s)) := (docR_eq _).symm
  have HBL0 := hid (bytesOf_len s)
  have HB := hid hB
  have HQ := hid hQ
  have HN := hid hN
  have HW := hid hW
  clear hB hQ hN hW
  obtain ⟨l, hl⟩ : ∃ l, l = bytesOf s := ⟨_, rfl⟩
  have hll : l.length = s.size := by rw [hl, bytesOf_len]
  rw [← hl] at hT HD HBL0 ⊢
  have HLL := hid hl
  clear hl
  go_enter Try.func13, Try.ntmps13
  go_wp2_with fail
  rw [← HW.out]
  refine hT.mono ?_
  clear hT HW
  rintro e w1 ⟨rfl, hw1⟩
  subst w1
  cases hk : textR 0 2147483647 l with
  | none =>
    have HOF : Hid (ofR l = none) := by unfold Hid; rw [HD.out, docR, hk]
    simp only [txtV, txtP, Option.getD_none]
    clear hk HD
    obtain ⟨c0, c1, c2, c3, c4, f0, f1, f2, f3, f4⟩ := HQ.out.cells
    obtain ⟨m0, m1, m2, m3, m4, _⟩ := HN.out.cells
    have HLF := hid (((((HQ.out.store0 (x := .string ⟨#[]⟩)).store1 (x := .slice none 0 0)).store2 (x := .slice none 0 0)).store3 (x := .slice none 0 0)).store4 (x := .int .i64 0))
    have HBL := hid (((((HB.out.setCell (p := ⟨w.heap.size, 0, none⟩) (by simp) (.string ⟨#[]⟩)).setCell (p := ⟨w.heap.size, 1, none⟩) (by simp) (.slice none 0 0)).setCell (p := ⟨w.heap.size, 2, none⟩) (by simp) (.slice none 0 0)).setCell (p := ⟨w.heap.size, 3, none⟩) (by simp) (.slice none 0 0)).setCell (p := ⟨w.heap.size, 4, none⟩) (by simp) (.int .i64 0))
    go_wp2
    obtain ⟨y0, y1, y2, y3, y4, _⟩ := HLF.out.cells
    refine bodyPost_ret (v := .tuple #[.agg #[.string ⟨#[]⟩, .slice none 0 0, .slice none 0 0, .slice none 0 0, .int .i64 0], .int .i64 0, .int .i64 110]) (by simp [results, Try.results13, go_sem, y0, y1, y2, y3, y4]) rfl ?_
    unfold OfPost
    rw [HOF.out]
    exact ⟨.slice none 0 0, .slice none 0 0, .slice none 0 0, rfl, (OwnsT.nil _ 0).sees, (Owns.sees (base := 0) (World.ownsRow_nil _ _ _ _)), (Owns.sees (base := 0) (World.ownsRow_nil _ _ _ _)), HBL.out⟩

  | some q =>
    obtain ⟨ky, a⟩ := q
    have hks := textR_size hk
    have HD1 : Hid (ofR l = match readN (l.drop a) with
      | none => none
      | some (n, z) => if 8 < n then none else match cellsR 2147483647 n (l.drop (a + z)) with
        | none => none
        | some (cs, b) => match ofL (l.drop (a + z + b)) with
          | none => none
          | some (s, i, c) => match readN (l.drop (a + z + b + c)) with
            | none => none
            | some (w, d) => if mayR ⟨ky, cs, s, i, (w : Int) - 1⟩ then some (⟨ky, cs, s, i, (w : Int) - 1⟩, a + z + b + c + d) else none) := by unfold Hid; rw [HD.out, docR, hk]; first | done | rfl
    simp only [txtV, txtP, Option.getD_some, Nat.zero_add]
    have ha0 : ¬ (a : Int) < 0 := by omega
    have hNu := rnumber_any s a W hs (by omega)
    rw [← HLL.out] at hNu
    clear hk HD
    go_wp2_with fail
    refine hNu.mono ?_
    clear hNu
    rintro e w1 ⟨rfl, hw1⟩
    subst w1
    cases hr : readN (l.drop a) with
    | none =>
      have HOF : Hid (ofR l = none) := by unfold Hid; rw [HD1.out, hr]
      simp only [show numV none = 0 from rfl, show behind a none = -1 from rfl]
      clear hr HD1
      obtain ⟨c0, c1, c2, c3, c4, f0, f1, f2, f3, f4⟩ := HQ.out.cells
      obtain ⟨m0, m1, m2, m3, m4, _⟩ := HN.out.cells
      have HLF := hid (((((HQ.out.store0 (x := .string ⟨#[]⟩)).store1 (x := .slice none 0 0)).store2 (x := .slice none 0 0)).store3 (x := .slice none 0 0)).store4 (x := .int .i64 0))
      have HBL := hid (((((HB.out.setCell (p := ⟨w.heap.size, 0, none⟩) (by simp) (.string ⟨#[]⟩)).setCell (p := ⟨w.heap.size, 1, none⟩) (by simp) (.slice none 0 0)).setCell (p := ⟨w.heap.size, 2, none⟩) (by simp) (.slice none 0 0)).setCell (p := ⟨w.heap.size, 3, none⟩) (by simp) (.slice none 0 0)).setCell (p := ⟨w.heap.size, 4, none⟩) (by simp) (.int .i64 0))
      go_wp2
      obtain ⟨y0, y1, y2, y3, y4, _⟩ := HLF.out.cells
      refine bodyPost_ret (v := .tuple #[.agg #[.string ⟨#[]⟩, .slice none 0 0, .slice none 0 0, .slice none 0 0, .int .i64 0], .int .i64 0, .int .i64 110]) (by simp [results, Try.results13, go_sem, y0, y1, y2, y3, y4]) rfl ?_
      unfold OfPost
      rw [HOF.out]
      exact ⟨.slice none 0 0, .slice none 0 0, .slice none 0 0, rfl, (OwnsT.nil _ 0).sees, (Owns.sees (base := 0) (World.ownsRow_nil _ _ _ _)), (Owns.sees (base := 0) (World.ownsRow_nil _ _ _ _)), HBL.out⟩

    | some q =>
      obtain ⟨n, z⟩ := q
      have hz := readN_size hr
      rw [List.length_drop] at hz
      rw [hr] at HD1
      simp only [show numV (some (n, z)) = n from rfl, show behind a (some (n, z)) = ((a + z : Nat) : Int) from rfl] at HD1 ⊢
      have hz0 : ¬ (a : Int) + z < 0 := by omega
      rw [Int.natCast_add]
      by_cases h8 : 8 < n
      · have HOF : Hid (ofR l = none) := by unfold Hid; rw [HD1.out, if_pos h8]
        have h8' : (8 : Int) < (n : Int) := by omega
        clear hr HD1
        obtain ⟨c0, c1, c2, c3, c4, f0, f1, f2, f3, f4⟩ := HQ.out.cells
        obtain ⟨m0, m1, m2, m3, m4, _⟩ := HN.out.cells
        have HLF := hid (((((HQ.out.store0 (x := .string ⟨#[]⟩)).store1 (x := .slice none 0 0)).store2 (x := .slice none 0 0)).store3 (x := .slice none 0 0)).store4 (x := .int .i64 0))
        have HBL := hid (((((HB.out.setCell (p := ⟨w.heap.size, 0, none⟩) (by simp) (.string ⟨#[]⟩)).setCell (p := ⟨w.heap.size, 1, none⟩) (by simp) (.slice none 0 0)).setCell (p := ⟨w.heap.size, 2, none⟩) (by simp) (.slice none 0 0)).setCell (p := ⟨w.heap.size, 3, none⟩) (by simp) (.slice none 0 0)).setCell (p := ⟨w.heap.size, 4, none⟩) (by simp) (.int .i64 0))
        go_wp2
        obtain ⟨y0, y1, y2, y3, y4, _⟩ := HLF.out.cells
        refine bodyPost_ret (v := .tuple #[.agg #[.string ⟨#[]⟩, .slice none 0 0, .slice none 0 0, .slice none 0 0, .int .i64 0], .int .i64 0, .int .i64 110]) (by simp [results, Try.results13, go_sem, y0, y1, y2, y3, y4]) rfl ?_
        unfold OfPost
        rw [HOF.out]
        exact ⟨.slice none 0 0, .slice none 0 0, .slice none 0 0, rfl, (OwnsT.nil _ 0).sees, (Owns.sees (base := 0) (World.ownsRow_nil _ _ _ _)), (Owns.sees (base := 0) (World.ownsRow_nil _ _ _ _)), HBL.out⟩

      · have HD2 : Hid (ofR l = match cellsR 2147483647 n (l.drop (a + z)) with
            | none => none
            | some (cs, b) => match ofL (l.drop (a + z + b)) with
              | none => none
              | some (s, i, c) => match readN (l.drop (a + z + b + c)) with
                | none => none
                | some (w, d) => if mayR ⟨ky, cs, s, i, (w : Int) - 1⟩ then some (⟨ky, cs, s, i, (w : Int) - 1⟩, a + z + b + c + d) else none) := by unfold Hid; rw [HD1.out, if_neg h8]
        have h8' : ¬ (8 : Int) < (n : Int) := by omega
        obtain ⟨W3, hW3⟩ : ∃ W3, W3 = W.alloc (.cells #[.string ky, .slice none 0 0, .slice none 0 0, .slice none 0 0, .int .i64 0] 27) := ⟨_, rfl⟩
        have hB3 : Below W.heap.size W W3 := by rw [hW3]; exact below_alloc W _
        have hX3 : RowAt W3 W.heap.size (.string ky) (.slice none 0 0) (.slice none 0 0) (.slice none 0 0) (.int .i64 0) := by rw [hW3]; exact RowAt.new _ _ _ _ _ _
        have hs3 := hX3.lt
        have HX3 := hid hX3
        have HQ3 := hid (HQ.out.below hB3 (by omega))
        have HN3 := hid (HN.out.below hB3 (by omega))
        have HB3 := hid (HB.out.trans (hB3.mono (by omega)))
        have HW3 := hid hW3
        clear hr HD1 hB3 hX3 hW3 HQ HN HB
        go_wp2_with fail
        rw [← HW3.out]
        go_loopw [9, 11] (fun nx i wr => ∃ (j b0 : Nat) (cs : List ByteArray) (vc : Value), j ≤ n ∧ i = .int .i64 (j : Int) ∧ nx = .int .i64 ((a + z + b0 : Nat) : Int) ∧ a + z + b0 ≤ s.size ∧ cs.length = j ∧ (∀ c ∈ cs, c.size ≤ 2147483647) ∧ RowAt wr W.heap.size (.string ky) vc (.slice none 0 0) (.slice none 0 0) (.int .i64 0) ∧ OwnsT wr (W.heap.size + 1) vc cs ∧ RowAt wr w.heap.size (.string ⟨#[]⟩) (.slice none 0 0) (.slice none 0 0) (.slice none 0 0) (.int .i64 0) ∧ RowAt wr (w.heap.size + 1) (.string ⟨#[]⟩) (.slice none 0 0) (.slice none 0 0) (.slice none 0 0) (.int .i64 0) ∧ Below w.heap.size w wr ∧
          cellsR 2147483647 n (l.drop (a + z)) = (match cellsR 2147483647 (n - j) (l.drop (a + z + b0)) with | none => none | some (c2, b2) => some (cs ++ c2, b0 + b2))) (fun _ i _ => n - (intOf i).toNat)
        case atStart =>
          refine ⟨0, 0, [], .slice none 0 0, Nat.zero_le _, rfl, rfl, by omega, rfl, by simp, HX3.out, OwnsT.nil _ _, HQ3.out, HN3.out, HB3.out, ?_⟩
          simp only [Nat.sub_zero, Nat.add_zero]
          cases cellsR 2147483647 n (l.drop (a + z)) with
          | none => rfl
          | some q => simp
        clear HX3 HQ3 HN3 HB3
        case round =>
          obtain ⟨j, b0, cs, vc, hj, rfl, rfl, hpos, hcl, hcz, hX, hO, hQ, hN, hB, hcr⟩ := hrel
          have HX := hid hX
          have HO := hid hO
          have HQ := hid hQ
          have HN := hid hN
          have HB := hid hB
          have HCR := hid hcr
          have HCZ := hid hcz
          have HCL := hid hcl
          have hXl := hX.lt
          obtain ⟨ao, cap, hvc⟩ := hO.shape
          subst hvc
          clear hX hO hQ hN hB hcr hcz hcl
          by_cases hlt : j < n
          · have hlt' : (j : Int) < (n : Int) := by omega
            have hT := textOf_any s (a + z + b0) wr hs hpos
            rw [← HLL.out] at hT
            have hcr := HCR.out
            rw [show n - j = (n - (j + 1)) + 1 by omega] at hcr
            cases ht : textR 0 2147483647 (l.drop (a + z + b0)) with
            | none =>
              rw [ht] at hT
              have HOF : Hid (ofR l = none) := by unfold Hid; rw [HD2.out, cellsR_stop hcr ht]
              simp only [txtV, txtP, Option.getD_none] at hT
              clear ht hcr HCR HD2
              go_wp2_with fail
              refine hT.mono ?_
              clear hT
              rintro e w1 ⟨rfl, hw1⟩
              subst w1
              obtain ⟨c0, c1, c2, c3, c4, f0, f1, f2, f3, f4⟩ := HQ.out.cells
              obtain ⟨m0, m1, m2, m3, m4, _⟩ := HN.out.cells
              have HLF := hid (((((HQ.out.store0 (x := .string ⟨#[]⟩)).store1 (x := .slice none 0 0)).store2 (x := .slice none 0 0)).store3 (x := .slice none 0 0)).store4 (x := .int .i64 0))
              have HBL := hid (((((HB.out.setCell (p := ⟨w.heap.size, 0, none⟩) (by simp) (.string ⟨#[]⟩)).setCell (p := ⟨w.heap.size, 1, none⟩) (by simp) (.slice none 0 0)).setCell (p := ⟨w.heap.size, 2, none⟩) (by simp) (.slice none 0 0)).setCell (p := ⟨w.heap.size, 3, none⟩) (by simp) (.slice none 0 0)).setCell (p := ⟨w.heap.size, 4, none⟩) (by simp) (.int .i64 0))
              go_wp2
              obtain ⟨y0, y1, y2, y3, y4, _⟩ := HLF.out.cells
              refine bodyPost_ret (v := .tuple #[.agg #[.string ⟨#[]⟩, .slice none 0 0, .slice none 0 0, .slice none 0 0, .int .i64 0], .int .i64 0, .int .i64 110]) (by simp [results, Try.results13, go_sem, y0, y1, y2, y3, y4]) rfl ?_
              unfold OfPost
              rw [HOF.out]
              exact ⟨.slice none 0 0, .slice none 0 0, .slice none 0 0, rfl, (OwnsT.nil _ 0).sees, (Owns.sees (base := 0) (World.ownsRow_nil _ _ _ _)), (Owns.sees (base := 0) (World.ownsRow_nil _ _ _ _)), HBL.out⟩

            | some q =>
              obtain ⟨c, zz⟩ := q
              have hts := textR_size ht
              rw [List.length_drop] at hts
              have HCR2 := hid (cellsR_next (l2 := l.drop (a + z + (b0 + zz))) hcr ht (by rw [List.drop_drop, show a + z + b0 + zz = a + z + (b0 + zz) by omega]))
              rw [ht] at hT
              simp only [txtV, txtP, Option.getD_some] at hT
              have hz1 : ¬ ((a + z + b0 + zz : Nat) : Int) < 0 := by omega
              have hz2 : ¬ (a : Int) + z + b0 + zz < 0 := by omega
              obtain ⟨x0, x1, x2, x3, x4, g0, g1, g2, g3, g4⟩ := HX.out.cells
              clear ht hcr HCR
              go_wp2_with fail
              refine hT.mono ?_
              clear hT
              rintro e w1 ⟨rfl, hw1⟩
              subst w1
              go_wp2_with (first
                | (at_builtin
                   refine wpList_appOne Try.underlying22 Try.info9 (by decide) rfl _ _ rfl (W.heap.size + 1) (.slice ao cs.length cap) cs.length (cellsT cs) rfl (OwnsT.below HO.out (below_alloc _ _)) _ (.string c) rfl (see1 rfl) rfl (by have := HCL.out; omega) (by decide) (by rw [size_box]; omega) ?_
                   intro gg cap2 w2 hO2 hG2 hg2 hl2
                   have hO2' := OwnsT.app hO2
                   have hbk : ∀ j, (Value.slice ao cs.length cap).ownBlock = some j → W.heap.size + 1 ≤ j := HO.out.block
                   have hX2 : RowAt w2 W.heap.size (.string ky) (.slice ao cs.length cap) (.slice none 0 0) (.slice none 0 0) (.int .i64 0) := (HX.out.box _).same (hG2.block _ (by rw [size_box]; omega) (fun h => by have := hbk _ h.symm; omega))
                   have hQ2 : RowAt w2 w.heap.size (.string ⟨#[]⟩) (.slice none 0 0) (.slice none 0 0) (.slice none 0 0) (.int .i64 0) := (HQ.out.box _).same (hG2.block _ (by rw [size_box]; omega) (fun h => by have := hbk _ h.symm; omega))
                   have hN2 : RowAt w2 (w.heap.size + 1) (.string ⟨#[]⟩) (.slice none 0 0) (.slice none 0 0) (.slice none 0 0) (.int .i64 0) := (HN.out.box _).same (hG2.block _ (by rw [size_box]; omega) (fun h => by have := hbk _ h.symm; omega))
                   have hB2 := below_grownBy (HB.out.trans ((below_alloc wr (.cells #[.string c] 9)).mono HB.out.size)) hG2 (fun j hj => by have := hbk j hj; omega) (by have := HB.out.size; rw [size_box]; omega)
                   obtain ⟨d0, d1, d2, d3, d4, e0, e1, e2, e3, e4⟩ := hX2.cells
                   have HX2 := hid (hX2.store1 (x := .slice (some ⟨gg, 0, none⟩) (cs.length + 1) cap2))
                   have HO2 := hid (own_set (k := 1) (x := .slice (some ⟨gg, 0, none⟩) (cs.length + 1) cap2) hO2' (p := W.heap.size) (by omega))
                   have HQ2 := hid (hQ2.far (q := W.heap.size) (o := 1) (x := .slice (some ⟨gg, 0, none⟩) (cs.length + 1) cap2) (by omega))
                   have HN2 := hid (hN2.far (q := W.heap.size) (o := 1) (x := .slice (some ⟨gg, 0, none⟩) (cs.length + 1) cap2) (by omega))
                   have HB2 := hid (hB2.setCell (p := ⟨W.heap.size, 1, none⟩) (by simp; omega) (.slice (some ⟨gg, 0, none⟩) (cs.length + 1) cap2))
                   clear hO2 hO2' hG2 hg2 hX2 hQ2 hN2 hB2 hbk)
                | fail)
              go_roundw
              case rel =>
                refine ⟨j + 1, b0 + zz, cs ++ [c], _, by omega, by go_num, by go_num, by omega, by rw [List.length_append, HCL.out]; rfl, ?_, HX2.out, HO2.out, HQ2.out, HN2.out, HB2.out, HCR2.out⟩
                intro x hx
                rcases List.mem_append.1 hx with hx | hx
                · exact HCZ.out x hx
                · simp at hx
                  subst hx
                  exact hts.2.2.2
              case measure => simp [intOf]; omega
          · have hlt' : ¬ (j : Int) < (n : Int) := by omega
            have hcr := HCR.out
            have hjn : n - j = 0 := by omega
            rw [hjn, cellsR] at hcr
            simp only [List.append_nil, Nat.add_zero] at hcr
            have HD3 : Hid (ofR l = match ofL (l.drop (a + z + b0)) with
              | none => none
              | some (s, i, c) => match readN (l.drop (a + z + b0 + c)) with
                | none => none
                | some (w, d) => if mayR ⟨ky, cs, s, i, (w : Int) - 1⟩ then some (⟨ky, cs, s, i, (w : Int) - 1⟩, a + z + b0 + c + d) else none) := by unfold Hid; rw [HD2.out, hcr]; first | done | rfl
            have hex := bytesOf_extract s (a + z + b0) hpos
            have hexs : (s.extract (a + z + b0) s.size).size ≤ 4611686018427387904 := by rw [← bytesOf_len, hex, List.length_drop, bytesOf_len]; omega
            have hLb := rOf_any (s.extract (a + z + b0) s.size) wr hexs
            rw [hex, ← HLL.out] at hLb
            have hpos' : (a : Int) + z + b0 ≤ (s.size : Int) := by omega
            have hpos0 : 0 ≤ (a : Int) + z + b0 := by omega
            have epos : ((a : Int) + z + b0).toNat = a + z + b0 := by omega
            rw [show ((a + z + b0 : Nat) : Int) = (a : Int) + z + b0 by omega]
            clear hcr HCR HD2 hex hjn
            go_wp2_with fail
            refine hLb.mono ?_
            clear hLb
            rintro e w1 ⟨v1, v2, rfl, hO1, hO2, hB1⟩
            have hs1 := hB1.size
            have hBs := HB.out.size
            have HX1 := hid (HX.out.below hB1 hXl)
            have HOc1 := hid (HO.out.below hB1)
            have HQ1 := hid (HQ.out.below hB1 (by omega))
            have HN1 := hid (HN.out.below hB1 (by omega))
            have HB1 := hid (HB.out.trans (hB1.mono (by omega)))
            clear HX HO HQ HN HB hB1
            cases hof : ofL (l.drop (a + z + b0)) with
            | none =>
              rw [hof] at hO1 hO2
              have HOF : Hid (ofR l = none) := by unfold Hid; rw [HD3.out, hof]
              simp only [ofS, ofI, Option.getD_none] at hO1 hO2
              obtain ⟨ao1, cap1, rfl⟩ := hO1.form
              obtain ⟨ao2, cap2, rfl⟩ := hO2.form
              simp only [ofN, errOf, Option.getD_none, Option.isSome_none]
              obtain ⟨w2, hw2⟩ : ∃ w2, w2 = w1.alloc (.cells #[.slice ao1 0 cap1, .slice ao2 0 cap2] 25) := ⟨_, rfl⟩
              have hB2 : Below w1.heap.size w1 w2 := by rw [hw2]; exact below_alloc w1 _
              have HQ2 := hid (HQ1.out.below hB2 (by omega))
              have HN2 := hid (HN1.out.below hB2 (by omega))
              have HB2 := hid (HB1.out.trans (hB2.mono (by have := HB1.out.size; omega)))
              have HW2 := hid hw2
              clear hof HD3 hO1 hO2 hB2 HQ1 HN1 HB1 hw2 HX1 HOc1
              iterate 18 (first | go_values | go_skip | go_guarded | go_step | go_upon | go_back | go_simp)
              rw [← HW2.out]
              clear HW2
              obtain ⟨c0, c1, c2, c3, c4, f0, f1, f2, f3, f4⟩ := HQ2.out.cells
              obtain ⟨m0, m1, m2, m3, m4, _⟩ := HN2.out.cells
              have HLF := hid (((((HQ2.out.store0 (x := .string ⟨#[]⟩)).store1 (x := .slice none 0 0)).store2 (x := .slice none 0 0)).store3 (x := .slice none 0 0)).store4 (x := .int .i64 0))
              have HBL := hid (((((HB2.out.setCell (p := ⟨w.heap.size, 0, none⟩) (by simp) (.string ⟨#[]⟩)).setCell (p := ⟨w.heap.size, 1, none⟩) (by simp) (.slice none 0 0)).setCell (p := ⟨w.heap.size, 2, none⟩) (by simp) (.slice none 0 0)).setCell (p := ⟨w.heap.size, 3, none⟩) (by simp) (.slice none 0 0)).setCell (p := ⟨w.heap.size, 4, none⟩) (by simp) (.int .i64 0))
              go_wp2
              obtain ⟨y0, y1, y2, y3, y4, _⟩ := HLF.out.cells
              refine bodyPost_ret (v := .tuple #[.agg #[.string ⟨#[]⟩, .slice none 0 0, .slice none 0 0, .slice none 0 0, .int .i64 0], .int .i64 0, .int .i64 110]) (by simp [results, Try.results13, go_sem, y0, y1, y2, y3, y4]) rfl ?_
              unfold OfPost
              rw [HOF.out]
              exact ⟨.slice none 0 0, .slice none 0 0, .slice none 0 0, rfl, (OwnsT.nil _ 0).sees, (Owns.sees (base := 0) (World.ownsRow_nil _ _ _ _)), (Owns.sees (base := 0) (World.ownsRow_nil _ _ _ _)), HBL.out⟩
            | some q =>
              obtain ⟨sv, iv, cc⟩ := q
              have hok := ofL_ok hof
              rw [List.length_drop] at hok
              rw [hof] at hO1 hO2
              have HD4 : Hid (ofR l = match readN (l.drop (a + z + b0 + cc)) with
                | none => none
                | some (w, d) => if mayR ⟨ky, cs, sv, iv, (w : Int) - 1⟩ then some (⟨ky, cs, sv, iv, (w : Int) - 1⟩, a + z + b0 + cc + d) else none) := by unfold Hid; rw [HD3.out, hof]; first | done | rfl
              simp only [ofS, ofI, Option.getD_some] at hO1 hO2
              obtain ⟨ao1, cap1, rfl⟩ := hO1.form
              obtain ⟨ao2, cap2, rfl⟩ := hO2.form
              simp only [ofN, errOf, Option.getD_some, Option.isSome_some]
              obtain ⟨w2, hw2⟩ : ∃ w2, w2 = w1.alloc (.cells #[.slice ao1 sv.length cap1, .slice ao2 iv.length cap2] 25) := ⟨_, rfl⟩
              have hB2 : Below w1.heap.size w1 w2 := by rw [hw2]; exact below_alloc w1 _
              have hL2 : LabAt w2 w1.heap.size (.slice ao1 sv.length cap1) (.slice ao2 iv.length cap2) := by rw [hw2]; exact LabAt.new _ _ _
              have HX2 := hid (HX1.out.below hB2 (by omega))
              have HQ2 := hid (HQ1.out.below hB2 (by omega))
              have HN2 := hid (HN1.out.below hB2 (by omega))
              have HB2 := hid (HB1.out.trans (hB2.mono (by have := HB1.out.size; omega)))
              have HOc2 := hid (HOc1.out.below hB2)
              have HOs2 := hid (owns_le (hO1.below hB2) (base' := W.heap.size + 1) (by omega))
              have HOi2 := hid (owns_le (hO2.below hB2) (base' := W.heap.size + 1) (by omega))
              have hs2 := hL2.lt
              obtain ⟨b1, b2, _, _⟩ := hL2.cells
              obtain ⟨x0, x1, x2, x3, x4, g0, g1, g2, g3, g4⟩ := HX2.out.cells
              have hNu := rnumber_any s (a + z + b0 + cc) w2 hs (by omega)
              rw [← HLL.out, show ((a + z + b0 + cc : Nat) : Int) = (a : Int) + z + b0 + cc by omega] at hNu
              have HW2 := hid hw2
              clear hof HD3 hO1 hO2 hB2 hL2 hw2 HX1 HQ1 HN1 HB1 HOc1
              go_wp2_with fail
              rw [← HW2.out]
              refine hNu.mono ?_
              clear hNu HW2
              rintro e w3 ⟨rfl, hw3⟩
              subst w3
              cases hr : readN (l.drop (a + z + b0 + cc)) with
              | none =>
                have HOF : Hid (ofR l = none) := by unfold Hid; rw [HD4.out, hr]
                simp only [show numV none = 0 from rfl, show behind (a + z + b0 + cc) none = -1 from rfl]
                have HQ3 := hid (((HQ2.out.far (q := W.heap.size) (o := 2) (x := .slice ao1 sv.length cap1) (by omega)).far (q := W.heap.size) (o := 3) (x := .slice ao2 iv.length cap2) (by omega)).far (q := W.heap.size) (o := 4) (x := .int .i64 (-1)) (by omega))
                have HN3 := hid (((HN2.out.far (q := W.heap.size) (o := 2) (x := .slice ao1 sv.length cap1) (by omega)).far (q := W.heap.size) (o := 3) (x := .slice ao2 iv.length cap2) (by omega)).far (q := W.heap.size) (o := 4) (x := .int .i64 (-1)) (by omega))
                have HB3 := hid (((HB2.out.setCell (p := ⟨W.heap.size, 2, none⟩) (by simp; omega) (.slice ao1 sv.length cap1)).setCell (p := ⟨W.heap.size, 3, none⟩) (by simp; omega) (.slice ao2 iv.length cap2)).setCell (p := ⟨W.heap.size, 4, none⟩) (by simp; omega) (.int .i64 (-1)))
                clear hr HD4
                obtain ⟨c0, c1, c2, c3, c4, f0, f1, f2, f3, f4⟩ := HQ3.out.cells
                obtain ⟨m0, m1, m2, m3, m4, _⟩ := HN3.out.cells
                have HLF := hid (((((HQ3.out.store0 (x := .string ⟨#[]⟩)).store1 (x := .slice none 0 0)).store2 (x := .slice none 0 0)).store3 (x := .slice none 0 0)).store4 (x := .int .i64 0))
                have HBL := hid (((((HB3.out.setCell (p := ⟨w.heap.size, 0, none⟩) (by simp) (.string ⟨#[]⟩)).setCell (p := ⟨w.heap.size, 1, none⟩) (by simp) (.slice none 0 0)).setCell (p := ⟨w.heap.size, 2, none⟩) (by simp) (.slice none 0 0)).setCell (p := ⟨w.heap.size, 3, none⟩) (by simp) (.slice none 0 0)).setCell (p := ⟨w.heap.size, 4, none⟩) (by simp) (.int .i64 0))
                go_wp2
                obtain ⟨y0, y1, y2, y3, y4, _⟩ := HLF.out.cells
                refine bodyPost_ret (v := .tuple #[.agg #[.string ⟨#[]⟩, .slice none 0 0, .slice none 0 0, .slice none 0 0, .int .i64 0], .int .i64 0, .int .i64 110]) (by simp [results, Try.results13, go_sem, y0, y1, y2, y3, y4]) rfl ?_
                unfold OfPost
                rw [HOF.out]
                exact ⟨.slice none 0 0, .slice none 0 0, .slice none 0 0, rfl, (OwnsT.nil _ 0).sees, (Owns.sees (base := 0) (World.ownsRow_nil _ _ _ _)), (Owns.sees (base := 0) (World.ownsRow_nil _ _ _ _)), HBL.out⟩
              | some q =>
                obtain ⟨wv, d⟩ := q
                have hw0 := readN_size hr
                rw [List.length_drop] at hw0
                simp only [show numV (some (wv, d)) = wv from rfl, show behind (a + z + b0 + cc) (some (wv, d)) = ((a + z + b0 + cc + d : Nat) : Int) from rfl]
                have HD5 : Hid (ofR l = if mayR ⟨ky, cs, sv, iv, (wv : Int) - 1⟩ then some (⟨ky, cs, sv, iv, (wv : Int) - 1⟩, a + z + b0 + cc + d) else none) := by unfold Hid; rw [HD4.out, hr]; first | done | rfl
                obtain ⟨w3, hw3⟩ : ∃ w3, w3 = ((w2.setCell ⟨W.heap.size, 2, none⟩ (.slice ao1 sv.length cap1)).setCell ⟨W.heap.size, 3, none⟩ (.slice ao2 iv.length cap2)).setCell ⟨W.heap.size, 4, none⟩ (.int .i64 ((wv : Int) - 1)) := ⟨_, rfl⟩
                have hX3 : RowAt w3 W.heap.size (.string ky) (.slice ao cs.length cap) (.slice ao1 sv.length cap1) (.slice ao2 iv.length cap2) (.int .i64 ((wv : Int) - 1)) := by rw [hw3]; exact HX2.out.store2.store3.store4
                have hQ3 : RowAt w3 w.heap.size (.string ⟨#[]⟩) (.slice none 0 0) (.slice none 0 0) (.slice none 0 0) (.int .i64 0) := by rw [hw3]; exact ((HQ2.out.far (by omega)).far (by omega)).far (by omega)
                have hN3 : RowAt w3 (w.heap.size + 1) (.string ⟨#[]⟩) (.slice none 0 0) (.slice none 0 0) (.slice none 0 0) (.int .i64 0) := by rw [hw3]; exact ((HN2.out.far (by omega)).far (by omega)).far (by omega)
                have hB3 : Below w.heap.size w w3 := by rw [hw3]; exact ((HB2.out.setCell (p := ⟨W.heap.size, 2, none⟩) (by simp; omega) _).setCell (p := ⟨W.heap.size, 3, none⟩) (by simp; omega) _).setCell (p := ⟨W.heap.size, 4, none⟩) (by simp; omega) _
                have hOc3 : OwnsT w3 (W.heap.size + 1) (.slice ao cs.length cap) cs := by rw [hw3]; exact own_set (own_set (own_set HOc2.out (by omega)) (by omega)) (by omega)
                have hOs3 : Owns w3 (W.heap.size + 1) (.slice ao1 sv.length cap1) sv := by rw [hw3]; exact own_set (own_set (own_set HOs2.out (by omega)) (by omega)) (by omega)
                have hOi3 : Owns w3 (W.heap.size + 1) (.slice ao2 iv.length cap2) iv := by rw [hw3]; exact own_set (own_set (own_set HOi2.out (by omega)) (by omega)) (by omega)
                have hs3b := hX3.lt
                have hmb := mayB_iff.1 hok.1
                have hM := mayRow_any _ ⟨ky, cs, sv, iv, (wv : Int) - 1⟩ _ _ _ w3 ⟨rfl, hOc3.sees, hOs3.sees, hOi3.sees, by have := HCL.out; simp only; omega, by simp only; omega, by simp only; omega, by simp only; omega, fun c hc => by have := HCZ.out c hc; omega⟩
                unfold rowVal at hM
                obtain ⟨i0, i1, i2, i3, i4, _⟩ := hX3.cells
                rw [hw3] at i0 i1 i2 i3 i4
                have hend : ¬ ((a + z + b0 + cc + d : Nat) : Int) < 0 := by omega
                have HX3 := hid hX3
                have HQ3 := hid hQ3
                have HN3 := hid hN3
                have HB3 := hid hB3
                have HOc3 := hid hOc3
                have HOs3 := hid hOs3
                have HOi3 := hid hOi3
                have HW3b := hid hw3
                clear hr HD4 hX3 hQ3 hN3 hB3 hOc3 hOs3 hOi3 hw3 HX2 HQ2 HN2 HB2 HOc2 HOs2 HOi2 hmb hok
                generalize mayR ⟨ky, cs, sv, iv, (wv : Int) - 1⟩ = bm at *
                go_wp2_with fail
                rw [← HW3b.out]
                refine hM.mono ?_
                clear hM HW3b i0 i1 i2 i3 i4
                rintro e w4 ⟨rfl, q4⟩
                have HX4 := hid (HX3.out.below q4 (by omega))
                have HQ4 := hid (HQ3.out.below q4 (by omega))
                have HN4 := hid (HN3.out.below q4 (by omega))
                have HB4 := hid (HB3.out.trans (q4.mono (by have := HB3.out.size; omega)))
                have HOc4 := hid (HOc3.out.below q4)
                have HOs4 := hid (HOs3.out.below q4)
                have HOi4 := hid (HOi3.out.below q4)
                clear q4 HX3 HQ3 HN3 HB3 HOc3 HOs3 HOi3
                cases bm
                · have HOF : Hid (ofR l = none) := HD5.out
                  clear HD5
                  obtain ⟨c0, c1, c2, c3, c4, f0, f1, f2, f3, f4⟩ := HQ4.out.cells
                  obtain ⟨m0, m1, m2, m3, m4, _⟩ := HN4.out.cells
                  have HLF := hid (((((HQ4.out.store0 (x := .string ⟨#[]⟩)).store1 (x := .slice none 0 0)).store2 (x := .slice none 0 0)).store3 (x := .slice none 0 0)).store4 (x := .int .i64 0))
                  have HBL := hid (((((HB4.out.setCell (p := ⟨w.heap.size, 0, none⟩) (by simp) (.string ⟨#[]⟩)).setCell (p := ⟨w.heap.size, 1, none⟩) (by simp) (.slice none 0 0)).setCell (p := ⟨w.heap.size, 2, none⟩) (by simp) (.slice none 0 0)).setCell (p := ⟨w.heap.size, 3, none⟩) (by simp) (.slice none 0 0)).setCell (p := ⟨w.heap.size, 4, none⟩) (by simp) (.int .i64 0))
                  go_wp2
                  obtain ⟨y0, y1, y2, y3, y4, _⟩ := HLF.out.cells
                  refine bodyPost_ret (v := .tuple #[.agg #[.string ⟨#[]⟩, .slice none 0 0, .slice none 0 0, .slice none 0 0, .int .i64 0], .int .i64 0, .int .i64 110]) (by simp [results, Try.results13, go_sem, y0, y1, y2, y3, y4]) rfl ?_
                  unfold OfPost
                  rw [HOF.out]
                  exact ⟨.slice none 0 0, .slice none 0 0, .slice none 0 0, rfl, (OwnsT.nil _ 0).sees, (Owns.sees (base := 0) (World.ownsRow_nil _ _ _ _)), (Owns.sees (base := 0) (World.ownsRow_nil _ _ _ _)), HBL.out⟩
                · have HOF : Hid (ofR l = some (⟨ky, cs, sv, iv, (wv : Int) - 1⟩, a + z + b0 + cc + d)) := HD5.out
                  clear HD5
                  obtain ⟨c0, c1, c2, c3, c4, f0, f1, f2, f3, f4⟩ := HQ4.out.cells
                  obtain ⟨m0, m1, m2, m3, m4, _⟩ := HX4.out.cells
                  have HLF := hid (((((HQ4.out.store0 (x := .string ky)).store1 (x := .slice ao cs.length cap)).store2 (x := .slice ao1 sv.length cap1)).store3 (x := .slice ao2 iv.length cap2)).store4 (x := .int .i64 ((wv : Int) - 1)))
                  have HBL := hid (((((HB4.out.setCell (p := ⟨w.heap.size, 0, none⟩) (by simp) (.string ky)).setCell (p := ⟨w.heap.size, 1, none⟩) (by simp) (.slice ao cs.length cap)).setCell (p := ⟨w.heap.size, 2, none⟩) (by simp) (.slice ao1 sv.length cap1)).setCell (p := ⟨w.heap.size, 3, none⟩) (by simp) (.slice ao2 iv.length cap2)).setCell (p := ⟨w.heap.size, 4, none⟩) (by simp) (.int .i64 ((wv : Int) - 1)))
                  have HO1 := hid (own_set (k := 4) (x := .int .i64 ((wv : Int) - 1)) (own_set (k := 3) (x := .slice ao2 iv.length cap2) (own_set (k := 2) (x := .slice ao1 sv.length cap1) (own_set (k := 1) (x := .slice ao cs.length cap) (own_set (k := 0) (x := .string ky) HOc4.out (p := w.heap.size) (by omega)) (p := w.heap.size) (by omega)) (p := w.heap.size) (by omega)) (p := w.heap.size) (by omega)) (p := w.heap.size) (by omega))
                  have HO2 := hid (own_set (k := 4) (x := .int .i64 ((wv : Int) - 1)) (own_set (k := 3) (x := .slice ao2 iv.length cap2) (own_set (k := 2) (x := .slice ao1 sv.length cap1) (own_set (k := 1) (x := .slice ao cs.length cap) (own_set (k := 0) (x := .string ky) HOs4.out (p := w.heap.size) (by omega)) (p := w.heap.size) (by omega)) (p := w.heap.size) (by omega)) (p := w.heap.size) (by omega)) (p := w.heap.size) (by omega))
                  have HO3 := hid (own_set (k := 4) (x := .int .i64 ((wv : Int) - 1)) (own_set (k := 3) (x := .slice ao2 iv.length cap2) (own_set (k := 2) (x := .slice ao1 sv.length cap1) (own_set (k := 1) (x := .slice ao cs.length cap) (own_set (k := 0) (x := .string ky) HOi4.out (p := w.heap.size) (by omega)) (p := w.heap.size) (by omega)) (p := w.heap.size) (by omega)) (p := w.heap.size) (by omega)) (p := w.heap.size) (by omega))
                  go_wp2
                  obtain ⟨y0, y1, y2, y3, y4, _⟩ := HLF.out.cells
                  refine bodyPost_ret (v := .tuple #[.agg #[.string ky, .slice ao cs.length cap, .slice ao1 sv.length cap1, .slice ao2 iv.length cap2, .int .i64 ((wv : Int) - 1)], .int .i64 ((a + z + b0 + cc + d : Nat) : Int), .int .i64 0]) (by simp [results, Try.results13, go_sem, y0, y1, y2, y3, y4]) rfl ?_
                  unfold OfPost
                  rw [HOF.out]
                  exact ⟨_, _, _, rfl, OwnsT.sees (base := W.heap.size + 1) HO1.out, Owns.sees (base := W.heap.size + 1) HO2.out, Owns.sees (base := W.heap.size + 1) HO3.out, HBL.out⟩

end Go.Proofs.Ytkbceaofijngoaa
