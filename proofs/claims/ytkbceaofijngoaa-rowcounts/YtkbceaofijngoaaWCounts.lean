/-
  The walk of the law RowCounts.
-/
import Derived.Test.YtkbceaofijngoaaWSame
import Derived.Test.YtkbceaofijngoaaWAwake
namespace Go.Proofs.Ytkbceaofijngoaa
open Go.RowKit
set_option linter.unusedVariables false

/-- 'append(v, u...)' of texts, v the call's own. -/
theorem wpList_appTT {w : World} {ops : Array Oper} {rest : List Oper} {o : Oper} {a : Act} {Q : Exit → Act → World → Prop} (hgd : o.guard = none) (s x : Operand)
    (ho : o.op = .call { callee := .builtin .append, args := #[s, x], argTypes := #[22, 22] }) (base : Nat) (v : Value) (xs : List ByteArray) (hs : a.eval s = v) (hown : OwnsT w base v xs)
    (u : Value) (ys : List ByteArray) (hx : a.eval x = u) (hsee : SeesT w u ys) (hb : (xs.length + ys.length) * 16 ≤ 140737488355328) (hbase : base ≤ w.heap.size)
    (h : ∀ v' w', OwnsT w' base v' (xs ++ ys) → w.grownBy w' v.ownBlock → wpList Try.prog ops Q rest (a.put o.dst v') w') : wpList Try.prog ops Q (o :: rest) a w := by
  obtain ⟨i0, hi, hz0, hz1, hz2⟩ := info_parts Try.info9
  obtain ⟨b, off, ao, cap, rfl, hcap, hnil, hao, hcell⟩ := hsee
  by_cases hy : ys = []
  · subst hy
    cases ao with
    | none =>
      obtain rfl := hnil rfl
      refine wpList_append_own_none hgd s x 22 ho base 9 i0 1 Try.underlying22 hi v _ _ hs hown hx ?_
      exact h v w (by simpa using hown) ⟨rfl, rfl, rfl, Nat.le_refl _, fun _ _ _ => rfl⟩
    | some ad =>
      refine wpList_append_own w hgd s x 22 ho base 9 i0 (.string ⟨#[]⟩) 1 16 Try.underlying22 hi hz0 hz1 hz2 (by decide) (by decide) v _ _ hs hown ad 0 cap [] hx rfl (by simp) (by simp) (by simp only [maxLen]; simp at hb; omega) (by simpa using hb) hbase ?_
      intro v' w' h1 h2 _
      exact h v' w' (by simpa [OwnsT] using h1) h2
  · obtain rfl := hao hy
    refine wpList_append_own w hgd s x 22 ho base 9 i0 (.string ⟨#[]⟩) 1 16 Try.underlying22 hi hz0 hz1 hz2 (by decide) (by decide) v _ _ hs hown ⟨b, off, none⟩ ys.length cap (cellsT ys) hx (by simp [cellsT_len]) ?_ (cellsT_one ys) (by simp only [maxLen]; omega) hb hbase ?_
    · intro j y hj
      have hjl : j < ys.length := by
        have := (List.getElem?_eq_some_iff.1 hj).1
        simpa [cellsT_len] using this
      rw [addr_add, hcell j hjl]
      rw [cellsT_get ys j hjl] at hj
      exact hj
    · intro v' w' h1 h2 _
      exact h v' w' (by simpa [OwnsT, cellsT_app] using h1) h2

theorem OwnsT.grown {w w' : World} {base : Nat} {r : Option Nat} {v : Value} {xs : List ByteArray} (h : OwnsT w base v xs) (hg : w.grownBy w' r) (hr : ∀ j, v.ownBlock = some j → some j ≠ r) : OwnsT w' base v xs :=
  h.same (fun j hj => hg.block j (h.lt j hj) (hr j hj))
theorem OwnsT.set {w : World} {base p k : Nat} {v x : Value} {xs : List ByteArray} (h : OwnsT w base v xs) (hp : p < base) : OwnsT (w.setCell ⟨p, k, none⟩ x) base v xs :=
  h.same (fun j hj => Below.heap_setCell w ⟨p, k, none⟩ x j (by have := h.block j hj; show j ≠ p; omega))

theorem see1 {w : World} {t : TypeId} {v : Value} {n : Nat} (h : n = w.heap.size) : (w.alloc (.cells #[v] t)).cell? ⟨n, 0, none⟩ = some v := by
  subst h
  simp
theorem size_set (w : World) (a : Addr) (v : Value) : (w.setCell a v).heap.size = w.heap.size := by simp [World.setCell]
theorem size_box (w : World) (o : Obj) : (w.alloc o).heap.size = w.heap.size + 1 := by simp

/-- A row with one more cell. -/
theorem mayR_more {r : RowV} (h : mayR r = true) (c : ByteArray) : mayR { r with cells := r.cells ++ [c] } = (decide (r.cells.length ≠ 8) && decide (c.size ≤ 256)) := by
  obtain ⟨k, ⟨c1, c2⟩, hl, w1, w2⟩ := mayR_iff.1 h
  cases hx : (decide (r.cells.length ≠ 8) && decide (c.size ≤ 256))
  · cases hy : mayR { r with cells := r.cells ++ [c] }
    · rfl
    · obtain ⟨_, ⟨d1, d2⟩, _⟩ := mayR_iff.1 hy
      simp only [List.length_append, List.length_singleton] at d1
      have d3 := d2 c (by simp)
      simp at hx
      omega
  · simp at hx
    refine mayR_iff.2 ⟨k, ⟨by simp only [List.length_append, List.length_singleton]; omega, fun d hd => ?_⟩, hl, w1, w2⟩
    rcases List.mem_append.1 hd with hd | hd
    · exact c2 d hd
    · simp at hd
      subst hd
      exact hx.2
theorem sizeR_more (r : RowV) (c : ByteArray) : sizeR { r with cells := r.cells ++ [c] } = sizeR r + c.size := by
  simp only [sizeR, sumC_snoc]
  omega
theorem size_le {r : RowV} (h : mayR r = true) : sizeR r ≤ 4000 := by
  obtain ⟨k, ⟨c1, c2⟩, _⟩ := mayR_iff.1 h
  have := sumC_le r.cells 256 c2
  simp only [sizeR]
  omega

set_option maxRecDepth 20000 in
set_option maxHeartbeats 4000000 in
theorem counts_walk (v : Value) (r : RowV) (vc vs vi : Value) (s : ByteArray) (w : World) (h : SeesR w v r vc vs vi) (hss : s.size ≤ 140737488351232) :
    Calls Try.prog 6 #[v, .string s] w fun e w' => e = .returned (.bool true) ∧ Below w.heap.size w w' := by
  obtain ⟨W, hW⟩ : ∃ W, W = w.alloc (.cells #[.string r.key, vc, vs, vi, .int .i64 r.who] 27) := ⟨_, rfl⟩
  have hB : Below w.heap.size w W := by rw [hW]; exact below_alloc w _
  have hA : RowAt W w.heap.size (.string r.key) vc vs vi (.int .i64 r.who) := by rw [hW]; exact RowAt.new _ _ _ _ _ _
  have hsz := hA.lt
  have hS := h.below hB
  have hR := size_row v r vc vs vi W hS
  have HM := hid (fun w1 (hb : Below W.heap.size W w1) => mayRow_any v r vc vs vi w1 (hS.below hb))
  have HSE := hid (fun w1 (hb : Below W.heap.size W w1) => hS.below hb)
  have HA := hid hA
  have HB := hid hB
  obtain ⟨c0, c1, c2, c3, c4, _⟩ := hA.cells
  cases hm : mayR r
  · rw [hm] at hR HM
    obtain rfl := h.val
    unfold rowVal at *
    clear hA hB hS h HSE
    generalize sizeR r = sz at *
    generalize r.key = ky at *
    generalize r.who = x at *
    go_enter Try.func6, Try.ntmps6
    go_wp2_with fail
    rw [← hW]
    refine hR.mono ?_
    clear hR hW
    rintro e w1 ⟨rfl, q1⟩
    obtain ⟨d0, d1, d2, d3, d4, _⟩ := (HA.out.below q1 hsz).cells
    have hM := HM.out w1 q1
    have HQ1 := hid q1
    have hs1 := q1.size
    clear q1 HM c0 c1 c2 c3 c4
    unfold errR
    go_wp2_with fail
    refine hM.mono ?_
    clear hM
    rintro e w2 ⟨rfl, q2⟩
    have HF := hid (HB.out.trans ((HQ1.out.trans (q2.mono hs1)).mono (by omega)))
    have hs2 := q2.size
    have hAW := awake_any w2
    clear q2
    go_wp2_with fail
    refine hAW.mono ?_
    clear hAW
    rintro e w3 ⟨rfl, q3⟩
    go_wp2
    go_ret
    exact ⟨rfl, HF.out.trans (q3.mono (by omega))⟩
  · rw [hm] at hR
    have hMO := mayR_more hm s
    have hSO := sizeR_more r s
    have hle := size_le hm
    obtain ⟨⟨k1, k2⟩, ⟨n1, n2⟩, _⟩ := mayR_iff.1 hm
    have HSU := hid (fun k => sumC_takes n1 n2 k)
    have HN := hid n2
    have HT : Hid (∀ k, (hk : k < r.cells.length) → sumC (r.cells.take (k + 1)) = sumC (r.cells.take k) + r.cells[k].size) := fun k hk => sumC_take hk
    have HE : Hid (sizeR r = r.key.size + 16 + sumC r.cells) := rfl
    have HX : Hid (∀ (w1 : World) (v1 : Value), SeesT w1 v1 (r.cells ++ [s]) → Sees w1 vs r.s → Sees w1 vi r.i → SeesR w1 (.agg #[.string r.key, v1, vs, vi, .int .i64 r.who]) { r with cells := r.cells ++ [s] } v1 vs vi) := by
      unfold Hid
      intro w1 v1 h1 h2 h3
      refine ⟨rfl, h1, h2, h3, by simp only [List.length_append, List.length_singleton]; omega, h.slen, h.ilen, h.klen, fun c hc => ?_⟩
      rcases List.mem_append.1 hc with hc | hc
      · exact h.tlen c hc
      · simp at hc
        subst hc
        omega
    have HR2 := hid (fun w1 v1 hx => size_row (.agg #[.string r.key, v1, vs, vi, .int .i64 r.who]) { r with cells := r.cells ++ [s] } v1 vs vi w1 hx)
    rw [hMO, hSO] at HR2
    obtain rfl := h.val
    unfold rowVal at *
    clear hA hB hS h HM n2 hm hMO hSO
    go_enter Try.func6, Try.ntmps6
    go_wp2_with fail
    rw [← hW]
    refine hR.mono ?_
    clear hR hW
    rintro e w1 ⟨rfl, q1⟩
    have hSE := HSE.out w1 q1
    obtain ⟨b, off, ao, cap, hvc, hcap, _, hao, hcell⟩ := hSE.cells
    have HA1 := hid (HA.out.below q1 hsz)
    have HQ1 := hid (HB.out.trans (q1.mono (by omega)))
    have hs1 := q1.size
    have HTS := hid hSE.cells
    have HSS := hid hSE.s
    have HSI := hid hSE.i
    obtain ⟨_, _, ao2, cap2, hvs, _⟩ := hSE.s
    obtain ⟨_, _, ao3, cap3, hvi, _⟩ := hSE.i
    subst hvc
    subst hvs
    subst hvi
    have HC := hid hcell
    obtain ⟨d0, d1, d2, d3, d4, _⟩ := HA1.out.cells
    clear q1 HSE c0 c1 c2 c3 c4 hSE hcell HB HA
    generalize sizeR r = sz at *
    generalize r.key = ky at *
    generalize r.who = x at *
    generalize r.s = rs at *
    generalize r.i = ri at *
    generalize r.cells = l at *
    unfold errR
    go_wp2_with fail
    go_loop [7, 8] (fun n i => ∃ (k m : Nat), k ≤ l.length ∧ i = .int .i64 (k : Int) ∧ n = .int .i64 (m : Int) ∧ m = ky.size + sumC (l.take k)) (fun _ i => l.length - (intOf i).toNat)
    case atStart => exact ⟨0, ky.size, Nat.zero_le _, rfl, rfl, by simp [sumC]⟩
    case round =>
      obtain ⟨k, m, hk, rfl, rfl, hm⟩ := hrel
      have hs := HSU.out k
      have HMm := hid hm
      have hm2 : m ≤ 4000 := by omega
      clear hm hs
      by_cases hlt : k < l.length
      · obtain rfl := hao (by intro h; rw [h] at hlt; simp at hlt)
        have hlt' : (k : Int) < (l.length : Int) := by omega
        have hc := HC.out k hlt
        have HT2 := hid (HT.out k hlt)
        have hsz := HN.out l[k] (List.getElem_mem hlt)
        obtain ⟨y, hy⟩ : ∃ y, y = l[k] := ⟨_, rfl⟩
        rw [← hy] at hc HT2 hsz
        clear hy
        go_wp2
        go_round
        case rel => exact ⟨k + 1, m + y.size, by omega, by go_num, by go_num, by rw [HT2.out, HMm.out]; omega⟩
        case measure => simp [intOf]; omega
      · have hlt' : ¬ (k : Int) < (l.length : Int) := by omega
        have hF := HMm.out
        rw [List.take_of_length_le (by omega)] at hF
        have hmz : m + 16 = sz := by rw [HE.out]; omega
        have HMZ := hid hmz
        clear hF HMm hmz HT HSU HE
        obtain ⟨W4, hW4⟩ : ∃ W4, W4 = w1.alloc (.cells #[.string ky, .slice none 0 0, .slice ao2 rs.length cap2, .slice ao3 ri.length cap3, .int .i64 x] 27) := ⟨_, rfl⟩
        have hB4 : Below w1.heap.size w1 W4 := by rw [hW4]; exact below_alloc w1 _
        have hX4 : RowAt W4 w1.heap.size (.string ky) (.slice none 0 0) (.slice ao2 rs.length cap2) (.slice ao3 ri.length cap3) (.int .i64 x) := by rw [hW4]; exact RowAt.new _ _ _ _ _ _
        have hx4 := hX4.lt
        obtain ⟨e0, e1, e2, e3, e4, _⟩ := (HA1.out.below hB4 (by omega)).cells
        rw [hW4] at e0 e1 e2 e3 e4
        have HB4 := hid hB4
        have HX4 := hid hX4
        have HW4 := hid hW4
        clear hB4 hX4 hW4
        go_wp2_with (first
          | (at_builtin
             rw [← HW4.out]
             refine wpList_appTT rfl _ _ rfl (w1.heap.size + 1) (.slice none 0 0) [] rfl (OwnsT.nil _ _) (.slice ao l.length cap) l rfl (HTS.out.below HB4.out) (by simp; omega) (by omega) ?_
             intro v2 w2 hO2 hG2
             rw [List.nil_append] at hO2
             have HB2 := hid (below_grownBy HB4.out hG2 (fun j hj => by simp [Value.ownBlock] at hj) (by omega))
             have hX2 : RowAt w2 w1.heap.size (.string ky) (.slice none 0 0) (.slice ao2 rs.length cap2) (.slice ao3 ri.length cap3) (.int .i64 x) := HX4.out.same (hG2.block _ hx4 (by simp [Value.ownBlock]))
             have HX2 := hid hX2
             obtain ⟨g0, g1, g2, g3, g4, g5, g6, g7, g8, g9⟩ := hX2.cells
             have hx2 := hX2.lt
             obtain ⟨aoT, capT, hT⟩ := hO2.shape
             subst hT
             have HO2 := hid hO2
             clear hO2 hG2 hX2 e0 e1 e2 e3 e4)
          | (at_builtin
             refine wpList_appOne Try.underlying22 Try.info9 (by decide) rfl _ _ rfl (w1.heap.size + 1) (.slice aoT l.length capT) l.length (cellsT l) rfl (OwnsT.below (HO2.out.set (k := 1) (x := .slice aoT l.length capT) (by omega)) (below_alloc _ _)) _ (.string s) rfl (see1 (by simp [World.setCell])) rfl (by omega) (by decide) (by rw [size_box, size_set]; omega) ?_
             intro g cap5 w5 hO5 hG5 hg5 hl5
             have hO5' := OwnsT.app hO5
             have hbk : ∀ j, (Value.slice aoT l.length capT).ownBlock = some j → w1.heap.size + 1 ≤ j := HO2.out.block
             have HB5 := hid (below_grownBy ((HB2.out.setCell (p := ⟨w1.heap.size, 1, none⟩) (Nat.le_refl _) (.slice aoT l.length capT)).alloc (by first | (rw [size_box, size_set]; omega) | (rw [size_set]; omega)) (.cells #[.string s] 9)) hG5 (fun j hj => by have := hbk j hj; omega) (by first | (rw [size_box, size_set]; omega) | (rw [size_set]; omega)))
             have hX5 : RowAt w5 w1.heap.size (.string ky) (.slice aoT l.length capT) (.slice ao2 rs.length cap2) (.slice ao3 ri.length cap3) (.int .i64 x) := ((HX2.out.store1 (x := .slice aoT l.length capT)).box (.cells #[.string s] 9)).same (hG5.block _ (by first | (rw [size_box, size_set]; omega) | (rw [size_set]; omega)) (fun h => by have := hbk _ h.symm; omega))
             obtain ⟨i0, i1, i2, i3, i4, i5, i6, i7, i8, i9⟩ := hX5.cells
             have hX6 := hX5.store1 (x := .slice (some ⟨g, 0, none⟩) (l.length + 1) cap5)
             obtain ⟨j0, j1, j2, j3, j4, j5, j6, j7, j8, j9⟩ := hX6.cells
             have HO6 := hid (hO5'.set (k := 1) (x := .slice (some ⟨g, 0, none⟩) (l.length + 1) cap5) (p := w1.heap.size) (by omega))
             have HB6 := hid (HB5.out.setCell (p := ⟨w1.heap.size, 1, none⟩) (Nat.le_refl _) (.slice (some ⟨g, 0, none⟩) (l.length + 1) cap5))
             have hx6 := hX6.lt
             have HX6 := hid hX6
             clear hO5 hO5' hG5 hg5 hX5 hX6 HO2 HX2 HB5 HB2 g0 g1 g2 g3 g4 g5 g6 g7 g8 g9)
          | fail)
        have hSR := HX.out _ _ HO6.out.sees (HSS.out.below HB6.out) (HSI.out.below HB6.out)
        have hR2 := HR2.out _ _ hSR
        obtain ⟨w6, hw6⟩ : ∃ w6, w6 = w5.setCell ⟨w1.heap.size, 1, none⟩ (.slice (some ⟨g, 0, none⟩) (l.length + 1) cap5) := ⟨_, rfl⟩
        rw [← hw6] at hR2 HB6 HX6 HO6 hx6 j0 j1 j2 j3 j4 ⊢
        clear hSR HR2 hw6 i0 i1 i2 i3 i4 i5 i6 i7 i8 i9 j5 j6 j7 j8 j9 HX
        refine hR2.mono ?_
        clear hR2
        rintro e w7 ⟨rfl, q7⟩
        have HB7 := hid (HB6.out.trans (q7.mono (by omega)))
        have HF := hid (HQ1.out.trans (HB7.out.mono (by have := HQ1.out.size; omega)))
        have hs7 := q7.size
        obtain ⟨o0, o1, o2, o3, o4, _⟩ := (HA1.out.below HB7.out (by omega)).cells
        have hAW := awake_any w7
        have hs8 := HF.out.size
        clear q7 j0 j1 j2 j3 j4 HO6 HX6 HB6 HB7
        have hmz := HMZ.out
        by_cases h8 : l.length = 8
        · have f8 : ((l.length : Int) == 8) = true := by rw [beq_iff_eq]; omega
          have f9 : ((sz : Int) == (m : Int) + 16) = true := by rw [beq_iff_eq]; omega
          rw [show (decide (l.length ≠ 8) && decide (s.size ≤ 256)) = false by simp [h8]]
          clear h8 hmz
          unfold errR
          go_wp2_with fail
          refine hAW.mono ?_
          clear hAW
          rintro e w8 ⟨rfl, q8⟩
          go_wp2
          go_ret
          exact ⟨rfl, HF.out.trans (q8.mono hs8)⟩
        · have f8 : ((l.length : Int) == 8) = false := by rw [beq_eq_false_iff_ne]; omega
          by_cases h6 : s.size ≤ 256
          · have f6 : decide ((256 : Int) < (s.size : Int)) = false := by simp; omega
            have f9 : ((sz : Int) == (m : Int) + 16) = true := by rw [beq_iff_eq]; omega
            have f5 : (((sz + s.size : Nat) : Int) == (sz : Int) + (s.size : Int)) = true := by rw [beq_iff_eq]; omega
            rw [show (decide (l.length ≠ 8) && decide (s.size ≤ 256)) = true by simp [h8, h6]]
            clear h8 hmz
            unfold errR
            go_wp2_with fail
            refine hAW.mono ?_
            clear hAW
            rintro e w8 ⟨rfl, q8⟩
            go_wp2
            go_ret
            exact ⟨rfl, HF.out.trans (q8.mono hs8)⟩
          · have f6 : (256 : Int) < (s.size : Int) := by omega
            have f9 : ((sz : Int) == (m : Int) + 16) = true := by rw [beq_iff_eq]; omega
            rw [show (decide (l.length ≠ 8) && decide (s.size ≤ 256)) = false by simp [h6]]
            clear h8 hmz h6
            unfold errR
            go_wp2_with fail
            refine hAW.mono ?_
            clear hAW
            rintro e w8 ⟨rfl, q8⟩
            go_wp2
            go_ret
            exact ⟨rfl, HF.out.trans (q8.mono hs8)⟩

end Go.Proofs.Ytkbceaofijngoaa
