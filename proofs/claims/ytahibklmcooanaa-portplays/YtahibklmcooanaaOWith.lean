/-
  The document's mailboxes: Lacks, with.
-/
import Derived.Test.YtahibklmcooanaaODoc
namespace Go.Proofs.Ytahibklmcooanaa
open Go.RowKit
set_option linter.unusedVariables false
set_option linter.unusedSimpArgs false

theorem wpList_append_run {w : World} {ops : Array Oper} {rest : List Oper} {o : Oper} {a : Act} {Q : Exit → Act → World → Prop} (hgd : o.guard = none) (s x : Operand) (dT sT : TypeId)
    (ho : o.op = .call { callee := .builtin .append, args := #[s, x], argTypes := #[dT, sT] }) (v u : Value) (hs : a.eval s = v) (hx : a.eval x = u) {v' : Value} {w' : World} (hr : (Builtin.append_ #[dT, sT] o.type #[v, u]).run Try.prog w = .ok v' w')
    (h : wpList Try.prog ops Q rest (a.put o.dst v') w') : wpList Try.prog ops Q (o :: rest) a w := by
  refine wpList_plain hgd fun K hK => ?_
  unfold Oper.wp
  simp [execOp, ho, resolve, invoke, builtin, hs, hx, hr, Result.andThen]
  exact hK _ _ h
theorem seesOneD (V : World) (x : Int) : Sees (V.alloc (.cells #[.int .i64 x] 3)) (.slice (some ⟨V.heap.size, 0, none⟩) 1 1) [x] := by
  refine ⟨V.heap.size, 0, _, 1, rfl, Nat.le_refl _, (fun h => by cases h), fun _ => rfl, fun j hj => ?_⟩
  have : j = 0 := by simp at hj; omega
  subst this
  simp

set_option maxHeartbeats 1000000 in
theorem rlacks_any (to : Nat) (hto : to ≤ 1000) (who : Int) (vs vi vo : Value) (s i own : List Int) (w : World) (hS : SuAt w vs vi vo s i own) (hl : s.length ≤ 64) :
    Calls Try.prog 40 #[suV who vs vi vo, .int .i64 to] w fun e w' => ∃ v, e = .returned v ∧ Owns w' w.heap.size v (lackS s to) ∧ Below w.heap.size w w' := by
  have e1 : IntKind.i64.wrap (2 * (to : Int)) = 2 * to := by rw [IntKind.wrap_i64]; omega
  have e2 : IntKind.i64.wrap (2 * (to : Int) + 1) = 2 * to + 1 := by rw [IntKind.wrap_i64]; omega
  obtain ⟨W, hW⟩ : ∃ W, W = w.alloc (.cells #[.int .i64 who, vs, vi, vo] 39) := ⟨_, rfl⟩
  have hbW : Below w.heap.size w W := by rw [hW]; exact below_alloc w _
  have hX : SuBox W w.heap.size who vs vi vo := by rw [hW]; exact SuBox.new _ _ _ _ _
  have sW : W.heap.size = w.heap.size + 1 := by rw [hW]; simp
  have hL0 := (refLess_any vs (.slice (some ⟨W.heap.size, 0, none⟩) 1 1) s [2 * (to : Int) + 1] (W.alloc (.cells #[.int .i64 (2 * (to : Int) + 1)] 3)) ((hS.ss.below hbW).box _) (seesOneD W _) (by simp; omega))
  have ha := hid (below_alloc W (.cells #[.int .i64 (2 * (to : Int) + 1)] 3))
  rw [show (Value.slice (some ⟨W.heap.size, 0, none⟩) 1 1) = .slice (some ⟨w.heap.size + 1, 0, none⟩) 1 1 by rw [sW]] at hL0
  have hL := hid hL0
  clear sW hL0
  obtain ⟨x0, x1, x2, x3⟩ := hX
  have HB := hid hbW
  have HW := hid hW
  clear hS hbW hW
  unfold suV
  go_enter Try.func40, Try.ntmps40
  go_wp2_with fail
  rw [← HW.out]
  clear HW
  refine hL.out.mono ?_
  rintro e w1 ⟨v, rfl, hO, hB1⟩
  have HO := hid (owns_le hO (Nat.le_trans HB.out.size ha.out.size))
  have hb1 := ha.out.trans (hB1.mono ha.out.size)
  have HB1 := hid (HB.out.trans (hb1.mono HB.out.size))
  obtain ⟨b, off, ao, cap, hv, _⟩ := hO.sees
  subst hv
  clear hO hB1 hb1 hL
  go_wp2
  go_ret
  exact ⟨_, rfl, HO.out, HB1.out⟩

set_option maxRecDepth 20000 in
set_option maxHeartbeats 2000000 in
theorem rwith_any (room : Int) (vL : Value) (n i : Nat) (hi : i < n) (hn : n ≤ 16) (F : Nat → Prop) (d : Nat → List Msg) (l : Value) (xs : List Msg) (w : World) (hD : LSees F w vL n d) (hl : MSees F w l xs) (hF : ∀ k, w.heap.size ≤ k → ¬ F k) :
    Calls Try.prog 41 #[poV room vL, .int .i64 i, l] w fun e w' => ∃ v', e = .returned (poV room v') ∧ LSees F w' v' n (fun j => if j = i then xs else d j) ∧ Below w.heap.size w w' := by
  obtain ⟨i0, hi0, hz0, hz1, hz2⟩ := info_parts Try.infoL
  obtain ⟨la, lc, hlv⟩ := hl.shape
  subst hlv
  obtain ⟨W1, hW1⟩ : ∃ W1, W1 = w.alloc (.cells #[.int .i64 room, vL] 29) := ⟨_, rfl⟩
  have b1 : Below w.heap.size w W1 := by rw [hW1]; exact below_alloc w _
  have s1 : W1.heap.size = w.heap.size + 1 := by rw [hW1]; simp
  have p0 : W1.cell? ⟨w.heap.size, 0, none⟩ = some (.int .i64 room) := by rw [hW1]; simp
  have p1 : W1.cell? ⟨w.heap.size, 1, none⟩ = some vL := by rw [hW1]; simp
  have pf : ∀ j, W1.frozen? ⟨w.heap.size, j, none⟩ = false := fun j => by rw [hW1]; simp
  obtain ⟨W, hW⟩ : ∃ W, W = W1.alloc (.cells #[.int .i64 0, .slice none 0 0] 29) := ⟨_, rfl⟩
  have b2 : Below W1.heap.size W1 W := by rw [hW]; exact below_alloc W1 _
  have s2 : W.heap.size = w.heap.size + 2 := by rw [hW]; simp [s1]
  have hbW : Below w.heap.size w W := b1.trans (b2.mono b1.size)
  have q0 : W.cell? ⟨w.heap.size + 1, 0, none⟩ = some (.int .i64 0) := by rw [← s1, hW]; simp
  have q1 : W.cell? ⟨w.heap.size + 1, 1, none⟩ = some (.slice none 0 0) := by rw [← s1, hW]; simp
  have qf : ∀ j, W.frozen? ⟨w.heap.size + 1, j, none⟩ = false := fun j => by rw [← s1, hW]; simp
  have r0 := (b2.cell (World.block_lt_of_cell? W1 _ p0)).trans p0
  have r1 := (b2.cell (World.block_lt_of_cell? W1 _ p1)).trans p1
  have rf : ∀ j, W.frozen? ⟨w.heap.size, j, none⟩ = false := fun j => (Mq.World.frozen?_of_block (j := j) (b2.block w.heap.size (by omega))).trans (pf j)
  have hD' := hD.below hbW
  have hl' := hl.below hbW
  obtain ⟨b, off, cap, hv, hc, hn1, hf, hcell⟩ := hD'
  have hch : ∀ i, ∃ u, i < n → (W.cell? ⟨b, off + i, none⟩ = some u ∧ MSees F W u (d i)) := fun i => by
    by_cases h : i < n
    · obtain ⟨u, h1, h2⟩ := hcell i h
      exact ⟨u, fun _ => ⟨h1, h2⟩⟩
    · exact ⟨.slice none 0 0, fun h' => absurd h' h⟩
  obtain ⟨f, hff⟩ := Classical.axiomOfChoice hch
  obtain ⟨g, gc, w3, hrun, hrow, hgrow, hg, hgl⟩ := run_append_lies (P := Try.prog) W 27 27 W.heap.size 79 i0 (.slice none 0 0) 1 24 Try.underlying27 hi0 hz0 hz1 hz2 rfl (by decide) (.slice none 0 0) 0 [] (World.ownsRow_nil _ _ _ _) ⟨b, off, none⟩ n cap ((List.range n).map f) (by simp) (fun j u hj => by
      have hjn : j < n := by
        have := (List.getElem?_eq_some_iff.1 hj).1
        simpa using this
      simp [hjn] at hj
      subst hj
      rw [addr_add]
      exact (hff j hjn).1) (by
      intro u hu
      obtain ⟨j, hj, rfl⟩ := List.mem_map.1 hu
      obtain ⟨ao, cc, hs⟩ := (hff j (by simpa using hj)).2.shape
      rw [hs]
      rfl) (by omega) (by simp only [maxLen]; omega) (by omega) (Nat.le_refl _) _ rfl
  have hgW : g = W.heap.size := by
    rcases hg with h | h
    · simp [Value.ownBlock] at h
    · exact h
  subst hgW
  simp only [Nat.zero_add, List.nil_append] at hrun hrow
  have b3 : Below W.heap.size W w3 := (Below.refl _ _).grown hgrow (Nat.le_refl _) (fun k hk => by simp [Value.ownBlock] at hk)
  have c0 := (b3.cell (World.block_lt_of_cell? W _ r0)).trans r0
  have c1 := (b3.cell (World.block_lt_of_cell? W _ r1)).trans r1
  have cf : ∀ j, w3.frozen? ⟨w.heap.size, j, none⟩ = false := fun j => (Mq.World.frozen?_of_block (j := j) (b3.block w.heap.size (by omega))).trans (rf j)
  have e0 := (b3.cell (World.block_lt_of_cell? W _ q0)).trans q0
  have e1 := (b3.cell (World.block_lt_of_cell? W _ q1)).trans q1
  have ef : ∀ j, w3.frozen? ⟨w.heap.size + 1, j, none⟩ = false := fun j => (Mq.World.frozen?_of_block (j := j) (b3.block (w.heap.size + 1) (by omega))).trans (qf j)
  have gi : w3.cell? ⟨W.heap.size, i, none⟩ = some (f i) := by
    have := hrow.cells (g := W.heap.size) rfl i (f i) (by simp [hi])
    rw [addr_add, Nat.zero_add] at this
    exact this
  have gfz : w3.frozen? ⟨W.heap.size, i, none⟩ = false := World.ownsRow.frozenAt hrow i
  obtain ⟨fa, fc, hfi⟩ := (hff i hi).2.shape
  rw [hfi] at gi
  -- the worlds behind the stores
  obtain ⟨A, hA⟩ : ∃ A, A = w3.setCell ⟨W.heap.size, i, none⟩ (.slice la xs.length lc) := ⟨_, rfl⟩
  obtain ⟨B, hB⟩ : ∃ B, B = A.setCell ⟨w.heap.size, 1, none⟩ (.slice (some ⟨W.heap.size, 0, none⟩) n gc) := ⟨_, rfl⟩
  have hst := World.ownsRow.stored hrow i (.slice la xs.length lc)
  have a0 : A.cell? ⟨w.heap.size, 0, none⟩ = some (.int .i64 room) := by rw [hA, World.cell?_setCell_far _ _ _ _ (by simp; omega)]; exact c0
  have a1 : A.cell? ⟨w.heap.size, 1, none⟩ = some vL := by rw [hA, World.cell?_setCell_far _ _ _ _ (by simp; omega)]; exact c1
  have af : ∀ j, A.frozen? ⟨w.heap.size, j, none⟩ = false := fun j => by rw [hA]; simpa using cf j
  have d0 : B.cell? ⟨w.heap.size, 0, none⟩ = some (.int .i64 room) := by rw [hB, World.cell?_setCell_other _ _ _ _ (by simp)]; exact a0
  have d1 : B.cell? ⟨w.heap.size, 1, none⟩ = some (.slice (some ⟨W.heap.size, 0, none⟩) n gc) := by rw [hB]; exact World.cell?_setCell_same _ _ _ a1
  have g0 : B.cell? ⟨w.heap.size + 1, 0, none⟩ = some (.int .i64 0) := by rw [hB, World.cell?_setCell_far _ _ _ _ (by simp), hA, World.cell?_setCell_far _ _ _ _ (by simp; omega)]; exact e0
  have g1 : B.cell? ⟨w.heap.size + 1, 1, none⟩ = some (.slice none 0 0) := by rw [hB, World.cell?_setCell_far _ _ _ _ (by simp), hA, World.cell?_setCell_far _ _ _ _ (by simp; omega)]; exact e1
  have gf : ∀ j, B.frozen? ⟨w.heap.size + 1, j, none⟩ = false := fun j => by rw [hB, hA]; simpa using ef j
  obtain ⟨u0, u1⟩ := Mq.set2 (u := .int .i64 room) (v := .slice (some ⟨W.heap.size, 0, none⟩) n gc) g0 g1
  have HFIN : Hid (LSees F ((B.setCell ⟨w.heap.size + 1, 0, none⟩ (.int .i64 room)).setCell ⟨w.heap.size + 1, 1, none⟩ (.slice (some ⟨W.heap.size, 0, none⟩) n gc)) (.slice (some ⟨W.heap.size, 0, none⟩) n gc) n (fun j => if j = i then xs else d j) ∧ Below w.heap.size w ((B.setCell ⟨w.heap.size + 1, 0, none⟩ (.int .i64 room)).setCell ⟨w.heap.size + 1, 1, none⟩ (.slice (some ⟨W.heap.size, 0, none⟩) n gc))) := by
    have hset : ∀ k, k ≠ w.heap.size → k ≠ w.heap.size + 1 → ((B.setCell ⟨w.heap.size + 1, 0, none⟩ (.int .i64 room)).setCell ⟨w.heap.size + 1, 1, none⟩ (.slice (some ⟨W.heap.size, 0, none⟩) n gc)).heap[k]? = A.heap[k]? := fun k h1 h2 => by
      rw [heap_setCell_other _ ⟨w.heap.size + 1, 1, none⟩ k _ (by simpa using h2), heap_setCell_other _ ⟨w.heap.size + 1, 0, none⟩ k _ (by simpa using h2), hB, heap_setCell_other _ ⟨w.heap.size, 1, none⟩ k _ (by simpa using h1)]
    have hA3 : ∀ k, k ≠ W.heap.size → A.heap[k]? = w3.heap[k]? := fun k h1 => by rw [hA, heap_setCell_other _ ⟨W.heap.size, i, none⟩ k _ (by simpa using h1)]
    refine hid ⟨?_, ?_⟩
    · rw [← hA] at hst
      have hrow2 := ownsRow_same (w' := (B.setCell ⟨w.heap.size + 1, 0, none⟩ (.int .i64 room)).setCell ⟨w.heap.size + 1, 1, none⟩ (.slice (some ⟨W.heap.size, 0, none⟩) n gc)) hst.1 (fun j hj => by
        simp [Value.ownBlock] at hj
        exact hset j (by omega) (by omega))
      have low : ∀ k, k < w.heap.size → ((B.setCell ⟨w.heap.size + 1, 0, none⟩ (.int .i64 room)).setCell ⟨w.heap.size + 1, 1, none⟩ (.slice (some ⟨W.heap.size, 0, none⟩) n gc)).heap[k]? = w.heap[k]? := fun k hk => by
        rw [hset k (by omega) (by omega), hA3 k (by omega), b3.block k (by omega), hbW.block k hk]
      refine LSees.of_row hrow2 (by omega) (fun k hk => hF k (by omega)) (fun j hj => ?_)
      by_cases e : j = i
      · subst e
        refine ⟨.slice la xs.length lc, by simp [hj], ?_⟩
        simp only [if_true]
        exact hl.keep fun k hk hfk => ⟨low k hk, hfk⟩
      · refine ⟨f j, by rw [List.getElem?_set_ne (fun h => e h.symm)]; simp [hj], ?_⟩
        simp only [e, if_false]
        obtain ⟨bb, oo, cc, hvv, _, _, _, hcc⟩ := hD
        obtain ⟨uu, hu1, hu2⟩ := hcc j hj
        have : f j = uu := by
          rw [hv] at hvv
          cases hvv
          have h1 := (hff j hj).1
          rw [hbW.cell (World.block_lt_of_cell? w _ hu1), hu1] at h1
          simpa using h1.symm
        rw [this]
        exact hu2.keep fun k hk hfk => ⟨low k hk, hfk⟩
    · have h1 : Below w.heap.size w w3 := hbW.trans (b3.mono hbW.size)
      have h2 : Below w.heap.size w A := by rw [hA]; exact h1.setCell (by simp; omega) _
      have h3 : Below w.heap.size w B := by rw [hB]; exact h2.setCell (by simp) _
      exact (h3.setCell (by simp) _).setCell (by simp) _
  have HR := hid hrun
  have HW := hid hW
  have HW1 := hid hW1
  have HA := hid hA
  have HBB := hid hB
  have hiI : (i : Int) < n := by omega
  have cf1 := cf 1
  have ef0 := ef 0
  have ef1 := ef 1
  have ne1 : W.heap.size ≠ w.heap.size := by omega
  have ne2 : W.heap.size ≠ w.heap.size + 1 := by omega
  have ne1' := ne1.symm
  have ne2' := ne2.symm
  have HU := hid (And.intro u0 u1)
  subst hv
  clear hst hD hl hF hch hcell hff hrow hgrow hgl hg hW hW1 hA hB b1 b2 b3 hbW pf qf rf cf ef af gf p0 p1 q0 q1 hl' hfi a0 a1 d0 d1 g0 g1 u0 u1 s1
  have HG := hid s2
  clear s2
  generalize W.heap.size = G at *
  unfold poV
  go_enter Try.func41, Try.ntmps41
  go_wp2_with (at_builtin; rw [← HW1.out, ← HW.out]; refine wpList_append_run rfl _ _ 27 27 rfl _ _ rfl rfl HR.out ?_)
  rw [← HA.out, ← HBB.out]
  refine bodyPost_ret (v := .agg #[.int .i64 room, .slice (some ⟨G, 0, none⟩) n gc]) (by simp [results, Try.results41, go_sem, HU.out.1, HU.out.2]) rfl ?_
  exact ⟨_, rfl, HFIN.out.1, HFIN.out.2⟩
end Go.Proofs.Ytahibklmcooanaa
