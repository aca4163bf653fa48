/-
  The contract of the document's Bytes of rows.
-/
import Derived.Test.YtkbceaofijngoaaWBytes
namespace Go.Proofs.Ytkbceaofijngoaa
open Go.RowKit
set_option linter.unusedVariables false

set_option maxRecDepth 20000 in
set_option maxHeartbeats 2000000 in
theorem rbytes_row (v : Value) (r : RowV) (vc vs vi : Value) (w : World) (h : SeesR w v r vc vs vi) :
    Calls Try.prog 11 #[v] w fun e w' => e = .returned (.tuple #[.string (strOf (rowBytesL r)), .int .i64 (errR (mayR r))]) ∧ Below w.heap.size w w' := by
  obtain ⟨W, hW⟩ : ∃ W, W = w.alloc (.cells #[.string r.key, vc, vs, vi, .int .i64 r.who] 27) := ⟨_, rfl⟩
  have hB : Below w.heap.size w W := by rw [hW]; exact below_alloc w _
  have hA : RowAt W w.heap.size (.string r.key) vc vs vi (.int .i64 r.who) := by rw [hW]; exact RowAt.new _ _ _ _ _ _
  have hsz := hA.lt
  have hS := h.below hB
  have hM := mayRow_any v r vc vs vi W hS
  have HA := hid hA
  obtain ⟨c0, c1, c2, c3, c4, _⟩ := hA.cells
  have HCS := hid (fun w1 (hb : Below W.heap.size W w1) => hS.cells.below hb)
  have HLS0 := hid (fun w1 (hb : Below W.heap.size W w1) => hS.s.below hb)
  have HLI0 := hid (fun w1 (hb : Below W.heap.size W w1) => hS.i.below hb)
  obtain rfl := h.val
  unfold rowVal at *
  have HB := hid hB
  clear h hA hB hS
  cases hm : mayR r
  · rw [hm] at hM
    have HE : Hid (rowBytesL r = []) := by unfold Hid; rw [rowBytesL, hm]; rfl
    clear HCS HLS0 HLI0 hm
    generalize rowBytesL r = bs at *
    generalize r.who = x at *
    generalize r.key = ky at *
    go_enter Try.func11, Try.ntmps11
    go_wp2_with fail
    rw [← hW]
    refine hM.mono ?_
    clear hM hW
    rintro e w1 ⟨rfl, h1⟩
    have HF := hid (HB.out.trans (h1.mono (by omega)))
    clear h1 HB c0 c1 c2 c3 c4 HA
    go_wp2
    go_ret2
    exact ⟨by rw [HE.out]; rfl, HF.out⟩
  · rw [hm] at hM
    obtain ⟨⟨k1, k2⟩, ⟨n1, n2⟩, hml, w1a, w1b⟩ := mayR_iff.1 hm
    obtain ⟨⟨m1, m2⟩, m3, m4⟩ := mayB_iff.1 hml
    have HSL := hid (setB_len m1 m2)
    have HIL := hid (setB_len m3 m4)
    have HCL := hid (fun k => cellsB_takes n1 n2 k)
    have HTL := hid (textB_len (t := r.key) (by omega))
    have HN := hid n2
    have HNC := hid (numB_len5 (n := r.cells.length) (by omega))
    have HT : Hid (∀ k, (hk : k < r.cells.length) → cellsB (r.cells.take (k + 1)) = cellsB (r.cells.take k) ++ textB r.cells[k]) := fun k hk => cellsB_take hk
    have HE : Hid (rowBytesL r = ((((textB r.key ++ numB r.cells.length) ++ cellsB r.cells) ++ (setB r.s ++ setB r.i)) ++ numB (r.who + 1).toNat)) := by
      unfold Hid
      rw [rowBytesL, hm, if_pos rfl, rowB]
      simp only [List.append_assoc]
    have HLS := hid (show (setB r.s ++ setB r.i).length ≤ 650 by have := HSL.out; have := HIL.out; rw [List.length_append]; omega)
    have HM2 := hid m2
    have HM4 := hid m4
    clear n2 hm hml m2 m4
    generalize rowBytesL r = bs at *
    generalize r.who = x at *
    generalize r.key = ky at *
    generalize r.cells = l at *
    go_enter Try.func11, Try.ntmps11
    go_wp2_with fail
    rw [← hW]
    refine hM.mono ?_
    clear hM hW
    rintro e w1 ⟨rfl, h1⟩
    have HW1 := hid h1
    have HF := hid (HB.out.trans (h1.mono (by omega)))
    have HA1 := HA.out.below h1 hsz
    have hs1 := h1.size
    obtain ⟨b, off, ao, cap, hvc, hcap, _, hao, hcell⟩ := HCS.out w1 h1
    subst hvc
    obtain ⟨d0, d1, d2, d3, d4, _⟩ := HA1.cells
    have HC := hid hcell
    have HA1' := hid HA1
    have hR1 := rtext_any ky (.slice none 0 0) [] w1 w1.heap.size (OwnsN.nil _ _ _ _) (Nat.le_refl _) (by omega) (by simp)
    clear h1 HB c0 c1 c2 c3 c4 HA HCS HA1 hcell
    go_wp2_with fail
    refine hR1.mono ?_
    clear hR1
    rintro e w2 ⟨v2, rfl, hO2, hB2⟩
    rw [List.nil_append] at hO2
    have HB2 := hid hB2
    have hs2 := hB2.size
    obtain ⟨e0, e1, e2, e3, e4, _⟩ := (HA1'.out.below hB2 (by omega)).cells
    have hR2 := count_int (l.length : Int) v2 _ w2 w1.heap.size hO2 hs2 (by omega) (by omega) (by have := HTL.out; omega)
    rw [show ((l.length : Int)).toNat = l.length by omega] at hR2
    clear hO2 hB2 d0 d1 d2 d3 d4
    go_wp2_with fail
    refine hR2.mono ?_
    clear hR2
    rintro e w3 ⟨v3, rfl, hO3, hB3⟩
    have HO3 := hid hO3
    have HB3 := hid (HB2.out.trans hB3)
    have hs3 := hB3.size
    obtain ⟨f0, f1, f2, f3, f4, _⟩ := (HA1'.out.below HB3.out (by omega)).cells
    clear hO3 hB3 e0 e1 e2 e3 e4 HB2
    go_wp2_with fail
    go_loopw [4, 5] (fun o i wr => ∃ (k : Nat), k ≤ l.length ∧ i = .int .i64 (k : Int) ∧ OwnsN .u8 5 wr w1.heap.size o ((textB ky ++ numB l.length) ++ cellsB (l.take k)) ∧ Below w1.heap.size w1 wr) (fun _ i _ => l.length - (intOf i).toNat)
    case atStart => exact ⟨0, Nat.zero_le _, rfl, by simpa [cellsB] using HO3.out, HB3.out⟩
    clear HO3 HB3
    case round =>
      obtain ⟨k, hk, rfl, hO, hBr⟩ := hrel
      have hlen : ((textB ky ++ numB l.length) ++ cellsB (l.take k)).length ≤ 10000 := by
        have := HCL.out k
        have := HTL.out
        have := HNC.out
        simp only [List.length_append]
        omega
      have hsr := hBr.size
      have HO := hid hO
      have HBr := hid hBr
      obtain ⟨g0, g1, g2, g3, g4, _⟩ := (HA1'.out.below hBr (by omega)).cells
      clear hO hBr
      by_cases hlt : k < l.length
      · obtain rfl := hao (by intro h; rw [h] at hlt; simp at hlt)
        have hlt' : (k : Int) < (l.length : Int) := by omega
        have hc : wr.cell? ⟨b, off + k, none⟩ = some (.string l[k]) := by
          have h0 := HC.out k hlt
          exact (HBr.out.cell (World.block_lt_of_cell? w1 _ h0)).trans h0
        have HT2 := hid (HT.out k hlt)
        have hcs := HN.out l[k] (List.getElem_mem hlt)
        obtain ⟨y, hy⟩ : ∃ y, y = l[k] := ⟨_, rfl⟩
        rw [← hy] at hc HT2 hcs
        have hR := rtext_any y u4 _ wr w1.heap.size HO.out hsr (by omega) (by omega)
        rw [List.append_assoc, ← HT2.out] at hR
        clear hy hlen
        go_wp2_with fail
        refine hR.mono ?_
        clear hR
        rintro e w4 ⟨v4, rfl, hO4, hB4⟩
        have HO4 := hid hO4
        have HB4 := hid (HBr.out.trans hB4)
        clear hO4 hB4
        go_wp2
        go_roundw
        case rel => exact ⟨k + 1, by omega, by go_num, HO4.out, HB4.out⟩
        case measure => simp [intOf]; omega
      · have hlt' : ¬ (k : Int) < (l.length : Int) := by omega
        have hO := HO.out
        rw [List.take_of_length_le (by omega)] at hO hlen
        have HO5 := hid hO
        have hS1 := HLS0.out w1 HW1.out
        have hI1 := HLI0.out w1 HW1.out
        have hR1 := hid (setBytes_any w1 vs r.s u4 _ wr.drew hS1 (Below.drew HBr.out) m1 HM2.out (HO5.out.below (Below.drew (Below.refl _ _))) (by omega))
        have hR2 := hid (fun (v2 : Value) (ys : List Nat) (w2 : World) (hO : OwnsN .u8 5 w2 w1.heap.size v2 ys) (hB : Below w1.heap.size w1 w2) (hy : ys.length ≤ 900000) => setBytes_any w1 vi r.i v2 ys w2 hI1 hB m3 HM4.out hO hy)
        have hsl := HSL.out
        have hil := HIL.out
        have HBD := hid (Below.drew HBr.out)
        clear hO HO hS1 hI1 HLS0 HLI0
        go_wp2_with fail
        refine wp_region_noPanic ?_
        refine wp_region_held_drew (S := (fun w' => w'.cell? ⟨w.heap.size, 2, none⟩ = some vs ∧ w'.cell? ⟨w.heap.size, 3, none⟩ = some vi)) (by kernel_rfl) ?_ (fun hHeld => ?_)
        · first | (refine ⟨?_, ?_⟩ <;> first | assumption | (simp [*]; done))
        refine wpAnyH_take (i := 0) (oi := { dst := some 31, op := Op.move (Operand.tmp 4), type := 46, pos := "ref.go:73", after := #[], guard := none }) (v := u4) rfl (by kernel_rfl) (by kernel_rfl) (by kernel_rfl) (fun _ _ _ h => h) (Or.inl ⟨by rfl, ?_⟩) (by assumption) ?_
        · intro w hSw
          try dsimp only at hSw
          go_simp
        try simp only [Act.put, List.setIfInBounds_toArray, List.set_cons_zero, List.set_cons_succ]
        refine wpAnyH_take (i := 1) (oi := { dst := some 32, op := Op.fieldAddr 27 (Operand.tmp 1) 2, type := 0, pos := "ref.go:73", after := #[], guard := none }) (v := (.pointer (some ⟨w.heap.size, 2, none⟩))) rfl (by kernel_rfl) (by kernel_rfl) (by kernel_rfl) (fun _ _ _ h => h) (Or.inl ⟨by rfl, ?_⟩) (by assumption) ?_
        · intro w hSw
          try dsimp only at hSw
          go_simp
        try simp only [Act.put, List.setIfInBounds_toArray, List.set_cons_zero, List.set_cons_succ]
        refine wpAnyH_take (i := 2) (oi := { dst := some 33, op := Op.fieldAddr 25 (Operand.tmp 32) 0, type := 0, pos := "ref.go:73", after := #[{ on := 1, ground := Ground.data }], guard := none }) (v := (.pointer (some ⟨w.heap.size, 2, none⟩))) rfl (by kernel_rfl) (by kernel_rfl) (by kernel_rfl) (fun _ _ _ h => h) (Or.inl ⟨by rfl, ?_⟩) (by assumption) ?_
        · intro w hSw
          try dsimp only at hSw
          go_simp
        try simp only [Act.put, List.setIfInBounds_toArray, List.set_cons_zero, List.set_cons_succ]
        refine wpAnyH_take (i := 3) (oi := { dst := some 34, op := Op.load 23 (Operand.tmp 33), type := 23, pos := "ref.go:73", after := #[{ on := 2, ground := Ground.data }], guard := none }) (v := vs) rfl (by kernel_rfl) (by kernel_rfl) (by kernel_rfl) (fun _ _ _ h => h) (Or.inl ⟨by rfl, ?_⟩) (by assumption) ?_
        · intro w hSw
          try dsimp only at hSw
          go_simp
        try simp only [Act.put, List.setIfInBounds_toArray, List.set_cons_zero, List.set_cons_succ]
        refine wpAnyH_take (i := 5) (oi := { dst := some 36, op := Op.fieldAddr 27 (Operand.tmp 1) 2, type := 0, pos := "ref.go:73", after := #[], guard := none }) (v := (.pointer (some ⟨w.heap.size, 2, none⟩))) rfl (by kernel_rfl) (by kernel_rfl) (by kernel_rfl) (fun _ _ _ h => h) (Or.inl ⟨by rfl, ?_⟩) (by assumption) ?_
        · intro w hSw
          try dsimp only at hSw
          go_simp
        try simp only [Act.put, List.setIfInBounds_toArray, List.set_cons_zero, List.set_cons_succ]
        refine wpAnyH_take (i := 6) (oi := { dst := some 37, op := Op.fieldAddr 25 (Operand.tmp 36) 1, type := 0, pos := "ref.go:73", after := #[{ on := 5, ground := Ground.data }], guard := none }) (v := (.pointer (some ⟨w.heap.size, 3, none⟩))) rfl (by kernel_rfl) (by kernel_rfl) (by kernel_rfl) (fun _ _ _ h => h) (Or.inl ⟨by rfl, ?_⟩) (by assumption) ?_
        · intro w hSw
          try dsimp only at hSw
          go_simp
        try simp only [Act.put, List.setIfInBounds_toArray, List.set_cons_zero, List.set_cons_succ]
        refine wpAnyH_take (i := 7) (oi := { dst := some 38, op := Op.load 23 (Operand.tmp 37), type := 23, pos := "ref.go:73", after := #[{ on := 6, ground := Ground.data }], guard := none }) (v := vi) rfl (by kernel_rfl) (by kernel_rfl) (by kernel_rfl) (fun _ _ _ h => h) (Or.inl ⟨by rfl, ?_⟩) (by assumption) ?_
        · intro w hSw
          try dsimp only at hSw
          go_simp
        try simp only [Act.put, List.setIfInBounds_toArray, List.set_cons_zero, List.set_cons_succ]
        refine wpAnyH_ready (rs := [4]) (by kernel_rfl) (by simp) ?_
        refine AllReadyH.cons (o := { dst := some 35, op := Op.call { callee := Callee.value (Operand.func 30), args := #[Operand.tmp 31, Operand.tmp 34], argTypes := #[46, 23] }, type := 46, pos := "ref.go:73", after := #[{ on := 0, ground := Ground.data }, { on := 3, ground := Ground.data }], guard := none }) rfl (fun K hK => ?_) AllReadyH.nil
        go_simp
        refine hR1.out.mono ?_
        rintro e w4 ⟨v4, rfl, hO4, hB4⟩
        have HB4 := hid (HBD.out.trans hB4)
        obtain ⟨z0, z1, d1, d2, z4, _⟩ := (HA1'.out.below HB4.out (by omega)).cells
        have hs4 := hB4.size
        have HR2 := hid (hR2.out v4 _ w4 hO4 HB4.out (by rw [List.length_append]; omega))
        clear hR1 hR2 hO4 hB4
        try go_wp2_with fail
        refine hK.out _ _ ?_ (fun hHeld => ?_)
        · first | (refine ⟨?_, ?_⟩ <;> first | assumption | (simp [*]; done))
        clear hK K
        try simp only [Act.put, List.setIfInBounds_toArray, List.set_cons_zero, List.set_cons_succ]
        refine wpAnyH_ready (rs := [8]) (by kernel_rfl) (by simp) ?_
        refine AllReadyH.cons (o := { dst := some 39, op := Op.call { callee := Callee.value (Operand.func 30), args := #[Operand.tmp 35, Operand.tmp 38], argTypes := #[46, 23] }, type := 46, pos := "ref.go:73", after := #[{ on := 4, ground := Ground.data }, { on := 7, ground := Ground.data }, { on := 4, ground := Ground.chain }], guard := none }) rfl (fun K hK => ?_) AllReadyH.nil
        go_simp
        refine HR2.out.mono ?_
        rintro e w5 ⟨v5, rfl, hO5, hB5⟩
        have HB5 := hid (HB4.out.trans hB5)
        obtain ⟨j0, j1, d3, d4, j4, _⟩ := (HA1'.out.below HB5.out (by omega)).cells
        have hs5 := hB5.size
        have hRN := count_int (x + 1) v5 _ w5 w1.heap.size hO5 (by have := HB5.out.size; omega) (by omega) (by omega) (by simp only [List.length_append] at hlen ⊢; omega)
        clear HR2 hO5 hB5 d1 d2
        try go_wp2_with fail
        refine hK.out _ _ ?_ (fun hHeld => ?_)
        · first | (refine ⟨?_, ?_⟩ <;> first | assumption | (simp [*]; done))
        clear hK K
        try simp only [Act.put, List.setIfInBounds_toArray, List.set_cons_zero, List.set_cons_succ]
        refine wpAnyH_take (i := 9) (oi := { dst := some 4, op := Op.assign (Operand.tmp 39), type := 46, pos := "ref.go:73", after := #[{ on := 8, ground := Ground.data }, { on := 8, ground := Ground.chain }, { on := 0, ground := Ground.phase }, { on := 1, ground := Ground.phase }, { on := 2, ground := Ground.phase }, { on := 3, ground := Ground.phase }, { on := 4, ground := Ground.phase }, { on := 5, ground := Ground.phase }, { on := 6, ground := Ground.phase }, { on := 7, ground := Ground.phase }, { on := 8, ground := Ground.phase }], guard := none }) (v := v5) rfl (by kernel_rfl) (by kernel_rfl) (by kernel_rfl) (fun _ _ _ h => h) (Or.inl ⟨by rfl, ?_⟩) (by assumption) ?_
        · intro w hSw
          try dsimp only at hSw
          go_simp
        try simp only [Act.put, List.setIfInBounds_toArray, List.set_cons_zero, List.set_cons_succ]
        refine wpAnyH_done (by kernel_rfl) ?_ _
        refine NoPanic.normal ?_
        go_wp2_with fail
        refine hRN.mono ?_
        clear hRN
        rintro e w6 ⟨v6, rfl, hO7, hB7⟩
        have hcv := conv_own hO7
        have HB7 := hid (HF.out.trans ((HB5.out.trans hB7).mono (by have := HF.out.size; omega)))
        rw [List.append_assoc (_ ++ _) (setB r.s), ← HE.out] at hcv
        clear hO7 hB7
        go_wp2
        go_ret2
        exact ⟨rfl, HB7.out⟩

end Go.Proofs.Ytkbceaofijngoaa
