/-
  Mailboxes: Take, Len.
-/
import Derived.Test.YtahibklmcooanaaOSendB
namespace Go.Proofs.Ytahibklmcooanaa
open Go.RowKit
set_option linter.unusedVariables false
set_option linter.unusedSimpArgs false

set_option maxHeartbeats 1000000 in
theorem take_no (pv : Value) (who : Int) (w : World) (h : ∀ w', Below w.heap.size w w' → Calls Try.prog 28 #[pv, .int .i64 who] w' fun e w'' => e = .returned (.bool false) ∧ w'' = w') :
    Calls Try.prog 20 #[pv, .int .i64 who] w fun e w' => e = .returned (.tuple #[Mq.mV Mq.z0, .bool false]) ∧ Below w.heap.size w w' := by
  obtain ⟨W, hW⟩ : ∃ W, W = w.alloc (.cells #[.int .i64 0, .string ⟨#[]⟩] 55) := ⟨_, rfl⟩
  have hbW : Below w.heap.size w W := by rw [hW]; exact below_alloc w _
  have hx0 : W.cell? ⟨w.heap.size, 0, none⟩ = some (.int .i64 0) := by rw [hW]; simp
  have hx1 : W.cell? ⟨w.heap.size, 1, none⟩ = some (.string ⟨#[]⟩) := by rw [hW]; simp
  have hz0 : W.frozen? ⟨w.heap.size, 0, none⟩ = false := by rw [hW]; simp
  have hz1 : W.frozen? ⟨w.heap.size, 1, none⟩ = false := by rw [hW]; simp
  have hU := hid (h W hbW)
  have HW := hid hW
  have HB := hid hbW
  clear hW hbW h
  go_enter Try.func20, Try.ntmps20
  go_wp2_with fail
  rw [← HW.out]
  clear HW
  refine hU.out.mono ?_
  rintro e w1 ⟨rfl, hw1⟩
  subst hw1
  go_wp2
  obtain ⟨u0, u1⟩ := Mq.set2 (u := .int .i64 0) (v := .string ⟨#[]⟩) hx0 hx1
  refine bodyPost_ret (v := .tuple #[.agg #[.int .i64 0, .string ⟨#[]⟩], .bool false]) (by simp [results, Try.results20, go_sem, u0, u1, hx0, hx1]) rfl ?_
  exact ⟨rfl, (HB.out.setCell (by simp) _).setCell (by simp) _⟩

/-- The end of Take: the message is copied into the result. -/
theorem take_fin {w w1 w3 : World} {x1 y1 : Int} {x2 y2 : ByteArray} (hl : w.heap.size < w1.heap.size) (hb : Below (w1.alloc (.cells #[.int .i64 x1, .string x2] 55)).heap.size (w1.alloc (.cells #[.int .i64 x1, .string x2] 55)) w3) :
    ∀ k, k ≠ w.heap.size → k < w1.heap.size → (((w3.setCell ⟨w1.heap.size, 1, none⟩ (.string x2)).setCell ⟨w.heap.size, 0, none⟩ (.int .i64 x1)).setCell ⟨w.heap.size, 1, none⟩ (.string x2)).heap[k]? = w1.heap[k]? := by
  intro k h1 h2
  rw [heap_setCell_other _ ⟨w.heap.size, 1, none⟩ k _ (by simpa using h1), heap_setCell_other _ ⟨w.heap.size, 0, none⟩ k _ (by simpa using h1), heap_setCell_other _ ⟨w1.heap.size, 1, none⟩ k _ (by simp; omega), hb.block k (by simp; omega)]
  exact Below.heap_alloc w1 _ k h2

set_option maxHeartbeats 2000000 in
theorem take_gen (p bx : Nat) (room : Int) (ql : List (Nat × Nat)) (v : Nat → Rg) (m : Nat → List Msg) (i : Nat) (hi : i < ql.length) (w : World) (hP : PoAt w p bx room ql v m) (x : Msg) (b : Bool) (m' : Nat → List Msg)
    (hpop : ∀ W, Below w.heap.size w W → w.heap.size < W.heap.size → Calls Try.prog 36 #[.pointer (some ⟨qq ql i, 0, none⟩)] W fun e w' => e = .returned (.tuple #[Mq.mV x, .bool b]) ∧ ∃ v', PoAt w' p bx room ql v' m' ∧ Gr (mine ql v) W w' ∧ ∀ k, mine ql v' k → mine ql v k ∨ W.heap.size ≤ k) :
    Calls Try.prog 20 #[.pointer (some ⟨p, 0, none⟩), .int .i64 i] w fun e w' => e = .returned (.tuple #[Mq.mV x, .bool b]) ∧ PoTurn w w' p bx room ql v m' := by
  obtain ⟨x1, x2⟩ := x
  have HLT := hid (fun k hk => hP.lt k hk)
  obtain ⟨W, hW⟩ : ∃ W, W = w.alloc (.cells #[.int .i64 0, .string ⟨#[]⟩] 55) := ⟨_, rfl⟩
  have hbW : Below w.heap.size w W := by rw [hW]; exact below_alloc w _
  have hlW : w.heap.size < W.heap.size := by rw [hW]; simp
  have hx0 : W.cell? ⟨w.heap.size, 0, none⟩ = some (.int .i64 0) := by rw [hW]; simp
  have hx1 : W.cell? ⟨w.heap.size, 1, none⟩ = some (.string ⟨#[]⟩) := by rw [hW]; simp
  have hz0 : W.frozen? ⟨w.heap.size, 0, none⟩ = false := by rw [hW]; simp
  have hz1 : W.frozen? ⟨w.heap.size, 1, none⟩ = false := by rw [hW]; simp
  have hPW := hP.below hbW
  obtain ⟨c0, c1⟩ := hPW.cells
  obtain ⟨b0, b1, b2⟩ := hPW.boxes i hi
  have hU := hid (isUser_yes p ql.length _ _ i W c0 c1)
  rw [usr_nat, decide_eq_true hi] at hU
  have hPo := hid (hpop W hbW hlW)
  have hlt : (i : Int) < ql.length := by omega
  have HW := hid hW
  have HB := hid hbW
  clear hW hbW hpop hP hPW b1 b2
  unfold Mq.mV at *
  go_enter Try.func20, Try.ntmps20
  go_wp2_with fail
  rw [← HW.out]
  clear HW
  refine hU.out.mono ?_
  clear hU
  rintro e w0 ⟨rfl, hw0⟩
  subst hw0
  go_wp2_with fail
  refine hPo.out.mono ?_
  clear hPo
  rintro e w1 ⟨rfl, v', hP1, hG1, hM1⟩
  have hnm : ¬ mine ql v w.heap.size := fun hm => by have := HLT.out _ (Or.inr (Or.inr (Or.inr hm))); omega
  have e0 := hG1.block w.heap.size hlW hnm
  have y0 := (Mq.World.cell?_of_block e0 0).trans hx0
  have y1 := (Mq.World.cell?_of_block e0 1).trans hx1
  have f0 := (Mq.World.frozen?_of_block (j := 0) e0).trans hz0
  have f1 := (Mq.World.frozen?_of_block (j := 1) e0).trans hz1
  have hl1 : w.heap.size < w1.heap.size := Nat.lt_of_lt_of_le hlW hG1.size
  obtain ⟨W2, hW2⟩ : ∃ W2, W2 = w1.alloc (.cells #[.int .i64 x1, .string x2] 55) := ⟨_, rfl⟩
  have hb2 : Below w1.heap.size w1 W2 := by rw [hW2]; exact below_alloc w1 _
  have k0 : W2.cell? ⟨w1.heap.size, 0, none⟩ = some (.int .i64 x1) := by rw [hW2]; simp
  have k1 : W2.cell? ⟨w1.heap.size, 1, none⟩ = some (.string x2) := by rw [hW2]; simp
  have kz1 : W2.frozen? ⟨w1.heap.size, 1, none⟩ = false := by rw [hW2]; simp
  have g0 := (hb2.cell (p := ⟨w.heap.size, 0, none⟩) hl1).trans y0
  have g1 := (hb2.cell (p := ⟨w.heap.size, 1, none⟩) hl1).trans y1
  have gf0 := (Mq.World.frozen?_of_block (j := 0) (hb2.block w.heap.size hl1)).trans f0
  have gf1 := (Mq.World.frozen?_of_block (j := 1) (hb2.block w.heap.size hl1)).trans f1
  have hs2 : w1.heap.size < W2.heap.size := by rw [hW2]; simp
  have HFr := hid (freshText_any x2 W2)
  have HFin := hid (fun w3 h => take_fin (w := w) (w1 := w1) (w3 := w3) (x1 := x1) (x2 := x2) (y1 := x1) (y2 := x2) hl1 h)
  rw [← hW2] at HFin
  have HW2 := hid hW2
  have HP1 := hid hP1
  have HG1 := hid hG1
  have HM1 := hid hM1
  have H2 := hid hb2
  clear hP1 hG1 hM1 hW2 hb2 c0 c1 b0 hx0 hx1 hz0 hz1 e0 y0 y1 f0 f1 hnm
  go_wp2_with fail
  rw [← HW2.out]
  clear HW2
  refine HFr.out.mono ?_
  clear HFr
  rintro e w3 ⟨rfl, hB3⟩
  have d0 := (hB3.cell (World.block_lt_of_cell? W2 _ k0)).trans k0
  have d1 := (hB3.cell (World.block_lt_of_cell? W2 _ k1)).trans k1
  have dz1 := (Mq.World.frozen?_of_block (j := 1) (hB3.block w1.heap.size hs2)).trans kz1
  have r0 := (hB3.cell (World.block_lt_of_cell? W2 _ g0)).trans g0
  have r1 := (hB3.cell (World.block_lt_of_cell? W2 _ g1)).trans g1
  have hl2 : w.heap.size < W2.heap.size := Nat.lt_trans hl1 hs2
  have rf0 := (Mq.World.frozen?_of_block (j := 0) (hB3.block w.heap.size hl2)).trans gf0
  have rf1 := (Mq.World.frozen?_of_block (j := 1) (hB3.block w.heap.size hl2)).trans gf1
  have HK := hid (HFin.out w3 hB3)
  have H3 := hid hB3
  have hne : w1.heap.size ≠ w.heap.size := by omega
  have hne' := hne.symm
  clear HFin k0 k1 kz1 g0 g1 gf0 gf1 hB3
  go_wp2
  obtain ⟨Z, hZ⟩ : ∃ Z, Z = w3.setCell ⟨w1.heap.size, 1, none⟩ (.string x2) := ⟨_, rfl⟩
  have z0 : Z.cell? ⟨w.heap.size, 0, none⟩ = some (.int .i64 0) := by rw [hZ, World.cell?_setCell_far _ _ _ _ (by simpa using hne)]; exact r0
  have z1 : Z.cell? ⟨w.heap.size, 1, none⟩ = some (.string ⟨#[]⟩) := by rw [hZ, World.cell?_setCell_far _ _ _ _ (by simpa using hne)]; exact r1
  rw [← hZ]
  obtain ⟨u0, u1⟩ := Mq.set2 (u := .int .i64 x1) (v := .string x2) z0 z1
  refine bodyPost_ret (v := .tuple #[.agg #[.int .i64 x1, .string x2], .bool b]) (by simp [results, Try.results20, go_sem, u0, u1]) rfl ?_
  have hk := HK.out
  rw [← hZ] at hk
  have hout : ∀ k, mine ql v' k → k ≠ w.heap.size := by
    intro k hk e
    subst e
    rcases HM1.out _ hk with h | h
    · have := HLT.out _ (Or.inr (Or.inr (Or.inr h)))
      omega
    · omega
  have hsz : W2.heap.size ≤ w3.heap.size := H3.out.size
  refine ⟨rfl, v', HP1.out.gr fun k hk' => hk k ?_ (HP1.out.lt k hk'), ⟨?_, ?_, ?_, ?_, ?_⟩, fun k hk' => ?_⟩
  · rcases hk' with h | h | h | h
    · have := HLT.out k (Or.inl h); omega
    · have := HLT.out k (Or.inr (Or.inl h)); omega
    · have := HLT.out k (Or.inr (Or.inr (Or.inl h))); omega
    · exact hout k h
  · rw [hZ]; exact (H3.out.os.trans H2.out.os).trans (HG1.out.os.trans HB.out.os)
  · rw [hZ]; exact (H3.out.tape.trans H2.out.tape).trans (HG1.out.tape.trans HB.out.tape)
  · rw [hZ]; exact (H3.out.output.trans H2.out.output).trans (HG1.out.output.trans HB.out.output)
  · rw [hZ]; simp; omega
  · intro k h1 h2
    rw [hk k (by omega) (by omega), HG1.out.block k (by omega) h2]
    exact HB.out.block k h1
  · rcases HM1.out k hk' with h | h
    · exact Or.inl h
    · exact Or.inr (by omega)
theorem take_none (p bx : Nat) (room : Int) (ql : List (Nat × Nat)) (v : Nat → Rg) (m : Nat → List Msg) (i : Nat) (hi : i < ql.length) (w : World) (hP : PoAt w p bx room ql v m) (hm : m i = []) :
    Calls Try.prog 20 #[.pointer (some ⟨p, 0, none⟩), .int .i64 i] w fun e w' => e = .returned (.tuple #[Mq.mV Mq.z0, .bool false]) ∧ PoTurn w w' p bx room ql v m := by
  refine take_gen p bx room ql v m i hi w hP Mq.z0 false m (fun W hb hl => ?_)
  have hq := (hP.below hb).box i hi
  rw [hm] at hq
  refine (Mq.pop_none _ _ _ _ _ _ W hq).mono ?_
  rintro e w' ⟨rfl, hB⟩
  exact ⟨rfl, v, (hP.below hb).below hB, Gr.of_below hB _, fun k hk => Or.inl hk⟩
theorem take_some (p bx : Nat) (room : Int) (ql : List (Nat × Nat)) (v : Nat → Rg) (m : Nat → List Msg) (i : Nat) (hi : i < ql.length) (w : World) (hP : PoAt w p bx room ql v m) (x : Msg) (xs : List Msg) (hm : m i = x :: xs) :
    Calls Try.prog 20 #[.pointer (some ⟨p, 0, none⟩), .int .i64 i] w fun e w' => e = .returned (.tuple #[Mq.mV x, .bool true]) ∧ PoTurn w w' p bx room ql v (fun j => if j = i then xs else m j) := by
  refine take_gen p bx room ql v m i hi w hP x true _ (fun W hb hl => ?_)
  have hPW := hP.below hb
  have hq := hPW.box i hi
  rw [hm] at hq
  refine (Mq.pop_some _ _ _ x _ _ _ xs W hq).mono ?_
  rintro e w' ⟨rfl, rv', f', rs', hQ, hT, hF⟩
  obtain ⟨t1, t2, t3⟩ := hPW.turn i hi hQ hT hF (hPW.dr i hi)
  exact ⟨rfl, _, t1, t2, t3⟩

set_option maxHeartbeats 1000000 in
theorem len_no (pv : Value) (who : Int) (w : World) (h : Calls Try.prog 28 #[pv, .int .i64 who] w fun e w'' => e = .returned (.bool false) ∧ w'' = w) :
    Calls Try.prog 13 #[pv, .int .i64 who] w fun e w' => e = .returned (.int .i64 0) ∧ w' = w := by
  have HU := hid h
  clear h
  go_enter Try.func13, Try.ntmps13
  go_wp2_with fail
  refine HU.out.mono ?_
  rintro e w1 ⟨rfl, hw1⟩
  subst hw1
  go_wp2
  go_ret
  exact ⟨rfl, rfl⟩
set_option maxHeartbeats 1000000 in
theorem len_yes (p bx : Nat) (room : Int) (ql : List (Nat × Nat)) (v : Nat → Rg) (m : Nat → List Msg) (i : Nat) (hi : i < ql.length) (w : World) (hP : PoAt w p bx room ql v m) :
    Calls Try.prog 13 #[.pointer (some ⟨p, 0, none⟩), .int .i64 i] w fun e w' => e = .returned (.int .i64 (m i).length) ∧ w' = w := by
  obtain ⟨c0, c1⟩ := hP.cells
  obtain ⟨b0, b1, b2⟩ := hP.boxes i hi
  have hU := hid (isUser_yes p ql.length _ _ i w c0 c1)
  rw [usr_nat, decide_eq_true hi] at hU
  have hL := hid (Mq.len_any _ _ _ _ _ _ _ w (hP.box i hi))
  have hlt : (i : Int) < ql.length := by omega
  clear hP b1 b2
  go_enter Try.func13, Try.ntmps13
  go_wp2_with fail
  refine hU.out.mono ?_
  clear hU
  rintro e w0 ⟨rfl, hw0⟩
  subst hw0
  go_wp2_with fail
  refine hL.out.mono ?_
  rintro e w1 ⟨rfl, hw1⟩
  subst hw1
  go_wp2
  go_ret
  exact ⟨rfl, rfl⟩
end Go.Proofs.Ytahibklmcooanaa
