/-
  The functions that make readers.
-/
import Derived.Test.YtkbceaofijngoaaWText
namespace Go.Proofs.Ytkbceaofijngoaa
open Go.RowKit
set_option linter.unusedVariables false

theorem Step.far {R p : Nat} {g g' : Option Nat} {w w' : World} (h : Step R g w g' w') (hp : p < w.heap.size) (hg : some p ≠ g) : some p ≠ g' := by
  rcases h.own with e | e
  · rw [e]; exact hg
  · intro x
    have := e p x.symm
    omega
theorem Makes.step {R c lo hi : Nat} {g0 g1 : Option Nat} {W0 W1 : World} {v : Value} {th : Nat → RowV → RowV × Rd} (h : Makes R c lo hi g0 W0 v th) (k : Step R g0 W0 g1 W1) : Makes R c lo hi g1 W1 v th := by
  obtain ⟨n, caps, e, hE, hC⟩ := h
  exact ⟨n, caps, e, hE, fun m st g w vc vs vi h1 h2 hk => hC m st g w vc vs vi h1 h2 (k.trans hk)⟩
theorem Reads.weaken {R c c' : Nat} {g : Option Nat} {w : World} {rd : Value} {f : Rd} (h : Reads R c g w rd f) (hc : c ≤ c') : Reads R c' g w rd f := by
  obtain ⟨n, caps, e, hE, hC⟩ := h
  refine ⟨n, caps, e, hE, fun s st g w vc vs vi hs hk hst hcc => (hC s st g w vc vs vi hs hk hst (by omega)).mono ?_⟩
  rintro e w' ⟨g', st', yc, ys, yi, h1, h2, h3, h4⟩
  exact ⟨g', st', yc, ys, yi, h1, h2, by omega, h4⟩

/-- A reader was made, and nothing else done. -/
def Made (R c : Nat) (g : Option Nat) (f : Rd) (w : World) (e : Ending) (w' : World) : Prop := ∃ rd, e = .returned rd ∧ Below w.heap.size w w' ∧ Reads R c g w' rd f

set_option maxRecDepth 20000 in
set_option maxHeartbeats 1000000 in
theorem counted_row (R c lo hi : Nat) (g : Option Nat) (vth : Value) (th : Nat → RowV → RowV × Rd) (w : World) (hM : Makes R c lo hi g w vth th) (hR : R < w.heap.size) (hg : ∀ j, g = some j → j < w.heap.size) :
    Calls Try.prog 55 #[.int .i64 (lo : Int), .int .i64 (hi : Int), vth] w (Made R c g (countedP lo hi th) w) := by
  have hM0 := hM
  obtain ⟨k, caps, rfl, _⟩ := hM0
  obtain ⟨W, hW⟩ : ∃ W, W = (((w.alloc (.cells #[.int .i64 (lo : Int)] 3)).alloc (.cells #[.int .i64 (hi : Int)] 3)).alloc (.cells #[.func (.func k) #[] caps] 76)) := ⟨_, rfl⟩
  have h1 : CellAt 3 W w.heap.size (.int .i64 (lo : Int)) := by rw [hW]; exact ((CellAt.new w _).box _).box _
  have h2 : CellAt 3 W (w.heap.size + 1) (.int .i64 (hi : Int)) := by
    rw [hW]
    have h := (CellAt.new (ty := 3) (w.alloc (.cells #[.int .i64 (lo : Int)] 3)) (.int .i64 (hi : Int))).box (.cells #[.func (.func k) #[] caps] 76)
    simpa using h
  have h3 : CellAt 76 W (w.heap.size + 1 + 1) (.func (.func k) #[] caps) := by
    rw [hW]
    have h := CellAt.new (ty := 76) ((w.alloc (.cells #[.int .i64 (lo : Int)] 3)).alloc (.cells #[.int .i64 (hi : Int)] 3)) (.func (.func k) #[] caps)
    simpa using h
  have hB : Below w.heap.size w W := by rw [hW]; exact ((below_alloc w _).alloc (by simp) _).alloc (by simp; omega) _
  have hRd : Reads R c g W (.func (.func 65) #[] #[.pointer (some ⟨w.heap.size, 0, none⟩), .pointer (some ⟨w.heap.size + 1, 0, none⟩), .pointer (some ⟨w.heap.size + 1 + 1, 0, none⟩)]) (countedP lo hi th) := by
    refine ⟨_, _, rfl, enters_of Try.func65 (by kernel_rfl) rfl, fun s st g' w' vc vs vi hs hk hst hc => ?_⟩
    have f1 : some w.heap.size ≠ g := fun e => by have := hg _ e.symm; omega
    have f2 : some (w.heap.size + 1) ≠ g := fun e => by have := hg _ e.symm; omega
    have f3 : some (w.heap.size + 1 + 1) ≠ g := fun e => by have := hg _ e.symm; omega
    exact counted1_any R c lo hi w.heap.size (w.heap.size + 1) (w.heap.size + 1 + 1) (.func (.func k) #[] caps) th s st g' w' vc vs vi (h1.step hk (by omega) f1) (h2.step hk (by omega) f2) (h3.step hk (by omega) f3) (by omega) (hk.far h3.lt f3) (hM.step ((Step.of_below hB).trans hk)) hs hst hc
  have HB := hid hB
  have HRd := hid hRd
  have HW := hid hW
  clear h1 h2 h3 hB hRd hW hM
  go_enter Try.func55, Try.ntmps55
  go_wp2
  rw [← HW.out]
  go_ret
  unfold Made
  exact ⟨_, rfl, HB.out, HRd.out⟩

set_option maxRecDepth 20000 in
set_option maxHeartbeats 1000000 in
theorem chain_row (R : Nat) (v : Value) (rds : List Value) (L : List (Rd × Nat)) (g : Option Nat) (w : World) (hS : SeesF R g w v rds) (hl : rds.length = L.length) (hn : rds.length ≤ 100)
    (hRd : ∀ j, (h1 : j < rds.length) → (h2 : j < L.length) → Reads R L[j].2 g w rds[j] L[j].1) (hR : R < w.heap.size) (hg : ∀ j, g = some j → j < w.heap.size) :
    Calls Try.prog 31 #[v] w (Made R (csum L) g (chainC L) w) := by
  obtain ⟨b, off, ao, cap, rfl, hcap, hao, hcell⟩ := hS
  obtain ⟨W, hW⟩ : ∃ W, W = w.alloc (.cells #[.slice ao rds.length cap] 74) := ⟨_, rfl⟩
  have h1 : CellAt 74 W w.heap.size (.slice ao rds.length cap) := by rw [hW]; exact CellAt.new w _
  have hB : Below w.heap.size w W := by rw [hW]; exact below_alloc w _
  have hRr : Reads R (csum L) g W (.func (.func 54) #[] #[.pointer (some ⟨w.heap.size, 0, none⟩)]) (chainC L) := by
    refine ⟨_, _, rfl, enters_of Try.func54 (by kernel_rfl) rfl, fun s st g' w' vc vs vi hs hk hst hc => ?_⟩
    have f1 : some w.heap.size ≠ g := fun e => by have := hg _ e.symm; omega
    have hk0 := (Step.of_below (R := R) (g := g) hB).trans hk
    refine chain1_any R w.heap.size (.slice ao rds.length cap) rds L s st g' w' vc vs vi (h1.step hk (by omega) f1) (by omega) (hk.far h1.lt f1) ?_ hl hn (fun j j1 j2 => (hRd j j1 j2).step hk0) hs hst hc
    refine ⟨b, off, ao, cap, rfl, hcap, fun hne => ?_, fun j hj => ?_⟩
    · obtain ⟨e1, e2, e3⟩ := hao hne
      have hp : 0 < rds.length := List.length_pos_iff.2 hne
      exact ⟨e1, e2, hk0.far (World.block_lt_of_cell? w _ (hcell 0 hp)) e3⟩
    · have h0 := hcell j hj
      have hne : rds ≠ [] := by intro h; rw [h] at hj; simp at hj
      obtain ⟨_, e2, e3⟩ := hao hne
      rw [World.cell?_of_block (hk0.block b (World.block_lt_of_cell? w _ h0) e2 e3)]
      exact h0
  have HB := hid hB
  have HRd := hid hRr
  have HW := hid hW
  clear h1 hB hRr hW hRd hcell hao hl
  go_enter Try.func31, Try.ntmps31
  go_wp2
  rw [← HW.out]
  go_ret
  unfold Made
  exact ⟨_, rfl, HB.out, HRd.out⟩

set_option maxRecDepth 20000 in
set_option maxHeartbeats 1000000 in
theorem text2_any (R c lo hi pt : Nat) (vt : Value) (tk : ByteArray → RowV → RowV) (g : Option Nat) (w : World) (h2 : CellAt 55 w pt vt) (h2R : pt ≠ R) (h2g : some pt ≠ g) (hT : Takes R c vt tk) :
    Makes R c lo hi g w (.func (.func 56) #[] #[.pointer (some ⟨pt, 0, none⟩)]) (fun n st => (st, takeP tk n)) := by
  refine ⟨_, _, rfl, enters_of Try.func56 (by kernel_rfl) rfl, fun n st g' w' vc vs vi _ _ hk hst => ?_⟩
  show Calls Try.prog 56 #[.int .i64 (n : Int), .pointer (some ⟨pt, 0, none⟩)] w' _
  obtain ⟨W, hW⟩ : ∃ W, W = w'.alloc (.cells #[.int .i64 (n : Int)] 3) := ⟨_, rfl⟩
  have h1 : CellAt 3 W w'.heap.size (.int .i64 (n : Int)) := by rw [hW]; exact CellAt.new w' _
  have hB : Below w'.heap.size w' W := by rw [hW]; exact below_alloc w' _
  have h2' := h2.step hk h2R h2g
  have h3 : CellAt 55 W pt vt := by unfold CellAt; rw [hB.block pt h2'.lt]; exact h2'
  have g1 := hk.far h2.lt h2g
  have hRw := hst.row.lt
  have hgl := hst.glt
  have f1 : some w'.heap.size ≠ g' := fun e => by have := hgl _ e.symm; omega
  have hRd : Reads R c g' W (.func (.func 57) #[] #[.pointer (some ⟨w'.heap.size, 0, none⟩), .pointer (some ⟨pt, 0, none⟩)]) (takeP tk n) := by
    refine ⟨_, _, rfl, enters_of Try.func57 (by kernel_rfl) rfl, fun s st2 g2 w2 xc xs xi hs hk2 hst2 hc2 => ?_⟩
    exact text1_any R c n w'.heap.size pt vt tk s st2 g2 w2 xc xs xi (h1.step hk2 (by omega) f1) (h3.step hk2 h2R g1) (by omega) (hk2.far h1.lt f1) h2R (hk2.far h3.lt g1) hT hs hst2 hc2
  have HB := hid hB
  have HRd := hid hRd
  have HW := hid hW
  have HST := hid hst
  clear h1 hB hRd hW hst h2 h2' h3 hk
  go_enter Try.func56, Try.ntmps56
  go_wp2
  rw [← HW.out]
  go_ret
  unfold MakePost
  exact ⟨_, g', vc, vs, vi, rfl, Step.of_below HB.out, HST.out.below HB.out, rfl, HRd.out⟩

set_option maxRecDepth 20000 in
set_option maxHeartbeats 1000000 in
theorem readText_any (R c lo hi : Nat) (vt : Value) (tk : ByteArray → RowV → RowV) (g : Option Nat) (w : World) (hT : Takes R c vt tk) (hR : R < w.heap.size) (hg : ∀ j, g = some j → j < w.heap.size) :
    Calls Try.prog 32 #[.int .i64 (lo : Int), .int .i64 (hi : Int), vt] w (Made R c g (textP lo hi tk) w) := by
  have hT0 := hT
  obtain ⟨k, caps, rfl, _⟩ := hT0
  obtain ⟨W, hW⟩ : ∃ W, W = w.alloc (.cells #[.func (.func k) #[] caps] 55) := ⟨_, rfl⟩
  have h1 : CellAt 55 W w.heap.size (.func (.func k) #[] caps) := by rw [hW]; exact CellAt.new w _
  have hB : Below w.heap.size w W := by rw [hW]; exact below_alloc w _
  have hsz := h1.lt
  have f1 : some w.heap.size ≠ g := fun e => by have := hg _ e.symm; omega
  have hM := text2_any R c lo hi w.heap.size _ tk g W h1 (by omega) f1 hT
  have hC := counted_row R c lo hi g _ _ W hM (by omega) (fun j hj => by have := hg j hj; omega)
  have HB := hid hB
  have HW := hid hW
  clear h1 hB hW hM hT
  go_enter Try.func32, Try.ntmps32
  go_wp2_with fail
  rw [← HW.out]
  refine hC.mono ?_
  clear hC
  unfold Made
  rintro e w1 ⟨rd, rfl, hB1, hR1⟩
  have HB1 := hid hB1
  have HR1 := hid hR1
  clear hB1 hR1
  go_wp2
  go_ret
  exact ⟨_, rfl, HB.out.trans (HB1.out.mono (by omega)), HR1.out⟩

set_option maxRecDepth 20000 in
set_option maxHeartbeats 1000000 in
theorem who2_any (R pt : Nat) (g : Option Nat) (w : World) (h2 : CellAt 60 w pt (.func (.func 39) #[] #[.pointer (some ⟨R, 0, none⟩)])) (h2R : pt ≠ R) (h2g : some pt ≠ g) :
    Makes R 0 0 16 g w (.func (.func 61) #[] #[.pointer (some ⟨pt, 0, none⟩)]) (fun n st => (setWho ((n : Int) - 1) st, chainP [])) := by
  refine ⟨_, _, rfl, enters_of Try.func61 (by kernel_rfl) rfl, fun n st g' w' vc vs vi _ hn hk hst => ?_⟩
  show Calls Try.prog 61 #[.int .i64 (n : Int), .pointer (some ⟨pt, 0, none⟩)] w' _
  obtain ⟨c1, _⟩ := (h2.step hk h2R h2g).cells
  have hcall := of4_any R ((n : Int) - 1) st g' w' vc vs vi hst
  clear hk h2
  go_enter Try.func61, Try.ntmps61
  go_wp2_with fail
  refine hcall.mono ?_
  clear hcall
  unfold TakePost
  rintro e w1 ⟨g1, yc, ys, yi, rfl, hs1, hst1, hcl1⟩
  have hgl := hst1.glt
  have hRl := hst1.row.lt
  have hC := chain_row R (.slice none 0 0) [] [] g1 w1 ⟨0, 0, none, 0, rfl, Nat.le_refl _, fun h => absurd rfl h, fun j hj => by simp at hj⟩ rfl (by simp) (fun j h => by simp at h) hRl (fun j hj => (hgl j hj).2)
  have HS1 := hid hs1
  have HST1 := hid hst1
  clear hs1 hst1 hgl hRl
  go_wp2_with fail
  refine hC.mono ?_
  clear hC
  unfold Made
  rintro e w2 ⟨rd, rfl, hB2, hR2⟩
  have HB2 := hid hB2
  have HR2 := hid hR2
  clear hB2 hR2
  go_wp2
  go_ret
  unfold MakePost
  exact ⟨_, g1, yc, ys, yi, rfl, HS1.out.trans (Step.of_below HB2.out), HST1.out.below HB2.out, by simp [setWho], HR2.out⟩

set_option maxRecDepth 20000 in
set_option maxHeartbeats 1000000 in
theorem readWho_any (R : Nat) (g : Option Nat) (w : World) (hR : R < w.heap.size) (hg : ∀ j, g = some j → j < w.heap.size) :
    Calls Try.prog 38 #[.func (.func 39) #[] #[.pointer (some ⟨R, 0, none⟩)]] w (Made R 0 g whoP w) := by
  obtain ⟨W, hW⟩ : ∃ W, W = w.alloc (.cells #[.func (.func 39) #[] #[.pointer (some ⟨R, 0, none⟩)]] 60) := ⟨_, rfl⟩
  have h1 : CellAt 60 W w.heap.size (.func (.func 39) #[] #[.pointer (some ⟨R, 0, none⟩)]) := by rw [hW]; exact CellAt.new w _
  have hB : Below w.heap.size w W := by rw [hW]; exact below_alloc w _
  have hsz := h1.lt
  have f1 : some w.heap.size ≠ g := fun e => by have := hg _ e.symm; omega
  have hM := who2_any R w.heap.size g W h1 (by omega) f1
  have hC := counted_row R 0 0 16 g _ _ W hM (by omega) (fun j hj => by have := hg j hj; omega)
  have HB := hid hB
  have HW := hid hW
  clear h1 hB hW hM
  go_enter Try.func38, Try.ntmps38
  go_wp2_with fail
  rw [← HW.out]
  refine hC.mono ?_
  clear hC
  unfold Made
  rintro e w1 ⟨rd, rfl, hB1, hR1⟩
  have HB1 := hid hB1
  have HR1 := hid hR1
  clear hB1 hR1
  go_wp2
  go_ret
  exact ⟨_, rfl, HB.out.trans (HB1.out.mono (by omega)), HR1.out⟩

set_option maxRecDepth 20000 in
set_option maxHeartbeats 2000000 in
theorem label1_any (R pt : Nat) (s : ByteArray) (st : RowV) (g : Option Nat) (w : World) (vc vs vi : Value)
    (h2 : CellAt 58 w pt (.func (.func 37) #[] #[.pointer (some ⟨R, 0, none⟩)])) (hs : s.size ≤ 4611686018427387904) (hst : Stands w R g st vc vs vi) :
    Calls Try.prog 59 #[.string s, .pointer (some ⟨pt, 0, none⟩)] w (ReadPost R 0 labP (bytesOf s) st g w) := by
  have hL := labOf_any s w hs
  have HST := hid hst
  have hRl := hst.row.lt
  have hgl := hst.glt
  have H2 := hid h2
  have h2lt := h2.lt
  have HD : Hid (labP (bytesOf s) st = match ofL (bytesOf s) with | none => none | some (a, i, n) => some (n, setLab a i st)) := rfl
  clear hst h2
  cases hr : ofL (bytesOf s) with
  | none =>
    rw [hr] at hL
    have HF : Hid (labP (bytesOf s) st = none) := by unfold Hid; rw [HD.out, hr]
    clear HD hr
    go_enter Try.func59, Try.ntmps59
    go_wp2_with fail
    refine hL.mono ?_
    clear hL
    rintro e w1 ⟨u1, u2, rfl, hO1, hO2, hB1⟩
    obtain ⟨ao1, cap1, rfl⟩ := hO1.form
    obtain ⟨ao2, cap2, rfl⟩ := hO2.form
    have HB1 := hid hB1
    clear hO1 hO2 hB1
    simp only [Option.isSome_none, errOf, ofN, ofS, ofI, Option.getD_none]
    go_wp2
    go_ret2
    unfold ReadPost
    have hBF := HB1.out.alloc (HB1.out.size) (.cells #[.slice ao1 ([] : List Int).length cap1, .slice ao2 ([] : List Int).length cap2] 25)
    exact ⟨g, st, vc, vs, vi, Step.of_below hBF, HST.out.below hBF, by omega, Or.inl ⟨HF.out, rfl⟩⟩
  | some q =>
    obtain ⟨a, i, n⟩ := q
    have hok := ofL_ok hr
    rw [hr] at hL
    have HF : Hid (labP (bytesOf s) st = some (n, setLab a i st)) := by unfold Hid; rw [HD.out, hr]
    clear HD hr
    go_enter Try.func59, Try.ntmps59
    go_wp2_with fail
    refine hL.mono ?_
    clear hL
    rintro e w1 ⟨u1, u2, rfl, hO1, hO2, hB1⟩
    simp only [Option.isSome_some, errOf, ofN, ofS, ofI, Option.getD_some] at hO1 hO2 ⊢
    have b1 := Owns.block hO1
    have b2 := Owns.block hO2
    obtain ⟨ao1, cap1, rfl⟩ := hO1.form
    obtain ⟨ao2, cap2, rfl⟩ := hO2.form
    obtain ⟨w2, hw2⟩ : ∃ w2, w2 = w1.alloc (.cells #[.slice ao1 a.length cap1, .slice ao2 i.length cap2] 25) := ⟨_, rfl⟩
    have hB2 : Below w1.heap.size w1 w2 := by rw [hw2]; exact below_alloc w1 _
    have hBF := hB1.trans (hB2.mono hB1.size)
    have h2' : CellAt 58 w2 pt (.func (.func 37) #[] #[.pointer (some ⟨R, 0, none⟩)]) := by
      have h := H2.out
      unfold CellAt at h ⊢
      rw [hBF.block pt h2lt]
      exact h
    obtain ⟨c1, _⟩ := h2'.cells
    have hcall := of3_any R (.slice ao1 a.length cap1) (.slice ao2 i.length cap2) a i st g w2 vc vs vi (HST.out.below hBF) (owns_le (hO1.below hB2) (by omega)) (owns_le (hO2.below hB2) (by omega)) (fun j hj e => by have := b1 j hj; have := hgl j e.symm; omega) (fun j hj e => by have := b2 j hj; have := hgl j e.symm; omega)
    have HBF := hid hBF
    rw [hw2] at c1
    have HW2 := hid hw2
    clear hO1 hO2 hB1 hB2 hBF h2' hw2 b1 b2
    go_wp2_with fail
    rw [← HW2.out]
    refine hcall.mono ?_
    clear hcall
    unfold TakePost
    rintro e w3 ⟨g3, yc, ys, yi, rfl, hs3, hst3, hcl3⟩
    have HS3 := hid ((Step.of_below HBF.out).trans hs3)
    have HST3 := hid hst3
    clear hs3 hst3
    go_wp2
    go_ret2
    unfold ReadPost
    exact ⟨g3, setLab a i st, yc, ys, yi, HS3.out, HST3.out, hcl3, Or.inr ⟨n, HF.out, hok.2, rfl⟩⟩

set_option maxRecDepth 20000 in
set_option maxHeartbeats 1000000 in
theorem readLabel_any (R : Nat) (g : Option Nat) (w : World) (hR : R < w.heap.size) (hg : ∀ j, g = some j → j < w.heap.size) :
    Calls Try.prog 36 #[.func (.func 37) #[] #[.pointer (some ⟨R, 0, none⟩)]] w (Made R 0 g labP w) := by
  obtain ⟨W, hW⟩ : ∃ W, W = w.alloc (.cells #[.func (.func 37) #[] #[.pointer (some ⟨R, 0, none⟩)]] 58) := ⟨_, rfl⟩
  have h1 : CellAt 58 W w.heap.size (.func (.func 37) #[] #[.pointer (some ⟨R, 0, none⟩)]) := by rw [hW]; exact CellAt.new w _
  have hB : Below w.heap.size w W := by rw [hW]; exact below_alloc w _
  have f1 : some w.heap.size ≠ g := fun e => by have := hg _ e.symm; omega
  have hRd : Reads R 0 g W (.func (.func 59) #[] #[.pointer (some ⟨w.heap.size, 0, none⟩)]) labP := by
    refine ⟨_, _, rfl, enters_of Try.func59 (by kernel_rfl) rfl, fun s st g' w' vc vs vi hs hk hst hc => ?_⟩
    exact label1_any R w.heap.size s st g' w' vc vs vi (h1.step hk (by omega) f1) hs hst
  have HB := hid hB
  have HRd := hid hRd
  have HW := hid hW
  clear h1 hB hRd hW
  go_enter Try.func36, Try.ntmps36
  go_wp2
  rw [← HW.out]
  go_ret
  unfold Made
  exact ⟨_, rfl, HB.out, HRd.out⟩

end Go.Proofs.Ytkbceaofijngoaa
