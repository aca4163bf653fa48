/-
  readText: a text of so many bytes.
-/
import Derived.Test.YtkbceaofijngoaaWTk
import Derived.Laws.IdiomStrings
namespace Go.Proofs.Ytkbceaofijngoaa
open Go.RowKit
set_option linter.unusedVariables false

/-- A conversion that makes something new, at a step of a region that draws its order. -/
theorem step_convW {w w' : World} {ops : Array Oper} {o : Oper} {a : Act} {K : Act → World → Prop} {Q : Exit → Act → World → Prop} {E : Prop} (hgd : o.guard = none) (S T : TypeId) (x : Operand)
    (ho : o.op = .convert S T x) (v r : Value) (hx : a.eval x = v) (hr : (convert S T v).run Try.prog w = .ok r w') (h : K (a.put o.dst r) w') :
    if Region.wanted o (yielded ops a.tmps) = true then Oper.wp Try.prog o a w K Q else E := by
  have hw : Region.wanted o (yielded ops a.tmps) = true := by simp [Region.wanted, hgd]
  rw [if_pos hw]
  unfold Oper.wp execOp
  simp only [ho, hx, Sem.run_bind, Sem.run_pure, Result.andThen_ok, hr]
  exact h

theorem extract_take (s : ByteArray) (n : Nat) (h : n ≤ s.size) : s.extract 0 n = strOf ((bytesOf s).take n) := by
  have e : (s.extract 0 n).data.toList = s.data.toList.take n := by
    rw [ByteArray.data_extract, Array.toList_extract]
    simp [List.extract]
  rw [← strOf_bytesOf (s.extract 0 n)]
  congr 1
  rw [bytesOf, e, bytesOf, List.map_take]

/-- A text's bytes, made anew, and the text of them. -/
theorem copy_text (x : ByteArray) (w : World) : ∃ C w1, (convert 9 46 (.string x)).run Try.prog w = .ok (.slice (some ⟨w.heap.size, 0, none⟩) x.size C) w1 ∧
    (convert 46 9 (.slice (some ⟨w.heap.size, 0, none⟩) x.size C)).run Try.prog w1 = .ok (.string x) w1 ∧ Below w.heap.size w w1 := by
  have h1 := run_bytes_of_string (P := Try.prog) w 9 46 5 x Try.underlying9 Try.underlying46 Try.underlying5
  refine ⟨_, _, h1, ?_, (Below.drew (Below.refl _ _)).alloc (Nat.le_refl _) _⟩
  obtain ⟨l⟩ := x
  obtain ⟨l⟩ := l
  have hsz : (⟨⟨l⟩⟩ : ByteArray).size = l.length := by simp [ByteArray.size]
  rw [hsz]
  refine run_convert_bytes_back (P := Try.prog) _ 46 9 5 ⟨w.heap.size, 0, none⟩ _ l Try.underlying46 Try.underlying5 Try.underlying9 (fun j hj => ?_)
  rw [addr_add, Nat.zero_add]
  have := World.cell?_alloc_mark w.drew (bytesRow ⟨l.toArray⟩ (grownCap w l.length 0 5)) 5 ((bytesRow ⟨l.toArray⟩ (grownCap w l.length 0 5)).size, (bytesRow ⟨l.toArray⟩ (grownCap w l.length 0 5)).size + 1) j
  rw [show w.drew.heap.size = w.heap.size from rfl] at this
  rw [this, bytesRow_at _ _ _ (by simpa using hj)]
  simp

set_option maxRecDepth 20000 in
set_option maxHeartbeats 2000000 in
theorem text1_any (R c n pn pt : Nat) (vt : Value) (tk : ByteArray → RowV → RowV) (s : ByteArray) (st : RowV) (g : Option Nat) (w : World) (vc vs vi : Value)
    (h1 : CellAt 3 w pn (.int .i64 (n : Int))) (h2 : CellAt 55 w pt vt) (h1R : pn ≠ R) (h1g : some pn ≠ g) (h2R : pt ≠ R) (h2g : some pt ≠ g)
    (hT : Takes R c vt tk) (hs : s.size ≤ 4611686018427387904) (hst : Stands w R g st vc vs vi) (hc : st.cells.length + c ≤ 1000) :
    Calls Try.prog 57 #[.string s, .pointer (some ⟨pn, 0, none⟩), .pointer (some ⟨pt, 0, none⟩)] w (ReadPost R c (takeP tk n) (bytesOf s) st g w) := by
  obtain ⟨k, caps, rfl, hen, hC⟩ := hT
  obtain ⟨c1, _⟩ := h1.cells
  obtain ⟨c2, _⟩ := h2.cells
  have H1 := hid h1
  have H2 := hid h2
  have HC := hid hC
  have HST := hid hst
  have HBL := hid (bytesOf_len s)
  have HD : Hid (takeP tk n (bytesOf s) st = if (bytesOf s).length < n then none else some (n, tk (strOf ((bytesOf s).take n)) st)) := rfl
  have hen' : ∀ (args : Array Value) (w : World), (callFunc k args).run Try.prog w = .ok (.enter k args) w := hen
  clear h1 h2 hC hst hen
  by_cases hb : s.size < n
  · have HF : Hid (takeP tk n (bytesOf s) st = none) := by unfold Hid; rw [HD.out, HBL.out, if_pos hb]
    have hb' : (s.size : Int) < (n : Int) := by omega
    clear HD
    go_enter Try.func57, Try.ntmps57
    go_wp2
    go_ret2
    unfold ReadPost
    exact ⟨g, st, vc, vs, vi, Step.refl _ _ _, HST.out, by omega, Or.inl ⟨HF.out, rfl⟩⟩
  · have HF : Hid (takeP tk n (bytesOf s) st = some (n, tk (strOf ((bytesOf s).take n)) st)) := by unfold Hid; rw [HD.out, HBL.out, if_neg hb]
    have hb' : ¬ (s.size : Int) < (n : Int) := by omega
    have hns : (n : Int) ≤ (s.size : Int) := by omega
    have HX := hid (extract_take s n (by omega))
    obtain ⟨x, hx⟩ : ∃ x, x = s.extract 0 n := ⟨_, rfl⟩
    have HXX := hid hx
    obtain ⟨C, w1, k1, k2, kb⟩ := copy_text x w.drew
    have kb' : Below w.heap.size w w1 := (Below.drew (Below.refl _ _)).trans kb
    have hs1 := kb'.size
    have HS1 : Hid (Step R g w g w1) := hid (Step.of_below kb')
    have hcall := HC.out x st g w1 vc vs vi (HST.out.below kb') hc
    obtain ⟨d1, _⟩ := (H1.out.step HS1.out h1R h1g).cells
    obtain ⟨d2, _⟩ := (H2.out.step HS1.out h2R h2g).cells
    clear HD hb HC kb kb' hx
    go_enter Try.func57, Try.ntmps57
    go_wp2_with fail
    refine wp_region_noPanic ?_
    refine wp_region_held_drew (S := (fun w' => w'.cell? ⟨pn, 0, none⟩ = some (.int .i64 (n : Int)) ∧ w'.cell? ⟨pt, 0, none⟩ = some (.func (.func k) #[] caps))) (by kernel_rfl) ?_ (fun hHeld => ?_)
    · first | exact ⟨by assumption, by assumption⟩ | (refine ⟨?_, ?_⟩ <;> first | assumption | (simp [*]; done))
    refine wpAnyH_take (i := 0) (oi := { dst := some 10, op := Op.load 55 (Operand.tmp 2), type := 55, pos := "read.go:50", after := #[], guard := none }) (v := (.func (.func k) #[] caps)) rfl (by kernel_rfl) (by kernel_rfl) (by kernel_rfl) (fun _ _ _ h => h) (Or.inl ⟨by rfl, ?_⟩) (by assumption) ?_
    · intro w hSw
      try dsimp only at hSw
      go_simp
    try simp only [Act.put, List.setIfInBounds_toArray, List.set_cons_zero, List.set_cons_succ]
    refine wpAnyH_take (i := 1) (oi := { dst := some 11, op := Op.move (Operand.tmp 0), type := 9, pos := "read.go:50", after := #[], guard := none }) (v := (.string s)) rfl (by kernel_rfl) (by kernel_rfl) (by kernel_rfl) (fun _ _ _ h => h) (Or.inl ⟨by rfl, ?_⟩) (by assumption) ?_
    · intro w hSw
      try dsimp only at hSw
      go_simp
    try simp only [Act.put, List.setIfInBounds_toArray, List.set_cons_zero, List.set_cons_succ]
    refine wpAnyH_take (i := 2) (oi := { dst := some 12, op := Op.load 3 (Operand.tmp 1), type := 3, pos := "read.go:50", after := #[], guard := none }) (v := (.int .i64 (n : Int))) rfl (by kernel_rfl) (by kernel_rfl) (by kernel_rfl) (fun _ _ _ h => h) (Or.inl ⟨by rfl, ?_⟩) (by assumption) ?_
    · intro w hSw
      try dsimp only at hSw
      go_simp
    try simp only [Act.put, List.setIfInBounds_toArray, List.set_cons_zero, List.set_cons_succ]
    refine wpAnyH_take (i := 3) (oi := { dst := some 13, op := Op.slice 9 (Operand.tmp 11) none (some (Operand.tmp 12)) none, type := 9, pos := "read.go:50", after := #[{ on := 1, ground := Ground.data }, { on := 2, ground := Ground.data }], guard := none }) (v := (.string (s.extract 0 n))) rfl (by kernel_rfl) (by kernel_rfl) (by kernel_rfl) (fun _ _ _ h => h) (Or.inl ⟨by rfl, ?_⟩) (by assumption) ?_
    · intro w hSw
      try dsimp only at hSw
      go_simp
    try simp only [Act.put, List.setIfInBounds_toArray, List.set_cons_zero, List.set_cons_succ]
    rw [← HXX.out]
    refine wpAnyH_ready (rs := [4]) (by kernel_rfl) (by simp) ?_
    refine AllReadyH.cons (o := { dst := some 14, op := Op.convert 9 46 (Operand.tmp 13), type := 46, pos := "read.go:50", after := #[{ on := 3, ground := Ground.data }], guard := none }) rfl (fun K hK => ?_) AllReadyH.nil
    refine step_convW (by rfl) 9 46 _ (by rfl) (.string x) _ (by rfl) k1 ?_
    refine hK.out _ _ ?_ (fun hHeld => ?_)
    · first | exact ⟨by assumption, by assumption⟩ | (refine ⟨?_, ?_⟩ <;> first | assumption | (simp [*]; done))
    clear hK K
    try simp only [Act.put, List.setIfInBounds_toArray, List.set_cons_zero, List.set_cons_succ]
    refine wpAnyH_ready (rs := [5]) (by kernel_rfl) (by simp) ?_
    refine AllReadyH.cons (o := { dst := some 15, op := Op.convert 46 9 (Operand.tmp 14), type := 9, pos := "read.go:50", after := #[{ on := 4, ground := Ground.data }], guard := none }) rfl (fun K hK => ?_) AllReadyH.nil
    refine step_convW (by rfl) 46 9 _ (by rfl) _ _ (by rfl) k2 ?_
    refine hK.out _ _ ?_ (fun hHeld => ?_)
    · first | exact ⟨by assumption, by assumption⟩ | (refine ⟨?_, ?_⟩ <;> first | assumption | (simp [*]; done))
    clear hK K
    try simp only [Act.put, List.setIfInBounds_toArray, List.set_cons_zero, List.set_cons_succ]
    refine wpAnyH_ready (rs := [6]) (by kernel_rfl) (by simp) ?_
    refine AllReadyH.cons (o := { dst := some 16, op := Op.call { callee := Callee.value (Operand.tmp 10), args := #[Operand.tmp 15], argTypes := #[9] }, type := 0, pos := "read.go:50", after := #[{ on := 0, ground := Ground.data }, { on := 5, ground := Ground.data }], guard := none }) rfl (fun K hK => ?_) AllReadyH.nil
    go_simp
    refine hcall.mono ?_
    clear hcall
    unfold TakePost
    rintro e w2 ⟨g2, yc, ys, yi, rfl, hs2, hst2, hcl2⟩
    have HS2 := hid (HS1.out.trans hs2)
    obtain ⟨e1, _⟩ := (H1.out.step HS2.out h1R h1g).cells
    obtain ⟨e2, _⟩ := (H2.out.step HS2.out h2R h2g).cells
    have HST2 := hid hst2
    clear hs2 hst2 d1 d2
    try go_wp2_with fail
    refine hK.out _ _ ?_ (fun hHeld => ?_)
    · first | exact ⟨by assumption, by assumption⟩ | (refine ⟨?_, ?_⟩ <;> first | assumption | (simp [*]; done))
    clear hK K
    try simp only [Act.put, List.setIfInBounds_toArray, List.set_cons_zero, List.set_cons_succ]
    refine wpAnyH_done (by kernel_rfl) ?_ _
    refine NoPanic.normal ?_
    go_wp2
    go_ret2
    unfold ReadPost
    refine ⟨g2, _, yc, ys, yi, HS2.out, HST2.out, hcl2, Or.inr ⟨n, ?_, by rw [HBL.out]; omega, rfl⟩⟩
    rw [HF.out, ← HX.out, ← HXX.out]

end Go.Proofs.Ytkbceaofijngoaa
