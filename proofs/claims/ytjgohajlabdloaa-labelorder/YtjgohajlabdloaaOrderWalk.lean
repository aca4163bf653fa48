/-
  The walk of LabelOrder.
-/
import Derived.Test.YtjgohajlabdloaaOrderMath
namespace Go.Proofs.Ytjgohajlabdloaa
open Go.RowKit
set_option linter.unusedVariables false
set_option linter.unusedSimpArgs false

theorem Boxed.new3 (w : World) (o o2 : Obj) (u v : Value) : Boxed (((w.alloc o).alloc o2).alloc (.cells #[u, v] 24)) (w.heap.size + 1 + 1) u v := by
  have h := Boxed.new ((w.alloc o).alloc o2) u v
  simpa using h

set_option maxRecDepth 20000 in
set_option maxHeartbeats 4000000 in
theorem order_walk (a b c : Value) (s i t j k l : List Int) (w : World) (h1 : SeesL w a s i) (h2 : SeesL w b t j) (h3 : SeesL w c k l) :
    Calls Try.prog 5 #[a, b, c] w fun e w' => e = .returned (.bool true) ∧ Below w.heap.size w w' := by
  have hA1 := h1
  obtain ⟨u1, x1, rfl, _⟩ := h1
  have hA2 := h2
  obtain ⟨u2, x2, rfl, _⟩ := h2
  have hA3 := h3
  obtain ⟨u3, x3, rfl, _⟩ := h3
  obtain ⟨W, hW⟩ : ∃ W, W = ((w.alloc (.cells #[u1, x1] 24)).alloc (.cells #[u2, x2] 24)).alloc (.cells #[u3, x3] 24) := ⟨_, rfl⟩
  have d1 : SeesL W (.agg #[u1, x1]) s i := by rw [hW]; exact (((hA1.box _).box _).box _)
  have d2 : SeesL W (.agg #[u2, x2]) t j := by rw [hW]; exact (((hA2.box _).box _).box _)
  have d3 : SeesL W (.agg #[u3, x3]) k l := by rw [hW]; exact (((hA3.box _).box _).box _)
  have hZ : Below w.heap.size w W := by rw [hW]; exact (((below_alloc w _).alloc (by simp) _).alloc (by simp; omega) _)
  have HA1 := hid (show Boxed W (w.heap.size) u1 x1 by rw [hW]; exact (((Boxed.new _ _ _).box _).box _))
  have HA2 := hid (show Boxed W (w.heap.size + 1) u2 x2 by rw [hW]; exact ((Boxed.new2 _ _ _ _).box _))
  have HA3 := hid (show Boxed W (w.heap.size + 1 + 1) u3 x3 by rw [hW]; exact (Boxed.new3 _ _ _ _ _))
  have HZ := hid hZ
  have hsz := hZ.size
  have HW := hid hW
  have HB := hid (Below.refl W.heap.size W)
  have HM1 := hid (fun w1 (h : Below W.heap.size W w1) => may_any _ s i w1 (d1.below h))
  have HM2 := hid (fun w1 (h : Below W.heap.size W w1) => may_any _ t j w1 (d2.below h))
  have HM3 := hid (fun w1 (h : Below W.heap.size W w1) => may_any _ k l w1 (d3.below h))
  have Faa := hid (fun w1 (h : Below W.heap.size W w1) => flowsl_any _ _ s i s i w1 (d1.below h) (d1.below h))
  have Fab := hid (fun w1 (h : Below W.heap.size W w1) => flowsl_any _ _ s i t j w1 (d1.below h) (d2.below h))
  have Fba := hid (fun w1 (h : Below W.heap.size W w1) => flowsl_any _ _ t j s i w1 (d2.below h) (d1.below h))
  have Fbc := hid (fun w1 (h : Below W.heap.size W w1) => flowsl_any _ _ t j k l w1 (d2.below h) (d3.below h))
  have Fac := hid (fun w1 (h : Below W.heap.size W w1) => flowsl_any _ _ s i k l w1 (d1.below h) (d3.below h))
  have Ali := hid (fun w1 (h : Below W.heap.size W w1) => alike_any _ _ s i t j w1 (d1.below h) (d2.below h))
  have Awa := hid (fun w1 (h : Below W.heap.size W w1) => awake_any w1)
  have q1 : mayB s i = true → mayB t j = true → mayB k l = true → flB s i s i = true ∧ (flB s i t j = true → flB t j k l = true → flB s i k l = true) ∧ (flB s i t j && flB t j s i) = alikeB s i t j := fun a b c => ⟨order_refl a, order_trans a b c, order_anti a b⟩
  generalize mayB s i = m1 at *
  generalize mayB t j = m2 at *
  generalize mayB k l = m3 at *
  generalize flB s i s i = faa at *
  generalize flB s i t j = fab at *
  generalize flB t j s i = fba at *
  generalize flB t j k l = fbc at *
  generalize flB s i k l = fac at *
  generalize alikeB s i t j = ali at *
  clear d1 d2 d3 hA1 hA2 hA3 hW hZ
  obtain ⟨c1, c2⟩ := HA1.out
  obtain ⟨c3, c4⟩ := HA2.out
  obtain ⟨c5, c6⟩ := HA3.out
  cases m1
  · go_enter Try.func5, Try.ntmps5
    go_wp2_with fail
    rw [← HW.out]
    clear HW
    refine (HM1.out _ HB.out).mono ?_
    clear c1 c2 c3 c4 c5 c6
    rintro e w' ⟨rfl, h'⟩
    have HBn := hid (HB.out.trans (h'.mono HB.out.size))
    clear HB h'
    have HB := HBn
    clear HBn
    obtain ⟨c1, c2⟩ := HA1.out.below HB.out
    obtain ⟨c3, c4⟩ := HA2.out.below HB.out
    obtain ⟨c5, c6⟩ := HA3.out.below HB.out
    go_wp2_with fail
    refine (Awa.out _ HB.out).mono ?_
    clear c1 c2 c3 c4 c5 c6
    rintro e w' ⟨rfl, h'⟩
    have HBn := hid (HB.out.trans (h'.mono HB.out.size))
    clear HB h'
    have HB := HBn
    clear HBn
    obtain ⟨c1, c2⟩ := HA1.out.below HB.out
    obtain ⟨c3, c4⟩ := HA2.out.below HB.out
    obtain ⟨c5, c6⟩ := HA3.out.below HB.out
    go_wp2
    go_ret
    exact ⟨rfl, HZ.out.trans (HB.out.mono hsz)⟩
  cases m2
  · go_enter Try.func5, Try.ntmps5
    go_wp2_with fail
    rw [← HW.out]
    clear HW
    refine (HM1.out _ HB.out).mono ?_
    clear c1 c2 c3 c4 c5 c6
    rintro e w' ⟨rfl, h'⟩
    have HBn := hid (HB.out.trans (h'.mono HB.out.size))
    clear HB h'
    have HB := HBn
    clear HBn
    obtain ⟨c1, c2⟩ := HA1.out.below HB.out
    obtain ⟨c3, c4⟩ := HA2.out.below HB.out
    obtain ⟨c5, c6⟩ := HA3.out.below HB.out
    go_wp2_with fail
    refine (HM2.out _ HB.out).mono ?_
    clear c1 c2 c3 c4 c5 c6
    rintro e w' ⟨rfl, h'⟩
    have HBn := hid (HB.out.trans (h'.mono HB.out.size))
    clear HB h'
    have HB := HBn
    clear HBn
    obtain ⟨c1, c2⟩ := HA1.out.below HB.out
    obtain ⟨c3, c4⟩ := HA2.out.below HB.out
    obtain ⟨c5, c6⟩ := HA3.out.below HB.out
    go_wp2_with fail
    refine (Awa.out _ HB.out).mono ?_
    clear c1 c2 c3 c4 c5 c6
    rintro e w' ⟨rfl, h'⟩
    have HBn := hid (HB.out.trans (h'.mono HB.out.size))
    clear HB h'
    have HB := HBn
    clear HBn
    obtain ⟨c1, c2⟩ := HA1.out.below HB.out
    obtain ⟨c3, c4⟩ := HA2.out.below HB.out
    obtain ⟨c5, c6⟩ := HA3.out.below HB.out
    go_wp2
    go_ret
    exact ⟨rfl, HZ.out.trans (HB.out.mono hsz)⟩
  cases m3
  · go_enter Try.func5, Try.ntmps5
    go_wp2_with fail
    rw [← HW.out]
    clear HW
    refine (HM1.out _ HB.out).mono ?_
    clear c1 c2 c3 c4 c5 c6
    rintro e w' ⟨rfl, h'⟩
    have HBn := hid (HB.out.trans (h'.mono HB.out.size))
    clear HB h'
    have HB := HBn
    clear HBn
    obtain ⟨c1, c2⟩ := HA1.out.below HB.out
    obtain ⟨c3, c4⟩ := HA2.out.below HB.out
    obtain ⟨c5, c6⟩ := HA3.out.below HB.out
    go_wp2_with fail
    refine (HM2.out _ HB.out).mono ?_
    clear c1 c2 c3 c4 c5 c6
    rintro e w' ⟨rfl, h'⟩
    have HBn := hid (HB.out.trans (h'.mono HB.out.size))
    clear HB h'
    have HB := HBn
    clear HBn
    obtain ⟨c1, c2⟩ := HA1.out.below HB.out
    obtain ⟨c3, c4⟩ := HA2.out.below HB.out
    obtain ⟨c5, c6⟩ := HA3.out.below HB.out
    go_wp2_with fail
    refine (HM3.out _ HB.out).mono ?_
    clear c1 c2 c3 c4 c5 c6
    rintro e w' ⟨rfl, h'⟩
    have HBn := hid (HB.out.trans (h'.mono HB.out.size))
    clear HB h'
    have HB := HBn
    clear HBn
    obtain ⟨c1, c2⟩ := HA1.out.below HB.out
    obtain ⟨c3, c4⟩ := HA2.out.below HB.out
    obtain ⟨c5, c6⟩ := HA3.out.below HB.out
    go_wp2_with fail
    refine (Awa.out _ HB.out).mono ?_
    clear c1 c2 c3 c4 c5 c6
    rintro e w' ⟨rfl, h'⟩
    have HBn := hid (HB.out.trans (h'.mono HB.out.size))
    clear HB h'
    have HB := HBn
    clear HBn
    obtain ⟨c1, c2⟩ := HA1.out.below HB.out
    obtain ⟨c3, c4⟩ := HA2.out.below HB.out
    obtain ⟨c5, c6⟩ := HA3.out.below HB.out
    go_wp2
    go_ret
    exact ⟨rfl, HZ.out.trans (HB.out.mono hsz)⟩
  obtain ⟨q2, q3, q4⟩ := q1 rfl rfl rfl
  clear q1
  subst q2
  cases fab
  · simp only [Bool.false_and] at q4
    subst q4
    go_enter Try.func5, Try.ntmps5
    go_wp2_with fail
    rw [← HW.out]
    clear HW
    refine (HM1.out _ HB.out).mono ?_
    clear c1 c2 c3 c4 c5 c6
    rintro e w' ⟨rfl, h'⟩
    have HBn := hid (HB.out.trans (h'.mono HB.out.size))
    clear HB h'
    have HB := HBn
    clear HBn
    obtain ⟨c1, c2⟩ := HA1.out.below HB.out
    obtain ⟨c3, c4⟩ := HA2.out.below HB.out
    obtain ⟨c5, c6⟩ := HA3.out.below HB.out
    go_wp2_with fail
    refine (HM2.out _ HB.out).mono ?_
    clear c1 c2 c3 c4 c5 c6
    rintro e w' ⟨rfl, h'⟩
    have HBn := hid (HB.out.trans (h'.mono HB.out.size))
    clear HB h'
    have HB := HBn
    clear HBn
    obtain ⟨c1, c2⟩ := HA1.out.below HB.out
    obtain ⟨c3, c4⟩ := HA2.out.below HB.out
    obtain ⟨c5, c6⟩ := HA3.out.below HB.out
    go_wp2_with fail
    refine (HM3.out _ HB.out).mono ?_
    clear c1 c2 c3 c4 c5 c6
    rintro e w' ⟨rfl, h'⟩
    have HBn := hid (HB.out.trans (h'.mono HB.out.size))
    clear HB h'
    have HB := HBn
    clear HBn
    obtain ⟨c1, c2⟩ := HA1.out.below HB.out
    obtain ⟨c3, c4⟩ := HA2.out.below HB.out
    obtain ⟨c5, c6⟩ := HA3.out.below HB.out
    go_wp2_with fail
    refine (Faa.out _ HB.out).mono ?_
    clear c1 c2 c3 c4 c5 c6
    rintro e w' ⟨rfl, h'⟩
    have HBn := hid (HB.out.trans (h'.mono HB.out.size))
    clear HB h'
    have HB := HBn
    clear HBn
    obtain ⟨c1, c2⟩ := HA1.out.below HB.out
    obtain ⟨c3, c4⟩ := HA2.out.below HB.out
    obtain ⟨c5, c6⟩ := HA3.out.below HB.out
    go_wp2_with fail
    refine (Fab.out _ HB.out).mono ?_
    clear c1 c2 c3 c4 c5 c6
    rintro e w' ⟨rfl, h'⟩
    have HBn := hid (HB.out.trans (h'.mono HB.out.size))
    clear HB h'
    have HB := HBn
    clear HBn
    obtain ⟨c1, c2⟩ := HA1.out.below HB.out
    obtain ⟨c3, c4⟩ := HA2.out.below HB.out
    obtain ⟨c5, c6⟩ := HA3.out.below HB.out
    clear HM1 HM2 HM3 Faa Fbc Fac
    go_wp2_with fail
    have HBn := hid (Below.drew HB.out)
    clear HB
    have HB := HBn
    clear HBn
    refine wp_region_noPanic ?_
    refine wp_region_held_drew (S := (fun w' => w'.cell? ⟨w.heap.size, 0, none⟩ = some u1 ∧ w'.cell? ⟨w.heap.size, 1, none⟩ = some x1 ∧ w'.cell? ⟨w.heap.size + 1, 0, none⟩ = some u2 ∧ w'.cell? ⟨w.heap.size + 1, 1, none⟩ = some x2 ∧ w'.cell? ⟨w.heap.size + 1 + 1, 0, none⟩ = some u3 ∧ w'.cell? ⟨w.heap.size + 1 + 1, 1, none⟩ = some x3)) (by kernel_rfl) ?_ (fun hHeld => ?_)
    · first | (refine ⟨?_, ?_, ?_, ?_, ?_, ?_⟩ <;> first | assumption | go_keep)
    refine wpAnyH_take (i := 0) (oi := { dst := some 41, op := Op.load 24 (Operand.tmp 3), type := 24, pos := "law.go:97", after := #[], guard := none }) (v := (.agg #[u1, x1])) rfl (by kernel_rfl) (by kernel_rfl) (by kernel_rfl) (fun _ _ _ h => h) (Or.inl ⟨by rfl, ?_⟩) (by assumption) ?_
    · intro w hSw
      try dsimp only at hSw
      go_simp
    try simp only [Act.put, List.setIfInBounds_toArray, List.set_cons_zero, List.set_cons_succ]
    refine wpAnyH_take (i := 1) (oi := { dst := some 42, op := Op.load 24 (Operand.tmp 4), type := 24, pos := "law.go:97", after := #[], guard := none }) (v := (.agg #[u2, x2])) rfl (by kernel_rfl) (by kernel_rfl) (by kernel_rfl) (fun _ _ _ h => h) (Or.inl ⟨by rfl, ?_⟩) (by assumption) ?_
    · intro w hSw
      try dsimp only at hSw
      go_simp
    try simp only [Act.put, List.setIfInBounds_toArray, List.set_cons_zero, List.set_cons_succ]
    refine wpAnyH_take (i := 8) (oi := { dst := some 49, op := Op.load 24 (Operand.tmp 3), type := 24, pos := "law.go:97", after := #[], guard := none }) (v := (.agg #[u1, x1])) rfl (by kernel_rfl) (by kernel_rfl) (by kernel_rfl) (fun _ _ _ h => h) (Or.inl ⟨by rfl, ?_⟩) (by assumption) ?_
    · intro w hSw
      try dsimp only at hSw
      go_simp
    try simp only [Act.put, List.setIfInBounds_toArray, List.set_cons_zero, List.set_cons_succ]
    refine wpAnyH_take (i := 9) (oi := { dst := some 50, op := Op.load 24 (Operand.tmp 4), type := 24, pos := "law.go:97", after := #[], guard := none }) (v := (.agg #[u2, x2])) rfl (by kernel_rfl) (by kernel_rfl) (by kernel_rfl) (fun _ _ _ h => h) (Or.inl ⟨by rfl, ?_⟩) (by assumption) ?_
    · intro w hSw
      try dsimp only at hSw
      go_simp
    try simp only [Act.put, List.setIfInBounds_toArray, List.set_cons_zero, List.set_cons_succ]
    refine wpAnyH_ready (rs := [2]) (by kernel_rfl) (by simp) ?_
    refine AllReadyH.cons (o := { dst := some 43, op := Op.call { callee := Callee.value (Operand.func 23), args := #[Operand.tmp 41, Operand.tmp 42], argTypes := #[24, 24] }, type := 4, pos := "law.go:97", after := #[{ on := 0, ground := Ground.data }, { on := 1, ground := Ground.data }], guard := none }) rfl (fun K hK => ?_) AllReadyH.nil
    go_simp
    refine (Fab.out _ HB.out).mono ?_
    clear c1 c2 c3 c4 c5 c6
    rintro e w' ⟨rfl, h'⟩
    have HBn := hid (HB.out.trans (h'.mono HB.out.size))
    clear HB h'
    have HB := HBn
    clear HBn
    obtain ⟨c1, c2⟩ := HA1.out.below HB.out
    obtain ⟨c3, c4⟩ := HA2.out.below HB.out
    obtain ⟨c5, c6⟩ := HA3.out.below HB.out
    try go_wp2_with fail
    refine hK.out _ _ ?_ (fun hHeld => ?_)
    · first | (refine ⟨?_, ?_, ?_, ?_, ?_, ?_⟩ <;> first | assumption | go_keep)
    clear hK K
    try simp only [Act.put, List.setIfInBounds_toArray, List.set_cons_zero, List.set_cons_succ]
    refine wpAnyH_take (i := 3) (oi := { dst := some 44, op := Op.move (Operand.tmp 43), type := 4, pos := "law.go:97", after := #[{ on := 2, ground := Ground.data }, { on := 2, ground := Ground.chain }], guard := none }) (v := (.bool false)) rfl (by kernel_rfl) (by kernel_rfl) (by kernel_rfl) (fun _ _ _ h => h) (Or.inl ⟨by rfl, ?_⟩) (by assumption) ?_
    · intro w hSw
      try dsimp only at hSw
      go_simp
    try simp only [Act.put, List.setIfInBounds_toArray, List.set_cons_zero, List.set_cons_succ]
    refine wpAnyH_take (i := 4) (oi := { dst := some 45, op := Op.load 24 (Operand.tmp 4), type := 24, pos := "law.go:97", after := #[{ on := 3, ground := Ground.guard }], guard := some (3, true) }) (v := undef) rfl (by kernel_rfl) (by kernel_rfl) (by kernel_rfl) (fun _ _ _ h => h) (Or.inr ⟨by rfl, rfl⟩) (by assumption) ?_
    try simp only [Act.put, List.setIfInBounds_toArray, List.set_cons_zero, List.set_cons_succ]
    refine wpAnyH_take (i := 5) (oi := { dst := some 46, op := Op.load 24 (Operand.tmp 3), type := 24, pos := "law.go:97", after := #[{ on := 3, ground := Ground.guard }], guard := some (3, true) }) (v := undef) rfl (by kernel_rfl) (by kernel_rfl) (by kernel_rfl) (fun _ _ _ h => h) (Or.inr ⟨by rfl, rfl⟩) (by assumption) ?_
    try simp only [Act.put, List.setIfInBounds_toArray, List.set_cons_zero, List.set_cons_succ]
    refine wpAnyH_take (i := 6) (oi := { dst := some 47, op := Op.call { callee := Callee.value (Operand.func 23), args := #[Operand.tmp 45, Operand.tmp 46], argTypes := #[24, 24] }, type := 4, pos := "law.go:97", after := #[{ on := 4, ground := Ground.data }, { on := 5, ground := Ground.data }, { on := 3, ground := Ground.chain }, { on := 3, ground := Ground.guard }], guard := some (3, true) }) (v := undef) rfl (by kernel_rfl) (by kernel_rfl) (by kernel_rfl) (fun _ _ _ h => h) (Or.inr ⟨by rfl, rfl⟩) (by assumption) ?_
    try simp only [Act.put, List.setIfInBounds_toArray, List.set_cons_zero, List.set_cons_succ]
    refine wpAnyH_take (i := 7) (oi := { dst := some 48, op := Op.pick (Operand.tmp 44) (Operand.tmp 47) (Operand.const (Value.bool false)), type := 4, pos := "law.go:97", after := #[{ on := 3, ground := Ground.data }, { on := 6, ground := Ground.data }], guard := none }) (v := (.bool false)) rfl (by kernel_rfl) (by kernel_rfl) (by kernel_rfl) (fun _ _ _ h => h) (Or.inl ⟨by rfl, ?_⟩) (by assumption) ?_
    · intro w hSw
      try dsimp only at hSw
      go_simp
    try simp only [Act.put, List.setIfInBounds_toArray, List.set_cons_zero, List.set_cons_succ]
    refine wpAnyH_ready (rs := [10]) (by kernel_rfl) (by simp) ?_
    refine AllReadyH.cons (o := { dst := some 51, op := Op.call { callee := Callee.value (Operand.func 16), args := #[Operand.tmp 49, Operand.tmp 50], argTypes := #[24, 24] }, type := 4, pos := "law.go:97", after := #[{ on := 8, ground := Ground.data }, { on := 9, ground := Ground.data }, { on := 6, ground := Ground.chain }], guard := none }) rfl (fun K hK => ?_) AllReadyH.nil
    go_simp
    refine (Ali.out _ HB.out).mono ?_
    clear c1 c2 c3 c4 c5 c6
    rintro e w' ⟨rfl, h'⟩
    have HBn := hid (HB.out.trans (h'.mono HB.out.size))
    clear HB h'
    have HB := HBn
    clear HBn
    obtain ⟨c1, c2⟩ := HA1.out.below HB.out
    obtain ⟨c3, c4⟩ := HA2.out.below HB.out
    obtain ⟨c5, c6⟩ := HA3.out.below HB.out
    try go_wp2_with fail
    refine hK.out _ _ ?_ (fun hHeld => ?_)
    · first | (refine ⟨?_, ?_, ?_, ?_, ?_, ?_⟩ <;> first | assumption | go_keep)
    clear hK K
    try simp only [Act.put, List.setIfInBounds_toArray, List.set_cons_zero, List.set_cons_succ]
    refine wpAnyH_take (i := 11) (oi := { dst := some 52, op := Op.binOp BinOp.eql 4 (Operand.tmp 48) (Operand.tmp 51) 4, type := 4, pos := "law.go:97", after := #[{ on := 7, ground := Ground.data }, { on := 10, ground := Ground.data }], guard := none }) (v := (.bool true)) rfl (by kernel_rfl) (by kernel_rfl) (by kernel_rfl) (fun _ _ _ h => h) (Or.inl ⟨by rfl, ?_⟩) (by assumption) ?_
    · intro w hSw
      try dsimp only at hSw
      go_simp
    try simp only [Act.put, List.setIfInBounds_toArray, List.set_cons_zero, List.set_cons_succ]
    refine wpAnyH_take (i := 12) (oi := { dst := some 53, op := Op.move (Operand.tmp 52), type := 4, pos := "law.go:97", after := #[{ on := 11, ground := Ground.data }, { on := 10, ground := Ground.chain }], guard := none }) (v := (.bool true)) rfl (by kernel_rfl) (by kernel_rfl) (by kernel_rfl) (fun _ _ _ h => h) (Or.inl ⟨by rfl, ?_⟩) (by assumption) ?_
    · intro w hSw
      try dsimp only at hSw
      go_simp
    try simp only [Act.put, List.setIfInBounds_toArray, List.set_cons_zero, List.set_cons_succ]
    refine wpAnyH_ready (rs := [13]) (by kernel_rfl) (by simp) ?_
    refine AllReadyH.cons (o := { dst := some 54, op := Op.call { callee := Callee.value (Operand.func 17), args := #[], argTypes := #[] }, type := 4, pos := "law.go:97", after := #[{ on := 12, ground := Ground.chain }, { on := 12, ground := Ground.guard }], guard := some (12, true) }) rfl (fun K hK => ?_) AllReadyH.nil
    go_simp
    refine (Awa.out _ HB.out).mono ?_
    clear c1 c2 c3 c4 c5 c6
    rintro e w' ⟨rfl, h'⟩
    have HBn := hid (HB.out.trans (h'.mono HB.out.size))
    clear HB h'
    have HB := HBn
    clear HBn
    obtain ⟨c1, c2⟩ := HA1.out.below HB.out
    obtain ⟨c3, c4⟩ := HA2.out.below HB.out
    obtain ⟨c5, c6⟩ := HA3.out.below HB.out
    try go_wp2_with fail
    refine hK.out _ _ ?_ (fun hHeld => ?_)
    · first | (refine ⟨?_, ?_, ?_, ?_, ?_, ?_⟩ <;> first | assumption | go_keep)
    clear hK K
    try simp only [Act.put, List.setIfInBounds_toArray, List.set_cons_zero, List.set_cons_succ]
    refine wpAnyH_take (i := 14) (oi := { dst := some 55, op := Op.pick (Operand.tmp 53) (Operand.tmp 54) (Operand.const (Value.bool false)), type := 4, pos := "law.go:97", after := #[{ on := 12, ground := Ground.data }, { on := 13, ground := Ground.data }], guard := none }) (v := (.bool true)) rfl (by kernel_rfl) (by kernel_rfl) (by kernel_rfl) (fun _ _ _ h => h) (Or.inl ⟨by rfl, ?_⟩) (by assumption) ?_
    · intro w hSw
      try dsimp only at hSw
      go_simp
    try simp only [Act.put, List.setIfInBounds_toArray, List.set_cons_zero, List.set_cons_succ]
    refine wpAnyH_take (i := 15) (oi := { dst := some 6, op := Op.assign (Operand.tmp 55), type := 4, pos := "law.go:97", after := #[{ on := 14, ground := Ground.data }, { on := 13, ground := Ground.chain }, { on := 0, ground := Ground.phase }, { on := 1, ground := Ground.phase }, { on := 2, ground := Ground.phase }, { on := 3, ground := Ground.phase }, { on := 4, ground := Ground.phase }, { on := 5, ground := Ground.phase }, { on := 6, ground := Ground.phase }, { on := 7, ground := Ground.phase }, { on := 8, ground := Ground.phase }, { on := 9, ground := Ground.phase }, { on := 10, ground := Ground.phase }, { on := 11, ground := Ground.phase }, { on := 12, ground := Ground.phase }, { on := 13, ground := Ground.phase }, { on := 14, ground := Ground.phase }], guard := none }) (v := (.bool true)) rfl (by kernel_rfl) (by kernel_rfl) (by kernel_rfl) (fun _ _ _ h => h) (Or.inl ⟨by rfl, ?_⟩) (by assumption) ?_
    · intro w hSw
      try dsimp only at hSw
      go_simp
    try simp only [Act.put, List.setIfInBounds_toArray, List.set_cons_zero, List.set_cons_succ]
    refine wpAnyH_done (by kernel_rfl) ?_ _
    refine NoPanic.normal ?_
    go_wp2
    go_ret
    exact ⟨rfl, HZ.out.trans (HB.out.mono hsz)⟩
  simp only [Bool.true_and] at q4
  subst q4
  cases fbc
  · cases fba
    · go_enter Try.func5, Try.ntmps5
      go_wp2_with fail
      rw [← HW.out]
      clear HW
      refine (HM1.out _ HB.out).mono ?_
      clear c1 c2 c3 c4 c5 c6
      rintro e w' ⟨rfl, h'⟩
      have HBn := hid (HB.out.trans (h'.mono HB.out.size))
      clear HB h'
      have HB := HBn
      clear HBn
      obtain ⟨c1, c2⟩ := HA1.out.below HB.out
      obtain ⟨c3, c4⟩ := HA2.out.below HB.out
      obtain ⟨c5, c6⟩ := HA3.out.below HB.out
      go_wp2_with fail
      refine (HM2.out _ HB.out).mono ?_
      clear c1 c2 c3 c4 c5 c6
      rintro e w' ⟨rfl, h'⟩
      have HBn := hid (HB.out.trans (h'.mono HB.out.size))
      clear HB h'
      have HB := HBn
      clear HBn
      obtain ⟨c1, c2⟩ := HA1.out.below HB.out
      obtain ⟨c3, c4⟩ := HA2.out.below HB.out
      obtain ⟨c5, c6⟩ := HA3.out.below HB.out
      go_wp2_with fail
      refine (HM3.out _ HB.out).mono ?_
      clear c1 c2 c3 c4 c5 c6
      rintro e w' ⟨rfl, h'⟩
      have HBn := hid (HB.out.trans (h'.mono HB.out.size))
      clear HB h'
      have HB := HBn
      clear HBn
      obtain ⟨c1, c2⟩ := HA1.out.below HB.out
      obtain ⟨c3, c4⟩ := HA2.out.below HB.out
      obtain ⟨c5, c6⟩ := HA3.out.below HB.out
      go_wp2_with fail
      refine (Faa.out _ HB.out).mono ?_
      clear c1 c2 c3 c4 c5 c6
      rintro e w' ⟨rfl, h'⟩
      have HBn := hid (HB.out.trans (h'.mono HB.out.size))
      clear HB h'
      have HB := HBn
      clear HBn
      obtain ⟨c1, c2⟩ := HA1.out.below HB.out
      obtain ⟨c3, c4⟩ := HA2.out.below HB.out
      obtain ⟨c5, c6⟩ := HA3.out.below HB.out
      go_wp2_with fail
      refine (Fab.out _ HB.out).mono ?_
      clear c1 c2 c3 c4 c5 c6
      rintro e w' ⟨rfl, h'⟩
      have HBn := hid (HB.out.trans (h'.mono HB.out.size))
      clear HB h'
      have HB := HBn
      clear HBn
      obtain ⟨c1, c2⟩ := HA1.out.below HB.out
      obtain ⟨c3, c4⟩ := HA2.out.below HB.out
      obtain ⟨c5, c6⟩ := HA3.out.below HB.out
      go_wp2_with fail
      refine (Fbc.out _ HB.out).mono ?_
      clear c1 c2 c3 c4 c5 c6
      rintro e w' ⟨rfl, h'⟩
      have HBn := hid (HB.out.trans (h'.mono HB.out.size))
      clear HB h'
      have HB := HBn
      clear HBn
      obtain ⟨c1, c2⟩ := HA1.out.below HB.out
      obtain ⟨c3, c4⟩ := HA2.out.below HB.out
      obtain ⟨c5, c6⟩ := HA3.out.below HB.out
      clear HM1 HM2 HM3 Faa Fbc Fac
      go_wp2_with fail
      have HBn := hid (Below.drew HB.out)
      clear HB
      have HB := HBn
      clear HBn
      have Z0 := Fab
      have Z1 := Fba
      have Z2 := Ali
      have Z3 := Awa
      first
        | (go_region_held3 (fun w' => w'.cell? ⟨w.heap.size, 0, none⟩ = some u1 ∧ w'.cell? ⟨w.heap.size, 1, none⟩ = some x1 ∧ w'.cell? ⟨w.heap.size + 1, 0, none⟩ = some u2 ∧ w'.cell? ⟨w.heap.size + 1, 1, none⟩ = some x2 ∧ w'.cell? ⟨w.heap.size + 1 + 1, 0, none⟩ = some u3 ∧ w'.cell? ⟨w.heap.size + 1 + 1, 1, none⟩ = some x3)
            (first | (refine ⟨?_, ?_, ?_, ?_, ?_, ?_⟩ <;> first | assumption | go_keep))
            (first
              | (go_at_call 23; refine (Z0.out _ HB.out).mono ?_
                 clear Z0
                 clear c1 c2 c3 c4 c5 c6
                 rintro e w' ⟨rfl, h'⟩
                 have HBn := hid (HB.out.trans (h'.mono HB.out.size))
                 clear HB h'
                 have HB := HBn
                 clear HBn
                 obtain ⟨c1, c2⟩ := HA1.out.below HB.out
                 obtain ⟨c3, c4⟩ := HA2.out.below HB.out
                 obtain ⟨c5, c6⟩ := HA3.out.below HB.out)
              | (go_at_call 23; refine (Z1.out _ HB.out).mono ?_
                 clear Z1
                 clear c1 c2 c3 c4 c5 c6
                 rintro e w' ⟨rfl, h'⟩
                 have HBn := hid (HB.out.trans (h'.mono HB.out.size))
                 clear HB h'
                 have HB := HBn
                 clear HBn
                 obtain ⟨c1, c2⟩ := HA1.out.below HB.out
                 obtain ⟨c3, c4⟩ := HA2.out.below HB.out
                 obtain ⟨c5, c6⟩ := HA3.out.below HB.out)
              | (go_at_call 16; refine (Z2.out _ HB.out).mono ?_
                 clear Z2
                 clear c1 c2 c3 c4 c5 c6
                 rintro e w' ⟨rfl, h'⟩
                 have HBn := hid (HB.out.trans (h'.mono HB.out.size))
                 clear HB h'
                 have HB := HBn
                 clear HBn
                 obtain ⟨c1, c2⟩ := HA1.out.below HB.out
                 obtain ⟨c3, c4⟩ := HA2.out.below HB.out
                 obtain ⟨c5, c6⟩ := HA3.out.below HB.out)
              | (go_at_call 17; refine (Z3.out _ HB.out).mono ?_
                 clear Z3
                 clear c1 c2 c3 c4 c5 c6
                 rintro e w' ⟨rfl, h'⟩
                 have HBn := hid (HB.out.trans (h'.mono HB.out.size))
                 clear HB h'
                 have HB := HBn
                 clear HBn
                 obtain ⟨c1, c2⟩ := HA1.out.below HB.out
                 obtain ⟨c3, c4⟩ := HA2.out.below HB.out
                 obtain ⟨c5, c6⟩ := HA3.out.below HB.out)))
        | fail
      all_goals go_wp2
      all_goals go_ret
      all_goals exact ⟨rfl, HZ.out.trans (HB.out.mono hsz)⟩
    · go_enter Try.func5, Try.ntmps5
      go_wp2_with fail
      rw [← HW.out]
      clear HW
      refine (HM1.out _ HB.out).mono ?_
      clear c1 c2 c3 c4 c5 c6
      rintro e w' ⟨rfl, h'⟩
      have HBn := hid (HB.out.trans (h'.mono HB.out.size))
      clear HB h'
      have HB := HBn
      clear HBn
      obtain ⟨c1, c2⟩ := HA1.out.below HB.out
      obtain ⟨c3, c4⟩ := HA2.out.below HB.out
      obtain ⟨c5, c6⟩ := HA3.out.below HB.out
      go_wp2_with fail
      refine (HM2.out _ HB.out).mono ?_
      clear c1 c2 c3 c4 c5 c6
      rintro e w' ⟨rfl, h'⟩
      have HBn := hid (HB.out.trans (h'.mono HB.out.size))
      clear HB h'
      have HB := HBn
      clear HBn
      obtain ⟨c1, c2⟩ := HA1.out.below HB.out
      obtain ⟨c3, c4⟩ := HA2.out.below HB.out
      obtain ⟨c5, c6⟩ := HA3.out.below HB.out
      go_wp2_with fail
      refine (HM3.out _ HB.out).mono ?_
      clear c1 c2 c3 c4 c5 c6
      rintro e w' ⟨rfl, h'⟩
      have HBn := hid (HB.out.trans (h'.mono HB.out.size))
      clear HB h'
      have HB := HBn
      clear HBn
      obtain ⟨c1, c2⟩ := HA1.out.below HB.out
      obtain ⟨c3, c4⟩ := HA2.out.below HB.out
      obtain ⟨c5, c6⟩ := HA3.out.below HB.out
      go_wp2_with fail
      refine (Faa.out _ HB.out).mono ?_
      clear c1 c2 c3 c4 c5 c6
      rintro e w' ⟨rfl, h'⟩
      have HBn := hid (HB.out.trans (h'.mono HB.out.size))
      clear HB h'
      have HB := HBn
      clear HBn
      obtain ⟨c1, c2⟩ := HA1.out.below HB.out
      obtain ⟨c3, c4⟩ := HA2.out.below HB.out
      obtain ⟨c5, c6⟩ := HA3.out.below HB.out
      go_wp2_with fail
      refine (Fab.out _ HB.out).mono ?_
      clear c1 c2 c3 c4 c5 c6
      rintro e w' ⟨rfl, h'⟩
      have HBn := hid (HB.out.trans (h'.mono HB.out.size))
      clear HB h'
      have HB := HBn
      clear HBn
      obtain ⟨c1, c2⟩ := HA1.out.below HB.out
      obtain ⟨c3, c4⟩ := HA2.out.below HB.out
      obtain ⟨c5, c6⟩ := HA3.out.below HB.out
      go_wp2_with fail
      refine (Fbc.out _ HB.out).mono ?_
      clear c1 c2 c3 c4 c5 c6
      rintro e w' ⟨rfl, h'⟩
      have HBn := hid (HB.out.trans (h'.mono HB.out.size))
      clear HB h'
      have HB := HBn
      clear HBn
      obtain ⟨c1, c2⟩ := HA1.out.below HB.out
      obtain ⟨c3, c4⟩ := HA2.out.below HB.out
      obtain ⟨c5, c6⟩ := HA3.out.below HB.out
      clear HM1 HM2 HM3 Faa Fbc Fac
      go_wp2_with fail
      have HBn := hid (Below.drew HB.out)
      clear HB
      have HB := HBn
      clear HBn
      have Z0 := Fab
      have Z1 := Fba
      have Z2 := Ali
      have Z3 := Awa
      first
        | (go_region_held3 (fun w' => w'.cell? ⟨w.heap.size, 0, none⟩ = some u1 ∧ w'.cell? ⟨w.heap.size, 1, none⟩ = some x1 ∧ w'.cell? ⟨w.heap.size + 1, 0, none⟩ = some u2 ∧ w'.cell? ⟨w.heap.size + 1, 1, none⟩ = some x2 ∧ w'.cell? ⟨w.heap.size + 1 + 1, 0, none⟩ = some u3 ∧ w'.cell? ⟨w.heap.size + 1 + 1, 1, none⟩ = some x3)
            (first | (refine ⟨?_, ?_, ?_, ?_, ?_, ?_⟩ <;> first | assumption | go_keep))
            (first
              | (go_at_call 23; refine (Z0.out _ HB.out).mono ?_
                 clear Z0
                 clear c1 c2 c3 c4 c5 c6
                 rintro e w' ⟨rfl, h'⟩
                 have HBn := hid (HB.out.trans (h'.mono HB.out.size))
                 clear HB h'
                 have HB := HBn
                 clear HBn
                 obtain ⟨c1, c2⟩ := HA1.out.below HB.out
                 obtain ⟨c3, c4⟩ := HA2.out.below HB.out
                 obtain ⟨c5, c6⟩ := HA3.out.below HB.out)
              | (go_at_call 23; refine (Z1.out _ HB.out).mono ?_
                 clear Z1
                 clear c1 c2 c3 c4 c5 c6
                 rintro e w' ⟨rfl, h'⟩
                 have HBn := hid (HB.out.trans (h'.mono HB.out.size))
                 clear HB h'
                 have HB := HBn
                 clear HBn
                 obtain ⟨c1, c2⟩ := HA1.out.below HB.out
                 obtain ⟨c3, c4⟩ := HA2.out.below HB.out
                 obtain ⟨c5, c6⟩ := HA3.out.below HB.out)
              | (go_at_call 16; refine (Z2.out _ HB.out).mono ?_
                 clear Z2
                 clear c1 c2 c3 c4 c5 c6
                 rintro e w' ⟨rfl, h'⟩
                 have HBn := hid (HB.out.trans (h'.mono HB.out.size))
                 clear HB h'
                 have HB := HBn
                 clear HBn
                 obtain ⟨c1, c2⟩ := HA1.out.below HB.out
                 obtain ⟨c3, c4⟩ := HA2.out.below HB.out
                 obtain ⟨c5, c6⟩ := HA3.out.below HB.out)
              | (go_at_call 17; refine (Z3.out _ HB.out).mono ?_
                 clear Z3
                 clear c1 c2 c3 c4 c5 c6
                 rintro e w' ⟨rfl, h'⟩
                 have HBn := hid (HB.out.trans (h'.mono HB.out.size))
                 clear HB h'
                 have HB := HBn
                 clear HBn
                 obtain ⟨c1, c2⟩ := HA1.out.below HB.out
                 obtain ⟨c3, c4⟩ := HA2.out.below HB.out
                 obtain ⟨c5, c6⟩ := HA3.out.below HB.out)))
        | fail
      all_goals go_wp2
      all_goals go_ret
      all_goals exact ⟨rfl, HZ.out.trans (HB.out.mono hsz)⟩
  have q5 := q3 rfl rfl
  subst q5
  cases fba
  · go_enter Try.func5, Try.ntmps5
    go_wp2_with fail
    rw [← HW.out]
    clear HW
    refine (HM1.out _ HB.out).mono ?_
    clear c1 c2 c3 c4 c5 c6
    rintro e w' ⟨rfl, h'⟩
    have HBn := hid (HB.out.trans (h'.mono HB.out.size))
    clear HB h'
    have HB := HBn
    clear HBn
    obtain ⟨c1, c2⟩ := HA1.out.below HB.out
    obtain ⟨c3, c4⟩ := HA2.out.below HB.out
    obtain ⟨c5, c6⟩ := HA3.out.below HB.out
    go_wp2_with fail
    refine (HM2.out _ HB.out).mono ?_
    clear c1 c2 c3 c4 c5 c6
    rintro e w' ⟨rfl, h'⟩
    have HBn := hid (HB.out.trans (h'.mono HB.out.size))
    clear HB h'
    have HB := HBn
    clear HBn
    obtain ⟨c1, c2⟩ := HA1.out.below HB.out
    obtain ⟨c3, c4⟩ := HA2.out.below HB.out
    obtain ⟨c5, c6⟩ := HA3.out.below HB.out
    go_wp2_with fail
    refine (HM3.out _ HB.out).mono ?_
    clear c1 c2 c3 c4 c5 c6
    rintro e w' ⟨rfl, h'⟩
    have HBn := hid (HB.out.trans (h'.mono HB.out.size))
    clear HB h'
    have HB := HBn
    clear HBn
    obtain ⟨c1, c2⟩ := HA1.out.below HB.out
    obtain ⟨c3, c4⟩ := HA2.out.below HB.out
    obtain ⟨c5, c6⟩ := HA3.out.below HB.out
    go_wp2_with fail
    refine (Faa.out _ HB.out).mono ?_
    clear c1 c2 c3 c4 c5 c6
    rintro e w' ⟨rfl, h'⟩
    have HBn := hid (HB.out.trans (h'.mono HB.out.size))
    clear HB h'
    have HB := HBn
    clear HBn
    obtain ⟨c1, c2⟩ := HA1.out.below HB.out
    obtain ⟨c3, c4⟩ := HA2.out.below HB.out
    obtain ⟨c5, c6⟩ := HA3.out.below HB.out
    go_wp2_with fail
    refine (Fab.out _ HB.out).mono ?_
    clear c1 c2 c3 c4 c5 c6
    rintro e w' ⟨rfl, h'⟩
    have HBn := hid (HB.out.trans (h'.mono HB.out.size))
    clear HB h'
    have HB := HBn
    clear HBn
    obtain ⟨c1, c2⟩ := HA1.out.below HB.out
    obtain ⟨c3, c4⟩ := HA2.out.below HB.out
    obtain ⟨c5, c6⟩ := HA3.out.below HB.out
    go_wp2_with fail
    refine (Fbc.out _ HB.out).mono ?_
    clear c1 c2 c3 c4 c5 c6
    rintro e w' ⟨rfl, h'⟩
    have HBn := hid (HB.out.trans (h'.mono HB.out.size))
    clear HB h'
    have HB := HBn
    clear HBn
    obtain ⟨c1, c2⟩ := HA1.out.below HB.out
    obtain ⟨c3, c4⟩ := HA2.out.below HB.out
    obtain ⟨c5, c6⟩ := HA3.out.below HB.out
    go_wp2_with fail
    refine (Fac.out _ HB.out).mono ?_
    clear c1 c2 c3 c4 c5 c6
    rintro e w' ⟨rfl, h'⟩
    have HBn := hid (HB.out.trans (h'.mono HB.out.size))
    clear HB h'
    have HB := HBn
    clear HBn
    obtain ⟨c1, c2⟩ := HA1.out.below HB.out
    obtain ⟨c3, c4⟩ := HA2.out.below HB.out
    obtain ⟨c5, c6⟩ := HA3.out.below HB.out
    clear HM1 HM2 HM3 Faa Fbc Fac
    go_wp2_with fail
    have HBn := hid (Below.drew HB.out)
    clear HB
    have HB := HBn
    clear HBn
    have Z0 := Fab
    have Z1 := Fba
    have Z2 := Ali
    have Z3 := Awa
    first
      | (go_region_held3 (fun w' => w'.cell? ⟨w.heap.size, 0, none⟩ = some u1 ∧ w'.cell? ⟨w.heap.size, 1, none⟩ = some x1 ∧ w'.cell? ⟨w.heap.size + 1, 0, none⟩ = some u2 ∧ w'.cell? ⟨w.heap.size + 1, 1, none⟩ = some x2 ∧ w'.cell? ⟨w.heap.size + 1 + 1, 0, none⟩ = some u3 ∧ w'.cell? ⟨w.heap.size + 1 + 1, 1, none⟩ = some x3)
          (first | (refine ⟨?_, ?_, ?_, ?_, ?_, ?_⟩ <;> first | assumption | go_keep))
          (first
            | (go_at_call 23; refine (Z0.out _ HB.out).mono ?_
               clear Z0
               clear c1 c2 c3 c4 c5 c6
               rintro e w' ⟨rfl, h'⟩
               have HBn := hid (HB.out.trans (h'.mono HB.out.size))
               clear HB h'
               have HB := HBn
               clear HBn
               obtain ⟨c1, c2⟩ := HA1.out.below HB.out
               obtain ⟨c3, c4⟩ := HA2.out.below HB.out
               obtain ⟨c5, c6⟩ := HA3.out.below HB.out)
            | (go_at_call 23; refine (Z1.out _ HB.out).mono ?_
               clear Z1
               clear c1 c2 c3 c4 c5 c6
               rintro e w' ⟨rfl, h'⟩
               have HBn := hid (HB.out.trans (h'.mono HB.out.size))
               clear HB h'
               have HB := HBn
               clear HBn
               obtain ⟨c1, c2⟩ := HA1.out.below HB.out
               obtain ⟨c3, c4⟩ := HA2.out.below HB.out
               obtain ⟨c5, c6⟩ := HA3.out.below HB.out)
            | (go_at_call 16; refine (Z2.out _ HB.out).mono ?_
               clear Z2
               clear c1 c2 c3 c4 c5 c6
               rintro e w' ⟨rfl, h'⟩
               have HBn := hid (HB.out.trans (h'.mono HB.out.size))
               clear HB h'
               have HB := HBn
               clear HBn
               obtain ⟨c1, c2⟩ := HA1.out.below HB.out
               obtain ⟨c3, c4⟩ := HA2.out.below HB.out
               obtain ⟨c5, c6⟩ := HA3.out.below HB.out)
            | (go_at_call 17; refine (Z3.out _ HB.out).mono ?_
               clear Z3
               clear c1 c2 c3 c4 c5 c6
               rintro e w' ⟨rfl, h'⟩
               have HBn := hid (HB.out.trans (h'.mono HB.out.size))
               clear HB h'
               have HB := HBn
               clear HBn
               obtain ⟨c1, c2⟩ := HA1.out.below HB.out
               obtain ⟨c3, c4⟩ := HA2.out.below HB.out
               obtain ⟨c5, c6⟩ := HA3.out.below HB.out)))
      | fail
    all_goals go_wp2
    all_goals go_ret
    all_goals exact ⟨rfl, HZ.out.trans (HB.out.mono hsz)⟩
  · go_enter Try.func5, Try.ntmps5
    go_wp2_with fail
    rw [← HW.out]
    clear HW
    refine (HM1.out _ HB.out).mono ?_
    clear c1 c2 c3 c4 c5 c6
    rintro e w' ⟨rfl, h'⟩
    have HBn := hid (HB.out.trans (h'.mono HB.out.size))
    clear HB h'
    have HB := HBn
    clear HBn
    obtain ⟨c1, c2⟩ := HA1.out.below HB.out
    obtain ⟨c3, c4⟩ := HA2.out.below HB.out
    obtain ⟨c5, c6⟩ := HA3.out.below HB.out
    go_wp2_with fail
    refine (HM2.out _ HB.out).mono ?_
    clear c1 c2 c3 c4 c5 c6
    rintro e w' ⟨rfl, h'⟩
    have HBn := hid (HB.out.trans (h'.mono HB.out.size))
    clear HB h'
    have HB := HBn
    clear HBn
    obtain ⟨c1, c2⟩ := HA1.out.below HB.out
    obtain ⟨c3, c4⟩ := HA2.out.below HB.out
    obtain ⟨c5, c6⟩ := HA3.out.below HB.out
    go_wp2_with fail
    refine (HM3.out _ HB.out).mono ?_
    clear c1 c2 c3 c4 c5 c6
    rintro e w' ⟨rfl, h'⟩
    have HBn := hid (HB.out.trans (h'.mono HB.out.size))
    clear HB h'
    have HB := HBn
    clear HBn
    obtain ⟨c1, c2⟩ := HA1.out.below HB.out
    obtain ⟨c3, c4⟩ := HA2.out.below HB.out
    obtain ⟨c5, c6⟩ := HA3.out.below HB.out
    go_wp2_with fail
    refine (Faa.out _ HB.out).mono ?_
    clear c1 c2 c3 c4 c5 c6
    rintro e w' ⟨rfl, h'⟩
    have HBn := hid (HB.out.trans (h'.mono HB.out.size))
    clear HB h'
    have HB := HBn
    clear HBn
    obtain ⟨c1, c2⟩ := HA1.out.below HB.out
    obtain ⟨c3, c4⟩ := HA2.out.below HB.out
    obtain ⟨c5, c6⟩ := HA3.out.below HB.out
    go_wp2_with fail
    refine (Fab.out _ HB.out).mono ?_
    clear c1 c2 c3 c4 c5 c6
    rintro e w' ⟨rfl, h'⟩
    have HBn := hid (HB.out.trans (h'.mono HB.out.size))
    clear HB h'
    have HB := HBn
    clear HBn
    obtain ⟨c1, c2⟩ := HA1.out.below HB.out
    obtain ⟨c3, c4⟩ := HA2.out.below HB.out
    obtain ⟨c5, c6⟩ := HA3.out.below HB.out
    go_wp2_with fail
    refine (Fbc.out _ HB.out).mono ?_
    clear c1 c2 c3 c4 c5 c6
    rintro e w' ⟨rfl, h'⟩
    have HBn := hid (HB.out.trans (h'.mono HB.out.size))
    clear HB h'
    have HB := HBn
    clear HBn
    obtain ⟨c1, c2⟩ := HA1.out.below HB.out
    obtain ⟨c3, c4⟩ := HA2.out.below HB.out
    obtain ⟨c5, c6⟩ := HA3.out.below HB.out
    go_wp2_with fail
    refine (Fac.out _ HB.out).mono ?_
    clear c1 c2 c3 c4 c5 c6
    rintro e w' ⟨rfl, h'⟩
    have HBn := hid (HB.out.trans (h'.mono HB.out.size))
    clear HB h'
    have HB := HBn
    clear HBn
    obtain ⟨c1, c2⟩ := HA1.out.below HB.out
    obtain ⟨c3, c4⟩ := HA2.out.below HB.out
    obtain ⟨c5, c6⟩ := HA3.out.below HB.out
    clear HM1 HM2 HM3 Faa Fbc Fac
    go_wp2_with fail
    have HBn := hid (Below.drew HB.out)
    clear HB
    have HB := HBn
    clear HBn
    have Z0 := Fab
    have Z1 := Fba
    have Z2 := Ali
    have Z3 := Awa
    first
      | (go_region_held3 (fun w' => w'.cell? ⟨w.heap.size, 0, none⟩ = some u1 ∧ w'.cell? ⟨w.heap.size, 1, none⟩ = some x1 ∧ w'.cell? ⟨w.heap.size + 1, 0, none⟩ = some u2 ∧ w'.cell? ⟨w.heap.size + 1, 1, none⟩ = some x2 ∧ w'.cell? ⟨w.heap.size + 1 + 1, 0, none⟩ = some u3 ∧ w'.cell? ⟨w.heap.size + 1 + 1, 1, none⟩ = some x3)
          (first | (refine ⟨?_, ?_, ?_, ?_, ?_, ?_⟩ <;> first | assumption | go_keep))
          (first
            | (go_at_call 23; refine (Z0.out _ HB.out).mono ?_
               clear Z0
               clear c1 c2 c3 c4 c5 c6
               rintro e w' ⟨rfl, h'⟩
               have HBn := hid (HB.out.trans (h'.mono HB.out.size))
               clear HB h'
               have HB := HBn
               clear HBn
               obtain ⟨c1, c2⟩ := HA1.out.below HB.out
               obtain ⟨c3, c4⟩ := HA2.out.below HB.out
               obtain ⟨c5, c6⟩ := HA3.out.below HB.out)
            | (go_at_call 23; refine (Z1.out _ HB.out).mono ?_
               clear Z1
               clear c1 c2 c3 c4 c5 c6
               rintro e w' ⟨rfl, h'⟩
               have HBn := hid (HB.out.trans (h'.mono HB.out.size))
               clear HB h'
               have HB := HBn
               clear HBn
               obtain ⟨c1, c2⟩ := HA1.out.below HB.out
               obtain ⟨c3, c4⟩ := HA2.out.below HB.out
               obtain ⟨c5, c6⟩ := HA3.out.below HB.out)
            | (go_at_call 16; refine (Z2.out _ HB.out).mono ?_
               clear Z2
               clear c1 c2 c3 c4 c5 c6
               rintro e w' ⟨rfl, h'⟩
               have HBn := hid (HB.out.trans (h'.mono HB.out.size))
               clear HB h'
               have HB := HBn
               clear HBn
               obtain ⟨c1, c2⟩ := HA1.out.below HB.out
               obtain ⟨c3, c4⟩ := HA2.out.below HB.out
               obtain ⟨c5, c6⟩ := HA3.out.below HB.out)
            | (go_at_call 17; refine (Z3.out _ HB.out).mono ?_
               clear Z3
               clear c1 c2 c3 c4 c5 c6
               rintro e w' ⟨rfl, h'⟩
               have HBn := hid (HB.out.trans (h'.mono HB.out.size))
               clear HB h'
               have HB := HBn
               clear HBn
               obtain ⟨c1, c2⟩ := HA1.out.below HB.out
               obtain ⟨c3, c4⟩ := HA2.out.below HB.out
               obtain ⟨c5, c6⟩ := HA3.out.below HB.out)))
      | fail
    all_goals go_wp2
    all_goals go_ret
    all_goals exact ⟨rfl, HZ.out.trans (HB.out.mono hsz)⟩

end Go.Proofs.Ytjgohajlabdloaa
