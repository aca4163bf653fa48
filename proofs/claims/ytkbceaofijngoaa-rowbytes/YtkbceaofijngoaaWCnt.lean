/-
  counted: a number between bounds, and then what the number asks for.
-/
import Derived.Test.YtkbceaofijngoaaWNum2
namespace Go.Proofs.Ytkbceaofijngoaa
open Go.RowKit
set_option linter.unusedVariables false

set_option maxRecDepth 20000 in
set_option maxHeartbeats 2000000 in
theorem counted1_any (R c lo hi p1 p2 p3 : Nat) (vth : Value) (th : Nat → RowV → RowV × Rd) (s : ByteArray) (st : RowV) (g : Option Nat) (w : World) (vc vs vi : Value)
    (h1 : CellAt 3 w p1 (.int .i64 (lo : Int))) (h2 : CellAt 3 w p2 (.int .i64 (hi : Int))) (h3 : CellAt 76 w p3 vth) (h3R : p3 ≠ R) (h3g : some p3 ≠ g)
    (hM : Makes R c lo hi g w vth th) (hs : s.size ≤ 4611686018427387904) (hst : Stands w R g st vc vs vi) (hc : st.cells.length + c ≤ 1000) :
    Calls Try.prog 65 #[.string s, .pointer (some ⟨p1, 0, none⟩), .pointer (some ⟨p2, 0, none⟩), .pointer (some ⟨p3, 0, none⟩)] w (ReadPost R c (countedP lo hi th) (bytesOf s) st g w) := by
  obtain ⟨k, caps, rfl, hen, hC⟩ := hM
  have hN := number2_any s w hs
  obtain ⟨c1, _⟩ := h1.cells
  obtain ⟨c2, _⟩ := h2.cells
  obtain ⟨c3, _⟩ := h3.cells
  have H3 := hid h3
  have HC := hid hC
  have HST := hid hst
  have HBL := hid (bytesOf_len s)
  have HD : Hid (countedP lo hi th (bytesOf s) st = match read2 (bytesOf s) with | none => none | some (n, z) => if n < lo ∨ hi < n then none else match (th n st).2 ((bytesOf s).drop z) (th n st).1 with | none => none | some (m, st2) => some (z + m, st2)) := rfl
  clear h1 h2 h3 hC hst
  cases hr : read2 (bytesOf s) with
  | none =>
    rw [hr, show numV none = 0 from rfl, show numZ none = 0 from rfl] at hN
    have HF : Hid (countedP lo hi th (bytesOf s) st = none) := by unfold Hid; rw [HD.out, hr]
    clear HD hr
    go_enter Try.func65, Try.ntmps65
    go_wp2_with fail
    refine hN.mono ?_
    clear hN
    rintro e w1 ⟨rfl, hw1⟩
    subst w1
    go_wp2
    go_ret2
    unfold ReadPost
    exact ⟨g, st, vc, vs, vi, Step.refl _ _ _, HST.out, by omega, Or.inl ⟨HF.out, rfl⟩⟩
  | some q =>
    obtain ⟨n, z⟩ := q
    have hz := read2_size hr
    rw [HBL.out] at hz
    rw [hr, show numV (some (n, z)) = n from rfl, show numZ (some (n, z)) = z from rfl] at hN
    have HD2 : Hid (countedP lo hi th (bytesOf s) st = if n < lo ∨ hi < n then none else match (th n st).2 ((bytesOf s).drop z) (th n st).1 with | none => none | some (m, st2) => some (z + m, st2)) := by unfold Hid; rw [HD.out, hr]
    have hz0 : ((z : Int) == 0) = false := by rw [beq_eq_false_iff_ne]; omega
    clear HD hr
    by_cases hb : n < lo ∨ hi < n
    · have HF : Hid (countedP lo hi th (bytesOf s) st = none) := by unfold Hid; rw [HD2.out, if_pos hb]
      clear HD2
      by_cases hb1 : n < lo
      · clear hb
        go_enter Try.func65, Try.ntmps65
        go_wp2_with fail
        refine hN.mono ?_
        clear hN
        rintro e w1 ⟨rfl, hw1⟩
        subst w1
        go_wp2
        go_ret2
        unfold ReadPost
        exact ⟨g, st, vc, vs, vi, Step.refl _ _ _, HST.out, by omega, Or.inl ⟨HF.out, rfl⟩⟩
      · have hb2 : hi < n := by omega
        clear hb
        go_enter Try.func65, Try.ntmps65
        go_wp2_with fail
        refine hN.mono ?_
        clear hN
        rintro e w1 ⟨rfl, hw1⟩
        subst w1
        go_wp2
        go_ret2
        unfold ReadPost
        exact ⟨g, st, vc, vs, vi, Step.refl _ _ _, HST.out, by omega, Or.inl ⟨HF.out, rfl⟩⟩
    · have hb1 : ¬ n < lo := by omega
      have hb2 : ¬ hi < n := by omega
      have HF : Hid (countedP lo hi th (bytesOf s) st = match (th n st).2 ((bytesOf s).drop z) (th n st).1 with | none => none | some (m, st2) => some (z + m, st2)) := by unfold Hid; rw [HD2.out, if_neg hb]
      have hcall := HC.out n st g w.drew vc vs vi (by omega) (by omega) (Step.refl _ _ _).drew (HST.out.below (Below.drew (Below.refl _ _)))
      have hex := bytesOf_extract s z (by omega)
      have hexs : (s.extract z s.size).size ≤ 4611686018427387904 := by rw [← bytesOf_len, hex, List.length_drop, bytesOf_len]; omega
      have HEX := hid hex
      have hzs : (z : Int) ≤ (s.size : Int) := by omega
      have hen' : ∀ (args : Array Value) (w : World), (callFunc k args).run Try.prog w = .ok (.enter k args) w := hen
      clear HD2 hb HC hex
      go_enter Try.func65, Try.ntmps65
      go_wp2_with fail
      refine hN.mono ?_
      clear hN
      rintro e w1 ⟨rfl, hw1⟩
      subst w1
      go_wp2_with fail
      refine wp_region_noPanic ?_
      refine wp_region_held_drew (S := (fun w' => w'.cell? ⟨p3, 0, none⟩ = some (.func (.func k) #[] caps))) (by kernel_rfl) ?_ (fun hHeld => ?_)
      · first | assumption | (simp [*]; done)
      refine wpAnyH_take (i := 0) (oi := { dst := some 29, op := Op.load 76 (Operand.tmp 3), type := 76, pos := "read.go:34", after := #[], guard := none }) (v := (.func (.func k) #[] caps)) rfl (by kernel_rfl) (by kernel_rfl) (by kernel_rfl) (fun _ _ _ h => h) (Or.inl ⟨by rfl, ?_⟩) (by assumption) ?_
      · intro w hSw
        try dsimp only at hSw
        go_simp
      try simp only [Act.put, List.setIfInBounds_toArray, List.set_cons_zero, List.set_cons_succ]
      refine wpAnyH_take (i := 1) (oi := { dst := some 30, op := Op.move (Operand.tmp 7), type := 3, pos := "read.go:34", after := #[], guard := none }) (v := (.int .i64 (n : Int))) rfl (by kernel_rfl) (by kernel_rfl) (by kernel_rfl) (fun _ _ _ h => h) (Or.inl ⟨by rfl, ?_⟩) (by assumption) ?_
      · intro w hSw
        try dsimp only at hSw
        go_simp
      try simp only [Act.put, List.setIfInBounds_toArray, List.set_cons_zero, List.set_cons_succ]
      refine wpAnyH_take (i := 3) (oi := { dst := some 32, op := Op.move (Operand.tmp 0), type := 9, pos := "read.go:34", after := #[], guard := none }) (v := (.string s)) rfl (by kernel_rfl) (by kernel_rfl) (by kernel_rfl) (fun _ _ _ h => h) (Or.inl ⟨by rfl, ?_⟩) (by assumption) ?_
      · intro w hSw
        try dsimp only at hSw
        go_simp
      try simp only [Act.put, List.setIfInBounds_toArray, List.set_cons_zero, List.set_cons_succ]
      refine wpAnyH_take (i := 4) (oi := { dst := some 33, op := Op.move (Operand.tmp 8), type := 3, pos := "read.go:34", after := #[], guard := none }) (v := (.int .i64 (z : Int))) rfl (by kernel_rfl) (by kernel_rfl) (by kernel_rfl) (fun _ _ _ h => h) (Or.inl ⟨by rfl, ?_⟩) (by assumption) ?_
      · intro w hSw
        try dsimp only at hSw
        go_simp
      try simp only [Act.put, List.setIfInBounds_toArray, List.set_cons_zero, List.set_cons_succ]
      refine wpAnyH_take (i := 5) (oi := { dst := some 34, op := Op.slice 9 (Operand.tmp 32) (some (Operand.tmp 33)) none none, type := 9, pos := "read.go:34", after := #[{ on := 3, ground := Ground.data }, { on := 4, ground := Ground.data }], guard := none }) (v := (.string (s.extract z s.size))) rfl (by kernel_rfl) (by kernel_rfl) (by kernel_rfl) (fun _ _ _ h => h) (Or.inl ⟨by rfl, ?_⟩) (by assumption) ?_
      · intro w hSw
        try dsimp only at hSw
        go_simp
      try simp only [Act.put, List.setIfInBounds_toArray, List.set_cons_zero, List.set_cons_succ]
      refine wpAnyH_ready (rs := [2]) (by kernel_rfl) (by simp) ?_
      refine AllReadyH.cons (o := { dst := some 31, op := Op.call { callee := Callee.value (Operand.tmp 29), args := #[Operand.tmp 30], argTypes := #[3] }, type := 52, pos := "read.go:34", after := #[{ on := 0, ground := Ground.data }, { on := 1, ground := Ground.data }], guard := none }) rfl (fun K hK => ?_) AllReadyH.nil
      go_simp
      refine hcall.mono ?_
      clear hcall
      rintro e w2 ⟨rd, g2, yc, ys, yi, rfl, hs2, hst2, hcl2, hrd2⟩
      obtain ⟨k2, caps2, rfl, hen2, hC2⟩ := hrd2
      have hen2' : ∀ (args : Array Value) (w : World), (callFunc k2 args).run Try.prog w = .ok (.enter k2 args) w := hen2
      have HS2 := hid (((Step.refl R g w).drew).trans hs2)
      obtain ⟨e3, _⟩ := (H3.out.step HS2.out h3R h3g).cells
      have hcall2 := hC2 (s.extract z s.size) (th n st).1 g2 w2 yc ys yi hexs (Step.refl _ _ _) hst2 (by omega)
      rw [HEX.out] at hcall2
      clear hs2 hst2 hen2 hC2
      try go_wp2_with fail
      refine hK.out _ _ ?_ (fun hHeld => ?_)
      · first | assumption | (simp [*]; done)
      clear hK K
      try simp only [Act.put, List.setIfInBounds_toArray, List.set_cons_zero, List.set_cons_succ]
      refine wpAnyH_ready (rs := [6]) (by kernel_rfl) (by simp) ?_
      refine AllReadyH.cons (o := { dst := some 35, op := Op.call { callee := Callee.value (Operand.tmp 31), args := #[Operand.tmp 34], argTypes := #[9] }, type := 61, pos := "read.go:34", after := #[{ on := 2, ground := Ground.data }, { on := 5, ground := Ground.data }, { on := 2, ground := Ground.chain }], guard := none }) rfl (fun K hK => ?_) AllReadyH.nil
      go_simp
      refine hcall2.mono ?_
      clear hcall2
      unfold ReadPost
      rintro e w3 ⟨g3, st3, zc, zs, zi, hs3, hst3, hcl3, hres⟩
      have HS3 := hid (HS2.out.trans hs3)
      obtain ⟨f3, _⟩ := (H3.out.step HS3.out h3R h3g).cells
      have HST3 := hid hst3
      clear hs3 hst3 e3
      rcases hres with ⟨hf, rfl⟩ | ⟨m, hf, hm, rfl⟩
      · have HF2 : Hid (countedP lo hi th (bytesOf s) st = none) := by unfold Hid; rw [HF.out, hf]
        clear hf HF
        try go_wp2_with fail
        refine hK.out _ _ ?_ (fun hHeld => ?_)
        · first | assumption | (simp [*]; done)
        clear hK K
        try simp only [Act.put, List.setIfInBounds_toArray, List.set_cons_zero, List.set_cons_succ]
        refine wpAnyH_take (i := 7) (oi := { dst := some 28, op := Op.move (Operand.tmp 35), type := 61, pos := "read.go:34", after := #[{ on := 6, ground := Ground.data }], guard := none }) (v := (.tuple #[.int .i64 0, .bool false])) rfl (by kernel_rfl) (by kernel_rfl) (by kernel_rfl) (fun _ _ _ h => h) (Or.inl ⟨by rfl, ?_⟩) (by assumption) ?_
        · intro w hSw
          try dsimp only at hSw
          go_simp
        try simp only [Act.put, List.setIfInBounds_toArray, List.set_cons_zero, List.set_cons_succ]
        refine wpAnyH_take (i := 8) (oi := { dst := some 36, op := Op.extract (Operand.tmp 28) 0, type := 3, pos := "read.go:34", after := #[{ on := 7, ground := Ground.data }], guard := none }) (v := (.int .i64 0)) rfl (by kernel_rfl) (by kernel_rfl) (by kernel_rfl) (fun _ _ _ h => h) (Or.inl ⟨by rfl, ?_⟩) (by assumption) ?_
        · intro w hSw
          try dsimp only at hSw
          go_simp
        try simp only [Act.put, List.setIfInBounds_toArray, List.set_cons_zero, List.set_cons_succ]
        refine wpAnyH_take (i := 9) (oi := { dst := some 37, op := Op.extract (Operand.tmp 28) 1, type := 4, pos := "read.go:34", after := #[{ on := 7, ground := Ground.data }, { on := 10, ground := Ground.gcOnly Departure.lateStores }], guard := none }) (v := (.bool false)) rfl (by kernel_rfl) (by kernel_rfl) (by kernel_rfl) (fun _ _ _ h => h) (Or.inl ⟨by rfl, ?_⟩) (by assumption) ?_
        · intro w hSw
          try dsimp only at hSw
          go_simp
        try simp only [Act.put, List.setIfInBounds_toArray, List.set_cons_zero, List.set_cons_succ]
        refine wpAnyH_take (i := 10) (oi := { dst := some 9, op := Op.assign (Operand.tmp 36), type := 3, pos := "read.go:34", after := #[{ on := 8, ground := Ground.data }, { on := 6, ground := Ground.chain }, { on := 0, ground := Ground.phase }, { on := 1, ground := Ground.phase }, { on := 2, ground := Ground.phase }, { on := 3, ground := Ground.phase }, { on := 4, ground := Ground.phase }, { on := 5, ground := Ground.phase }, { on := 6, ground := Ground.phase }, { on := 7, ground := Ground.phase }, { on := 8, ground := Ground.phase }, { on := 9, ground := Ground.textOnly Departure.lateStores }], guard := none }) (v := (.int .i64 0)) rfl (by kernel_rfl) (by kernel_rfl) (by kernel_rfl) (fun _ _ _ h => h) (Or.inl ⟨by rfl, ?_⟩) (by assumption) ?_
        · intro w hSw
          try dsimp only at hSw
          go_simp
        try simp only [Act.put, List.setIfInBounds_toArray, List.set_cons_zero, List.set_cons_succ]
        refine wpAnyH_take (i := 11) (oi := { dst := some 10, op := Op.assign (Operand.tmp 37), type := 4, pos := "read.go:34", after := #[{ on := 9, ground := Ground.data }, { on := 10, ground := Ground.chain }, { on := 0, ground := Ground.phase }, { on := 1, ground := Ground.phase }, { on := 2, ground := Ground.phase }, { on := 3, ground := Ground.phase }, { on := 4, ground := Ground.phase }, { on := 5, ground := Ground.phase }, { on := 6, ground := Ground.phase }, { on := 7, ground := Ground.phase }, { on := 8, ground := Ground.phase }, { on := 9, ground := Ground.phase }, { on := 10, ground := Ground.phase }], guard := none }) (v := (.bool false)) rfl (by kernel_rfl) (by kernel_rfl) (by kernel_rfl) (fun _ _ _ h => h) (Or.inl ⟨by rfl, ?_⟩) (by assumption) ?_
        · intro w hSw
          try dsimp only at hSw
          go_simp
        try simp only [Act.put, List.setIfInBounds_toArray, List.set_cons_zero, List.set_cons_succ]
        refine wpAnyH_done (by kernel_rfl) ?_ _
        refine NoPanic.normal ?_
        go_wp2
        go_ret2
        unfold ReadPost
        exact ⟨g3, st3, zc, zs, zi, HS3.out, HST3.out, by omega, Or.inl ⟨HF2.out, rfl⟩⟩
      · have HF2 : Hid (countedP lo hi th (bytesOf s) st = some (z + m, st3)) := by unfold Hid; rw [HF.out, hf]
        rw [List.length_drop, HBL.out] at hm
        clear hf HF
        try go_wp2_with fail
        refine hK.out _ _ ?_ (fun hHeld => ?_)
        · first | assumption | (simp [*]; done)
        clear hK K
        try simp only [Act.put, List.setIfInBounds_toArray, List.set_cons_zero, List.set_cons_succ]
        refine wpAnyH_take (i := 7) (oi := { dst := some 28, op := Op.move (Operand.tmp 35), type := 61, pos := "read.go:34", after := #[{ on := 6, ground := Ground.data }], guard := none }) (v := (.tuple #[.int .i64 (m : Int), .bool true])) rfl (by kernel_rfl) (by kernel_rfl) (by kernel_rfl) (fun _ _ _ h => h) (Or.inl ⟨by rfl, ?_⟩) (by assumption) ?_
        · intro w hSw
          try dsimp only at hSw
          go_simp
        try simp only [Act.put, List.setIfInBounds_toArray, List.set_cons_zero, List.set_cons_succ]
        refine wpAnyH_take (i := 8) (oi := { dst := some 36, op := Op.extract (Operand.tmp 28) 0, type := 3, pos := "read.go:34", after := #[{ on := 7, ground := Ground.data }], guard := none }) (v := (.int .i64 (m : Int))) rfl (by kernel_rfl) (by kernel_rfl) (by kernel_rfl) (fun _ _ _ h => h) (Or.inl ⟨by rfl, ?_⟩) (by assumption) ?_
        · intro w hSw
          try dsimp only at hSw
          go_simp
        try simp only [Act.put, List.setIfInBounds_toArray, List.set_cons_zero, List.set_cons_succ]
        refine wpAnyH_take (i := 9) (oi := { dst := some 37, op := Op.extract (Operand.tmp 28) 1, type := 4, pos := "read.go:34", after := #[{ on := 7, ground := Ground.data }, { on := 10, ground := Ground.gcOnly Departure.lateStores }], guard := none }) (v := (.bool true)) rfl (by kernel_rfl) (by kernel_rfl) (by kernel_rfl) (fun _ _ _ h => h) (Or.inl ⟨by rfl, ?_⟩) (by assumption) ?_
        · intro w hSw
          try dsimp only at hSw
          go_simp
        try simp only [Act.put, List.setIfInBounds_toArray, List.set_cons_zero, List.set_cons_succ]
        refine wpAnyH_take (i := 10) (oi := { dst := some 9, op := Op.assign (Operand.tmp 36), type := 3, pos := "read.go:34", after := #[{ on := 8, ground := Ground.data }, { on := 6, ground := Ground.chain }, { on := 0, ground := Ground.phase }, { on := 1, ground := Ground.phase }, { on := 2, ground := Ground.phase }, { on := 3, ground := Ground.phase }, { on := 4, ground := Ground.phase }, { on := 5, ground := Ground.phase }, { on := 6, ground := Ground.phase }, { on := 7, ground := Ground.phase }, { on := 8, ground := Ground.phase }, { on := 9, ground := Ground.textOnly Departure.lateStores }], guard := none }) (v := (.int .i64 (m : Int))) rfl (by kernel_rfl) (by kernel_rfl) (by kernel_rfl) (fun _ _ _ h => h) (Or.inl ⟨by rfl, ?_⟩) (by assumption) ?_
        · intro w hSw
          try dsimp only at hSw
          go_simp
        try simp only [Act.put, List.setIfInBounds_toArray, List.set_cons_zero, List.set_cons_succ]
        refine wpAnyH_take (i := 11) (oi := { dst := some 10, op := Op.assign (Operand.tmp 37), type := 4, pos := "read.go:34", after := #[{ on := 9, ground := Ground.data }, { on := 10, ground := Ground.chain }, { on := 0, ground := Ground.phase }, { on := 1, ground := Ground.phase }, { on := 2, ground := Ground.phase }, { on := 3, ground := Ground.phase }, { on := 4, ground := Ground.phase }, { on := 5, ground := Ground.phase }, { on := 6, ground := Ground.phase }, { on := 7, ground := Ground.phase }, { on := 8, ground := Ground.phase }, { on := 9, ground := Ground.phase }, { on := 10, ground := Ground.phase }], guard := none }) (v := (.bool true)) rfl (by kernel_rfl) (by kernel_rfl) (by kernel_rfl) (fun _ _ _ h => h) (Or.inl ⟨by rfl, ?_⟩) (by assumption) ?_
        · intro w hSw
          try dsimp only at hSw
          go_simp
        try simp only [Act.put, List.setIfInBounds_toArray, List.set_cons_zero, List.set_cons_succ]
        refine wpAnyH_done (by kernel_rfl) ?_ _
        refine NoPanic.normal ?_
        go_wp2
        go_ret2
        unfold ReadPost
        exact ⟨g3, st3, zc, zs, zi, HS3.out, HST3.out, by omega, Or.inr ⟨z + m, HF2.out, by rw [HBL.out]; omega, by rw [Int.natCast_add]; rfl⟩⟩

end Go.Proofs.Ytkbceaofijngoaa
