/-
  The contract of label's Bytes.
-/
import Derived.Test.YtkbceaofijngoaaLPut
namespace Go.Proofs.Ytkbceaofijngoaa
open Go.RowKit
set_option linter.unusedVariables false

/-- A conversion at a step of a region that draws its order. -/
theorem step_conv {w : World} {ops : Array Oper} {o : Oper} {a : Act} {K : Act → World → Prop} {Q : Exit → Act → World → Prop} {E : Prop} (hgd : o.guard = none) (S T : TypeId) (x : Operand)
    (ho : o.op = .convert S T x) (v r : Value) (hx : a.eval x = v) (hr : (convert S T v).run Try.prog w = .ok r w) (h : K (a.put o.dst r) w) :
    if Region.wanted o (yielded ops a.tmps) = true then Oper.wp Try.prog o a w K Q else E := by
  have hw : Region.wanted o (yielded ops a.tmps) = true := by simp [Region.wanted, hgd]
  rw [if_pos hw]
  unfold Oper.wp execOp
  simp only [ho, hx, Sem.run_bind, Sem.run_pure, Result.andThen_ok, hr]
  exact h

/-- A label's bytes; none, where it may not be. -/
def bytesL (s i : List Int) : List Nat := if mayB s i then setB s ++ setB i else []

set_option maxRecDepth 20000 in
set_option maxHeartbeats 2000000 in
theorem bytes_any (v : Value) (s i : List Int) (w : World) (h : SeesL w v s i) :
    Calls Try.prog 27 #[v] w fun e w' => e = .returned (.tuple #[.string (strOf (bytesL s i)), .int .i64 (errOf (mayB s i))]) ∧ Below w.heap.size w w' := by
  have hR : ∀ o, Calls Try.prog 45 #[v] (w.alloc o) fun e w' => e = .returned (.int .i64 (errOf (mayB s i))) ∧ Below (w.alloc o).heap.size (w.alloc o) w' := fun o => check_l v s i _ (h.box o)
  have HR := hid hR
  have HZ := hid (fun o => below_alloc w o)
  obtain ⟨u, x, rfl, h1, h2, h3, h4⟩ := h
  have HS := hid h1
  have HI := hid h2
  have HA := hid (Boxed.new w u x)
  obtain ⟨c1, c2⟩ := Boxed.new w u x
  clear hR h1 h2 h3 h4
  cases hm : mayB s i
  · rw [hm] at HR
    have HE : Hid (bytesL s i = []) := by unfold Hid; simp [bytesL, hm]
    go_enter Try.func27, Try.ntmps27
    go_wp2_with fail
    refine (HR.out _).mono ?_
    clear HR
    rintro e w1 ⟨rfl, k1⟩
    have HF := hid ((HZ.out _).trans (k1.mono (HZ.out _).size))
    clear k1 HZ c1 c2
    unfold errOf
    go_wp2
    go_ret2
    exact ⟨by rw [HE.out]; rfl, HF.out⟩
  · rw [hm] at HR
    have HE : Hid (bytesL s i = setB s ++ setB i) := by unfold Hid; simp [bytesL, hm]
    obtain ⟨⟨m1, m2⟩, m3, m4⟩ := mayB_iff.1 hm
    have HM := hid m2
    have HM2 := hid m4
    have HSL := hid (setB_len m1 m2)
    clear m2 m4
    go_enter Try.func27, Try.ntmps27
    go_wp2_with fail
    refine (HR.out _).mono ?_
    clear HR
    rintro e w1 ⟨rfl, k1⟩
    have HF := hid ((HZ.out _).trans (k1.mono (HZ.out _).size))
    have HA1 := hid (HA.out.below k1)
    have hszp : w.heap.size < w1.heap.size := by have := k1.size; simp at this; omega
    clear k1 HZ c1 c2 HA
    obtain ⟨c1, c2⟩ := HA1.out
    unfold errOf
    have hR1 := hid (appendSet_any w1 u s (.slice none 0 0) [] w1.drew (HS.out.below HF.out) (Below.drew (Below.refl _ _)) m1 HM.out (OwnsN.nil _ _ _ _) (by simp))
    have hR2 := hid (fun (v2 : Value) (w2 : World) (hO : OwnsN .u8 5 w2 w1.heap.size v2 (setB s)) (hB : Below w1.heap.size w1 w2) => appendSet_any w1 x i v2 (setB s) w2 (HI.out.below HF.out) hB m3 HM2.out hO (by have := HSL.out; omega))
    go_wp2_with fail
    refine wp_region_noPanic ?_
    refine wp_region_held_drew (S := (fun w' => w'.cell? ⟨w.heap.size, 0, none⟩ = some u ∧ w'.cell? ⟨w.heap.size, 1, none⟩ = some x)) (by kernel_rfl) ?_ (fun hHeld => ?_)
    · first | (refine ⟨?_, ?_⟩ <;> first | assumption | (simp [*]; done))
    refine wpAnyH_take (i := 0) (oi := { dst := some 10, op := Op.fieldAddr 25 (Operand.tmp 1) 0, type := 0, pos := "label.go:58", after := #[], guard := none }) (v := (.pointer (some ⟨w.heap.size, 0, none⟩))) rfl (by kernel_rfl) (by kernel_rfl) (by kernel_rfl) (fun _ _ _ h => h) (Or.inl ⟨by rfl, ?_⟩) (by assumption) ?_
    · intro w hSw
      try dsimp only at hSw
      go_simp
    try simp only [Act.put, List.setIfInBounds_toArray, List.set_cons_zero, List.set_cons_succ]
    refine wpAnyH_take (i := 1) (oi := { dst := some 11, op := Op.load 23 (Operand.tmp 10), type := 23, pos := "label.go:58", after := #[{ on := 0, ground := Ground.data }], guard := none }) (v := u) rfl (by kernel_rfl) (by kernel_rfl) (by kernel_rfl) (fun _ _ _ h => h) (Or.inl ⟨by rfl, ?_⟩) (by assumption) ?_
    · intro w hSw
      try dsimp only at hSw
      go_simp
    try simp only [Act.put, List.setIfInBounds_toArray, List.set_cons_zero, List.set_cons_succ]
    refine wpAnyH_take (i := 3) (oi := { dst := some 13, op := Op.fieldAddr 25 (Operand.tmp 1) 1, type := 0, pos := "label.go:58", after := #[], guard := none }) (v := (.pointer (some ⟨w.heap.size, 1, none⟩))) rfl (by kernel_rfl) (by kernel_rfl) (by kernel_rfl) (fun _ _ _ h => h) (Or.inl ⟨by rfl, ?_⟩) (by assumption) ?_
    · intro w hSw
      try dsimp only at hSw
      go_simp
    try simp only [Act.put, List.setIfInBounds_toArray, List.set_cons_zero, List.set_cons_succ]
    refine wpAnyH_take (i := 4) (oi := { dst := some 14, op := Op.load 23 (Operand.tmp 13), type := 23, pos := "label.go:58", after := #[{ on := 3, ground := Ground.data }], guard := none }) (v := x) rfl (by kernel_rfl) (by kernel_rfl) (by kernel_rfl) (fun _ _ _ h => h) (Or.inl ⟨by rfl, ?_⟩) (by assumption) ?_
    · intro w hSw
      try dsimp only at hSw
      go_simp
    try simp only [Act.put, List.setIfInBounds_toArray, List.set_cons_zero, List.set_cons_succ]
    refine wpAnyH_ready (rs := [2]) (by kernel_rfl) (by simp) ?_
    refine AllReadyH.cons (o := { dst := some 12, op := Op.call { callee := Callee.value (Operand.func 53), args := #[Operand.const (Value.slice none 0 0), Operand.tmp 11], argTypes := #[46, 23] }, type := 46, pos := "label.go:58", after := #[{ on := 1, ground := Ground.data }], guard := none }) rfl (fun K hK => ?_) AllReadyH.nil
    go_simp
    refine hR1.out.mono ?_
    rintro e w2 ⟨v2, rfl, hO2, hB2⟩
    have HB2 := hid ((Below.drew (Below.refl w1.heap.size w1)).trans hB2)
    obtain ⟨d1, d2⟩ := HA1.out.below HB2.out
    have HR2 := hid (hR2.out v2 w2 (by simpa using hO2) HB2.out)
    clear hR1 hR2 hO2 hB2
    try go_wp2_with fail
    refine hK.out _ _ ?_ (fun hHeld => ?_)
    · first | (refine ⟨?_, ?_⟩ <;> first | assumption | (simp [*]; done))
    clear hK K
    try simp only [Act.put, List.setIfInBounds_toArray, List.set_cons_zero, List.set_cons_succ]
    refine wpAnyH_ready (rs := [5]) (by kernel_rfl) (by simp) ?_
    refine AllReadyH.cons (o := { dst := some 15, op := Op.call { callee := Callee.value (Operand.func 53), args := #[Operand.tmp 12, Operand.tmp 14], argTypes := #[46, 23] }, type := 46, pos := "label.go:58", after := #[{ on := 2, ground := Ground.data }, { on := 4, ground := Ground.data }, { on := 2, ground := Ground.chain }], guard := none }) rfl (fun K hK => ?_) AllReadyH.nil
    go_simp
    refine HR2.out.mono ?_
    rintro e w3 ⟨v3, rfl, hO3, hB3⟩
    have HB3 := hid (HB2.out.trans hB3)
    obtain ⟨d3, d4⟩ := HA1.out.below HB3.out
    have hcv := conv_own hO3
    clear HR2 hO3 hB3 d1 d2
    try go_wp2_with fail
    refine hK.out _ _ ?_ (fun hHeld => ?_)
    · first | (refine ⟨?_, ?_⟩ <;> first | assumption | (simp [*]; done))
    clear hK K
    try simp only [Act.put, List.setIfInBounds_toArray, List.set_cons_zero, List.set_cons_succ]
    refine wpAnyH_ready (rs := [6]) (by kernel_rfl) (by simp) ?_
    refine AllReadyH.cons (o := { dst := some 16, op := Op.convert 46 9 (Operand.tmp 15), type := 9, pos := "label.go:58", after := #[{ on := 5, ground := Ground.data }], guard := none }) rfl (fun K hK => ?_) AllReadyH.nil
    refine step_conv (by rfl) 46 9 _ (by rfl) v3 _ (by rfl) hcv ?_
    refine hK.out _ _ ?_ (fun hHeld => ?_)
    · first | (refine ⟨?_, ?_⟩ <;> first | assumption | (simp [*]; done))
    clear hK K
    try simp only [Act.put, List.setIfInBounds_toArray, List.set_cons_zero, List.set_cons_succ]
    refine wpAnyH_take (i := 7) (oi := { dst := some 2, op := Op.assign (Operand.tmp 16), type := 9, pos := "label.go:58", after := #[{ on := 6, ground := Ground.data }, { on := 5, ground := Ground.chain }, { on := 0, ground := Ground.phase }, { on := 1, ground := Ground.phase }, { on := 2, ground := Ground.phase }, { on := 3, ground := Ground.phase }, { on := 4, ground := Ground.phase }, { on := 5, ground := Ground.phase }, { on := 6, ground := Ground.phase }], guard := none }) (v := (.string (strOf (setB s ++ setB i)))) rfl (by kernel_rfl) (by kernel_rfl) (by kernel_rfl) (fun _ _ _ h => h) (Or.inl ⟨by rfl, ?_⟩) (by assumption) ?_
    · intro w hSw
      try dsimp only at hSw
      go_simp
    try simp only [Act.put, List.setIfInBounds_toArray, List.set_cons_zero, List.set_cons_succ]
    refine wpAnyH_take (i := 8) (oi := { dst := some 3, op := Op.assign (Operand.const (Value.int IntKind.i64 0)), type := 28, pos := "label.go:58", after := #[{ on := 7, ground := Ground.chain }, { on := 0, ground := Ground.phase }, { on := 1, ground := Ground.phase }, { on := 2, ground := Ground.phase }, { on := 3, ground := Ground.phase }, { on := 4, ground := Ground.phase }, { on := 5, ground := Ground.phase }, { on := 6, ground := Ground.phase }, { on := 7, ground := Ground.phase }], guard := none }) (v := (.int .i64 0)) rfl (by kernel_rfl) (by kernel_rfl) (by kernel_rfl) (fun _ _ _ h => h) (Or.inl ⟨by rfl, ?_⟩) (by assumption) ?_
    · intro w hSw
      try dsimp only at hSw
      go_simp
    try simp only [Act.put, List.setIfInBounds_toArray, List.set_cons_zero, List.set_cons_succ]
    refine wpAnyH_done (by kernel_rfl) ?_ _
    refine NoPanic.normal ?_
    go_wp2
    go_ret2
    exact ⟨by rw [HE.out]; rfl, HF.out.trans (HB3.out.mono (by omega))⟩
end Go.Proofs.Ytkbceaofijngoaa
