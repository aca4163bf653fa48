/-
  The walk of the law RowBytes.
-/
import Derived.Test.YtkbceaofijngoaaWROfB
import Derived.Test.YtkbceaofijngoaaWRBytes
import Derived.Test.YtkbceaofijngoaaWSame
import Derived.Test.YtkbceaofijngoaaWAwake
namespace Go.Proofs.Ytkbceaofijngoaa
open Go.RowKit
set_option linter.unusedVariables false

theorem rowVV_small {l : List Nat} : (rowVV (ofR l)).cells.length ≤ 8 ∧ (rowVV (ofR l)).s.length ≤ 64 ∧ (rowVV (ofR l)).i.length ≤ 64 ∧ (rowVV (ofR l)).key.size ≤ 64 ∧ ∀ c ∈ (rowVV (ofR l)).cells, c.size ≤ 256 := by
  cases h : ofR l with
  | none => exact ⟨by decide, by decide, by decide, by decide, fun c hc => by cases hc⟩
  | some q =>
    obtain ⟨r, n⟩ := q
    obtain ⟨hm, _⟩ := ofR_size h
    obtain ⟨⟨k1, k2⟩, ⟨c1, c2⟩, hl, _⟩ := mayR_iff.1 hm
    obtain ⟨⟨m1, _⟩, m3, _⟩ := mayB_iff.1 hl
    exact ⟨c1, m1, m3, k2, c2⟩

set_option maxRecDepth 40000 in
set_option maxHeartbeats 8000000 in
theorem bytes_walk (v : Value) (r : RowV) (vc vs vi : Value) (t : ByteArray) (w : World) (h : SeesR w v r vc vs vi) (ht : t.size ≤ 140737488351232) :
    Calls Try.prog 3 #[v, .string t] w fun e w' => e = .returned (.bool true) ∧ Below w.heap.size w w' := by
  obtain ⟨W, hW⟩ : ∃ W, W = w.alloc (.cells #[.string r.key, vc, vs, vi, .int .i64 r.who] 27) := ⟨_, rfl⟩
  have hB : Below w.heap.size w W := by rw [hW]; exact below_alloc w _
  have hA : RowAt W w.heap.size (.string r.key) vc vs vi (.int .i64 r.who) := by rw [hW]; exact RowAt.new _ _ _ _ _ _
  have hsz := hA.lt
  have hS := h.below hB
  have hR1 := size_row v r vc vs vi W hS
  have HR2 := hid (fun w1 (hb : Below W.heap.size W w1) => rsize_any v r vc vs vi w1 (hS.below hb))
  have HR3 := hid (fun w1 (hb : Below W.heap.size W w1) => bytes_row v r vc vs vi w1 (hS.below hb))
  have HR4 := hid (fun w1 (hb : Below W.heap.size W w1) => rbytes_row v r vc vs vi w1 (hS.below hb))
  have HR5 := hid (fun w1 => of_row t w1 (by omega))
  have HR6 := hid (fun w1 => rof_row t w1 (by omega))
  have HR7 := hid (fun w1 (hb : Below W.heap.size W w1) => checkRow_any v r vc vs vi w1 (hS.below hb))
  have HR8 := hid (fun w1 (hb : Below W.heap.size W w1) => rcheckRow_any v r vc vs vi w1 (hS.below hb))
  have HSM := hid (fun w1 v1 v2 xc xs xi yc ys yi h1 h2 => same_row v1 v2 (rowVV (ofR (bytesOf t))) (rowVV (ofR (bytesOf t))) xc xs xi yc ys yi w1 h1 h2)
  rw [sameRow_iff.2 rfl] at HSM
  have hsm := rowVV_small (l := bytesOf t)
  obtain ⟨z1, z2, z3, z4, z5⟩ := hsm
  have HX : Hid (∀ (w1 : World) (xc xs xi : Value), SeesT w1 xc (rowVV (ofR (bytesOf t))).cells → Sees w1 xs (rowVV (ofR (bytesOf t))).s → Sees w1 xi (rowVV (ofR (bytesOf t))).i → SeesR w1 (rowVal (rowVV (ofR (bytesOf t))) xc xs xi) (rowVV (ofR (bytesOf t))) xc xs xi) := by
    unfold Hid
    intro w1 xc xs xi a1 a2 a3
    exact ⟨rfl, a1, a2, a3, by omega, by omega, by omega, by omega, fun c hc => by have := z5 c hc; omega⟩
  unfold OfPost at HR5 HR6
  have HA := hid hA
  have HB := hid hB
  obtain ⟨c0, c1, c2, c3, c4, _⟩ := hA.cells
  obtain rfl := h.val
  unfold rowVal at *
  clear hA hB hS h z1 z2 z3 z4 z5
  generalize ((if mayR r then sizeR r else 0 : Nat) : Int) = nn at *
  generalize errR (mayR r) = ee at *
  generalize strOf (rowBytesL r) = tt at *
  generalize rowVV (ofR (bytesOf t)) = rr at *
  generalize ((rowNN (ofR (bytesOf t)) : Nat) : Int) = ii at *
  generalize errR (ofR (bytesOf t)).isSome = jj at *
  generalize r.key = ky at *
  generalize r.who = wo at *
  go_enter Try.func3, Try.ntmps3
  go_wp2_with fail
  rw [← hW]
  refine hR1.mono ?_
  clear hR1 hW
  rintro e w1 ⟨rfl, q1⟩
  have hs1 := q1.size
  have HQ1 := hid q1
  have hR2 := HR2.out w1 q1
  obtain ⟨d0, d1, d2, d3, d4, _⟩ := (HA.out.below q1 hsz).cells
  clear c0 c1 c2 c3 c4 q1 HR2
  go_wp2_with fail
  refine hR2.mono ?_
  clear hR2
  rintro e w2 ⟨rfl, q2⟩
  have HQ2 := hid (HQ1.out.trans (q2.mono hs1))
  have hs2 := HQ2.out.size
  have hR3 := HR3.out w2 HQ2.out
  obtain ⟨e0, e1, e2, e3, e4, _⟩ := (HA.out.below HQ2.out hsz).cells
  clear d0 d1 d2 d3 d4 q2 HR3 HQ1
  go_wp2_with fail
  refine hR3.mono ?_
  clear hR3
  rintro e w3 ⟨rfl, q3⟩
  have HQ3 := hid (HQ2.out.trans (q3.mono hs2))
  have hs3 := HQ3.out.size
  have hR4 := HR4.out w3 HQ3.out
  obtain ⟨f0, f1, f2, f3, f4, _⟩ := (HA.out.below HQ3.out hsz).cells
  clear e0 e1 e2 e3 e4 q3 HR4 HQ2
  go_wp2_with fail
  refine hR4.mono ?_
  clear hR4
  rintro e w4 ⟨rfl, q4⟩
  have HQ4 := hid (HQ3.out.trans (q4.mono hs3))
  have hs4 := HQ4.out.size
  have hR5 := HR5.out w4
  clear f0 f1 f2 f3 f4 q4 HR5 HQ3
  go_wp2_with fail
  refine hR5.mono ?_
  clear hR5
  rintro e w5 ⟨xc, xs, xi, rfl, a1, a2, a3, q5⟩
  obtain ⟨ao1, cap1, e1⟩ : ∃ ao cap, xc = .slice ao rr.cells.length cap := by obtain ⟨_, _, ao1, cap1, e1, _⟩ := a1; exact ⟨ao1, cap1, e1⟩
  obtain ⟨ao2, cap2, e2⟩ : ∃ ao cap, xs = .slice ao rr.s.length cap := by obtain ⟨_, _, ao1, cap1, e1, _⟩ := a2; exact ⟨ao1, cap1, e1⟩
  obtain ⟨ao3, cap3, e3⟩ : ∃ ao cap, xi = .slice ao rr.i.length cap := by obtain ⟨_, _, ao1, cap1, e1, _⟩ := a3; exact ⟨ao1, cap1, e1⟩
  subst e1
  subst e2
  subst e3
  obtain ⟨w6, hw6⟩ : ∃ w6, w6 = w5.alloc (.cells #[.string rr.key, .slice ao1 rr.cells.length cap1, .slice ao2 rr.s.length cap2, .slice ao3 rr.i.length cap3, .int .i64 rr.who] 27) := ⟨_, rfl⟩
  have hB6 : Below w5.heap.size w5 w6 := by rw [hw6]; exact below_alloc w5 _
  have hX6 : RowAt w6 w5.heap.size (.string rr.key) (.slice ao1 rr.cells.length cap1) (.slice ao2 rr.s.length cap2) (.slice ao3 rr.i.length cap3) (.int .i64 rr.who) := by rw [hw6]; exact RowAt.new _ _ _ _ _ _
  have hs5 := q5.size
  have hs6 := hX6.lt
  have HQ6 := hid ((HQ4.out.trans (q5.mono hs4)).trans (hB6.mono (by omega)))
  have HX6 := hid hX6
  have A1 := hid (a1.below hB6)
  have A2 := hid (a2.below hB6)
  have A3 := hid (a3.below hB6)
  have hR6 := HR6.out w6
  have HW6 := hid hw6
  clear hw6 hB6 hX6 a1 a2 a3 q5 HR6 HQ4
  go_wp2_with fail
  rw [← HW6.out]
  refine hR6.mono ?_
  clear hR6 HW6
  rintro e w7 ⟨yc, ys, yi, rfl, b1, b2, b3, q7⟩
  obtain ⟨ao4, cap4, e4⟩ : ∃ ao cap, yc = .slice ao rr.cells.length cap := by obtain ⟨_, _, ao1, cap1, e1, _⟩ := b1; exact ⟨ao1, cap1, e1⟩
  obtain ⟨ao5, cap5, e5⟩ : ∃ ao cap, ys = .slice ao rr.s.length cap := by obtain ⟨_, _, ao1, cap1, e1, _⟩ := b2; exact ⟨ao1, cap1, e1⟩
  obtain ⟨ao6, cap6, e6⟩ : ∃ ao cap, yi = .slice ao rr.i.length cap := by obtain ⟨_, _, ao1, cap1, e1, _⟩ := b3; exact ⟨ao1, cap1, e1⟩
  subst e4
  subst e5
  subst e6
  obtain ⟨w8, hw8⟩ : ∃ w8, w8 = w7.alloc (.cells #[.string rr.key, .slice ao4 rr.cells.length cap4, .slice ao5 rr.s.length cap5, .slice ao6 rr.i.length cap6, .int .i64 rr.who] 27) := ⟨_, rfl⟩
  have hB8 : Below w7.heap.size w7 w8 := by rw [hw8]; exact below_alloc w7 _
  have hY8 : RowAt w8 w7.heap.size (.string rr.key) (.slice ao4 rr.cells.length cap4) (.slice ao5 rr.s.length cap5) (.slice ao6 rr.i.length cap6) (.int .i64 rr.who) := by rw [hw8]; exact RowAt.new _ _ _ _ _ _
  have hs7 := q7.size
  have hs8 := hY8.lt
  have h68 := q7.trans (hB8.mono hs7)
  have HQ8 := hid (HQ6.out.trans (h68.mono (by have := HQ6.out.size; omega)))
  have hX8 := HX6.out.below h68 hs6
  have hsx := HX.out w8 _ _ _ (A1.out.below h68) (A2.out.below h68) (A3.out.below h68)
  have hsy := HX.out w8 _ _ _ (b1.below hB8) (b2.below hB8) (b3.below hB8)
  have HSX := hid hsx
  have HSY := hid hsy
  obtain ⟨i0, i1, i2, i3, i4, _⟩ := (HA.out.below HQ8.out hsz).cells
  obtain ⟨k0, k1, k2, k3, k4, _⟩ := hX8.cells
  obtain ⟨m0, m1, m2, m3, m4, _⟩ := hY8.cells
  have hs8b := HQ8.out.size
  have HX8 := hid hX8
  have HY8 := hid hY8
  have HW8 := hid hw8
  have hw5l : w5.heap.size < w8.heap.size := by omega
  have hRC := HR7.out w8.drew (Below.drew HQ8.out)
  clear hw8 hB8 hY8 b1 b2 b3 q7 h68 hX8 hsx hsy HX A1 A2 A3 HX6 HQ6 HR7
  go_wp2_with fail
  rw [← HW8.out]
  clear HW8
  refine wp_region_noPanic ?_
  refine wp_region_held_drew (S := (fun w' => (w'.cell? ⟨w.heap.size, 0, none⟩ = some (.string ky) ∧ w'.cell? ⟨w.heap.size, 1, none⟩ = some vc ∧ w'.cell? ⟨w.heap.size, 2, none⟩ = some vs ∧ w'.cell? ⟨w.heap.size, 3, none⟩ = some vi ∧ w'.cell? ⟨w.heap.size, 4, none⟩ = some (.int .i64 wo)) ∧ (w'.cell? ⟨w5.heap.size, 0, none⟩ = some (.string rr.key) ∧ w'.cell? ⟨w5.heap.size, 1, none⟩ = some (.slice ao1 rr.cells.length cap1) ∧ w'.cell? ⟨w5.heap.size, 2, none⟩ = some (.slice ao2 rr.s.length cap2) ∧ w'.cell? ⟨w5.heap.size, 3, none⟩ = some (.slice ao3 rr.i.length cap3) ∧ w'.cell? ⟨w5.heap.size, 4, none⟩ = some (.int .i64 rr.who)) ∧ (w'.cell? ⟨w7.heap.size, 0, none⟩ = some (.string rr.key) ∧ w'.cell? ⟨w7.heap.size, 1, none⟩ = some (.slice ao4 rr.cells.length cap4) ∧ w'.cell? ⟨w7.heap.size, 2, none⟩ = some (.slice ao5 rr.s.length cap5) ∧ w'.cell? ⟨w7.heap.size, 3, none⟩ = some (.slice ao6 rr.i.length cap6) ∧ w'.cell? ⟨w7.heap.size, 4, none⟩ = some (.int .i64 rr.who)))) (by kernel_rfl) ?_ (fun hHeld => ?_)
  · first | exact ⟨⟨i0, i1, i2, i3, i4⟩, ⟨k0, k1, k2, k3, k4⟩, m0, m1, m2, m3, m4⟩ | exact HKP.out
  refine wpAnyH_take (i := 0) (oi := { dst := some 51, op := Op.load 27 (Operand.tmp 2), type := 27, pos := "law.go:28", after := #[], guard := none }) (v := (.agg #[.string ky, vc, vs, vi, .int .i64 wo])) rfl (by kernel_rfl) (by kernel_rfl) (by kernel_rfl) (fun _ _ _ h => h) (Or.inl ⟨by rfl, ?_⟩) (by assumption) ?_
  · intro w hSw
    try dsimp only at hSw
    obtain ⟨⟨i0, i1, i2, i3, i4⟩, ⟨k0, k1, k2, k3, k4⟩, m0, m1, m2, m3, m4⟩ := hSw
    go_simp
  try simp only [Act.put, List.setIfInBounds_toArray, List.set_cons_zero, List.set_cons_succ]
  refine wpAnyH_take (i := 2) (oi := { dst := some 53, op := Op.load 27 (Operand.tmp 2), type := 27, pos := "law.go:28", after := #[], guard := none }) (v := (.agg #[.string ky, vc, vs, vi, .int .i64 wo])) rfl (by kernel_rfl) (by kernel_rfl) (by kernel_rfl) (fun _ _ _ h => h) (Or.inl ⟨by rfl, ?_⟩) (by assumption) ?_
  · intro w hSw
    try dsimp only at hSw
    obtain ⟨⟨i0, i1, i2, i3, i4⟩, ⟨k0, k1, k2, k3, k4⟩, m0, m1, m2, m3, m4⟩ := hSw
    go_simp
  try simp only [Act.put, List.setIfInBounds_toArray, List.set_cons_zero, List.set_cons_succ]
  refine wpAnyH_ready (rs := [1]) (by kernel_rfl) (by simp) ?_
  refine AllReadyH.cons (o := { dst := some 52, op := Op.call { callee := Callee.value (Operand.func 14), args := #[Operand.tmp 51], argTypes := #[27] }, type := 28, pos := "law.go:28", after := #[{ on := 0, ground := Ground.data }], guard := none }) rfl (fun K hK => ?_) AllReadyH.nil
  go_simp
  refine hRC.mono ?_
  clear hRC i0 i1 i2 i3 i4 k0 k1 k2 k3 k4 m0 m1 m2 m3 m4
  rintro e w9 ⟨rfl, q9⟩
  have HQ9b := hid ((Below.drew (Below.refl w8.heap.size w8)).trans q9)
  have HQ9 := hid (HQ8.out.trans (HQ9b.out.mono (by omega)))
  have hs9 := HQ9b.out.size
  have hRD := HR8.out w9 HQ9.out
  have HKP : Hid ((fun w' => (w'.cell? ⟨w.heap.size, 0, none⟩ = some (.string ky) ∧ w'.cell? ⟨w.heap.size, 1, none⟩ = some vc ∧ w'.cell? ⟨w.heap.size, 2, none⟩ = some vs ∧ w'.cell? ⟨w.heap.size, 3, none⟩ = some vi ∧ w'.cell? ⟨w.heap.size, 4, none⟩ = some (.int .i64 wo)) ∧ (w'.cell? ⟨w5.heap.size, 0, none⟩ = some (.string rr.key) ∧ w'.cell? ⟨w5.heap.size, 1, none⟩ = some (.slice ao1 rr.cells.length cap1) ∧ w'.cell? ⟨w5.heap.size, 2, none⟩ = some (.slice ao2 rr.s.length cap2) ∧ w'.cell? ⟨w5.heap.size, 3, none⟩ = some (.slice ao3 rr.i.length cap3) ∧ w'.cell? ⟨w5.heap.size, 4, none⟩ = some (.int .i64 rr.who)) ∧ (w'.cell? ⟨w7.heap.size, 0, none⟩ = some (.string rr.key) ∧ w'.cell? ⟨w7.heap.size, 1, none⟩ = some (.slice ao4 rr.cells.length cap4) ∧ w'.cell? ⟨w7.heap.size, 2, none⟩ = some (.slice ao5 rr.s.length cap5) ∧ w'.cell? ⟨w7.heap.size, 3, none⟩ = some (.slice ao6 rr.i.length cap6) ∧ w'.cell? ⟨w7.heap.size, 4, none⟩ = some (.int .i64 rr.who))) w9) := by
    obtain ⟨i0, i1, i2, i3, i4, _⟩ := (HA.out.below HQ9.out hsz).cells
    obtain ⟨k0, k1, k2, k3, k4, _⟩ := (HX8.out.below HQ9b.out (by omega)).cells
    obtain ⟨m0, m1, m2, m3, m4, _⟩ := (HY8.out.below HQ9b.out (by omega)).cells
    exact ⟨⟨i0, i1, i2, i3, i4⟩, ⟨k0, k1, k2, k3, k4⟩, m0, m1, m2, m3, m4⟩
  clear q9 HR8
  try go_wp2_with fail
  refine hK.out _ _ ?_ (fun hHeld => ?_)
  · first | exact ⟨⟨i0, i1, i2, i3, i4⟩, ⟨k0, k1, k2, k3, k4⟩, m0, m1, m2, m3, m4⟩ | exact HKP.out
  clear hK K
  try simp only [Act.put, List.setIfInBounds_toArray, List.set_cons_zero, List.set_cons_succ]
  refine wpAnyH_ready (rs := [3]) (by kernel_rfl) (by simp) ?_
  refine AllReadyH.cons (o := { dst := some 54, op := Op.call { callee := Callee.value (Operand.func 15), args := #[Operand.tmp 53], argTypes := #[27] }, type := 28, pos := "law.go:28", after := #[{ on := 2, ground := Ground.data }, { on := 1, ground := Ground.chain }], guard := none }) rfl (fun K hK => ?_) AllReadyH.nil
  go_simp
  refine hRD.mono ?_
  clear hRD HKP
  rintro e wa ⟨rfl, qa⟩
  have HQab := hid (HQ9b.out.trans (qa.mono (by omega)))
  have HQa := hid (HQ8.out.trans (HQab.out.mono (by omega)))
  have hsa := HQab.out.size
  have HKP : Hid ((fun w' => (w'.cell? ⟨w.heap.size, 0, none⟩ = some (.string ky) ∧ w'.cell? ⟨w.heap.size, 1, none⟩ = some vc ∧ w'.cell? ⟨w.heap.size, 2, none⟩ = some vs ∧ w'.cell? ⟨w.heap.size, 3, none⟩ = some vi ∧ w'.cell? ⟨w.heap.size, 4, none⟩ = some (.int .i64 wo)) ∧ (w'.cell? ⟨w5.heap.size, 0, none⟩ = some (.string rr.key) ∧ w'.cell? ⟨w5.heap.size, 1, none⟩ = some (.slice ao1 rr.cells.length cap1) ∧ w'.cell? ⟨w5.heap.size, 2, none⟩ = some (.slice ao2 rr.s.length cap2) ∧ w'.cell? ⟨w5.heap.size, 3, none⟩ = some (.slice ao3 rr.i.length cap3) ∧ w'.cell? ⟨w5.heap.size, 4, none⟩ = some (.int .i64 rr.who)) ∧ (w'.cell? ⟨w7.heap.size, 0, none⟩ = some (.string rr.key) ∧ w'.cell? ⟨w7.heap.size, 1, none⟩ = some (.slice ao4 rr.cells.length cap4) ∧ w'.cell? ⟨w7.heap.size, 2, none⟩ = some (.slice ao5 rr.s.length cap5) ∧ w'.cell? ⟨w7.heap.size, 3, none⟩ = some (.slice ao6 rr.i.length cap6) ∧ w'.cell? ⟨w7.heap.size, 4, none⟩ = some (.int .i64 rr.who))) wa) := by
    obtain ⟨i0, i1, i2, i3, i4, _⟩ := (HA.out.below HQa.out hsz).cells
    obtain ⟨k0, k1, k2, k3, k4, _⟩ := (HX8.out.below HQab.out (by omega)).cells
    obtain ⟨m0, m1, m2, m3, m4, _⟩ := (HY8.out.below HQab.out (by omega)).cells
    exact ⟨⟨i0, i1, i2, i3, i4⟩, ⟨k0, k1, k2, k3, k4⟩, m0, m1, m2, m3, m4⟩
  have hSM := HSM.out wa _ _ _ _ _ _ _ _ (HSX.out.below HQab.out) (HSY.out.below HQab.out)
  clear qa HSM HSX HSY
  try go_wp2_with fail
  refine hK.out _ _ ?_ (fun hHeld => ?_)
  · first | exact ⟨⟨i0, i1, i2, i3, i4⟩, ⟨k0, k1, k2, k3, k4⟩, m0, m1, m2, m3, m4⟩ | exact HKP.out
  clear hK K
  try simp only [Act.put, List.setIfInBounds_toArray, List.set_cons_zero, List.set_cons_succ]
  refine wpAnyH_take (i := 4) (oi := { dst := some 55, op := Op.binOp BinOp.eql 28 (Operand.tmp 52) (Operand.tmp 54) 28, type := 4, pos := "law.go:28", after := #[{ on := 1, ground := Ground.data }, { on := 3, ground := Ground.data }], guard := none }) (v := (.bool true)) rfl (by kernel_rfl) (by kernel_rfl) (by kernel_rfl) (fun _ _ _ h => h) (Or.inl ⟨by rfl, ?_⟩) (by assumption) ?_
  · intro w hSw
    try dsimp only at hSw
    go_simp
  try simp only [Act.put, List.setIfInBounds_toArray, List.set_cons_zero, List.set_cons_succ]
  refine wpAnyH_take (i := 5) (oi := { dst := some 56, op := Op.move (Operand.tmp 55), type := 4, pos := "law.go:28", after := #[{ on := 4, ground := Ground.data }, { on := 3, ground := Ground.chain }], guard := none }) (v := (.bool true)) rfl (by kernel_rfl) (by kernel_rfl) (by kernel_rfl) (fun _ _ _ h => h) (Or.inl ⟨by rfl, ?_⟩) (by assumption) ?_
  · intro w hSw
    try dsimp only at hSw
    go_simp
  try simp only [Act.put, List.setIfInBounds_toArray, List.set_cons_zero, List.set_cons_succ]
  refine wpAnyH_take (i := 6) (oi := { dst := some 57, op := Op.move (Operand.tmp 5), type := 3, pos := "law.go:28", after := #[{ on := 5, ground := Ground.guard }], guard := some (5, true) }) (v := (.int .i64 nn)) rfl (by kernel_rfl) (by kernel_rfl) (by kernel_rfl) (fun _ _ _ h => h) (Or.inl ⟨by rfl, ?_⟩) (by assumption) ?_
  · intro w hSw
    try dsimp only at hSw
    go_simp
  try simp only [Act.put, List.setIfInBounds_toArray, List.set_cons_zero, List.set_cons_succ]
  refine wpAnyH_take (i := 7) (oi := { dst := some 58, op := Op.move (Operand.tmp 7), type := 3, pos := "law.go:28", after := #[{ on := 5, ground := Ground.guard }], guard := some (5, true) }) (v := (.int .i64 nn)) rfl (by kernel_rfl) (by kernel_rfl) (by kernel_rfl) (fun _ _ _ h => h) (Or.inl ⟨by rfl, ?_⟩) (by assumption) ?_
  · intro w hSw
    try dsimp only at hSw
    go_simp
  try simp only [Act.put, List.setIfInBounds_toArray, List.set_cons_zero, List.set_cons_succ]
  refine wpAnyH_take (i := 8) (oi := { dst := some 59, op := Op.binOp BinOp.eql 3 (Operand.tmp 57) (Operand.tmp 58) 3, type := 4, pos := "law.go:28", after := #[{ on := 6, ground := Ground.data }, { on := 7, ground := Ground.data }, { on := 5, ground := Ground.guard }], guard := some (5, true) }) (v := (.bool true)) rfl (by kernel_rfl) (by kernel_rfl) (by kernel_rfl) (fun _ _ _ h => h) (Or.inl ⟨by rfl, ?_⟩) (by assumption) ?_
  · intro w hSw
    try dsimp only at hSw
    go_simp
  try simp only [Act.put, List.setIfInBounds_toArray, List.set_cons_zero, List.set_cons_succ]
  refine wpAnyH_take (i := 9) (oi := { dst := some 60, op := Op.pick (Operand.tmp 56) (Operand.tmp 59) (Operand.const (Value.bool false)), type := 4, pos := "law.go:28", after := #[{ on := 5, ground := Ground.data }, { on := 8, ground := Ground.data }], guard := none }) (v := (.bool true)) rfl (by kernel_rfl) (by kernel_rfl) (by kernel_rfl) (fun _ _ _ h => h) (Or.inl ⟨by rfl, ?_⟩) (by assumption) ?_
  · intro w hSw
    try dsimp only at hSw
    go_simp
  try simp only [Act.put, List.setIfInBounds_toArray, List.set_cons_zero, List.set_cons_succ]
  refine wpAnyH_take (i := 10) (oi := { dst := some 61, op := Op.move (Operand.tmp 60), type := 4, pos := "law.go:28", after := #[{ on := 9, ground := Ground.data }, { on := 5, ground := Ground.chain }], guard := none }) (v := (.bool true)) rfl (by kernel_rfl) (by kernel_rfl) (by kernel_rfl) (fun _ _ _ h => h) (Or.inl ⟨by rfl, ?_⟩) (by assumption) ?_
  · intro w hSw
    try dsimp only at hSw
    go_simp
  try simp only [Act.put, List.setIfInBounds_toArray, List.set_cons_zero, List.set_cons_succ]
  refine wpAnyH_take (i := 11) (oi := { dst := some 62, op := Op.move (Operand.tmp 6), type := 28, pos := "law.go:28", after := #[{ on := 10, ground := Ground.guard }], guard := some (10, true) }) (v := (.int .i64 ee)) rfl (by kernel_rfl) (by kernel_rfl) (by kernel_rfl) (fun _ _ _ h => h) (Or.inl ⟨by rfl, ?_⟩) (by assumption) ?_
  · intro w hSw
    try dsimp only at hSw
    go_simp
  try simp only [Act.put, List.setIfInBounds_toArray, List.set_cons_zero, List.set_cons_succ]
  refine wpAnyH_take (i := 12) (oi := { dst := some 63, op := Op.move (Operand.tmp 8), type := 28, pos := "law.go:28", after := #[{ on := 10, ground := Ground.guard }], guard := some (10, true) }) (v := (.int .i64 ee)) rfl (by kernel_rfl) (by kernel_rfl) (by kernel_rfl) (fun _ _ _ h => h) (Or.inl ⟨by rfl, ?_⟩) (by assumption) ?_
  · intro w hSw
    try dsimp only at hSw
    go_simp
  try simp only [Act.put, List.setIfInBounds_toArray, List.set_cons_zero, List.set_cons_succ]
  refine wpAnyH_take (i := 13) (oi := { dst := some 64, op := Op.binOp BinOp.eql 28 (Operand.tmp 62) (Operand.tmp 63) 28, type := 4, pos := "law.go:28", after := #[{ on := 11, ground := Ground.data }, { on := 12, ground := Ground.data }, { on := 10, ground := Ground.guard }], guard := some (10, true) }) (v := (.bool true)) rfl (by kernel_rfl) (by kernel_rfl) (by kernel_rfl) (fun _ _ _ h => h) (Or.inl ⟨by rfl, ?_⟩) (by assumption) ?_
  · intro w hSw
    try dsimp only at hSw
    go_simp
  try simp only [Act.put, List.setIfInBounds_toArray, List.set_cons_zero, List.set_cons_succ]
  refine wpAnyH_take (i := 14) (oi := { dst := some 65, op := Op.pick (Operand.tmp 61) (Operand.tmp 64) (Operand.const (Value.bool false)), type := 4, pos := "law.go:28", after := #[{ on := 10, ground := Ground.data }, { on := 13, ground := Ground.data }], guard := none }) (v := (.bool true)) rfl (by kernel_rfl) (by kernel_rfl) (by kernel_rfl) (fun _ _ _ h => h) (Or.inl ⟨by rfl, ?_⟩) (by assumption) ?_
  · intro w hSw
    try dsimp only at hSw
    go_simp
  try simp only [Act.put, List.setIfInBounds_toArray, List.set_cons_zero, List.set_cons_succ]
  refine wpAnyH_take (i := 15) (oi := { dst := some 66, op := Op.move (Operand.tmp 65), type := 4, pos := "law.go:28", after := #[{ on := 14, ground := Ground.data }, { on := 10, ground := Ground.chain }], guard := none }) (v := (.bool true)) rfl (by kernel_rfl) (by kernel_rfl) (by kernel_rfl) (fun _ _ _ h => h) (Or.inl ⟨by rfl, ?_⟩) (by assumption) ?_
  · intro w hSw
    try dsimp only at hSw
    go_simp
  try simp only [Act.put, List.setIfInBounds_toArray, List.set_cons_zero, List.set_cons_succ]
  refine wpAnyH_take (i := 16) (oi := { dst := some 67, op := Op.move (Operand.tmp 9), type := 9, pos := "law.go:28", after := #[{ on := 15, ground := Ground.guard }], guard := some (15, true) }) (v := (.string tt)) rfl (by kernel_rfl) (by kernel_rfl) (by kernel_rfl) (fun _ _ _ h => h) (Or.inl ⟨by rfl, ?_⟩) (by assumption) ?_
  · intro w hSw
    try dsimp only at hSw
    go_simp
  try simp only [Act.put, List.setIfInBounds_toArray, List.set_cons_zero, List.set_cons_succ]
  refine wpAnyH_take (i := 17) (oi := { dst := some 68, op := Op.move (Operand.tmp 11), type := 9, pos := "law.go:28", after := #[{ on := 15, ground := Ground.guard }], guard := some (15, true) }) (v := (.string tt)) rfl (by kernel_rfl) (by kernel_rfl) (by kernel_rfl) (fun _ _ _ h => h) (Or.inl ⟨by rfl, ?_⟩) (by assumption) ?_
  · intro w hSw
    try dsimp only at hSw
    go_simp
  try simp only [Act.put, List.setIfInBounds_toArray, List.set_cons_zero, List.set_cons_succ]
  refine wpAnyH_take (i := 18) (oi := { dst := some 69, op := Op.binOp BinOp.eql 9 (Operand.tmp 67) (Operand.tmp 68) 9, type := 4, pos := "law.go:28", after := #[{ on := 16, ground := Ground.data }, { on := 17, ground := Ground.data }, { on := 15, ground := Ground.guard }], guard := some (15, true) }) (v := (.bool true)) rfl (by kernel_rfl) (by kernel_rfl) (by kernel_rfl) (fun _ _ _ h => h) (Or.inl ⟨by rfl, ?_⟩) (by assumption) ?_
  · intro w hSw
    try dsimp only at hSw
    go_simp
  try simp only [Act.put, List.setIfInBounds_toArray, List.set_cons_zero, List.set_cons_succ]
  refine wpAnyH_take (i := 19) (oi := { dst := some 70, op := Op.pick (Operand.tmp 66) (Operand.tmp 69) (Operand.const (Value.bool false)), type := 4, pos := "law.go:28", after := #[{ on := 15, ground := Ground.data }, { on := 18, ground := Ground.data }], guard := none }) (v := (.bool true)) rfl (by kernel_rfl) (by kernel_rfl) (by kernel_rfl) (fun _ _ _ h => h) (Or.inl ⟨by rfl, ?_⟩) (by assumption) ?_
  · intro w hSw
    try dsimp only at hSw
    go_simp
  try simp only [Act.put, List.setIfInBounds_toArray, List.set_cons_zero, List.set_cons_succ]
  refine wpAnyH_take (i := 20) (oi := { dst := some 71, op := Op.move (Operand.tmp 70), type := 4, pos := "law.go:28", after := #[{ on := 19, ground := Ground.data }, { on := 15, ground := Ground.chain }], guard := none }) (v := (.bool true)) rfl (by kernel_rfl) (by kernel_rfl) (by kernel_rfl) (fun _ _ _ h => h) (Or.inl ⟨by rfl, ?_⟩) (by assumption) ?_
  · intro w hSw
    try dsimp only at hSw
    go_simp
  try simp only [Act.put, List.setIfInBounds_toArray, List.set_cons_zero, List.set_cons_succ]
  refine wpAnyH_take (i := 21) (oi := { dst := some 72, op := Op.move (Operand.tmp 10), type := 28, pos := "law.go:28", after := #[{ on := 20, ground := Ground.guard }], guard := some (20, true) }) (v := (.int .i64 ee)) rfl (by kernel_rfl) (by kernel_rfl) (by kernel_rfl) (fun _ _ _ h => h) (Or.inl ⟨by rfl, ?_⟩) (by assumption) ?_
  · intro w hSw
    try dsimp only at hSw
    go_simp
  try simp only [Act.put, List.setIfInBounds_toArray, List.set_cons_zero, List.set_cons_succ]
  refine wpAnyH_take (i := 22) (oi := { dst := some 73, op := Op.move (Operand.tmp 12), type := 28, pos := "law.go:28", after := #[{ on := 20, ground := Ground.guard }], guard := some (20, true) }) (v := (.int .i64 ee)) rfl (by kernel_rfl) (by kernel_rfl) (by kernel_rfl) (fun _ _ _ h => h) (Or.inl ⟨by rfl, ?_⟩) (by assumption) ?_
  · intro w hSw
    try dsimp only at hSw
    go_simp
  try simp only [Act.put, List.setIfInBounds_toArray, List.set_cons_zero, List.set_cons_succ]
  refine wpAnyH_take (i := 23) (oi := { dst := some 74, op := Op.binOp BinOp.eql 28 (Operand.tmp 72) (Operand.tmp 73) 28, type := 4, pos := "law.go:28", after := #[{ on := 21, ground := Ground.data }, { on := 22, ground := Ground.data }, { on := 20, ground := Ground.guard }], guard := some (20, true) }) (v := (.bool true)) rfl (by kernel_rfl) (by kernel_rfl) (by kernel_rfl) (fun _ _ _ h => h) (Or.inl ⟨by rfl, ?_⟩) (by assumption) ?_
  · intro w hSw
    try dsimp only at hSw
    go_simp
  try simp only [Act.put, List.setIfInBounds_toArray, List.set_cons_zero, List.set_cons_succ]
  refine wpAnyH_take (i := 24) (oi := { dst := some 75, op := Op.pick (Operand.tmp 71) (Operand.tmp 74) (Operand.const (Value.bool false)), type := 4, pos := "law.go:28", after := #[{ on := 20, ground := Ground.data }, { on := 23, ground := Ground.data }], guard := none }) (v := (.bool true)) rfl (by kernel_rfl) (by kernel_rfl) (by kernel_rfl) (fun _ _ _ h => h) (Or.inl ⟨by rfl, ?_⟩) (by assumption) ?_
  · intro w hSw
    try dsimp only at hSw
    go_simp
  try simp only [Act.put, List.setIfInBounds_toArray, List.set_cons_zero, List.set_cons_succ]
  refine wpAnyH_take (i := 25) (oi := { dst := some 76, op := Op.move (Operand.tmp 75), type := 4, pos := "law.go:28", after := #[{ on := 24, ground := Ground.data }, { on := 20, ground := Ground.chain }], guard := none }) (v := (.bool true)) rfl (by kernel_rfl) (by kernel_rfl) (by kernel_rfl) (fun _ _ _ h => h) (Or.inl ⟨by rfl, ?_⟩) (by assumption) ?_
  · intro w hSw
    try dsimp only at hSw
    go_simp
  try simp only [Act.put, List.setIfInBounds_toArray, List.set_cons_zero, List.set_cons_succ]
  refine wpAnyH_take (i := 26) (oi := { dst := some 77, op := Op.load 27 (Operand.tmp 13), type := 27, pos := "law.go:28", after := #[{ on := 25, ground := Ground.guard }], guard := some (25, true) }) (v := (.agg #[.string rr.key, .slice ao1 rr.cells.length cap1, .slice ao2 rr.s.length cap2, .slice ao3 rr.i.length cap3, .int .i64 rr.who])) rfl (by kernel_rfl) (by kernel_rfl) (by kernel_rfl) (fun _ _ _ h => h) (Or.inl ⟨by rfl, ?_⟩) (by assumption) ?_
  · intro w hSw
    try dsimp only at hSw
    obtain ⟨⟨i0, i1, i2, i3, i4⟩, ⟨k0, k1, k2, k3, k4⟩, m0, m1, m2, m3, m4⟩ := hSw
    go_simp
  try simp only [Act.put, List.setIfInBounds_toArray, List.set_cons_zero, List.set_cons_succ]
  refine wpAnyH_take (i := 27) (oi := { dst := some 78, op := Op.load 27 (Operand.tmp 16), type := 27, pos := "law.go:28", after := #[{ on := 25, ground := Ground.guard }], guard := some (25, true) }) (v := (.agg #[.string rr.key, .slice ao4 rr.cells.length cap4, .slice ao5 rr.s.length cap5, .slice ao6 rr.i.length cap6, .int .i64 rr.who])) rfl (by kernel_rfl) (by kernel_rfl) (by kernel_rfl) (fun _ _ _ h => h) (Or.inl ⟨by rfl, ?_⟩) (by assumption) ?_
  · intro w hSw
    try dsimp only at hSw
    obtain ⟨⟨i0, i1, i2, i3, i4⟩, ⟨k0, k1, k2, k3, k4⟩, m0, m1, m2, m3, m4⟩ := hSw
    go_simp
  try simp only [Act.put, List.setIfInBounds_toArray, List.set_cons_zero, List.set_cons_succ]
  refine wpAnyH_ready (rs := [28]) (by kernel_rfl) (by simp) ?_
  refine AllReadyH.cons (o := { dst := some 79, op := Op.call { callee := Callee.value (Operand.func 16), args := #[Operand.tmp 77, Operand.tmp 78], argTypes := #[27, 27] }, type := 4, pos := "law.go:28", after := #[{ on := 26, ground := Ground.data }, { on := 27, ground := Ground.data }, { on := 25, ground := Ground.chain }, { on := 25, ground := Ground.guard }], guard := some (25, true) }) rfl (fun K hK => ?_) AllReadyH.nil
  go_simp
  refine hSM.mono ?_
  clear hSM HKP
  rintro e wb ⟨rfl, qb⟩
  have HQbb := hid (HQab.out.trans (qb.mono (by omega)))
  have HQb := hid (HQ8.out.trans (HQbb.out.mono (by omega)))
  have hsb := HQbb.out.size
  have HKP : Hid ((fun w' => (w'.cell? ⟨w.heap.size, 0, none⟩ = some (.string ky) ∧ w'.cell? ⟨w.heap.size, 1, none⟩ = some vc ∧ w'.cell? ⟨w.heap.size, 2, none⟩ = some vs ∧ w'.cell? ⟨w.heap.size, 3, none⟩ = some vi ∧ w'.cell? ⟨w.heap.size, 4, none⟩ = some (.int .i64 wo)) ∧ (w'.cell? ⟨w5.heap.size, 0, none⟩ = some (.string rr.key) ∧ w'.cell? ⟨w5.heap.size, 1, none⟩ = some (.slice ao1 rr.cells.length cap1) ∧ w'.cell? ⟨w5.heap.size, 2, none⟩ = some (.slice ao2 rr.s.length cap2) ∧ w'.cell? ⟨w5.heap.size, 3, none⟩ = some (.slice ao3 rr.i.length cap3) ∧ w'.cell? ⟨w5.heap.size, 4, none⟩ = some (.int .i64 rr.who)) ∧ (w'.cell? ⟨w7.heap.size, 0, none⟩ = some (.string rr.key) ∧ w'.cell? ⟨w7.heap.size, 1, none⟩ = some (.slice ao4 rr.cells.length cap4) ∧ w'.cell? ⟨w7.heap.size, 2, none⟩ = some (.slice ao5 rr.s.length cap5) ∧ w'.cell? ⟨w7.heap.size, 3, none⟩ = some (.slice ao6 rr.i.length cap6) ∧ w'.cell? ⟨w7.heap.size, 4, none⟩ = some (.int .i64 rr.who))) wb) := by
    obtain ⟨i0, i1, i2, i3, i4, _⟩ := (HA.out.below HQb.out hsz).cells
    obtain ⟨k0, k1, k2, k3, k4, _⟩ := (HX8.out.below HQbb.out (by omega)).cells
    obtain ⟨m0, m1, m2, m3, m4, _⟩ := (HY8.out.below HQbb.out (by omega)).cells
    exact ⟨⟨i0, i1, i2, i3, i4⟩, ⟨k0, k1, k2, k3, k4⟩, m0, m1, m2, m3, m4⟩
  have hAW := awake_any wb
  clear qb
  try go_wp2_with fail
  refine hK.out _ _ ?_ (fun hHeld => ?_)
  · first | exact ⟨⟨i0, i1, i2, i3, i4⟩, ⟨k0, k1, k2, k3, k4⟩, m0, m1, m2, m3, m4⟩ | exact HKP.out
  clear hK K
  try simp only [Act.put, List.setIfInBounds_toArray, List.set_cons_zero, List.set_cons_succ]
  refine wpAnyH_take (i := 29) (oi := { dst := some 80, op := Op.pick (Operand.tmp 76) (Operand.tmp 79) (Operand.const (Value.bool false)), type := 4, pos := "law.go:28", after := #[{ on := 25, ground := Ground.data }, { on := 28, ground := Ground.data }], guard := none }) (v := (.bool true)) rfl (by kernel_rfl) (by kernel_rfl) (by kernel_rfl) (fun _ _ _ h => h) (Or.inl ⟨by rfl, ?_⟩) (by assumption) ?_
  · intro w hSw
    try dsimp only at hSw
    go_simp
  try simp only [Act.put, List.setIfInBounds_toArray, List.set_cons_zero, List.set_cons_succ]
  refine wpAnyH_take (i := 30) (oi := { dst := some 81, op := Op.move (Operand.tmp 80), type := 4, pos := "law.go:28", after := #[{ on := 29, ground := Ground.data }, { on := 28, ground := Ground.chain }], guard := none }) (v := (.bool true)) rfl (by kernel_rfl) (by kernel_rfl) (by kernel_rfl) (fun _ _ _ h => h) (Or.inl ⟨by rfl, ?_⟩) (by assumption) ?_
  · intro w hSw
    try dsimp only at hSw
    go_simp
  try simp only [Act.put, List.setIfInBounds_toArray, List.set_cons_zero, List.set_cons_succ]
  refine wpAnyH_take (i := 31) (oi := { dst := some 82, op := Op.move (Operand.tmp 14), type := 3, pos := "law.go:28", after := #[{ on := 30, ground := Ground.guard }], guard := some (30, true) }) (v := (.int .i64 ii)) rfl (by kernel_rfl) (by kernel_rfl) (by kernel_rfl) (fun _ _ _ h => h) (Or.inl ⟨by rfl, ?_⟩) (by assumption) ?_
  · intro w hSw
    try dsimp only at hSw
    go_simp
  try simp only [Act.put, List.setIfInBounds_toArray, List.set_cons_zero, List.set_cons_succ]
  refine wpAnyH_take (i := 32) (oi := { dst := some 83, op := Op.move (Operand.tmp 17), type := 3, pos := "law.go:28", after := #[{ on := 30, ground := Ground.guard }], guard := some (30, true) }) (v := (.int .i64 ii)) rfl (by kernel_rfl) (by kernel_rfl) (by kernel_rfl) (fun _ _ _ h => h) (Or.inl ⟨by rfl, ?_⟩) (by assumption) ?_
  · intro w hSw
    try dsimp only at hSw
    go_simp
  try simp only [Act.put, List.setIfInBounds_toArray, List.set_cons_zero, List.set_cons_succ]
  refine wpAnyH_take (i := 33) (oi := { dst := some 84, op := Op.binOp BinOp.eql 3 (Operand.tmp 82) (Operand.tmp 83) 3, type := 4, pos := "law.go:28", after := #[{ on := 31, ground := Ground.data }, { on := 32, ground := Ground.data }, { on := 30, ground := Ground.guard }], guard := some (30, true) }) (v := (.bool true)) rfl (by kernel_rfl) (by kernel_rfl) (by kernel_rfl) (fun _ _ _ h => h) (Or.inl ⟨by rfl, ?_⟩) (by assumption) ?_
  · intro w hSw
    try dsimp only at hSw
    go_simp
  try simp only [Act.put, List.setIfInBounds_toArray, List.set_cons_zero, List.set_cons_succ]
  refine wpAnyH_take (i := 34) (oi := { dst := some 85, op := Op.pick (Operand.tmp 81) (Operand.tmp 84) (Operand.const (Value.bool false)), type := 4, pos := "law.go:28", after := #[{ on := 30, ground := Ground.data }, { on := 33, ground := Ground.data }], guard := none }) (v := (.bool true)) rfl (by kernel_rfl) (by kernel_rfl) (by kernel_rfl) (fun _ _ _ h => h) (Or.inl ⟨by rfl, ?_⟩) (by assumption) ?_
  · intro w hSw
    try dsimp only at hSw
    go_simp
  try simp only [Act.put, List.setIfInBounds_toArray, List.set_cons_zero, List.set_cons_succ]
  refine wpAnyH_take (i := 35) (oi := { dst := some 86, op := Op.move (Operand.tmp 85), type := 4, pos := "law.go:28", after := #[{ on := 34, ground := Ground.data }, { on := 30, ground := Ground.chain }], guard := none }) (v := (.bool true)) rfl (by kernel_rfl) (by kernel_rfl) (by kernel_rfl) (fun _ _ _ h => h) (Or.inl ⟨by rfl, ?_⟩) (by assumption) ?_
  · intro w hSw
    try dsimp only at hSw
    go_simp
  try simp only [Act.put, List.setIfInBounds_toArray, List.set_cons_zero, List.set_cons_succ]
  refine wpAnyH_take (i := 36) (oi := { dst := some 87, op := Op.move (Operand.tmp 15), type := 28, pos := "law.go:28", after := #[{ on := 35, ground := Ground.guard }], guard := some (35, true) }) (v := (.int .i64 jj)) rfl (by kernel_rfl) (by kernel_rfl) (by kernel_rfl) (fun _ _ _ h => h) (Or.inl ⟨by rfl, ?_⟩) (by assumption) ?_
  · intro w hSw
    try dsimp only at hSw
    go_simp
  try simp only [Act.put, List.setIfInBounds_toArray, List.set_cons_zero, List.set_cons_succ]
  refine wpAnyH_take (i := 37) (oi := { dst := some 88, op := Op.move (Operand.tmp 18), type := 28, pos := "law.go:28", after := #[{ on := 35, ground := Ground.guard }], guard := some (35, true) }) (v := (.int .i64 jj)) rfl (by kernel_rfl) (by kernel_rfl) (by kernel_rfl) (fun _ _ _ h => h) (Or.inl ⟨by rfl, ?_⟩) (by assumption) ?_
  · intro w hSw
    try dsimp only at hSw
    go_simp
  try simp only [Act.put, List.setIfInBounds_toArray, List.set_cons_zero, List.set_cons_succ]
  refine wpAnyH_take (i := 38) (oi := { dst := some 89, op := Op.binOp BinOp.eql 28 (Operand.tmp 87) (Operand.tmp 88) 28, type := 4, pos := "law.go:28", after := #[{ on := 36, ground := Ground.data }, { on := 37, ground := Ground.data }, { on := 35, ground := Ground.guard }], guard := some (35, true) }) (v := (.bool true)) rfl (by kernel_rfl) (by kernel_rfl) (by kernel_rfl) (fun _ _ _ h => h) (Or.inl ⟨by rfl, ?_⟩) (by assumption) ?_
  · intro w hSw
    try dsimp only at hSw
    go_simp
  try simp only [Act.put, List.setIfInBounds_toArray, List.set_cons_zero, List.set_cons_succ]
  refine wpAnyH_take (i := 39) (oi := { dst := some 90, op := Op.pick (Operand.tmp 86) (Operand.tmp 89) (Operand.const (Value.bool false)), type := 4, pos := "law.go:28", after := #[{ on := 35, ground := Ground.data }, { on := 38, ground := Ground.data }], guard := none }) (v := (.bool true)) rfl (by kernel_rfl) (by kernel_rfl) (by kernel_rfl) (fun _ _ _ h => h) (Or.inl ⟨by rfl, ?_⟩) (by assumption) ?_
  · intro w hSw
    try dsimp only at hSw
    go_simp
  try simp only [Act.put, List.setIfInBounds_toArray, List.set_cons_zero, List.set_cons_succ]
  refine wpAnyH_take (i := 40) (oi := { dst := some 91, op := Op.move (Operand.tmp 90), type := 4, pos := "law.go:28", after := #[{ on := 39, ground := Ground.data }, { on := 35, ground := Ground.chain }], guard := none }) (v := (.bool true)) rfl (by kernel_rfl) (by kernel_rfl) (by kernel_rfl) (fun _ _ _ h => h) (Or.inl ⟨by rfl, ?_⟩) (by assumption) ?_
  · intro w hSw
    try dsimp only at hSw
    go_simp
  try simp only [Act.put, List.setIfInBounds_toArray, List.set_cons_zero, List.set_cons_succ]
  refine wpAnyH_ready (rs := [41]) (by kernel_rfl) (by simp) ?_
  refine AllReadyH.cons (o := { dst := some 92, op := Op.call { callee := Callee.value (Operand.func 17), args := #[], argTypes := #[] }, type := 4, pos := "law.go:28", after := #[{ on := 40, ground := Ground.chain }, { on := 40, ground := Ground.guard }], guard := some (40, true) }) rfl (fun K hK => ?_) AllReadyH.nil
  go_simp
  refine hAW.mono ?_
  clear hAW HKP
  rintro e wc ⟨rfl, qc⟩
  have HQcb := hid (HQbb.out.trans (qc.mono (by omega)))
  have HQc := hid (HQ8.out.trans (HQcb.out.mono (by omega)))
  have HKP : Hid ((fun w' => (w'.cell? ⟨w.heap.size, 0, none⟩ = some (.string ky) ∧ w'.cell? ⟨w.heap.size, 1, none⟩ = some vc ∧ w'.cell? ⟨w.heap.size, 2, none⟩ = some vs ∧ w'.cell? ⟨w.heap.size, 3, none⟩ = some vi ∧ w'.cell? ⟨w.heap.size, 4, none⟩ = some (.int .i64 wo)) ∧ (w'.cell? ⟨w5.heap.size, 0, none⟩ = some (.string rr.key) ∧ w'.cell? ⟨w5.heap.size, 1, none⟩ = some (.slice ao1 rr.cells.length cap1) ∧ w'.cell? ⟨w5.heap.size, 2, none⟩ = some (.slice ao2 rr.s.length cap2) ∧ w'.cell? ⟨w5.heap.size, 3, none⟩ = some (.slice ao3 rr.i.length cap3) ∧ w'.cell? ⟨w5.heap.size, 4, none⟩ = some (.int .i64 rr.who)) ∧ (w'.cell? ⟨w7.heap.size, 0, none⟩ = some (.string rr.key) ∧ w'.cell? ⟨w7.heap.size, 1, none⟩ = some (.slice ao4 rr.cells.length cap4) ∧ w'.cell? ⟨w7.heap.size, 2, none⟩ = some (.slice ao5 rr.s.length cap5) ∧ w'.cell? ⟨w7.heap.size, 3, none⟩ = some (.slice ao6 rr.i.length cap6) ∧ w'.cell? ⟨w7.heap.size, 4, none⟩ = some (.int .i64 rr.who))) wc) := by
    obtain ⟨i0, i1, i2, i3, i4, _⟩ := (HA.out.below HQc.out hsz).cells
    obtain ⟨k0, k1, k2, k3, k4, _⟩ := (HX8.out.below HQcb.out (by omega)).cells
    obtain ⟨m0, m1, m2, m3, m4, _⟩ := (HY8.out.below HQcb.out (by omega)).cells
    exact ⟨⟨i0, i1, i2, i3, i4⟩, ⟨k0, k1, k2, k3, k4⟩, m0, m1, m2, m3, m4⟩
  clear qc
  try go_wp2_with fail
  refine hK.out _ _ ?_ (fun hHeld => ?_)
  · first | exact ⟨⟨i0, i1, i2, i3, i4⟩, ⟨k0, k1, k2, k3, k4⟩, m0, m1, m2, m3, m4⟩ | exact HKP.out
  clear hK K
  try simp only [Act.put, List.setIfInBounds_toArray, List.set_cons_zero, List.set_cons_succ]
  refine wpAnyH_take (i := 42) (oi := { dst := some 93, op := Op.pick (Operand.tmp 91) (Operand.tmp 92) (Operand.const (Value.bool false)), type := 4, pos := "law.go:28", after := #[{ on := 40, ground := Ground.data }, { on := 41, ground := Ground.data }], guard := none }) (v := (.bool true)) rfl (by kernel_rfl) (by kernel_rfl) (by kernel_rfl) (fun _ _ _ h => h) (Or.inl ⟨by rfl, ?_⟩) (by assumption) ?_
  · intro w hSw
    try dsimp only at hSw
    go_simp
  try simp only [Act.put, List.setIfInBounds_toArray, List.set_cons_zero, List.set_cons_succ]
  refine wpAnyH_take (i := 43) (oi := { dst := some 4, op := Op.assign (Operand.tmp 93), type := 4, pos := "law.go:28", after := #[{ on := 42, ground := Ground.data }, { on := 41, ground := Ground.chain }, { on := 0, ground := Ground.phase }, { on := 1, ground := Ground.phase }, { on := 2, ground := Ground.phase }, { on := 3, ground := Ground.phase }, { on := 4, ground := Ground.phase }, { on := 5, ground := Ground.phase }, { on := 6, ground := Ground.phase }, { on := 7, ground := Ground.phase }, { on := 8, ground := Ground.phase }, { on := 9, ground := Ground.phase }, { on := 10, ground := Ground.phase }, { on := 11, ground := Ground.phase }, { on := 12, ground := Ground.phase }, { on := 13, ground := Ground.phase }, { on := 14, ground := Ground.phase }, { on := 15, ground := Ground.phase }, { on := 16, ground := Ground.phase }, { on := 17, ground := Ground.phase }, { on := 18, ground := Ground.phase }, { on := 19, ground := Ground.phase }, { on := 20, ground := Ground.phase }, { on := 21, ground := Ground.phase }, { on := 22, ground := Ground.phase }, { on := 23, ground := Ground.phase }, { on := 24, ground := Ground.phase }, { on := 25, ground := Ground.phase }, { on := 26, ground := Ground.phase }, { on := 27, ground := Ground.phase }, { on := 28, ground := Ground.phase }, { on := 29, ground := Ground.phase }, { on := 30, ground := Ground.phase }, { on := 31, ground := Ground.phase }, { on := 32, ground := Ground.phase }, { on := 33, ground := Ground.phase }, { on := 34, ground := Ground.phase }, { on := 35, ground := Ground.phase }, { on := 36, ground := Ground.phase }, { on := 37, ground := Ground.phase }, { on := 38, ground := Ground.phase }, { on := 39, ground := Ground.phase }, { on := 40, ground := Ground.phase }, { on := 41, ground := Ground.phase }, { on := 42, ground := Ground.phase }], guard := none }) (v := (.bool true)) rfl (by kernel_rfl) (by kernel_rfl) (by kernel_rfl) (fun _ _ _ h => h) (Or.inl ⟨by rfl, ?_⟩) (by assumption) ?_
  · intro w hSw
    try dsimp only at hSw
    go_simp
  try simp only [Act.put, List.setIfInBounds_toArray, List.set_cons_zero, List.set_cons_succ]
  refine wpAnyH_done (by kernel_rfl) ?_ _
  refine NoPanic.normal ?_
  go_wp2
  go_ret
  exact ⟨rfl, HB.out.trans (HQc.out.mono (by omega))⟩

end Go.Proofs.Ytkbceaofijngoaa
