/-
  The law of trees that nobody made, walked.
-/
import Derived.Test.YtkjmilcocnjjoaaTAllI
import Derived.LoopN
namespace Go.Proofs.Ytkjmilcocnjjoaa.I
open Go.RowKit Go.Shelf Tm
set_option linter.unusedVariables false
attribute [local go_sem] Oper.semAt_some

theorem range_none {g : Operand} {ps : Array Tmp} {body : Code} {Q : Exit → Act → World → Prop} {a : Act} {w : World} {b : Nat} (hg : a.eval g = .func (.func 37) #[] #[.pointer (some ⟨b, 0, none⟩)]) (hps : ps.size = 2) (hcb : w.cell? ⟨b, 0, none⟩ = some (.slice none 0 0))
    (hdone : ∀ D X, w.heap.size ≤ D → Below w.heap.size w X → X.heap[D]? = some (.deferred (some [])) → Q .normal { a with defers := { target := .collected D, args := #[] } :: a.defers } X) :
    (Code.rangeFunc g ps .skip body).wp Try.prog Q a w := by
  refine (wpIn_wide (n := 3)).1 ?_
  refine wpIn_rangeFunc_ownG rfl (by decide) (gf := 37) (lb := #[.pointer (some ⟨b, 0, none⟩)]) hg trivial (enters_of Try.func37 (by kernel_rfl) rfl) (all1_no 2 b w hcb (fun _ _ => True)) (fun _ _ => trivial) (fun _ _ _ _ _ _ _ _ => trivial) (Below.refl _ _) (fun _ => hps.symm) (fun _ X => Below w.heap.size w X) (fun _ _ _ => False) (ownFrom_below (Nat.le_refl _) (Nat.le_refl _)) (fun c => ownFrom_pure _ (fun _ => False)) (Below.refl _ _) (fun x => { tmps := (ps.zip #[.string x.1, .int .i64 x.2]).foldl (fun t (p, v) => t.setIfInBounds p v) a.tmps, defers := [] }) ?assign ?body ?done ?stop
  case assign =>
    intro l x X K hK
    gi_wp2
    simpa [hps] using hK
  case body =>
    intro l pre x X _ hN
    exact absurd hN (Nat.not_lt_zero _)
  case stop =>
    intro D c pre X _ hS
    exact hS.elim
  case done =>
    rintro D ys X hD rfl hX hK
    exact hdone D X hD hX hK

theorem results_box {fn : Func} {p : Tmp} (h : fn.results = #[.cell p 4]) (tmps : Array Value) (w : World) (g : Nat) (v : Value) (hp : tmps.getD p undef = .pointer (some ⟨g, 0, none⟩)) (hg : w.cell? ⟨g, 0, none⟩ = some v) :
    (results fn tmps).run Try.prog w = .ok v w := by
  have hp' : tmps[p]?.getD undef = .pointer (some ⟨g, 0, none⟩) := by simpa using hp
  have hu := Try.underlying4
  simp [results, h, hp', asAddr, go_sem, hg]

set_option maxHeartbeats 8000000 in
set_option maxRecDepth 100000 in
theorem nobody_walk (key : ByteArray) (W : World) : Calls Try.prog 6 #[.string key] W fun e w' => e = .returned (.bool true) ∧ Below W.heap.size W w' := by
  obtain ⟨W3, hW3⟩ : ∃ W3, W3 = ((W.alloc (.cells #[.bool false] 4)).alloc (.cells #[.pointer none, .int .i64 0, .int .i64 0, .pointer none] 61)).alloc (.cells #[.pointer none, .pointer (some ⟨W.heap.size + 1, 0, none⟩)] 23) := ⟨_, rfl⟩
  have bx : Boxed W3 W.heap.size 4 (.bool false) := by rw [hW3]; exact ((Boxed.new W 4 (.bool false)).alloc _).alloc _
  have bB : Below W.heap.size W W3 := by rw [hW3]; exact (((Below.refl _ W).alloc (Nat.le_refl _) _).alloc (by simp) _).alloc (by simp; omega) _
  have h2 : W3.heap[W.heap.size + 1 + 1]? = some (.cells #[.pointer none, .pointer (some ⟨W.heap.size + 1, 0, none⟩)] 23 (0, 0)) := by
    have := heap_alloc_new ((W.alloc (.cells #[.bool false] 4)).alloc (.cells #[.pointer none, .int .i64 0, .int .i64 0, .pointer none] 61)) (.cells #[.pointer none, .pointer (some ⟨W.heap.size + 1, 0, none⟩)] 23)
    rw [World.size_alloc, World.size_alloc] at this
    rw [hW3]; exact this
  have h1 : W3.heap[W.heap.size + 1]? = some (.cells #[.pointer none, .int .i64 0, .int .i64 0, .pointer none] 61 (0, 0)) := by
    have := heap_alloc_new (W.alloc (.cells #[.bool false] 4)) (.cells #[.pointer none, .int .i64 0, .int .i64 0, .pointer none] 61)
    rw [World.size_alloc] at this
    rw [hW3]; exact (Below.heap_alloc _ _ _ (by simp)).trans this
  have c2 : W3.cell? ⟨W.heap.size + 1 + 1, 1, none⟩ = some (.pointer (some ⟨W.heap.size + 1, 0, none⟩)) := by simp [World.cell?, h2]
  have c20 : W3.cell? ⟨W.heap.size + 1 + 1, 0, none⟩ = some (.pointer none) := by simp [World.cell?, h2]
  have hn : NB W3 (.pointer none) := .inl rfl
  have hn2 : Hid (NB W3 (.pointer (some ⟨W.heap.size + 1, 0, none⟩))) := hid (.inr ⟨_, rfl, by simp [World.cell?, h1]⟩)
  have hB : Hid (Below W3.heap.size W3 W3) := hid (Below.refl _ _)
  have BX := hid bx
  have HBASEP : Hid (W3.heap.size ≤ W3.heap.size) := hid (Nat.le_refl _)
  have BB := hid bB
  have C2 := hid c2
  have HS : Hid (W3.heap.size = W.heap.size + 3) := hid (by rw [hW3]; simp)
  clear h1 h2 c2 bx bB
  refine (callsIn_wide (n := 3)).1 ?_
  refine callsIn_of_wp_marks Try.func6 rfl trivial ?_ rfl
  simp only [Try.ntmps6, List.size_toArray, List.length_cons, List.length_nil, Nat.reduceAdd, Nat.reduceSub, Array.replicate_succ, Array.replicate_zero, List.push_toArray, List.append_toArray, List.nil_append, List.cons_append]
  refine wpIn_wide.2 ?_
  go_wp2_with fail
  refine wp_loop_rounds 3 ?_
  rw [rounds_succ]
  go_wp2_with fail
  rw [← hW3]
  clear hW3 c20
  refine (get_no hn key).mono ?_
  rintro e wg ⟨rfl, hg⟩
  subst hg
  have hnp0 := hn
  have hBp0 := hB
  clear hn
  go_wp2_with fail
  refine (put_no hnp0 key 1).mono ?_
  rintro e px1 ⟨rfl, hb⟩
  have hnp1 := hnp0.below hb
  have hBp1 := hid (hBp0.out.trans (hb.mono hBp0.out.size))
  clear hb
  go_wp2_with fail
  refine (del_no hnp1 key).mono ?_
  rintro e px2 ⟨rfl, hb⟩
  have hnp2 := hnp1.below hb
  have hBp2 := hid (hBp1.out.trans (hb.mono hBp1.out.size))
  clear hb
  go_wp2_with fail
  refine (len_no hnp2).mono ?_
  rintro e px3 ⟨rfl, hb⟩
  subst hb
  have hnp3 := hnp2
  have hBp3 := hBp2
  go_wp2_with fail
  refine (depth_no hnp3).mono ?_
  rintro e px4 ⟨rfl, hb⟩
  subst hb
  have hnp4 := hnp3
  have hBp4 := hBp3
  go_wp2_with fail
  refine (range_no hnp4 ⟨#[]⟩ ⟨#[]⟩ 9).mono ?_
  rintro e px5 ⟨rfl, hb⟩
  have hnp5 := hnp4.below hb
  have hBp5 := hid (hBp4.out.trans (hb.mono hBp4.out.size))
  clear hb
  go_wp2_with fail
  refine (copy_no hnp5).mono ?_
  rintro e px6 ⟨rfl, hb⟩
  subst hb
  have hnp6 := hnp5
  have hBp6 := hBp5
  go_wp2_with fail
  refine (all_no hnp6).mono ?_
  rintro e py ⟨bp, rfl, hcb, hb⟩
  have hBy := hid (hBp6.out.trans (hb.mono hBp6.out.size))
  have HYP : Hid (W3.heap.size ≤ (py).heap.size) := hid (Nat.le_trans HBASEP.out hBy.out.size)
  have HSZP := hid hBy.out.size
  have hq := eqf2 37 bp py
  clear hb hnp0 hnp1 hnp2 hnp3 hnp4 hnp5 hnp6
  go_wp2_with fail
  refine range_none rfl rfl hcb ?_
  rintro Dp pX hDp hX hKp
  have hB := hid (hBy.out.trans (hX.mono hBy.out.size))
  clear hX hq hcb hBy
  have hn : NB pX (.pointer (some ⟨W.heap.size + 1, 0, none⟩)) := hn2.out.below hB.out
  have c2 : pX.cell? ⟨W.heap.size + 1 + 1, 1, none⟩ = some (.pointer (some ⟨W.heap.size + 1, 0, none⟩)) := (hB.out.cell (p := ⟨W.heap.size + 1 + 1, 1, none⟩) (by show W.heap.size + 1 + 1 < _; rw [HS.out]; omega)).trans C2.out
  have HB1 := hB
  clear hB
  have hB := hid (Below.refl pX.heap.size pX)
  have HBASEQ : Hid (W3.heap.size ≤ pX.heap.size) := hid HB1.out.size
  have HK1 : Hid (pX.heap[Dp]? = some (.deferred (some [])) ∧ Dp < pX.heap.size) := hid ⟨hKp, (Array.getElem?_eq_some_iff.1 hKp).1⟩
  have HD1 : Hid (py.heap.size ≤ Dp) := hid hDp
  clear hKp hDp
  go_wp2_with fail
  rw [rounds_succ]
  go_wp2_with fail
  clear c2
  refine (get_no hn key).mono ?_
  rintro e wg ⟨rfl, hg⟩
  subst hg
  have hnq0 := hn
  have hBq0 := hB
  clear hn
  go_wp2_with fail
  refine (put_no hnq0 key 1).mono ?_
  rintro e qx1 ⟨rfl, hb⟩
  have hnq1 := hnq0.below hb
  have hBq1 := hid (hBq0.out.trans (hb.mono hBq0.out.size))
  clear hb
  go_wp2_with fail
  refine (del_no hnq1 key).mono ?_
  rintro e qx2 ⟨rfl, hb⟩
  have hnq2 := hnq1.below hb
  have hBq2 := hid (hBq1.out.trans (hb.mono hBq1.out.size))
  clear hb
  go_wp2_with fail
  refine (len_no hnq2).mono ?_
  rintro e qx3 ⟨rfl, hb⟩
  subst hb
  have hnq3 := hnq2
  have hBq3 := hBq2
  go_wp2_with fail
  refine (depth_no hnq3).mono ?_
  rintro e qx4 ⟨rfl, hb⟩
  subst hb
  have hnq4 := hnq3
  have hBq4 := hBq3
  go_wp2_with fail
  refine (range_no hnq4 ⟨#[]⟩ ⟨#[]⟩ 9).mono ?_
  rintro e qx5 ⟨rfl, hb⟩
  have hnq5 := hnq4.below hb
  have hBq5 := hid (hBq4.out.trans (hb.mono hBq4.out.size))
  clear hb
  go_wp2_with fail
  refine (copy_no hnq5).mono ?_
  rintro e qx6 ⟨rfl, hb⟩
  subst hb
  have hnq6 := hnq5
  have hBq6 := hBq5
  go_wp2_with fail
  refine (all_no hnq6).mono ?_
  rintro e qy ⟨bq, rfl, hcb, hb⟩
  have hBy := hid (hBq6.out.trans (hb.mono hBq6.out.size))
  have HYQ : Hid (W3.heap.size ≤ (qy).heap.size) := hid (Nat.le_trans HBASEQ.out hBy.out.size)
  have HSZQ := hid hBy.out.size
  have hq := eqf2 37 bq qy
  clear hb hnq0 hnq1 hnq2 hnq3 hnq4 hnq5 hnq6
  go_wp2_with fail
  refine range_none rfl rfl hcb ?_
  rintro Dq qX hDq hX hKq
  have hB := hid (hBy.out.trans (hX.mono hBy.out.size))
  clear hX hq hcb hBy
  go_wp2_with fail
  rw [rounds_succ]
  go_wp2_with fail
  have hBq : Below W3.heap.size W3 qX := HB1.out.trans (hB.out.mono HB1.out.size)
  refine (awake_any qX).mono ?_
  rintro e w5 ⟨rfl, h5⟩
  have h5q : Below W3.heap.size W3 w5 := hBq.trans (h5.mono hBq.size)
  have k1 : w5.heap[Dp]? = some (.deferred (some [])) := (h5.block Dp (Nat.lt_of_lt_of_le HK1.out.2 hB.out.size)).trans ((hB.out.block Dp HK1.out.2).trans HK1.out.1)
  have k2 : w5.heap[Dq]? = some (.deferred (some [])) := (h5.block Dq (Array.getElem?_eq_some_iff.1 hKq).1).trans hKq
  have bx : Boxed w5 W.heap.size 4 (.bool false) := (h5q.block W.heap.size (by rw [HS.out]; omega)).trans BX.out
  have hc := bx.cell
  have hf := bx.frozen
  have K1 := hid k1
  have K2 := hid k2
  have H5 := hid h5q
  have BX5 := hid bx
  have hDqs : W.heap.size < Dq := by have := hDq; have := HS.out; have := HB1.out.size; have := hB.out.size; have := HYQ.out; omega
  have hDps : W.heap.size < Dp := by have := HD1.out; have := HS.out; have := HYP.out; omega
  have HDS := hid (And.intro hDqs hDps)
  clear k1 k2 h5q bx hBq h5 hKq hDqs hDps
  go_wp2_with fail
  have e1 : (w5.setCell ⟨W.heap.size, 0, none⟩ (.bool true)).heap[Dq]? = some (.deferred (some [])) := (Below.heap_setCell _ _ _ _ (by show Dq ≠ W.heap.size; have := HDS.out.1; omega)).trans K2.out
  obtain ⟨z1, hz1⟩ : ∃ z1, z1 = (w5.setCell ⟨W.heap.size, 0, none⟩ (.bool true)) := ⟨_, rfl⟩
  have e1p : z1.heap[Dp]? = some (.deferred (some [])) := by rw [hz1]; exact (Below.heap_setCell _ _ _ _ (by show Dp ≠ W.heap.size; have := HDS.out.2; omega)).trans K1.out
  have cz : z1.cell? ⟨W.heap.size, 0, none⟩ = some (.bool true) := by rw [hz1]; exact (BX5.out.set (.bool true)).cell
  have bz : Below W.heap.size W z1 := by rw [hz1]; exact (BB.out.trans (H5.out.mono BB.out.size)).setCell (Nat.le_refl _) _
  rw [← hz1] at e1 ⊢
  have s1 : W.heap.size < qy.heap.size := by have := HYQ.out; have := HS.out; omega
  have s2 : W.heap.size < py.heap.size := by have := HYP.out; have := HS.out; omega
  have s3 : Dp < qy.heap.size := Nat.lt_of_lt_of_le HK1.out.2 HSZQ.out
  have b1 : Below qy.heap.size z1 (z1.putObj Dq (.deferred none)) := belowK_b (w := qy) (Nat.le_refl _) z1 Dq _ _ hDq e1 rfl rfl
  have e2 : (z1.putObj Dq (.deferred none)).heap[Dp]? = some (.deferred (some [])) := (b1.block Dp s3).trans e1p
  have b2 : Below py.heap.size (z1.putObj Dq (.deferred none)) ((z1.putObj Dq (.deferred none)).putObj Dp (.deferred none)) := belowK_b (w := py) (Nat.le_refl _) _ Dp _ _ HD1.out e2 rfl rfl
  refine ⟨by simp, .inl ⟨_, _, rfl, run_takeDeferred e1, ?_⟩⟩
  refine ⟨by simp, .inl ⟨_, _, rfl, run_takeDeferred e2, ?_⟩⟩
  refine ⟨_, results_box rfl _ _ W.heap.size (.bool true) rfl ((b2.cell (p := ⟨W.heap.size, 0, none⟩) s2).trans ((b1.cell (p := ⟨W.heap.size, 0, none⟩) s1).trans cz)), rfl, ?_⟩
  exact bz.trans ((b1.mono (Nat.le_of_lt s1)).trans (b2.mono (Nat.le_of_lt s2)))

end Go.Proofs.Ytkjmilcocnjjoaa.I
