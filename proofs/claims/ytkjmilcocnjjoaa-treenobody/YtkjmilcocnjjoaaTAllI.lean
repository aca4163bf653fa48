/-
  All of a tree that nobody made.
-/
import Derived.Test.YtkjmilcocnjjoaaTNobI
import Derived.LoopNIn
namespace Go.Proofs.Ytkjmilcocnjjoaa.I
open Go.RowKit Go.Shelf Tm
set_option linter.unusedVariables false
attribute [local go_sem] Oper.semAt_some

set_option maxRecDepth 100000 in
theorem eqf1 (l : Nat) (W : World) : (binOp .eql 41 (.func (.yield l) #[] #[]) Value.nilFunc).run Try.prog W = .ok (.bool false) W := rfl
set_option maxRecDepth 100000 in
theorem eqf2 (f b : Nat) (W : World) : (binOp .eql 44 (.func (.func f) #[] #[.pointer (some ⟨b, 0, none⟩)]) Value.nilFunc).run Try.prog W = .ok (.bool false) W := rfl

theorem all_no {w : World} {vt : Value} (h : NB w vt) : Calls Try.prog 19 #[vt] w fun e w' => ∃ b, e = .returned (.func (.func 37) #[] #[.pointer (some ⟨b, 0, none⟩)]) ∧ w'.cell? ⟨b, 0, none⟩ = some (.slice none 0 0) ∧ Below w.heap.size w w' := by
  have hl := len_no h
  have hr := range_no h ⟨#[]⟩ ⟨#[]⟩ 0
  clear h
  go_enter Try.func19, Try.ntmps19
  go_wp2_with fail
  refine hl.mono ?_
  rintro e w' ⟨rfl, hw⟩
  subst hw
  go_wp2_with fail
  refine hr.mono ?_
  rintro e w1 ⟨rfl, hb⟩
  clear hl hr
  go_wp2_with fail
  go_ret
  refine ⟨_, rfl, ?_, hb.trans ((Below.refl _ w1).alloc hb.size _)⟩
  exact (Boxed.new w1 28 (.slice none 0 0)).cell

set_option maxHeartbeats 2000000 in
set_option maxRecDepth 100000 in
theorem all1_no (n b : Nat) (w : World) (hc : w.cell? ⟨b, 0, none⟩ = some (.slice none 0 0)) (Kp : World → World → Prop) :
    SeqStopsK Fence.wide n Try.prog 37 #[.pointer (some ⟨b, 0, none⟩)] (fun x : It => #[.string x.1, .int .i64 x.2]) Kp (fun ys => ys = []) (fun _ => False) 0 w := fun l J Jx W hW hJ hJx hY h0 => by
  have c0 := (hW.cell (p := ⟨b, 0, none⟩) (World.block_lt_of_cell? w _ hc)).trans hc
  refine callsIn_of_wp Try.func37 rfl trivial ?_ rfl
  simp only [Try.ntmps37, List.size_toArray, List.length_cons, List.length_nil, Nat.reduceAdd, Nat.reduceSub, Array.replicate_succ, Array.replicate_zero, List.push_toArray, List.append_toArray, List.nil_append, List.cons_append]
  have H0 := hid h0
  clear hY hJ hJx hW
  have hq := eqf1 l W
  gi_wp2
  refine wpIn_loop_rounds 1 ?_
  rw [roundsIn_succ]
  gi_wp2
  try go_end0
  first | exact ⟨⟨_, rfl⟩, .inl ⟨[], rfl, H0.out⟩⟩ | (trace_state; fail)

end Go.Proofs.Ytkjmilcocnjjoaa.I
