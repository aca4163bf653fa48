/-
  The law's does: a call on both sides.
-/
import Derived.Test.YtahibklmcooanaaOBoth
namespace Go.Proofs.Ytahibklmcooanaa
open Go.RowKit
set_option linter.unusedVariables false
set_option linter.unusedSimpArgs false

/-- What does leaves. -/
def DoesR (G : Nat → Prop) (w w' : World) (p bx : Nat) (room : Int) (ql : List (Nat × Nat)) (v : Nat → Rg) (vL' : Value) : Prop :=
  ∃ v' m', PoAt w' p bx room ql v' m' ∧ LSees (fun k => mine ql v' k ∨ G k) w' vL' ql.length m' ∧ Gr (mine ql v) w w' ∧ ∀ k, mine ql v' k → mine ql v k ∨ w.heap.size ≤ k
/-- A call on the code's mailboxes keeps the document's lists. -/
theorem LSees.turn {w w' : World} {p bx : Nat} {room : Int} {ql : List (Nat × Nat)} {v v' : Nat → Rg} {vL : Value} {n : Nat} {d : Nat → List Msg} {G : Nat → Prop} (h : LSees (fun k => mine ql v k ∨ G k) w vL n d) (hG : Gr (mine ql v) w w') (hM : ∀ k, mine ql v' k → mine ql v k ∨ w.heap.size ≤ k) : LSees (fun k => mine ql v' k ∨ G k) w' vL n d :=
  h.keep fun k hk hf => ⟨hG.block k hk (fun h => hf (Or.inl h)), fun hm => by
    rcases hm with hm | hm
    · rcases hM k hm with h | h
      · exact hf (Or.inl h)
      · omega
    · exact hf (Or.inr hm)⟩
structure DAt (w X : World) (room : Int) (vL : Value) (o : OpL) : Prop where
  b0 : X.heap[w.heap.size]? = some (.cells #[.int .i64 room, vL] 29 (0, 0))
  b1 : X.heap[w.heap.size + 1]? = some (.cells #[.int .i64 o.kind, .int .i64 o.to, .int .i64 o.who, o.vs, o.vi, o.vo, .string o.text, .bool o.op] 41 (0, 0))
  b2 : X.heap[w.heap.size + 1 + 1]? = some (.cells #[.int .i64 0, .slice none 0 0] 29 (0, 0))
theorem DAt.new (w : World) (room : Int) (vL : Value) (o : OpL) : DAt w (((w.alloc (.cells #[.int .i64 room, vL] 29)).alloc (.cells #[.int .i64 o.kind, .int .i64 o.to, .int .i64 o.who, o.vs, o.vi, o.vo, .string o.text, .bool o.op] 41)).alloc (.cells #[.int .i64 0, .slice none 0 0] 29)) room vL o := by
  refine ⟨?_, ?_, ?_⟩
  · rw [Below.heap_alloc _ _ _ (by simp; omega), Below.heap_alloc _ _ _ (by simp)]; exact heap_alloc_new w _
  · have := heap_alloc_new (w.alloc (.cells #[.int .i64 room, vL] 29)) (.cells #[.int .i64 o.kind, .int .i64 o.to, .int .i64 o.who, o.vs, o.vi, o.vo, .string o.text, .bool o.op] 41)
    rw [Below.heap_alloc _ _ _ (by simp)]
    simpa using this
  · have := heap_alloc_new ((w.alloc (.cells #[.int .i64 room, vL] 29)).alloc (.cells #[.int .i64 o.kind, .int .i64 o.to, .int .i64 o.who, o.vs, o.vi, o.vo, .string o.text, .bool o.op] 41)) (.cells #[.int .i64 0, .slice none 0 0] 29)
    simpa using this

set_option maxRecDepth 20000 in
set_option maxHeartbeats 4000000 in
theorem does_else (G : Nat → Prop) (p bx : Nat) (room : Int) (ql : List (Nat × Nat)) (v : Nat → Rg) (m : Nat → List Msg) (vL : Value) (o : OpL) (w : World) (hP : PoAt w p bx room ql v m) (hL : LSees (fun k => mine ql v k ∨ G k) w vL ql.length m) (h1 : o.kind ≠ 1) (h2 : o.kind ≠ 2) :
    Calls Try.prog 11 #[.pointer (some ⟨p, 0, none⟩), poV room vL, .agg o.row.toArray] w fun e w' => ∃ vL', e = .returned (.tuple #[poV room vL', .bool true]) ∧ DoesR G w w' p bx room ql v vL' := by
  obtain ⟨kind, to, who, vs, vi, vo, text, op, s, i, own⟩ := o
  show Calls Try.prog 11 #[.pointer (some ⟨p, 0, none⟩), poV room vL, .agg #[.int .i64 kind, .int .i64 to, .int .i64 who, vs, vi, vo, .string text, .bool op]] w fun e w' => ∃ vL', e = .returned (.tuple #[poV room vL', .bool true]) ∧ DoesR G w w' p bx room ql v vL'
  simp only at h1 h2
  obtain ⟨b, off, cap, hv, _⟩ := id hL
  subst hv
  have hk1 : (kind == 1) = false := by simpa using h1
  have hk2 : (kind == 2) = false := by simpa using h2
  have hb := ((below_alloc w (.cells #[.int .i64 room, .slice (some ⟨b, off, none⟩) ql.length cap] 29)).alloc (by simp) (.cells #[.int .i64 kind, .int .i64 to, .int .i64 who, vs, vi, vo, .string text, .bool op] 41)).alloc (by simp; omega) (.cells #[.int .i64 room, .slice (some ⟨b, off, none⟩) ql.length cap] 29)
  have HF := hid (show DoesR G w _ p bx room ql v _ from ⟨v, m, hP.below hb, hL.below hb, Gr.of_below hb _, fun k hk => Or.inl hk⟩)
  clear hP hL hb h1 h2
  unfold poV
  go_enter Try.func11, Try.ntmps11
  go_wp2
  refine bodyPost_ret (v := .tuple #[.agg #[.int .i64 room, .slice (some ⟨b, off, none⟩) ql.length cap], .bool true]) (by simp [results, Try.results11, go_sem]) rfl ?_
  exact ⟨_, rfl, HF.out⟩
end Go.Proofs.Ytahibklmcooanaa
