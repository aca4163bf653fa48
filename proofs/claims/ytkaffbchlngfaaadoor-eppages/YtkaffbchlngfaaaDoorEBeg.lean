/-
  Begin and Text of an event process that was made.
-/
import Derived.Test.YtkaffbchlngfaaaDoorENew
namespace Go.Proofs.YtkaffbchlngfaaaDoor
open Go.RowKit
set_option linter.unusedVariables false
set_option linter.unusedSimpArgs false

/-- Below B all stays but what lies at p. -/
structure Ke (B p : Nat) (w w' : World) : Prop where
  os : w'.os = w.os
  tape : w'.tape = w.tape
  output : w'.output = w.output
  size : w.heap.size ≤ w'.heap.size
  block : ∀ k, k < B → k ≠ p → w'.heap[k]? = w.heap[k]?
theorem Ke.of {B p : Nat} {w w' : World} (h : Below B w w') : Ke B p w w' := ⟨h.os, h.tape, h.output, h.size, fun k hk _ => h.block k hk⟩
theorem Ke.trans {B p : Nat} {a b c : World} (h : Ke B p a b) (k : Ke B p b c) : Ke B p a c :=
  ⟨k.os.trans h.os, k.tape.trans h.tape, k.output.trans h.output, Nat.le_trans h.size k.size, fun i hi h1 => (k.block i hi h1).trans (h.block i hi h1)⟩
theorem Ke.mono {B B' p : Nat} {w w' : World} (h : Ke B p w w') (hB : B' ≤ B) : Ke B' p w w' := ⟨h.os, h.tape, h.output, h.size, fun k hk => h.block k (by omega)⟩
theorem Ke.below {B B' p : Nat} {w w' : World} (h : Ke B p w w') (hB : B' ≤ B) (hp : B' ≤ p) : Below B' w w' := ⟨h.os, h.tape, h.output, h.size, fun k hk => h.block k (by omega) (by omega)⟩
theorem Ke.set {B p o : Nat} {w : World} (u : Value) : Ke B p w (w.setCell ⟨p, o, none⟩ u) := ⟨rfl, rfl, rfl, by simp [World.setCell], fun k _ h => Below.heap_setCell _ _ _ _ h⟩

def BegR (w : World) (p : Nat) (vc : Value) (q : Nat) (x : ByteArray) (n : Int) (e : Ending) (w' : World) : Prop :=
  e = .returned (.int .i64 0) ∧ ∃ g, EpAt w' p vc q (some g) ∧ ReqAt w' g x n 0 (.slice none 0 0) (.slice none 0 0) false ∧ w.heap.size ≤ g ∧ Ke w.heap.size p w w'
set_option maxRecDepth 100000 in
set_option maxHeartbeats 1000000 in
theorem begin_yes (w : World) (p : Nat) (vc : Value) (q : Nat) (h : EpAt w p vc q none) (x : ByteArray) (hx : x.size ≤ 65536) (n : Int) (h1 : 1 ≤ n) (h2 : n ≤ 1048576) :
    Calls Tryd.prog 18 #[.pointer (some ⟨p, 0, none⟩), .string x, .int .i64 n] w (BegR w p vc q x n) := by
  have hg := given_yes w p vc q none h
  have hf := isFuel_any n w
  rw [decide_eq_true ⟨h1, h2⟩] at hf
  have ht := freshText_any x w
  obtain ⟨_, _, _, c3, f3⟩ := h.cells
  rw [show ptrV none = .pointer none from rfl] at c3
  have HE := hid h
  have hpl := (Array.getElem?_eq_some_iff.1 h).1
  have h3 : ¬ ((65536 : Int) < (x.size : Int)) := by omega
  unfold BegR
  clear h
  go_enter Tryd.func18, Tryd.ntmps18
  go_wp2_with fail
  refine hg.mono ?_
  rintro e w1 ⟨rfl, hw1⟩
  subst w1
  clear hg
  go_wp2_with fail
  refine hf.mono ?_
  rintro e w1 ⟨rfl, hw1⟩
  subst w1
  clear hf
  go_wp2_with fail
  refine ht.mono ?_
  rintro e w1 ⟨rfl, b1⟩
  have hs1 := b1.size
  have hE1 := HE.out.below b1
  obtain ⟨O, hO⟩ : ∃ O, O = Obj.cells #[.string x, .int .i64 n, .int .i64 0, .slice none 0 0, .slice none 0 0, .bool false] 94 := ⟨_, rfl⟩
  have hEA : EpAt (w1.alloc O) p vc q none := hE1.below (below_alloc w1 _)
  obtain ⟨_, _, _, d3, g3⟩ := hEA.cells
  rw [show ptrV none = .pointer none from rfl] at d3
  have HEP : Hid (EpAt ((w1.alloc O).setCell ⟨p, 3, none⟩ (.pointer (some ⟨w1.heap.size, 0, none⟩))) p vc q (some w1.heap.size)) := by
    unfold Hid EpAt
    have h9 : (w1.alloc O).heap[p]? = _ := hEA
    simp only [World.setCell, Array.getElem?_modify, h9]
    simp [ptrV]
  have HRQ : Hid (ReqAt ((w1.alloc O).setCell ⟨p, 3, none⟩ (.pointer (some ⟨w1.heap.size, 0, none⟩))) w1.heap.size x n 0 (.slice none 0 0) (.slice none 0 0) false) := by
    unfold Hid ReqAt
    rw [far_set (by omega), hO]
    exact heap_alloc_new w1 _
  have HKE : Hid (Ke w.heap.size p w ((w1.alloc O).setCell ⟨p, 3, none⟩ (.pointer (some ⟨w1.heap.size, 0, none⟩)))) := (Ke.of (b1.alloc hs1 O)).trans (Ke.set _)
  have HS1 := hid hs1
  rw [hO] at d3 g3 HEP HRQ HKE
  clear ht b1 hE1 hEA hO hs1 c3 f3
  go_wp2
  go_ret
  exact ⟨rfl, _, HEP.out, HRQ.out, HS1.out, HKE.out⟩

set_option maxRecDepth 100000 in
set_option maxHeartbeats 1000000 in
theorem text_yes (w : World) (p : Nat) (vc : Value) (q : Nat) (r : Option Nat) (h : EpAt w p vc q r) (pg : List Nat) (ow : List Bool) (b : List Nat) (hm : MemP w q pg ow b) (a n : Nat) (ha : a + n ≤ 4096) :
    Calls Tryd.prog 14 #[.pointer (some ⟨p, 0, none⟩), .int .i64 (a : Int), .int .i64 (n : Int)] w fun e w' => e = .returned (.tuple #[.string (strOf ((b.drop a).take n)), .bool true]) ∧ Below w.heap.size w w' := by
  have hg := given_yes w p vc q r h
  have hp := isPart_yes a n ha w
  have ht := mtext_any w q pg ow b hm a n ha
  obtain ⟨_, _, c2, _, _⟩ := h.cells
  generalize strOf ((b.drop a).take n) = y at *
  clear h hm
  go_enter Tryd.func14, Tryd.ntmps14
  go_wp2_with fail
  refine hg.mono ?_
  rintro e w1 ⟨rfl, hw1⟩
  subst w1
  clear hg
  go_wp2_with fail
  refine hp.mono ?_
  rintro e w1 ⟨rfl, hw1⟩
  subst w1
  clear hp
  go_wp2_with fail
  refine ht.mono ?_
  rintro e w1 ⟨rfl, b1⟩
  have HB := hid b1
  clear ht b1
  go_wp2
  go_ret2
  exact ⟨rfl, HB.out⟩
end Go.Proofs.YtkaffbchlngfaaaDoor
