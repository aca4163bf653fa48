/-
  Args of an event process that is trapped.
-/
import Derived.Test.YtkaffbchlngfaaaDoorEBeg
import Derived.Test.YtkaffbchlngfaaaDoorVTakeB
namespace Go.Proofs.YtkaffbchlngfaaaDoor
open Go.RowKit
set_option linter.unusedVariables false
set_option linter.unusedSimpArgs false

/-- What Args leaves: the numbers, and the request without them. -/
def ArgR (w : World) (p : Nat) (vc : Value) (q g : Nat) (x : ByteArray) (n : Int) (s : StL) (k : Nat) (e : Ending) (w' : World) : Prop :=
  ∃ us uk ul, e = .returned (.tuple #[ul, .int .i64 0]) ∧ EpAt w' p vc q (some g) ∧ ReqAt w' g x n s.pc us uk true ∧ OwnS w' w.heap.size us uk (s.st.take k) s.ca ∧ Owns w' w.heap.size ul (s.st.drop k) ∧ Ke w.heap.size g w w'
set_option maxRecDepth 100000 in
set_option maxHeartbeats 2000000 in
theorem args_yes (w : World) (p : Nat) (vc : Value) (q g : Nat) (h : EpAt w p vc q (some g)) (x : ByteArray) (n : Int) (s : StL) (vs vk : Value) (hr : ReqAt w g x n s.pc vs vk true) (hS : SeesS w (.agg #[.int .i64 s.pc, vs, vk]) s vs vk) (hpg : p ≠ g)
    (k m : Nat) (hkm : k + m = s.st.length) (hc0 : s.st.length * 8 ≤ 140737488355328) (hc : s.ca.length * 8 ≤ 140737488355328) :
    Calls Tryd.prog 21 #[.pointer (some ⟨p, 0, none⟩), .int .i64 (m : Int)] w (ArgR w p vc q g x n s k) := by
  have ha := asked_yes w p vc q g h x n s.pc vs vk hr
  have ht := take_any _ s vs vk k m w hS hkm hc0 hc
  obtain ⟨_, _, _, c3, _⟩ := h.cells
  rw [show ptrV (some g) = .pointer (some ⟨g, 0, none⟩) from rfl] at c3
  obtain ⟨_, _, d2, d3, d4, _⟩ := hr.cells
  have HE := hid h
  have HR := hid hr
  unfold ArgR
  clear h hr hS
  go_enter Tryd.func21, Tryd.ntmps21
  go_wp2_with fail
  refine ha.mono ?_
  rintro e w1 ⟨rfl, hw1⟩
  subst w1
  clear ha
  go_wp2_with fail
  refine ht.mono ?_
  rintro e w1 ⟨us, uk, ul, rfl, o1, o2, b1⟩
  obtain ⟨au, cu, hus⟩ := ownsRow_shape o1.1
  obtain ⟨ak, ck, huk⟩ := ownsRow_shape o1.2.1
  obtain ⟨al, cl, hul⟩ := ownsRow_shape o2
  obtain ⟨LU, hLU⟩ : ∃ L, L = (s.st.take k).length := ⟨_, rfl⟩
  obtain ⟨LL, hLL⟩ : ∃ L, L = (s.st.drop k).length := ⟨_, rfl⟩
  rw [← hLU] at hus
  rw [← hLL] at hul
  subst hus
  subst huk
  subst hul
  obtain ⟨X, hX⟩ : ∃ X, X = w1.alloc (.cells #[.int .i64 s.pc, .slice au LU cu, .slice ak s.ca.length ck] 34) := ⟨_, rfl⟩
  have bX : Below w1.heap.size w1 X := by rw [hX]; exact below_alloc w1 _
  have zX : X.heap[w1.heap.size]? = some (.cells #[.int .i64 s.pc, .slice au LU cu, .slice ak s.ca.length ck] 34 (0, 0)) := by rw [hX]; exact heap_alloc_new w1 _
  have hs1 := b1.size
  have bW : Below w.heap.size w X := b1.trans (bX.mono hs1)
  have hgl := (Array.getElem?_eq_some_iff.1 HR.out).1
  have eX := HE.out.below bW
  have rX := HR.out.below bW
  obtain ⟨_, _, _, y3, _⟩ := eX.cells
  rw [show ptrV (some g) = .pointer (some ⟨g, 0, none⟩) from rfl] at y3
  obtain ⟨_, _, r2, r3, r4, _, _, f2, f3, f4, _⟩ := rX.cells
  obtain ⟨q0, q1, q2, _, _, _⟩ := cel3 zX
  have hne : g ≠ w1.heap.size := by omega
  obtain ⟨b, hb⟩ : ∃ b, b = w1.heap.size := ⟨_, rfl⟩
  rw [← hb] at q0 q1 q2 zX hne
  have hd : X.drew.cell? ⟨p, 3, none⟩ = some (.pointer (some ⟨g, 0, none⟩)) ∧ X.drew.cell? ⟨b, 0, none⟩ = some (.int .i64 s.pc) ∧ X.drew.cell? ⟨b, 1, none⟩ = some (.slice au LU cu) ∧ X.drew.cell? ⟨b, 2, none⟩ = some (.slice ak s.ca.length ck) := ⟨y3, q0, q1, q2⟩
  have HK : Hid (∀ u v z : Value, (((X.setCell ⟨g, 2, none⟩ u).setCell ⟨g, 3, none⟩ v).setCell ⟨g, 4, none⟩ z).drew.cell? ⟨p, 3, none⟩ = some (.pointer (some ⟨g, 0, none⟩)) ∧ (((X.setCell ⟨g, 2, none⟩ u).setCell ⟨g, 3, none⟩ v).setCell ⟨g, 4, none⟩ z).drew.cell? ⟨b, 0, none⟩ = some (.int .i64 s.pc) ∧ (((X.setCell ⟨g, 2, none⟩ u).setCell ⟨g, 3, none⟩ v).setCell ⟨g, 4, none⟩ z).drew.cell? ⟨b, 1, none⟩ = some (.slice au LU cu) ∧ (((X.setCell ⟨g, 2, none⟩ u).setCell ⟨g, 3, none⟩ v).setCell ⟨g, 4, none⟩ z).drew.cell? ⟨b, 2, none⟩ = some (.slice ak s.ca.length ck)) := fun u v z => by
    have e1 : (((X.setCell ⟨g, 2, none⟩ u).setCell ⟨g, 3, none⟩ v).setCell ⟨g, 4, none⟩ z).drew.heap[p]? = X.heap[p]? := by show (((X.setCell ⟨g, 2, none⟩ u).setCell ⟨g, 3, none⟩ v).setCell ⟨g, 4, none⟩ z).heap[p]? = _; rw [far_set hpg, far_set hpg, far_set hpg]
    have e2 : (((X.setCell ⟨g, 2, none⟩ u).setCell ⟨g, 3, none⟩ v).setCell ⟨g, 4, none⟩ z).drew.heap[b]? = X.heap[b]? := by show (((X.setCell ⟨g, 2, none⟩ u).setCell ⟨g, 3, none⟩ v).setCell ⟨g, 4, none⟩ z).heap[b]? = _; rw [far_set hne.symm, far_set hne.symm, far_set hne.symm]
    exact ⟨(World.cell?_of_block (a := ⟨p, 3, none⟩) e1).trans y3, (World.cell?_of_block (a := ⟨b, 0, none⟩) e2).trans q0, (World.cell?_of_block (a := ⟨b, 1, none⟩) e2).trans q1, (World.cell?_of_block (a := ⟨b, 2, none⟩) e2).trans q2⟩
  have HF : Hid (∀ j, j ≠ g → (((X.setCell ⟨g, 2, none⟩ (.int .i64 s.pc)).setCell ⟨g, 3, none⟩ (.slice au LU cu)).setCell ⟨g, 4, none⟩ (.slice ak s.ca.length ck)).drew.heap[j]? = X.heap[j]?) := fun j hj => by show (((X.setCell ⟨g, 2, none⟩ (.int .i64 s.pc)).setCell ⟨g, 3, none⟩ (.slice au LU cu)).setCell ⟨g, 4, none⟩ (.slice ak s.ca.length ck)).heap[j]? = _; rw [far_set hj, far_set hj, far_set hj]
  have HRq : Hid (ReqAt (((X.setCell ⟨g, 2, none⟩ (.int .i64 s.pc)).setCell ⟨g, 3, none⟩ (.slice au LU cu)).setCell ⟨g, 4, none⟩ (.slice ak s.ca.length ck)).drew g x n s.pc (.slice au LU cu) (.slice ak s.ca.length ck) true) := by
    unfold Hid ReqAt
    have h9 : X.heap[g]? = _ := rX
    show (((X.setCell ⟨g, 2, none⟩ (.int .i64 s.pc)).setCell ⟨g, 3, none⟩ (.slice au LU cu)).setCell ⟨g, 4, none⟩ (.slice ak s.ca.length ck)).heap[g]? = _
    simp only [World.setCell, Array.getElem?_modify, h9]
    simp
  have HKe : Hid (Ke w.heap.size g w (((X.setCell ⟨g, 2, none⟩ (.int .i64 s.pc)).setCell ⟨g, 3, none⟩ (.slice au LU cu)).setCell ⟨g, 4, none⟩ (.slice ak s.ca.length ck)).drew) := ((((Ke.of bW).trans (Ke.set _)).trans (Ke.set _)).trans (Ke.set _)).trans (Ke.of (Below.drew (Below.refl _ _)))
  have HEX := hid eX
  have HO1 := hid (o1.below bX)
  have HO2 := hid (o2.below bX)
  have HGL := hid hgl
  have HLU := hid hLU
  have HLL := hid hLL
  have HX := hid hX
  clear ht o1 o2 b1 bX bW eX rX zX hgl c3 d2 d3 d4 hLU hLL
  iterate 30 (first | go_values | go_skip | go_guarded | go_step | go_upon | go_back | go_simp)
  rw [← HX.out, ← hb]
  clear HX hX
  have HBB := hid hb
  clear hb
  go_wp2_with fail
  go_region_held3 (fun Y => Y.cell? ⟨p, 3, none⟩ = some (.pointer (some ⟨g, 0, none⟩)) ∧ Y.cell? ⟨b, 0, none⟩ = some (.int .i64 s.pc) ∧ Y.cell? ⟨b, 1, none⟩ = some (.slice au LU cu) ∧ Y.cell? ⟨b, 2, none⟩ = some (.slice ak s.ca.length ck))
    (first | (with_reducible exact hd) | (with_reducible exact HK.out _ _ _))
    (fail)
  all_goals
    go_wp2
    go_ret2
    have hgl := HGL.out
    have hf := HF.out
    have ho := HO1.out
    have h1 := ho.1.lt
    have h2 := ho.2.1.lt
    have h3 := HO2.out.lt
    refine ⟨_, _, _, rfl, (hf p hpg).trans HEX.out, HRq.out, ⟨ownsRow_same ho.1 (fun j hj => hf j (by have := (h1 j hj).1; omega)), ownsRow_same ho.2.1 (fun j hj => hf j (by have := (h2 j hj).1; omega)), ho.2.2⟩, ownsRow_same HO2.out (fun j hj => hf j (by have := (h3 j hj).1; omega)), HKe.out⟩
end Go.Proofs.YtkaffbchlngfaaaDoor
