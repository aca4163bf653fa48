/-
  'c, d := lent(a), lent(b)': two labels of the call's own are laid, in whatever order: what stands then.
-/
import Derived.Test.YtjgohajlabdloaaOrderMath
import Derived.Laws.OwnMore
namespace Go.Proofs.Ytjgohajlabdloaa
open Go.RowKit
set_option linter.unusedVariables false

theorem owns_lab_ne {w : World} {base p : Nat} {u v x : Value} {xs : List Int} (hO : Owns w base v xs) (hL : LabAt w p u x) : v.ownBlock ≠ some p := by
  intro e
  rcases hO.2 with ⟨hlv, _⟩ | ⟨g, cap, cur, hlv, _, hg, _⟩
  · rw [hlv] at e
    simp [Value.ownBlock] at e
  · rw [hlv] at e
    simp [Value.ownBlock] at e
    subst e
    unfold LabAt at hL
    rw [hg] at hL
    simp at hL

theorem owns_far {w : World} {base p j : Nat} {v u : Value} {xs : List Int} (h : Owns w base v xs) (hne : v.ownBlock ≠ some p) : Owns (w.setCell ⟨p, j, none⟩ u) base v xs :=
  World.ownsRow.kept h ⟨rfl, rfl, rfl, by simp, fun k _ hk => Below.heap_setCell w ⟨p, j, none⟩ u k (fun e => hk (by simp [e]))⟩ (Or.inr hne)

/-- Two labels of the call's own lie at p and q, made behind W. -/
structure TwoLabs (W wx : World) (p q : Nat) (v1 y1 v2 y2 : Value) (s i t j : List Int) : Prop where
  bel : Below W.heap.size W wx
  lab1 : LabAt wx p v1 y1
  lab2 : LabAt wx q v2 y2
  low1 : W.heap.size ≤ p
  low2 : W.heap.size ≤ q
  os : Owns wx W.heap.size v1 s
  oi : Owns wx W.heap.size y1 i
  ot : Owns wx W.heap.size v2 t
  oj : Owns wx W.heap.size y2 j

theorem two_labs {W w : World} {p q : Nat} {a b c d v1 y1 v2 y2 : Value} {s i t j : List Int} (hB : Below W.heap.size W w) (h1 : LabAt w p a b) (h2 : LabAt w q c d) (hne : p ≠ q) (l1 : W.heap.size ≤ p) (l2 : W.heap.size ≤ q)
    (os : Owns w W.heap.size v1 s) (oi : Owns w W.heap.size y1 i) (ot : Owns w W.heap.size v2 t) (oj : Owns w W.heap.size y2 j) :
    TwoLabs W ((((w.setCell ⟨p, 0, none⟩ v1).setCell ⟨p, 1, none⟩ y1).setCell ⟨q, 0, none⟩ v2).setCell ⟨q, 1, none⟩ y2) p q v1 y1 v2 y2 s i t j := by
  have far : ∀ {v : Value} {xs : List Int}, Owns w W.heap.size v xs → Owns ((((w.setCell ⟨p, 0, none⟩ v1).setCell ⟨p, 1, none⟩ y1).setCell ⟨q, 0, none⟩ v2).setCell ⟨q, 1, none⟩ y2) W.heap.size v xs := fun h =>
    owns_far (owns_far (owns_far (owns_far h (owns_lab_ne h h1)) (owns_lab_ne h h1)) (owns_lab_ne h h2)) (owns_lab_ne h h2)
  refine ⟨(((hB.setCell l1 _).setCell l1 _).setCell l2 _).setCell l2 _, ((h1.store0.store1).far hne).far hne, ?_, l1, l2, far os, far oi, far ot, far oj⟩
  exact (((h2.far (Ne.symm hne)).far (Ne.symm hne)).store0).store1

theorem TwoLabs.below {W wx w' : World} {p q : Nat} {v1 y1 v2 y2 : Value} {s i t j : List Int} (h : TwoLabs W wx p q v1 y1 v2 y2 s i t j) (hb : Below wx.heap.size wx w') : TwoLabs W w' p q v1 y1 v2 y2 s i t j :=
  ⟨h.bel.trans (hb.mono h.bel.size), h.lab1.below hb h.lab1.lt, h.lab2.below hb h.lab2.lt, h.low1, h.low2, h.os.below hb, h.oi.below hb, h.ot.below hb, h.oj.below hb⟩

/-- A row that is not empty lies in a block of its own. -/
theorem owns_block {w : World} {base : Nat} {v : Value} {xs : List Int} (h : Owns w base v xs) (h0 : 0 < xs.length) :
    ∃ g c, v = .slice (some ⟨g, 0, none⟩) xs.length c ∧ base ≤ g ∧ g < w.heap.size ∧ (∀ j, w.frozen? ⟨g, j, none⟩ = false) ∧ ∀ j, j < xs.length → w.cell? ⟨g, j, none⟩ = some (.int .i64 (xs.getD j 0)) := by
  rcases h.2 with ⟨_, hn⟩ | ⟨g, cap, cur, rfl, hbase, hg, rest⟩
  · omega
  · refine ⟨g, cap, rfl, hbase, (Array.getElem?_eq_some_iff.1 hg).1, fun j => World.ownsRow.frozenAt h j, fun j hj => ?_⟩
    rw [World.ownsRow.cellAt h j (by omega)]
    simp [List.getD, hj]

theorem owns_put {w : World} {base k : Nat} {g n cap : Nat} {ys : List Int} (y : Int) (h : Owns w base (.slice (some ⟨g, 0, none⟩) n cap) ys) (hn : ys.length = n) :
    Owns (w.setCell ⟨g, k, none⟩ (.int .i64 y)) base (.slice (some ⟨g, 0, none⟩) n cap) (ys.set k y) := by
  subst hn
  have hs := World.ownsRow.stored h k (.int .i64 y)
  unfold Owns
  rw [List.length_set, List.map_set]
  exact hs.1

theorem far2 {w : World} {p k o : Nat} {x y u : Value} (h : w.cell? ⟨k, o, none⟩ = some u) (hne : p ≠ k) : ((w.setCell ⟨p, 0, none⟩ x).setCell ⟨p, 1, none⟩ y).cell? ⟨k, o, none⟩ = some u := by
  rw [World.cell?_setCell_far _ _ _ _ (by exact hne), World.cell?_setCell_far _ _ _ _ (by exact hne)]
  exact h

end Go.Proofs.Ytjgohajlabdloaa
