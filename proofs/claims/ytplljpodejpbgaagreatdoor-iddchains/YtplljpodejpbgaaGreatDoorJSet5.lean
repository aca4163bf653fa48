/-
  An account is laid into its place.
-/
import Derived.Test.YtplljpodejpbgaaGreatDoorJGrant
namespace Go.Proofs.YtplljpodejpbgaaGreatDoor
open Go.RowKit
set_option linter.unusedVariables false
set_option linter.unusedSimpArgs false
set_option maxRecDepth 100000

def set5 (X : World) (a j : Nat) (v0 v1 v2 v3 v4 : Value) : World := ((((X.setCell ⟨a, j, none⟩ v0).setCell ⟨a, j + 1, none⟩ v1).setCell ⟨a, j + 2, none⟩ v2).setCell ⟨a, j + 3, none⟩ v3).setCell ⟨a, j + 4, none⟩ v4
theorem set5_far (X : World) (a j b i : Nat) (v0 v1 v2 v3 v4 : Value) (h : a ≠ b) : (set5 X a j v0 v1 v2 v3 v4).cell? ⟨b, i, none⟩ = X.cell? ⟨b, i, none⟩ := by
  unfold set5
  rw [World.cell?_setCell_far _ _ _ _ (by simpa using h), World.cell?_setCell_far _ _ _ _ (by simpa using h), World.cell?_setCell_far _ _ _ _ (by simpa using h), World.cell?_setCell_far _ _ _ _ (by simpa using h), World.cell?_setCell_far _ _ _ _ (by simpa using h)]
theorem set5_row (w : World) (a j : Nat) (v0 v1 v2 v3 v4 : Value) (cs : List Value) (t : TypeId) (h : w.heap[a]? = some (.cells cs.toArray t (0, 0))) :
    (set5 w a j v0 v1 v2 v3 v4).heap[a]? = some (.cells (((((cs.set j v0).set (j + 1) v1).set (j + 2) v2).set (j + 3) v3).set (j + 4) v4).toArray t (0, 0)) := by
  unfold set5
  simp only [World.setCell, Array.getElem?_modify, h]
  simp
theorem setCell_env (w : World) (p : Addr) (v : Value) : (w.setCell p v).os = w.os ∧ (w.setCell p v).tape = w.tape ∧ (w.setCell p v).output = w.output := ⟨rfl, rfl, rfl⟩
theorem set5_env (X : World) (a j : Nat) (v0 v1 v2 v3 v4 : Value) : (set5 X a j v0 v1 v2 v3 v4).os = X.os ∧ (set5 X a j v0 v1 v2 v3 v4).tape = X.tape ∧ (set5 X a j v0 v1 v2 v3 v4).output = X.output ∧ (set5 X a j v0 v1 v2 v3 v4).heap.size = X.heap.size := by
  unfold set5
  refine ⟨?_, ?_, ?_, by simp⟩
  · rw [(setCell_env _ _ _).1, (setCell_env _ _ _).1, (setCell_env _ _ _).1, (setCell_env _ _ _).1, (setCell_env _ _ _).1]
  · rw [(setCell_env _ _ _).2.1, (setCell_env _ _ _).2.1, (setCell_env _ _ _).2.1, (setCell_env _ _ _).2.1, (setCell_env _ _ _).2.1]
  · rw [(setCell_env _ _ _).2.2, (setCell_env _ _ _).2.2, (setCell_env _ _ _).2.2, (setCell_env _ _ _).2.2, (setCell_env _ _ _).2.2]
theorem undrewN {X w' : World} (h : Below X.drew.heap.size X.drew w') : Below X.heap.size X w' := ⟨h.os, h.tape, h.output, h.size, h.block⟩
theorem set_acc {w : World} {d ub mb : Nat} {us : List (Acc × Value)} {vd : Value} {dr : List Int} {n : Nat} {ss : List Ses} {vg : Value} {gs : List Gra} (h : IdAt w d ub mb us vd dr n ss vg gs) {j : Nat} (hj : j < us.length) (q : Acc × Value) (hm : q.1.made = 0) (ho : Owns w 0 q.2 q.1.own) (hr : q.1.own.Pairwise (· < ·)) :
    IdAt (set5 w ub (j * 5) (.string q.1.name) (.string q.1.salt) (.string q.1.digest) (.int .i64 0) q.2) d ub mb (us.set j q) vd dr n ss vg gs ∧ Gr (fun k => k = ub) w (set5 w ub (j * 5) (.string q.1.name) (.string q.1.salt) (.string q.1.digest) (.int .i64 0) q.2) := by
  obtain ⟨n1, n2, n3, n4, n5⟩ := h.apart
  obtain ⟨Z, hZ⟩ : ∃ Z, Z = set5 w ub (j * 5) (.string q.1.name) (.string q.1.salt) (.string q.1.digest) (.int .i64 0) q.2 := ⟨_, rfl⟩
  have hz : Z.heap.size = w.heap.size := by rw [hZ]; exact (set5_env _ _ _ _ _ _ _ _).2.2.2
  have hrow : Z.heap[ub]? = some (.cells (aC (us.set j q)).toArray 86 (0, 0)) := by
    have e := aC_all us j q hj
    rw [hm] at e
    rw [hZ, set5_row _ _ _ _ _ _ _ _ _ _ h.row]
    have e2 : aC (us.set j q) = _ := e.symm
    rw [e2]
    rfl
  have hoth : ∀ k, k ≠ ub → Z.heap[k]? = w.heap[k]? := fun k hk => by
    rw [hZ]
    unfold set5
    rw [heap_setCell_other _ _ _ _ (by simpa using hk), heap_setCell_other _ _ _ _ (by simpa using hk), heap_setCell_other _ _ _ _ (by simpa using hk), heap_setCell_other _ _ _ _ (by simpa using hk), heap_setCell_other _ _ _ _ (by simpa using hk)]
  have ho3 : ∀ {v : Value} {xs : List Int}, Owns w 0 v xs → Owns Z 0 v xs := fun hv => ownsRow_same hv fun k hk => by
    obtain ⟨cur, hc⟩ := ownsRow_ty hv hk
    exact hoth k (fun e => n5 k cur hc (Or.inr (Or.inl e)))
  rw [← hZ]
  refine ⟨⟨?_, ?_, ?_, ?_, ho3 h.dra, ?_, h.low, h.ord, ?_, ?_, ?_⟩, by rw [hZ]; exact (set5_env _ _ _ _ _ _ _ _).1, by rw [hZ]; exact (set5_env _ _ _ _ _ _ _ _).2.1, by rw [hZ]; exact (set5_env _ _ _ _ _ _ _ _).2.2.1, by omega, fun k _ hk => hoth k hk⟩
  · rw [hoth d n1, List.length_set]; exact h.lies
  · exact hrow
  · intro p hp
    rcases List.mem_or_eq_of_mem_set hp with hp | hp
    · exact ho3 (h.own p hp)
    · subst hp
      exact ho3 ho
  · intro p hp
    rcases List.mem_or_eq_of_mem_set hp with hp | hp
    · exact h.rises p hp
    · subst hp
      exact hr
  · obtain ⟨k, D, hm, r⟩ := h.map
    exact ⟨k, D, map_same hm (hoth mb n3.symm), r⟩
  · exact ownsRow_same h.gra fun k hk => hoth k (n4 k hk).2.1
  · rw [List.length_set]; exact h.n1
  · rw [List.length_set]; exact h.n2
end Go.Proofs.YtplljpodejpbgaaGreatDoor
