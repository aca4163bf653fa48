/-
  slices.Reverse of grants that the call has made.
-/
import Derived.Test.YtciphhfaoljndaaUBase
import Derived.Deep.CutBlock
import Derived.Deep.DeepCutAuto
import Derived.BigRegion
namespace Go.Proofs.Ytciphhfaoljndaa
open Go.RowKit
set_option linter.unusedVariables false
set_option linter.unusedSimpArgs false

/-- What stands behind i swaps. -/
def RevAt (l m : List GrL) (i : Nat) : Prop := m.length = l.length ∧ ∀ p, (h : p < m.length) → (h2 : p < l.length) → m[p] = if p < i ∨ l.length ≤ p + i then l[l.length - 1 - p]'(by omega) else l[p]
/-- The block of an own row of grants. -/
def BlkG (w : World) (g : Nat) (m : List GrL) (z : Nat) : Prop := ∃ cur, w.heap[g]? = some (.cells cur 37 (0, 0)) ∧ cur.size = z ∧ m.length * 4 ≤ z ∧ cur.toList.take (m.length * 4) = cellsG m
theorem BlkG.cells {w : World} {g z : Nat} {m : List GrL} (h : BlkG w g m z) (j : Nat) (hj : j < m.length) : w.cell? ⟨g, 0 + j * 4, none⟩ = some (.int .i64 m[j].1) ∧ w.cell? ⟨g, 0 + j * 4 + 1, none⟩ = some (.int .i64 m[j].2.1) ∧ w.cell? ⟨g, 0 + j * 4 + 2, none⟩ = some (.int .i64 m[j].2.2.1) ∧ w.cell? ⟨g, 0 + j * 4 + 3, none⟩ = some (.int .i64 m[j].2.2.2) := by
  obtain ⟨cur, hg, hz, hle, ht⟩ := h
  obtain ⟨e1, e2, e3, e4⟩ := cellsG_get m j hj
  have key : ∀ p v, p < m.length * 4 → (cellsG m)[p]? = some v → w.cell? ⟨g, 0 + p, none⟩ = some v := fun p v hp hv => by
    rw [← ht, List.getElem?_take_of_lt hp, Array.getElem?_toList] at hv
    simp [World.cell?, hg, hv]
  refine ⟨key _ _ (by omega) e1, ?_, ?_, ?_⟩
  · have := key _ _ (by omega) e2; rwa [← Nat.add_assoc] at this
  · have := key _ _ (by omega) e3; rwa [← Nat.add_assoc] at this
  · have := key _ _ (by omega) e4; rwa [← Nat.add_assoc] at this

theorem BlkG.frozen {w : World} {g z : Nat} {m : List GrL} (h : BlkG w g m z) (j : Nat) : w.frozen? ⟨g, j, none⟩ = false := by
  obtain ⟨cur, hg, _⟩ := h
  simp [World.frozen?, hg]
theorem cellsG_set : ∀ (m : List GrL) (i : Nat) (y : GrL), i < m.length → cellsG (m.set i y) = ((((cellsG m).set (i * 4) (.int .i64 y.1)).set (i * 4 + 1) (.int .i64 y.2.1)).set (i * 4 + 2) (.int .i64 y.2.2.1)).set (i * 4 + 3) (.int .i64 y.2.2.2)
  | [], i, y, h => by simp at h
  | q :: r, 0, y, h => by simp [cellsG]
  | q :: r, i + 1, y, h => by
    have ih := cellsG_set r i y (by simpa using h)
    rw [show (i + 1) * 4 = i * 4 + 1 + 1 + 1 + 1 by omega]
    simp only [List.set_cons_succ, cellsG, ih]
theorem setG {w : World} {g z o : Nat} {cur : Array Value} (h : w.heap[g]? = some (.cells cur 37 (0, 0))) (hz : cur.size = z) (u : Value) : (w.setCell ⟨g, o, none⟩ u).heap[g]? = some (.cells (cur.setIfInBounds o u) 37 (0, 0)) ∧ (cur.setIfInBounds o u).size = z :=
  ⟨heap_setCell_same w g o _ _ u h, by simp [hz]⟩
theorem BlkG.put {w : World} {g z : Nat} {m : List GrL} (h : BlkG w g m z) (i : Nat) (hi : i < m.length) (y : GrL) : BlkG ((((w.setCell ⟨g, i * 4, none⟩ (.int .i64 y.1)).setCell ⟨g, i * 4 + 1, none⟩ (.int .i64 y.2.1)).setCell ⟨g, i * 4 + 2, none⟩ (.int .i64 y.2.2.1)).setCell ⟨g, i * 4 + 3, none⟩ (.int .i64 y.2.2.2)) g (m.set i y) z := by
  obtain ⟨cur, hg, hz, hle, ht⟩ := h
  obtain ⟨a1, b1⟩ := setG hg hz (o := i * 4) (.int .i64 y.1)
  obtain ⟨a2, b2⟩ := setG a1 b1 (o := i * 4 + 1) (.int .i64 y.2.1)
  obtain ⟨a3, b3⟩ := setG a2 b2 (o := i * 4 + 2) (.int .i64 y.2.2.1)
  obtain ⟨a4, b4⟩ := setG a3 b3 (o := i * 4 + 3) (.int .i64 y.2.2.2)
  refine ⟨_, a4, b4, by simpa using hle, ?_⟩
  rw [cellsG_set m i y hi, List.length_set, ← ht]
  simp only [Array.toList_setIfInBounds, List.take_set]
theorem BlkG.drew {w : World} {g z : Nat} {m : List GrL} (h : BlkG w g m z) : BlkG w.drew g m z := h
theorem RevAt.start (l : List GrL) : RevAt l l 0 := ⟨rfl, fun p h h2 => by rw [if_neg (by omega)]⟩
theorem RevAt.next {l m : List GrL} {k q : Nat} (h : RevAt l m k) (hq : q + k + 1 = l.length) (hk : k < q) (h1 : k < m.length) (h2 : q < m.length) : RevAt l ((m.set k m[q]).set q m[k]) (k + 1) := by
  obtain ⟨hl, hp⟩ := h
  refine ⟨by simp [hl], fun p hp1 hp2 => ?_⟩
  have hpm : p < m.length := by omega
  rw [List.getElem_set, List.getElem_set]
  by_cases e1 : q = p
  · subst e1
    rw [if_pos rfl, hp k h1 (by omega), if_neg (by omega), if_pos (by omega)]
    congr 1
    omega
  · rw [if_neg e1]
    by_cases e2 : k = p
    · subst e2
      rw [if_pos rfl, hp q h2 (by omega), if_neg (by omega), if_pos (by omega)]
      congr 1
      omega
    · rw [if_neg e2, hp p hpm hp2]
      by_cases e3 : p < k ∨ l.length ≤ p + k
      · rw [if_pos e3, if_pos (by omega)]
      · rw [if_neg e3, if_neg (by omega)]
theorem RevAt.fin {l m : List GrL} {k : Nat} (h : RevAt l m k) (hk : l.length ≤ 2 * k + 1) : m = l.reverse := by
  obtain ⟨hl, hp⟩ := h
  refine List.ext_getElem (by simp [hl]) fun p h1 h2 => ?_
  rw [List.getElem_reverse, hp p h1 (by omega)]
  by_cases e : p < k ∨ l.length ≤ p + k
  · rw [if_pos e]
  · rw [if_neg e]
    congr 1
    omega
set_option maxHeartbeats 2000000 in
theorem reverse_any (g cap z B : Nat) (l : List GrL) (w : World) (hB : BlkG w g l z) (hcap : l.length ≤ cap) (hlen : l.length ≤ 4398046511104) (hBg : B ≤ g) (hBw : B ≤ w.heap.size) :
    Calls Try.prog 17 #[.slice (some ⟨g, 0, none⟩) l.length cap] w fun e w' => e = .returned (.tuple #[]) ∧ BlkG w' g l.reverse z ∧ Below B w w' := by
  have e0 : IntKind.i64.wrap ((l.length : Int) - 1) = (l.length : Int) - 1 := by rw [IntKind.wrap_i64]; omega
  go_enter Try.func17, Try.ntmps17
  go_wp2
  go_loopw [2, 3] (fun i j wr => ∃ (k : Nat) (m : List GrL), i = .int .i64 (k : Int) ∧ j = .int .i64 ((l.length : Int) - 1 - (k : Int)) ∧ 2 * k ≤ l.length + 1 ∧ Hid (RevAt l m k) ∧ Hid (BlkG wr g m z) ∧ Below B w wr) (fun i _ _ => l.length - (intOf i).toNat)
  case atStart => exact ⟨0, l, rfl, by simp, by omega, RevAt.start l, hB, Below.refl _ _⟩
  case round =>
    obtain ⟨k, m, rfl, rfl, hk, HM, HB, hgr⟩ := hrel
    have HGR := hid hgr
    clear hgr
    by_cases hlt : (k : Int) < (l.length : Int) - 1 - (k : Int)
    · have hml := HM.out.1
      have hk1 : k < m.length := by omega
      obtain ⟨q, hq⟩ : ∃ q : Nat, q + k + 1 = l.length := ⟨l.length - 1 - k, by omega⟩
      have hqe : (l.length : Int) - 1 - (k : Int) = (q : Int) := by omega
      rw [hqe] at hlt ⊢
      have hk2 : q < m.length := by omega
      obtain ⟨c1, c2, c3, c4⟩ := HB.out.cells k hk1
      obtain ⟨d1, d2, d3, d4⟩ := HB.out.cells q hk2
      obtain ⟨x, hx⟩ : ∃ x, x = m[k]'hk1 := ⟨_, rfl⟩
      obtain ⟨y, hy⟩ : ∃ y, y = m[q]'hk2 := ⟨_, rfl⟩
      rw [← hx] at c1 c2 c3 c4
      rw [← hy] at d1 d2 d3 d4
      have HX := hid hx
      have HY := hid hy
      have hfz := HB.out.frozen
      have fc1 := hfz (0 + k * 4)
      have fc2 := hfz (0 + k * 4 + 1)
      have fc3 := hfz (0 + k * 4 + 2)
      have fc4 := hfz (0 + k * 4 + 3)
      have fd1 := hfz (0 + q * 4)
      have fd2 := hfz (0 + q * 4 + 1)
      have fd3 := hfz (0 + q * 4 + 2)
      have fd4 := hfz (0 + q * 4 + 3)
      have hkl : (k : Int) < (l.length : Int) := by omega
      have hql : (q : Int) < (l.length : Int) := by omega
      rw [Nat.zero_add] at c1 c2 c3 c4 d1 d2 d3 d4 fc1 fc2 fc3 fc4 fd1 fd2 fd3 fd4
      have HQ := hid hq
      have HQE := hid hqe
      clear hfz hq hqe hx hy
      go_upto_region 3 with fail
      go_region
      go_wp2
      go_roundw
      case rel =>
        have hn := HM.out.next HQ.out (by omega) hk1 hk2
        rw [← HX.out, ← HY.out] at hn
        have hb2 := (HB.out.put k hk1 y).put q (by simpa using hk2) x
        refine ⟨k + 1, _, by go_num, ?_, by have := HQ.out; omega, hid hn, hid hb2.drew, ?_⟩
        · have := HQE.out
          simp only [Value.int.injEq, true_and]
          omega
        · exact ((((((((HGR.out.setCell (p := ⟨g, k * 4, none⟩) hBg _).setCell (p := ⟨g, k * 4 + 1, none⟩) hBg _).setCell (p := ⟨g, k * 4 + 2, none⟩) hBg _).setCell (p := ⟨g, k * 4 + 3, none⟩) hBg _).setCell (p := ⟨g, q * 4, none⟩) hBg _).setCell (p := ⟨g, q * 4 + 1, none⟩) hBg _).setCell (p := ⟨g, q * 4 + 2, none⟩) hBg _).setCell (p := ⟨g, q * 4 + 3, none⟩) hBg _).drew
      case measure => simp [intOf]; omega
    · have hml := HM.out.1
      go_wp2
      go_end0
      have := HM.out.fin (by omega)
      subst this
      exact ⟨rfl, HB.out, HGR.out⟩
end Go.Proofs.Ytciphhfaoljndaa
