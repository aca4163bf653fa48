/-
  An argument that is a list of responses.
-/
import Derived.Test.YtgkipeehmckbdaaDoorYFrame
import Derived.Test.YtgkipeehmckbdaaDoorYLineWalk
import Derived.Deep.Slices
namespace Go.Proofs.YtgkipeehmckbdaaDoor
open Go.ChangeShapes Go.WideShapes Go.ChangeAt Go.RowKit Go.Joins Go.Deep
set_option linter.unusedVariables false

theorem cellsResp : Tryd.prog.cellsOf 24 = 4 := by kernel_rfl
def respsBulk (l : List ResE) : Nat := lineB l
theorem bulk_resps {H : Type} {ds : List (DataW H)} {j : Nat} {d : DataW H} {l : List ResE} (hk : Rows.uptoSmall H ds = true) (hj : ds[j]? = some d) (hl : respsBulk l ≤ Rows.uptoBulk d) : respsBulk l ≤ 1048576 := by
  have h1 : Rows.uptoBulkAll ds ≤ 1048576 := of_decide_eq_true hk
  have h2 := bulk_mem _ ds (List.mem_of_getElem? hj)
  omega
theorem bulk_all_le {H : Type} (D : Nat → DataW H) (f : Nat → Nat) : ∀ l : List Nat, (∀ i ∈ l, f i ≤ Rows.uptoBulk (D i)) → (l.map f).sum ≤ Rows.uptoBulkAll (l.map D)
  | [], _ => by simp [Rows.uptoBulkAll]
  | x :: r, h => by
    have ih := bulk_all_le D f r (fun i hi => h i (by simp [hi]))
    have h1 := h x (by simp)
    simp only [List.map_cons, List.sum_cons, Rows.uptoBulkAll]
    omega
theorem slice_of_sees {W : World} {v : Value} {l : List PairL} (h : SeesP W v l) : ∃ ao cap, v = .slice ao l.length cap := by
  obtain ⟨_, _, ao, cap, hv, _⟩ := h
  exact ⟨ao, cap, hv⟩
set_option maxRecDepth 100000 in
theorem resps_arg {H : Type} {enc : TypeId × Value → H} {W : World} {base : Nat} {v : Value} {d : DataW H} {p : List MemPlace}
    (hval : Value.okWide Tryd.prog W .any base 38 v) (h : DataW.Trod enc Tryd.prog W 0 (fun _ => true) true 38 v d p) : ∃ l, SeesR W v l ∧ respsBulk l ≤ Rows.uptoBulk d := by
  obtain ⟨a0, len, cap, rfl⟩ := okWide_slice Tryd.underlying38 hval
  obtain ⟨fuel, hf⟩ := h
  obtain ⟨f0, f1, f2, f3, hu, t0, t1, t2, t3, hone⟩ := fieldsResp
  rcases Go.Deep.open_slice Tryd.underlying38 hf with ⟨hcs, hx⟩ | ⟨a, l, c, m, n, D, Pl, hcs, _, hl, hm, hmm, hx, hcell⟩
  · simp [Value.cells] at hcs
    obtain ⟨rfl, rfl, rfl⟩ := hcs
    refine ⟨[], ⟨0, 0, none, 0, rfl, Nat.le_refl _, fun h => absurd rfl h, fun j hj => by simp at hj, fun e he => by cases he⟩, ?_⟩
    simp [respsBulk, lineB]
  · simp [Value.cells] at hcs
    obtain ⟨rfl, rfl, rfl⟩ := hcs
    simp only [Prod.mk.injEq] at hx
    obtain ⟨rfl, _⟩ := hx
    have hlm : len ≤ m := by rw [hmm]; split <;> omega
    have each : ∀ i, i < len → ∃ e : ResE, (∀ q, q < 4 → W.cell? ((a.add (i * 4)).add q) = (ResE.row e)[q]?) ∧ SeesP W (ResE.v e) e.1.2.1 ∧ bulkL e.1.2.1 + e.1.2.2.1.length + 4 ≤ Rows.uptoBulk (D i) := by
      intro i hi
      obtain ⟨cs', h1, h2⟩ := hcell i (by omega)
      rw [cellsResp] at h1
      obtain ⟨_, hlen, hc⟩ := World.cells?_some h1
      obtain ⟨y0, y1, y2, y3, n', hy, _, g0, g1, g2, g3⟩ := trod_struct4 hu h2
      obtain ⟨o0, k0⟩ := hone_of hone 0 f0 rfl
      obtain ⟨o1, k1⟩ := hone_of hone 1 f1 rfl
      obtain ⟨o2, k2⟩ := hone_of hone 2 f2 rfl
      obtain ⟨o3, k3⟩ := hone_of hone 3 f3 rfl
      match cs', hlen with
      | [c0, c1, c2, c3], _ =>
        rw [o0, k0, t0] at g0
        rw [o1, k1, t1] at g1
        rw [o2, k2, t2] at g2
        rw [o3, k3, t3] at g3
        simp only [List.drop_zero, List.drop_succ_cons, List.take_succ_cons, List.take_zero] at g0 g1 g2 g3
        obtain ⟨z, e0, x0, _⟩ := DataW.trod_int Tryd.underlying3 g0
        obtain ⟨ps, hS, hB⟩ := seesP_cells g1
        obtain ⟨s, e2, x2, _⟩ := DataW.trod_string Tryd.underlying9 g2
        obtain ⟨bb, e3, x3⟩ := DataW.trod_bool Tryd.underlying4 g3
        simp only [List.cons.injEq, and_true] at e0 e2 e3
        obtain ⟨aof, capf, hsl⟩ := slice_of_sees hS
        refine ⟨((z, ps, s.data.toList, bb), aof, capf), ?_, ?_, ?_⟩
        · intro q hq
          have hq1 := hc q hq
          have e1 : c1 = .slice aof ps.length capf := hsl
          rw [hq1, e0, e1, e2, e3]
          rfl
        · show SeesP W (.slice aof ps.length capf) ps
          rw [← hsl]
          exact hS
        · have hD : D i = .agg [y0.1, y1.1, y2.1, y3.1] := congrArg Prod.fst hy
          have b0 := bulk_one y0.1
          have b3 := bulk_one y3.1
          have b2 : s.data.toList.length + 1 ≤ Rows.uptoBulk y2.1 := by rw [x2]; simp [Rows.uptoBulk]
          rw [hD]
          simp only [Rows.uptoBulk, Rows.uptoBulkAll]
          omega
    obtain ⟨q, hq⟩ := Go.Deep.choose_lt each
    have hlen : ((List.range len).map q).length = len := by simp
    refine ⟨(List.range len).map q, ?_, ?_⟩
    · have hsees : ∀ e ∈ (List.range len).map q, SeesP W (ResE.v e) e.1.2.1 := by
        intro e he
        obtain ⟨i, hi, rfl⟩ := List.mem_map.1 he
        exact (hq i (List.mem_range.1 hi)).2.1
      by_cases h0 : len = 0
      · subst h0
        exact ⟨0, 0, some a, cap, rfl, Nat.zero_le _, fun h => absurd (by simp) h, (fun j hj => by simp at hj), hsees⟩
      · obtain ⟨b, off, spot⟩ := a
        have hspot : spot = none := by
          have h1 := (hq 0 (by omega)).1 0 (by decide)
          have h2 : (ResE.row (q 0))[0]? = some (.int .i64 (q 0).1.1) := rfl
          rw [h2] at h1
          simpa [Addr.add] using World.cell?_spot h1
        subst hspot
        refine ⟨b, off, _, cap, by rw [hlen], by rw [hlen]; exact hl, fun _ => rfl, fun j hj => ?_, hsees⟩
        rw [hlen] at hj
        intro i hi
        have h1 := (hq j hj).1 i hi
        rw [addr_add, addr_add] at h1
        simp only [List.getElem_map, List.getElem_range]
        exact h1
    · have hs := bulk_all_le D (fun i => bulkL (q i).1.2.1 + (q i).1.2.2.1.length + 4) (List.range len) (fun i hi => (hq i (List.mem_range.1 hi)).2.2)
      have e1 : respsBulk ((List.range len).map q) = ((List.range len).map fun i => bulkL (q i).1.2.1 + (q i).1.2.2.1.length + 4).sum := by
        simp only [respsBulk, lineB, List.map_map]
        rfl
      rw [e1, Rows.uptoBulk]
      omega
end Go.Proofs.YtgkipeehmckbdaaDoor
