/-
  An argument that is a head.
-/
import Derived.Test.YtllhibdjopfcnaaGreatDoorZFrame
import Derived.Lib.SmallJoins
namespace Go.Proofs.YtllhibdjopfcnaaGreatDoor
open Go.ChangeShapes Go.WideShapes Go.ChangeAt Go.RowKit Go.Joins Go.Deep
set_option linter.unusedVariables false

def headBulk (h : HeadL) : Nat := h.1.length + h.2.1.length + bulkL h.2.2.2
theorem headBulk_few {h : HeadL} (hb : headBulk h ≤ 1048576) : h.2.2.2.length ≤ 1048576 ∧ (∀ p ∈ h.2.2.2, p.1.length ≤ 1048576 ∧ p.2.length ≤ 1048576) ∧ h.1.length ≤ 1048576 ∧ h.2.1.length ≤ 1048576 := by
  have key : ∀ l : List PairL, l.length ≤ bulkL l ∧ ∀ p ∈ l, p.1.length + p.2.length ≤ bulkL l := by
    intro l
    induction l with
    | nil => simp [bulkL]
    | cons x r ih =>
      have e : bulkL (x :: r) = x.1.length + x.2.length + 2 + bulkL r := by simp [bulkL]
      refine ⟨by rw [e, List.length_cons]; omega, ?_⟩
      intro p hp
      rcases List.mem_cons.1 hp with rfl | hp
      · omega
      · have := ih.2 p hp; omega
  unfold headBulk at hb
  obtain ⟨k1, k2⟩ := key h.2.2.2
  exact ⟨by omega, fun p hp => by have := k2 p hp; omega, by omega, by omega⟩
theorem bulk_head {H : Type} {ds : List (DataW H)} {j : Nat} {d : DataW H} {h : HeadL} (hk : Rows.uptoSmall H ds = true) (hj : ds[j]? = some d) (hl : headBulk h ≤ Rows.uptoBulk d) : headBulk h ≤ 1048576 := by
  have h1 : Rows.uptoBulkAll ds ≤ 1048576 := of_decide_eq_true hk
  have h2 := bulk_mem _ ds (List.mem_of_getElem? hj)
  omega
set_option maxRecDepth 100000 in
theorem seesP_cells {H : Type} {enc : TypeId × Value → H} {W : World} {v : Value} {x : DataW H × List MemPlace} {fuel : Nat}
    (hf : DataW.trod enc Tryz.prog W 0 (fun _ => true) true fuel 32 [v] = some x) : ∃ l, SeesP W v l ∧ bulkL l ≤ Rows.uptoBulk x.1 := by
  obtain ⟨f0, f1, hu, o0, o1, t0, t1⟩ := fieldsP'
  rcases Go.Deep.open_slice_pairs Tryz.underlying32 hu (by kernel_rfl) o0 o1 (by rw [t0]; kernel_rfl) (by rw [t1]; kernel_rfl) hf with ⟨hcs, hx⟩ | ⟨a, l, c, m, n, V0, V1, D0, D1, P0, P1, hcs, _, hl, hm, hmm, hx, hcell⟩
  · simp only [List.cons.injEq, and_true] at hcs
    subst hcs
    refine ⟨[], ⟨0, 0, none, 0, rfl, Nat.le_refl _, fun _ => rfl, fun h => absurd rfl h, fun j hj => by simp at hj⟩, ?_⟩
    simp [bulkL]
  · simp only [List.cons.injEq, and_true] at hcs
    subst hcs
    subst hx
    have hlm : l ≤ m := by rw [hmm]; split <;> omega
    rw [t0, t1] at hcell
    have each : ∀ i, i < l → ∃ q : PairL, V0 i = strV q.1 ∧ V1 i = strV q.2 ∧ D0 i = .lit (.string q.1) ∧ D1 i = .lit (.string q.2) := by
      intro i hi
      obtain ⟨_, _, h3, h4⟩ := hcell i (by omega)
      obtain ⟨s0, e0, x0⟩ := DataW.trod_string Tryz.underlying9 h3
      obtain ⟨s1, e1, x1⟩ := DataW.trod_string Tryz.underlying9 h4
      simp only [List.cons.injEq, and_true] at e0 e1
      simp only [Prod.mk.injEq] at x0 x1
      refine ⟨(s0.data.toList, s1.data.toList), ?_, ?_, x0.1.1, x1.1.1⟩
      · rw [e0, strV]
      · rw [e1, strV]
    obtain ⟨q, hq⟩ := Go.Deep.choose_lt each
    have hlen : ((List.range l).map q).length = l := by simp
    refine ⟨(List.range l).map q, ?_, ?_⟩
    · by_cases h0 : l = 0
      · subst h0
        exact ⟨0, 0, some a, c, rfl, Nat.zero_le _, (fun h => by cases h), fun h => absurd (by simp) h, fun j hj => by simp at hj⟩
      · obtain ⟨b, off, spot⟩ := a
        have hspot : spot = none := by simpa [Addr.add] using World.cell?_spot (hcell 0 (by omega)).1
        subst hspot
        refine ⟨b, off, _, c, by rw [hlen], by rw [hlen]; exact hl, (fun h => by cases h), fun _ => rfl, fun j hj => ?_⟩
        rw [hlen] at hj
        obtain ⟨c0, c1, _, _⟩ := hcell j (by omega)
        rw [addr_add] at c0 c1
        simp only [List.getElem_map, List.getElem_range]
        rw [← (hq j hj).1, ← (hq j hj).2.1]
        exact ⟨c0, by rw [Nat.add_assoc]; exact c1⟩
    · have e1 : (List.range l).map (fun i => (DataW.agg [D0 i, D1 i] : DataW H)) = (List.range l).map fun i => (DataW.agg [.lit (.string (q i).1), .lit (.string (q i).2)] : DataW H) := by
        refine List.map_congr_left fun i hi => ?_
        rw [(hq i (List.mem_range.1 hi)).2.2.1, (hq i (List.mem_range.1 hi)).2.2.2]
      simp only
      rw [Rows.uptoBulk, e1, bulk_all_map]
      unfold bulkL
      rw [List.map_map]
      have := sum_le_map (l := List.range l) (f := (fun p : PairL => p.1.length + p.2.length + 2) ∘ q) (g := fun i => (q i).1.length + (q i).2.length + 3) (fun i hi => by simp only [Function.comp]; omega)
      omega
set_option maxRecDepth 100000 in
theorem head_arg {H : Type} {enc : TypeId × Value → H} {W : World} {base : Nat} {v : Value} {d : DataW H} {p : List MemPlace}
    (hval : Value.okWide Tryz.prog W .any base 34 v) (h : DataW.Trod enc Tryz.prog W 0 (fun _ => true) true 34 v d p) :
    ∃ (hd : HeadL) (u : Value), v = .agg #[strV hd.1, strV hd.2.1, .int .i64 hd.2.2.1, u] ∧ (SeesP W u hd.2.2.2 ∧ (Lit.int .i64 hd.2.2.1).wf = true) ∧ headBulk hd ≤ Rows.uptoBulk d := by
  obtain ⟨f0, f1, f2, f3, hu, t0, t1, t2, t3, hone⟩ : ∃ f0 f1 f2 f3 : Field, Tryz.prog.underlying 34 = some (.struct #[f0, f1, f2, f3]) ∧ f0.type = 9 ∧ f1.type = 9 ∧ f2.type = 3 ∧ f3.type = 32 ∧ oneCellFields Tryz.prog #[f0, f1, f2, f3] = true := ⟨_, _, _, _, Tryz.underlying34, rfl, rfl, rfl, rfl, by kernel_rfl⟩
  obtain ⟨v0, v1, v2, v3, y0, y1, y2, y3, n, rfl, rfl, rfl, h0, h1, h2, h3⟩ := open_agg4 hu hone (by kernel_rfl) hval h
  rw [t0] at h0
  rw [t1] at h1
  rw [t2] at h2
  rw [t3] at h3
  obtain ⟨s0, e0, x0⟩ := DataW.trod_string Tryz.underlying9 h0
  obtain ⟨s1, e1, x1⟩ := DataW.trod_string Tryz.underlying9 h1
  obtain ⟨m, e2, x2⟩ := DataW.trod_int Tryz.underlying3 h2
  obtain ⟨l, hS, hB⟩ := seesP_cells h3
  simp only [List.cons.injEq, and_true] at e0 e1 e2
  refine ⟨(s0.data.toList, s1.data.toList, m, l), v3, ?_, ⟨hS, x2.2⟩, ?_⟩
  · rw [e0, e1, e2]
    simp [strV]
  · have b0 : s0.data.toList.length ≤ Rows.uptoBulk y0.1 := by rw [x0.1]; simp [Rows.uptoBulk]
    have b1 : s1.data.toList.length ≤ Rows.uptoBulk y1.1 := by rw [x1.1]; simp [Rows.uptoBulk]
    simp only [headBulk, Rows.uptoBulk, Rows.uptoBulkAll]
    omega
end Go.Proofs.YtllhibdjopfcnaaGreatDoor
