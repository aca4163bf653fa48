/-
  An argument that is a list of grants, read as data; how long it is.
-/
import Derived.Test.YtciphhfaoljndaaRows
import Derived.Test.YtciphhfaoljndaaUBase
import Derived.WalkKit
import Derived.ProofKit
import Derived.OpenShut
import Derived.ChangeOld
import Derived.ChangeMaps5
import Derived.Below
import Derived.SliceStrings
import Derived.SizedLaws
import Derived.Lib.SmallJoins
import Derived.Deep.Slices
namespace Go.Proofs.Ytciphhfaoljndaa
open Go.ChangeShapes Go.WideShapes Go.ChangeAt Go.RowKit
set_option linter.unusedVariables false

theorem own : ownKnob Try.prog.godebug = none := by kernel_rfl
theorem laidOut : laidOutB Try.prog = true := by kernel_rfl
theorem in64_wf {m : Int} (h : (Lit.int .i64 m).wf = true) : In64 m := by
  have h' := h
  simp [Lit.wf] at h'
  have e1 : IntKind.i64.min = -9223372036854775808 := by first | rfl | decide
  have e2 : IntKind.i64.max = 9223372036854775807 := by first | rfl | decide
  exact ⟨by omega, by omega⟩
theorem trod_struct4 {H : Type} {enc : TypeId × Value → H} {P : Program} {w : World} {base : Nat} {spare : Nat → Bool} {held : Bool} {t : TypeId} {f0 f1 f2 f3 : Field} {fuel : Nat} {cs : List Value} {x : DataW H × List MemPlace} (ht : P.underlying t = some (.struct #[f0, f1, f2, f3])) (h : DataW.trod enc P w base spare held fuel t cs = some x) :
    ∃ y0 y1 y2 y3 n, x = (.agg [y0.1, y1.1, y2.1, y3.1], y0.2 ++ (y1.2 ++ (y2.2 ++ y3.2))) ∧ cs.length = P.cellsOf t ∧ DataW.trod enc P w base spare held n f0.type ((cs.drop f0.offset).take (P.cellsOf f0.type)) = some y0 ∧
      DataW.trod enc P w base spare held n f1.type ((cs.drop f1.offset).take (P.cellsOf f1.type)) = some y1 ∧ DataW.trod enc P w base spare held n f2.type ((cs.drop f2.offset).take (P.cellsOf f2.type)) = some y2 ∧
      DataW.trod enc P w base spare held n f3.type ((cs.drop f3.offset).take (P.cellsOf f3.type)) = some y3 := by
  obtain ⟨xs, n, _, rfl, hl, hlen, hf⟩ := DataW.trod_struct ht h
  match xs, hlen with
  | [y0, y1, y2, y3], _ => exact ⟨y0, y1, y2, y3, n, by simp, hl, by simpa using hf 0 f0 rfl, by simpa using hf 1 f1 rfl, by simpa using hf 2 f2 rfl, by simpa using hf 3 f3 rfl⟩
theorem fieldsGr : ∃ f0 f1 f2 f3 : Field, Try.prog.underlying 37 = some (.struct #[f0, f1, f2, f3]) ∧ (f0.type = 3 ∧ f1.type = 3 ∧ f2.type = 3 ∧ f3.type = 3) ∧ (f0.offset = 0 ∧ f1.offset = 1 ∧ f2.offset = 2 ∧ f3.offset = 3) :=
  ⟨_, _, _, _, Try.underlying37, ⟨rfl, rfl, rfl, rfl⟩, rfl, rfl, rfl, rfl⟩
theorem cellsGr : Try.prog.cellsOf 37 = 4 ∧ Try.prog.cellsOf 3 = 1 := ⟨by kernel_rfl, by kernel_rfl⟩
set_option maxRecDepth 100000 in
theorem gr_cells {H : Type} {enc : TypeId × Value → H} {W : World} {cs : List Value} {x : DataW H × List MemPlace} {fuel : Nat}
    (hf : DataW.trod enc Try.prog W 0 (fun _ => true) true fuel 37 cs = some x) :
    ∃ g : GrL, cs = [.int .i64 g.1, .int .i64 g.2.1, .int .i64 g.2.2.1, .int .i64 g.2.2.2] ∧ In64 g.1 ∧ In64 g.2.1 ∧ In64 g.2.2.1 ∧ In64 g.2.2.2 := by
  obtain ⟨f0, f1, f2, f3, hu, ⟨t0, t1, t2, t3⟩, o0, o1, o2, o3⟩ := fieldsGr
  obtain ⟨k0, k3⟩ := cellsGr
  obtain ⟨y0, y1, y2, y3, n, hx, hlen, h0, h1, h2, h3⟩ := trod_struct4 hu hf
  rw [k0] at hlen
  match cs, hlen with
  | [c0, c1, c2, c3], _ =>
    rw [t0, o0, k3] at h0
    rw [t1, o1, k3] at h1
    rw [t2, o2, k3] at h2
    rw [t3, o3, k3] at h3
    simp only [List.drop_zero, List.drop_succ_cons, List.take_succ_cons, List.take_zero] at h0 h1 h2 h3
    obtain ⟨m0, e0, x0⟩ := DataW.trod_int Try.underlying3 h0
    obtain ⟨m1, e1, x1⟩ := DataW.trod_int Try.underlying3 h1
    obtain ⟨m2, e2, x2⟩ := DataW.trod_int Try.underlying3 h2
    obtain ⟨m3, e3, x3⟩ := DataW.trod_int Try.underlying3 h3
    simp only [List.cons.injEq, and_true] at e0 e1 e2 e3
    exact ⟨(m0, m1, m2, m3), by rw [e0, e1, e2, e3], in64_wf x0.2, in64_wf x1.2, in64_wf x2.2, in64_wf x3.2⟩
set_option maxRecDepth 100000 in
theorem grants_arg {H : Type} {enc : TypeId × Value → H} {W : World} {base : Nat} {v : Value} {d : DataW H} {p : List MemPlace}
    (hval : Value.okWide Try.prog W .any base 22 v) (h : DataW.Trod enc Try.prog W 0 (fun _ => true) true 22 v d p) (hw : ∀ n, n ∈ d.weights Try.prog 22 → n ≤ reachBytes) : ∃ l : List GrL, SeesG W v l ∧ InG l ∧ l.length ≤ 4398046511104 := by
  obtain ⟨a0, len, cap, rfl⟩ := okWide_slice Try.underlying22 hval
  obtain ⟨fuel, hf⟩ := h
  have hr : reachBytes = 140737488351232 := rfl
  rcases Go.Deep.open_slice Try.underlying22 hf with ⟨hcs, hx⟩ | ⟨a, l, c, m, n, D, Pl, hcs, _, hl, hm, hmm, hx, hcell⟩
  · simp [Value.cells] at hcs
    obtain ⟨rfl, rfl, rfl⟩ := hcs
    exact ⟨[], SeesG.nil _, (fun e he => by cases he), by simp⟩
  · simp [Value.cells] at hcs
    obtain ⟨rfl, rfl, rfl⟩ := hcs
    simp only [Prod.mk.injEq] at hx
    obtain ⟨rfl, _⟩ := hx
    have hmc : m = cap := by rw [hmm]; simp
    subst hmc
    have hsz : len * 32 ≤ 140737488351232 := by
      have h32 : Try.prog.bytesOf 37 = 32 := by kernel_rfl
      have := hw ((((List.range len).map D).length + ((List.range (m - len)).map fun j => D (len + j)).length) * Try.prog.bytesOf 37) (by simp [DataW.weights, Try.underlying22])
      rw [h32] at this
      simp only [List.length_map, List.length_range] at this
      omega
    have each : ∀ i, i < len → ∃ g : GrL, (∀ q, q < 4 → W.cell? ((a.add (i * 4)).add q) = [Value.int .i64 g.1, .int .i64 g.2.1, .int .i64 g.2.2.1, .int .i64 g.2.2.2][q]?) ∧ In64 g.1 ∧ In64 g.2.1 ∧ In64 g.2.2.1 ∧ In64 g.2.2.2 := by
      intro i hi
      obtain ⟨cs', h1, h2⟩ := hcell i (by omega)
      rw [cellsGr.1] at h1
      obtain ⟨_, hlen, hc⟩ := World.cells?_some h1
      obtain ⟨g, ho, hS⟩ := gr_cells h2
      refine ⟨g, fun q hq => ?_, hS⟩
      rw [← ho]
      exact hc q hq
    by_cases h0 : len = 0
    · subst h0
      exact ⟨[], ⟨0, 0, some a, m, rfl, Nat.zero_le _, (fun h => by cases h), fun h => absurd rfl h, fun j hj => by simp at hj⟩, (fun e he => by cases he), by simp⟩
    · obtain ⟨o0, ho0, _⟩ := each 0 (by omega)
      obtain ⟨b, off, spot⟩ := a
      have hspot : spot = none := by
        have := ho0 0 (by decide)
        simp only [List.getElem?_cons_zero] at this
        simpa [Addr.add] using World.cell?_spot this
      subst hspot
      have hch : ∀ i : Fin len, ∃ g : GrL, (∀ q, q < 4 → W.cell? ⟨b, off + i.1 * 4 + q, none⟩ = [Value.int .i64 g.1, .int .i64 g.2.1, .int .i64 g.2.2.1, .int .i64 g.2.2.2][q]?) ∧ In64 g.1 ∧ In64 g.2.1 ∧ In64 g.2.2.1 ∧ In64 g.2.2.2 := fun i => by
        obtain ⟨g, h1, h2⟩ := each i.1 i.2
        refine ⟨g, fun q hq => ?_, h2⟩
        have := h1 q hq
        rw [addr_add, addr_add] at this
        exact this
      have hl2 := fun i => Classical.choose_spec (hch i)
      refine ⟨List.ofFn (fun i : Fin len => Classical.choose (hch i)), ⟨b, off, _, m, by simp, by simp; omega, (fun h => by cases h), fun _ => rfl, fun j hj => ?_⟩, fun g hg => ?_, by simp; omega⟩
      · have hj' : j < len := by simpa using hj
        have hc := (hl2 ⟨j, hj'⟩).1
        have c0 := hc 0 (by decide)
        have c1 := hc 1 (by decide)
        have c2 := hc 2 (by decide)
        have c3 := hc 3 (by decide)
        simp only [List.getElem_ofFn]
        exact ⟨c0, c1, c2, c3⟩
      · obtain ⟨i, rfl⟩ := (List.mem_ofFn).1 hg
        exact (hl2 i).2
theorem weights_arg {H : Type} {ts : List TypeId} {ds : List (DataW H)} (h : (DataW.weightsEach Try.prog ts ds).all (· ≤ reachBytes) = true) {j : Nat} {t : TypeId} {d : DataW H} (ht : ts[j]? = some t) (hd : ds[j]? = some d) :
    ∀ n, n ∈ d.weights Try.prog t → n ≤ reachBytes := fun n hn => by
  have := List.all_eq_true.1 h n (DataW.weights_mem_each ht hd n hn)
  simpa using this
end Go.Proofs.Ytciphhfaoljndaa
