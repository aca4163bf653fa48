/-
  What the proofs of the statements share: an argument that is a row, or a text, read as data; how long its lists are.
-/
import Derived.Test.YtkbceaofijngoaaRows
import Derived.Test.YtkbceaofijngoaaWBase
import Derived.WalkKit
import Derived.ProofKit
import Derived.OpenShut
import Derived.ShutString
import Derived.ChangeOld
import Derived.ChangeMaps5
import Derived.Below
import Derived.SliceStrings
import Derived.SizedLaws
import Derived.Lib.SmallJoins
namespace Go.Proofs.Ytkbceaofijngoaa
open Go.ChangeShapes Go.WideShapes Go.ChangeAt Go.RowKit
set_option linter.unusedVariables false

theorem own : ownKnob Try.prog.godebug = none := by kernel_rfl
theorem laidOut : laidOutB Try.prog = true := by kernel_rfl

/-- A slice of numbers among the data. -/
theorem ints_cell {H : Type} {enc : TypeId × Value → H} {W : World} {v : Value} {x : DataW H × List MemPlace} {fuel : Nat}
    (h : DataW.trod enc Try.prog W 0 (fun _ => true) true fuel 23 [v] = some x) : ∃ xs, Sees W v xs ∧ ((∀ n, n ∈ x.1.weights Try.prog 23 → n ≤ reachBytes) → xs.length * 8 ≤ 140737488351232) := by
  rcases open_ints Try.underlying23 Try.underlying3 (by kernel_rfl) h with ⟨hcs, hx⟩ | ⟨a, len, cap, zs, hcs, _, hl, hm, hz, hx, hcell, hwz⟩
  · simp only [List.cons.injEq, and_true] at hcs
    subst hcs
    exact ⟨[], ⟨0, 0, none, 0, rfl, Nat.le_refl _, fun _ => rfl, fun h => absurd rfl h, fun j hj => by simp at hj⟩, fun _ => by simp⟩
  · simp only [List.cons.injEq, and_true] at hcs
    subst hcs
    have hz' : zs.length = cap := by simpa using hz
    have hlen : (zs.take len).length = len := by rw [List.length_take]; omega
    refine ⟨zs.take len, ?_, fun hw => ?_⟩
    · by_cases h0 : len = 0
      · subst h0
        exact ⟨0, 0, some a, cap, rfl, Nat.zero_le _, (fun h => by cases h), fun h => absurd (by simp) h, fun j hj => by simp at hj⟩
      · obtain ⟨b, off, rfl, hc⟩ := ints_at hcell (by omega)
        refine ⟨b, off, _, cap, by rw [hlen], by omega, (fun h => by cases h), fun _ => rfl, fun j hj => ?_⟩
        have hj' : j < len := by omega
        rw [hc j (by omega)]
        simp [List.getD, hj']
    · rw [hx] at hw
      have h3 : Try.prog.bytesOf 3 = 8 := by kernel_rfl
      have := hw (((lits (H := H) .i64 (zs.take len)).length + (lits (H := H) .i64 (zs.drop len)).length) * Try.prog.bytesOf 3) (by simp [DataW.weights, Try.underlying23])
      rw [h3] at this
      simp only [lits, List.length_map, hlen] at this
      rw [hlen]
      have hr : reachBytes = 140737488351232 := rfl
      omega

theorem strs_at {W : World} {a : Addr} {ss : List ByteArray} (h : ∀ i, i < ss.length → W.cell? (a.add i) = some (.string (ss.getD i ByteArray.empty))) (hp : 0 < ss.length) :
    ∃ b off, a = ⟨b, off, none⟩ ∧ ∀ j, j < ss.length → W.cell? ⟨b, off + j, none⟩ = some (.string (ss.getD j ByteArray.empty)) := by
  obtain ⟨b, off, spot⟩ := a
  have hspot : spot = none := by simpa [Addr.add] using World.cell?_spot (h 0 hp)
  subst hspot
  exact ⟨b, off, rfl, fun j hj => by rw [← addr_add]; exact h j hj⟩
theorem weightsAll_mem {H : Type} {e : TypeId} {n : Nat} {d : DataW H} : ∀ {l : List (DataW H)}, d ∈ l → n ∈ d.weights Try.prog e → n ∈ DataW.weightsAll Try.prog e l
  | [], hd, _ => by simp at hd
  | x :: r, hd, hn => by
    rw [DataW.weightsAll]
    rcases List.mem_cons.1 hd with h | h
    · subst h; exact List.mem_append_left _ hn
    · exact List.mem_append_right _ (weightsAll_mem h hn)

/-- A slice of texts among the data. -/
theorem texts_cell {H : Type} {enc : TypeId × Value → H} {W : World} {v : Value} {x : DataW H × List MemPlace} {fuel : Nat}
    (h : DataW.trod enc Try.prog W 0 (fun _ => true) true fuel 22 [v] = some x) : ∃ xs, SeesT W v xs ∧ ((∀ n, n ∈ x.1.weights Try.prog 22 → n ≤ reachBytes) → xs.length * 16 ≤ 140737488351232 ∧ ∀ s ∈ xs, s.size ≤ 140737488351232) := by
  have hr : reachBytes = 140737488351232 := rfl
  rcases open_strings Try.underlying22 Try.underlying9 (by kernel_rfl) h with ⟨hcs, hx⟩ | ⟨a, len, cap, zs, hcs, _, hl, hm, hz, hx, hcell, hwz⟩
  · simp only [List.cons.injEq, and_true] at hcs
    subst hcs
    exact ⟨[], ⟨0, 0, none, 0, rfl, Nat.le_refl _, fun _ => rfl, fun h => absurd rfl h, fun j hj => by simp at hj⟩, fun _ => ⟨by simp, fun s hs => by simp at hs⟩⟩
  · simp only [List.cons.injEq, and_true] at hcs
    subst hcs
    have hz' : zs.length = cap := by simpa using hz
    have hlen : (zs.take len).length = len := by rw [List.length_take]; omega
    refine ⟨zs.take len, ?_, fun hw => ?_⟩
    · by_cases h0 : len = 0
      · subst h0
        exact ⟨0, 0, some a, cap, rfl, Nat.zero_le _, (fun h => by cases h), fun h => absurd (by simp) h, fun j hj => by simp at hj⟩
      · obtain ⟨b, off, rfl, hc⟩ := strs_at hcell (by omega)
        refine ⟨b, off, _, cap, by rw [hlen], by omega, (fun h => by cases h), fun _ => rfl, fun j hj => ?_⟩
        have hj' : j < len := by omega
        have hjz : j < zs.length := by omega
        rw [hc j hjz]
        simp [List.getD, hjz]
    · rw [hx] at hw
      refine ⟨?_, fun s hs => ?_⟩
      · have h9 : Try.prog.bytesOf 9 = 16 := by kernel_rfl
        have := hw (((strs (H := H) (zs.take len)).length + (strs (H := H) (zs.drop len)).length) * Try.prog.bytesOf 9) (by simp [DataW.weights, Try.underlying22])
        rw [h9] at this
        have e : (strs (H := H) (zs.take len)).length + (strs (H := H) (zs.drop len)).length = cap := by simp only [strs, List.length_map, List.length_take, List.length_drop]; omega
        rw [e] at this
        rw [hlen]
        omega
      · have hmem : (DataW.lit (H := H) (.string s.data.toList)) ∈ strs (H := H) (zs.take len) := List.mem_map.2 ⟨s, hs, rfl⟩
        have h2 := hw s.size (by
          simp only [DataW.weights, Try.underlying22]
          exact List.mem_cons_of_mem _ (List.mem_append_left _ (weightsAll_mem hmem (by simp [DataW.weights]))))
        omega

theorem array5 {α : Type} {cs : Array α} (h : cs.size = 5) : ∃ c0 c1 c2 c3 c4, cs = #[c0, c1, c2, c3, c4] := by
  obtain ⟨l⟩ := cs
  match l, h with
  | [c0, c1, c2, c3, c4], _ => exact ⟨c0, c1, c2, c3, c4, rfl⟩

theorem fieldsRow : ∃ f0 f1 f2 f3 : Field, Try.prog.underlying 27 = some (.struct #[f0, f1, f2, f3]) ∧ (f0.type = 9 ∧ f1.type = 22 ∧ f2.type = 25 ∧ f3.type = 3) ∧ (f0.offset = 0 ∧ f1.offset = 1 ∧ f2.offset = 2 ∧ f3.offset = 4) :=
  ⟨_, _, _, _, Try.underlying27, ⟨rfl, rfl, rfl, rfl⟩, rfl, rfl, rfl, rfl⟩
theorem fieldsLab : ∃ f0 f1 : Field, Try.prog.underlying 25 = some (.struct #[f0, f1]) ∧ (f0.type = 23 ∧ f1.type = 23) ∧ (f0.offset = 0 ∧ f1.offset = 1) :=
  ⟨_, _, Try.underlying25, ⟨rfl, rfl⟩, rfl, rfl⟩
theorem cellsRow : Try.prog.cellsOf 27 = 5 ∧ Try.prog.cellsOf 9 = 1 ∧ Try.prog.cellsOf 22 = 1 ∧ Try.prog.cellsOf 25 = 2 ∧ Try.prog.cellsOf 3 = 1 ∧ Try.prog.cellsOf 23 = 1 :=
  ⟨by kernel_rfl, by kernel_rfl, by kernel_rfl, by kernel_rfl, by kernel_rfl, by kernel_rfl⟩

set_option maxRecDepth 100000 in
/-- An argument that is a row. -/
theorem row_arg {H : Type} {enc : TypeId × Value → H} {W : World} {base : Nat} {v : Value} {d : DataW H} {p : List MemPlace}
    (hval : Value.okWide Try.prog W .any base 27 v) (h : DataW.Trod enc Try.prog W 0 (fun _ => true) true 27 v d p) (hw : ∀ n, n ∈ d.weights Try.prog 27 → n ≤ reachBytes) :
    ∃ r vc vs vi, SeesR W v r vc vs vi := by
  have hr : reachBytes = 140737488351232 := rfl
  obtain ⟨f0, f1, f2, f3, hu, ⟨t0, t1, t2, t3⟩, o0, o1, o2, o3⟩ := fieldsRow
  obtain ⟨g0, g1, hl, ⟨s0, s1⟩, q0, q1⟩ := fieldsLab
  obtain ⟨k0, k1, k2, k3, k4, k5⟩ := cellsRow
  obtain ⟨cs, rfl, hsz⟩ := okWide_struct hu hval
  obtain ⟨c0, c1, c2, c3, c4, rfl⟩ := array5 (hsz.trans k0)
  obtain ⟨fuel, hf⟩ := h
  obtain ⟨y0, y1, y2, y3, n, hx, _, h0, h1, h2, h3⟩ := Go.Joins.trod_struct4 hu hf
  rw [t0, o0, k1] at h0
  rw [t1, o1, k2] at h1
  rw [t2, o2, k3] at h2
  rw [t3, o3, k4] at h3
  simp only [Value.cells, List.drop_zero, List.drop_succ_cons, List.take_succ_cons, List.take_zero] at h0 h1 h2 h3
  obtain ⟨z0, z1, n2, hx2, _, h20, h21⟩ := trod_struct2 hl h2
  rw [s0, q0, k5] at h20
  rw [s1, q1, k5] at h21
  simp only [List.drop_zero, List.drop_succ_cons, List.take_succ_cons, List.take_zero] at h20 h21
  obtain ⟨ky, e0, x0, m0⟩ := DataW.trod_string Try.underlying9 h0
  obtain ⟨l, hS, hB⟩ := texts_cell h1
  obtain ⟨ss, hs1, hs2⟩ := ints_cell h20
  obtain ⟨ii, hi1, hi2⟩ := ints_cell h21
  obtain ⟨m, e3, x3⟩ := DataW.trod_int Try.underlying3 h3
  simp only [List.cons.injEq, and_true] at e0 e3
  simp only [Prod.mk.injEq] at hx
  obtain ⟨rfl, _⟩ := hx
  have hw' : ∀ n, n ∈ y0.1.weights Try.prog 9 ++ (y1.1.weights Try.prog 22 ++ (y2.1.weights Try.prog 25 ++ (y3.1.weights Try.prog 3 ++ []))) → n ≤ reachBytes := by
    intro n hn
    apply hw n
    rw [DataW.weights]
    simp only [Try.underlying27]
    exact hn
  have hw2 : ∀ n, n ∈ z0.1.weights Try.prog 23 ++ (z1.1.weights Try.prog 23 ++ []) → n ≤ reachBytes := by
    intro n hn
    apply hw' n
    refine List.mem_append_right _ (List.mem_append_right _ (List.mem_append_left _ ?_))
    rw [hx2]
    rw [DataW.weights]
    simp only [Try.underlying25]
    exact hn
  have b1 := hB (fun n hn => hw' n (List.mem_append_right _ (List.mem_append_left _ hn)))
  have b2 := hs2 (fun n hn => hw2 n (List.mem_append_left _ hn))
  have b3 := hi2 (fun n hn => hw2 n (List.mem_append_right _ (List.mem_append_left _ hn)))
  have b0 : ky.size ≤ 140737488351232 := by
    have := hw' ky.size (List.mem_append_left _ (by rw [x0]; simp [DataW.weights]))
    omega
  refine ⟨⟨ky, l, ss, ii, m⟩, c1, c2, c3, ?_, hS, hs1, hi1, ?_, ?_, ?_, ?_, ?_⟩
  · rw [e0, e3]
    rfl
  · simp only
    omega
  · simp only
    omega
  · simp only
    omega
  · simp only
    omega
  · intro c hc
    have := b1.2 c hc
    omega

theorem str_le {H : Type} {l : List UInt8} (h : ∀ n, n ∈ (DataW.lit (H := H) (.string l)).weights Try.prog 9 → n ≤ reachBytes) : l.length ≤ 140737488351232 := by
  have := h l.length (by simp [DataW.weights])
  have hr : reachBytes = 140737488351232 := rfl
  omega
theorem weights_arg {H : Type} {ts : List TypeId} {ds : List (DataW H)} (h : (DataW.weightsEach Try.prog ts ds).all (· ≤ reachBytes) = true) {j : Nat} {t : TypeId} {d : DataW H} (ht : ts[j]? = some t) (hd : ds[j]? = some d) :
    ∀ n, n ∈ d.weights Try.prog t → n ≤ reachBytes := fun n hn => by
  have := List.all_eq_true.1 h n (DataW.weights_mem_each ht hd n hn)
  simpa using this

end Go.Proofs.Ytkbceaofijngoaa
