/-
  What the proofs of the cards share: an argument that is a code, a state and a memory, or a state, read as data; how long its lists are.
-/
import Derived.Test.YtfnojlgmbfocfaaDoorVFrame
import Derived.Test.YtfnojlgmbfocfaaDoorVWork
import Derived.Deep.SlicePairs
import Derived.SliceStrings
namespace Go.Proofs.YtfnojlgmbfocfaaDoor
open Go.ChangeShapes Go.WideShapes Go.ChangeAt Go.RowKit Go.Joins
set_option linter.unusedVariables false

/-- A slice of numbers among the data. -/
theorem ints_cell {H : Type} {enc : TypeId × Value → H} {W : World} {v : Value} {x : DataW H × List MemPlace} {fuel : Nat}
    (h : DataW.trod enc Tryd.prog W 0 (fun _ => true) true fuel 23 [v] = some x) : ∃ xs, Sees W v xs ∧ ((∀ n, n ∈ x.1.weights Tryd.prog 23 → n ≤ reachBytes) → xs.length * 8 ≤ 140737488351232) := by
  rcases open_ints Tryd.underlying23 Tryd.underlying3 (by kernel_rfl) h with ⟨hcs, hx⟩ | ⟨a, len, cap, zs, hcs, _, hl, hm, hz, hx, hcell, hwz⟩
  · simp only [List.cons.injEq, and_true] at hcs
    subst hcs
    exact ⟨[], ⟨0, 0, none, 0, rfl, Nat.le_refl _, fun _ => rfl, fun h => absurd rfl h, fun j hj => by simp at hj⟩, fun _ => by simp⟩
  · simp only [List.cons.injEq, and_true] at hcs
    subst hcs
    have hz' : zs.length = cap := by simpa using hz
    have hlen : (zs.take len).length = len := by rw [List.length_take]; omega
    refine ⟨zs.take len, ?_, fun hw => ?_⟩
    · by_cases h0 : len = 0
      · subst h0
        exact ⟨0, 0, some a, cap, rfl, Nat.zero_le _, (fun h => by cases h), fun h => absurd (by simp) h, fun j hj => by simp at hj⟩
      · obtain ⟨b, off, rfl, hc⟩ := ints_at hcell (by omega)
        refine ⟨b, off, _, cap, by rw [hlen], by omega, (fun h => by cases h), fun _ => rfl, fun j hj => ?_⟩
        have hj' : j < len := by omega
        rw [hc j (by omega)]
        simp [List.getD, hj']
    · rw [hx] at hw
      have h3 : Tryd.prog.bytesOf 3 = 8 := by kernel_rfl
      have := hw (((lits (H := H) .i64 (zs.take len)).length + (lits (H := H) .i64 (zs.drop len)).length) * Tryd.prog.bytesOf 3) (by simp [DataW.weights, Tryd.underlying23])
      rw [h3] at this
      simp only [lits, List.length_map, hlen] at this
      rw [hlen]
      have hr : reachBytes = 140737488351232 := rfl
      omega

theorem weights_arg {H : Type} {ts : List TypeId} {ds : List (DataW H)} (h : (DataW.weightsEach Tryd.prog ts ds).all (· ≤ reachBytes) = true) {j : Nat} {t : TypeId} {d : DataW H} (ht : ts[j]? = some t) (hd : ds[j]? = some d) :
    ∀ n, n ∈ d.weights Tryd.prog t → n ≤ reachBytes := fun n hn => by
  have := List.all_eq_true.1 h n (DataW.weights_mem_each ht hd n hn)
  simpa using this


theorem trod_struct3' {H : Type} {enc : TypeId × Value → H} {w : World} {base : Nat} {spare : Nat → Bool} {held : Bool} {t : TypeId} {f0 f1 f2 : Field} {fuel : Nat} {cs : List Value} {x : DataW H × List MemPlace} (ht : Tryd.prog.underlying t = some (.struct #[f0, f1, f2])) (h : DataW.trod enc Tryd.prog w base spare held fuel t cs = some x) :
    ∃ y0 y1 y2 n, x.1 = .agg [y0.1, y1.1, y2.1] ∧ DataW.trod enc Tryd.prog w base spare held n f0.type ((cs.drop f0.offset).take (Tryd.prog.cellsOf f0.type)) = some y0 ∧
      DataW.trod enc Tryd.prog w base spare held n f1.type ((cs.drop f1.offset).take (Tryd.prog.cellsOf f1.type)) = some y1 ∧ DataW.trod enc Tryd.prog w base spare held n f2.type ((cs.drop f2.offset).take (Tryd.prog.cellsOf f2.type)) = some y2 := by
  obtain ⟨xs, n, _, rfl, hl, hlen, hf⟩ := DataW.trod_struct ht h
  match xs, hlen with
  | [y0, y1, y2], _ => exact ⟨y0, y1, y2, n, rfl, hf 0 f0 rfl, hf 1 f1 rfl, hf 2 f2 rfl⟩
theorem fieldsI : ∃ f0 f1 : Field, Tryd.prog.underlying 57 = some (.struct #[f0, f1]) ∧ f0.offset = 0 ∧ f1.offset = 1 ∧ f0.type = 3 ∧ f1.type = 3 := by
  refine ⟨_, _, Tryd.underlying57, rfl, rfl, rfl, rfl⟩
theorem fieldsS : ∃ f0 f1 f2 : Field, Tryd.prog.underlying 25 = some (.struct #[f0, f1, f2]) ∧ (f0.type = 3 ∧ f1.type = 23 ∧ f2.type = 23) ∧ (f0.offset = 0 ∧ f1.offset = 1 ∧ f2.offset = 2) := ⟨_, _, _, Tryd.underlying25, ⟨rfl, rfl, rfl⟩, rfl, rfl, rfl⟩
theorem fieldsW : ∃ f0 f1 f2 : Field, Tryd.prog.underlying 27 = some (.struct #[f0, f1, f2]) ∧ (f0.type = 22 ∧ f1.type = 25 ∧ f2.type = 9) ∧ (f0.offset = 0 ∧ f1.offset = 1 ∧ f2.offset = 4) := ⟨_, _, _, Tryd.underlying27, ⟨rfl, rfl, rfl⟩, rfl, rfl, rfl⟩
theorem cellsW : Tryd.prog.cellsOf 27 = 5 ∧ Tryd.prog.cellsOf 22 = 1 ∧ Tryd.prog.cellsOf 25 = 3 ∧ Tryd.prog.cellsOf 23 = 1 := ⟨by kernel_rfl, by kernel_rfl, by kernel_rfl, by kernel_rfl⟩
theorem array5 {α : Type} {cs : Array α} (h : cs.size = 5) : ∃ c0 c1 c2 c3 c4, cs = #[c0, c1, c2, c3, c4] := by
  obtain ⟨l⟩ := cs
  match l, h with
  | [c0, c1, c2, c3, c4], _ => exact ⟨c0, c1, c2, c3, c4, rfl⟩
theorem array3 {α : Type} {cs : Array α} (h : cs.size = 3) : ∃ c0 c1 c2, cs = #[c0, c1, c2] := by
  obtain ⟨l⟩ := cs
  match l, h with
  | [c0, c1, c2], _ => exact ⟨c0, c1, c2, rfl⟩

set_option maxRecDepth 100000 in
/-- A slice of instructions among the data. -/
theorem instr_cell {H : Type} {enc : TypeId × Value → H} {W : World} {v : Value} {x : DataW H × List MemPlace} {fuel : Nat}
    (hf : DataW.trod enc Tryd.prog W 0 (fun _ => true) true fuel 22 [v] = some x) : ∃ l, SeesI W v l ∧ ((∀ n, n ∈ x.1.weights Tryd.prog 22 → n ≤ reachBytes) → l.length * 16 ≤ 140737488351232) := by
  obtain ⟨f0, f1, hu, o0, o1, t0, t1⟩ := fieldsI
  rcases Go.Deep.open_slice_pairs Tryd.underlying22 hu (by kernel_rfl) o0 o1 (by rw [t0]; kernel_rfl) (by rw [t1]; kernel_rfl) hf with ⟨hcs, hx⟩ | ⟨a, l, c, m, n, V0, V1, D0, D1, P0, P1, hcs, _, hl, hm, hmm, hx, hcell⟩
  · simp only [List.cons.injEq, and_true] at hcs
    subst hcs
    exact ⟨[], ⟨0, 0, none, 0, rfl, Nat.le_refl _, fun _ => rfl, fun h => absurd rfl h, fun j hj => by simp at hj⟩, fun _ => by simp⟩
  · simp only [List.cons.injEq, and_true] at hcs
    subst hcs
    subst hx
    have hlm : l ≤ m := by rw [hmm]; split <;> omega
    rw [t0, t1] at hcell
    have each : ∀ i, i < l → ∃ q : InsL, V0 i = .int .i64 q.1 ∧ V1 i = .int .i64 q.2 := by
      intro i hi
      obtain ⟨_, _, h3, h4⟩ := hcell i (by omega)
      obtain ⟨s0, e0, x0⟩ := DataW.trod_int Tryd.underlying3 h3
      obtain ⟨s1, e1, x1⟩ := DataW.trod_int Tryd.underlying3 h4
      simp only [List.cons.injEq, and_true] at e0 e1
      exact ⟨(s0, s1), e0, e1⟩
    obtain ⟨q, hq⟩ := Go.Deep.choose_lt each
    have hlen : ((List.range l).map q).length = l := by simp
    refine ⟨(List.range l).map q, ?_, fun hw => ?_⟩
    · by_cases h0 : l = 0
      · subst h0
        exact ⟨0, 0, some a, c, rfl, Nat.zero_le _, (fun h => by cases h), fun h => absurd (by simp) h, fun j hj => by simp at hj⟩
      · obtain ⟨b, off, spot⟩ := a
        have hspot : spot = none := by simpa [Addr.add] using World.cell?_spot (hcell 0 (by omega)).1
        subst hspot
        refine ⟨b, off, _, c, by rw [hlen], by rw [hlen]; exact hl, (fun h => by cases h), fun _ => rfl, fun j hj => ?_⟩
        rw [hlen] at hj
        obtain ⟨c0, c1, _, _⟩ := hcell j (by omega)
        rw [addr_add] at c0 c1
        simp only [List.getElem_map, List.getElem_range]
        rw [← (hq j hj).1, ← (hq j hj).2]
        exact ⟨c0, by rw [Nat.add_assoc]; exact c1⟩
    · have h16 : Tryd.prog.bytesOf 57 = 16 := by kernel_rfl
      have := hw ((((List.range l).map fun i => (DataW.agg [D0 i, D1 i] : DataW H)).length + ((List.range (m - l)).map fun j => (DataW.agg [D0 (l + j), D1 (l + j)] : DataW H)).length) * Tryd.prog.bytesOf 57) (by simp [DataW.weights, Tryd.underlying22])
      rw [h16] at this
      simp only [List.length_map, List.length_range] at this
      rw [hlen]
      have hr : reachBytes = 140737488351232 := rfl
      omega

set_option maxRecDepth 100000 in
theorem state_cell {H : Type} {enc : TypeId × Value → H} {W : World} {c0 c1 c2 : Value} {x : DataW H × List MemPlace} {fuel : Nat}
    (hf : DataW.trod enc Tryd.prog W 0 (fun _ => true) true fuel 25 [c0, c1, c2] = some x) (hw : ∀ n, n ∈ x.1.weights Tryd.prog 25 → n ≤ reachBytes) : ∃ s : StL, c0 = .int .i64 s.pc ∧ Sees W c1 s.st ∧ Sees W c2 s.ca ∧ s.st.length * 8 ≤ 140737488351232 ∧ s.ca.length * 8 ≤ 140737488351232 := by
  obtain ⟨f0, f1, f2, hu, ⟨t0, t1, t2⟩, o0, o1, o2⟩ := fieldsS
  obtain ⟨_, _, _, k5⟩ := cellsW
  obtain ⟨y0, y1, y2, n, hx, h0, h1, h2⟩ := trod_struct3' hu hf
  rw [t0, o0, cells3] at h0
  rw [t1, o1, k5] at h1
  rw [t2, o2, k5] at h2
  simp only [List.drop_zero, List.drop_succ_cons, List.take_succ_cons, List.take_zero] at h0 h1 h2
  obtain ⟨m, e0, x0⟩ := DataW.trod_int Tryd.underlying3 h0
  obtain ⟨ss, hs1, hs2⟩ := ints_cell h1
  obtain ⟨cc, hc1, hc2⟩ := ints_cell h2
  simp only [List.cons.injEq, and_true] at e0
  have hw' : ∀ n, n ∈ y0.1.weights Tryd.prog 3 ++ (y1.1.weights Tryd.prog 23 ++ (y2.1.weights Tryd.prog 23 ++ [])) → n ≤ reachBytes := by
    intro n hn
    apply hw n
    rw [hx, DataW.weights]
    simp only [Tryd.underlying25]
    exact hn
  refine ⟨⟨m, ss, cc⟩, e0, hs1, hc1, hs2 (fun n hn => hw' n ?_), hc2 (fun n hn => hw' n ?_)⟩
  · exact List.mem_append_right _ (List.mem_append_left _ hn)
  · exact List.mem_append_right _ (List.mem_append_right _ (List.mem_append_left _ hn))

set_option maxRecDepth 100000 in
theorem state_arg {H : Type} {enc : TypeId × Value → H} {W : World} {base : Nat} {v : Value} {d : DataW H} {p : List MemPlace}
    (hval : Value.okWide Tryd.prog W .any base 25 v) (h : DataW.Trod enc Tryd.prog W 0 (fun _ => true) true 25 v d p) (hw : ∀ n, n ∈ d.weights Tryd.prog 25 → n ≤ reachBytes) :
    ∃ s vs vk, SeesS W v s vs vk ∧ s.st.length * 8 ≤ 140737488351232 ∧ s.ca.length * 8 ≤ 140737488351232 := by
  obtain ⟨f0, f1, f2, hu, _⟩ := fieldsS
  obtain ⟨k0, _, k3, _⟩ := cellsW
  obtain ⟨cs, rfl, hsz⟩ := okWide_struct hu hval
  obtain ⟨c0, c1, c2, rfl⟩ := array3 (hsz.trans k3)
  obtain ⟨fuel, hf⟩ := h
  obtain ⟨s, e, h1, h2, l1, l2⟩ := state_cell hf hw
  exact ⟨s, c1, c2, ⟨by rw [e], h1, h2, by omega, by omega⟩, l1, l2⟩
set_option maxRecDepth 100000 in
theorem work_arg {H : Type} {enc : TypeId × Value → H} {W : World} {base : Nat} {v : Value} {d : DataW H} {p : List MemPlace}
    (hval : Value.okWide Tryd.prog W .any base 27 v) (h : DataW.Trod enc Tryd.prog W 0 (fun _ => true) true 27 v d p) (hw : ∀ n, n ∈ d.weights Tryd.prog 27 → n ≤ reachBytes) :
    ∃ l c s vs vk m, SeesW W v l c s vs vk m := by
  have hr : reachBytes = 140737488351232 := rfl
  obtain ⟨f0, f1, f2, hu, ⟨t0, t1, t2⟩, o0, o1, o2⟩ := fieldsW
  obtain ⟨k0, k1, k3, k5⟩ := cellsW
  obtain ⟨cs, rfl, hsz⟩ := okWide_struct hu hval
  obtain ⟨c0, c1, c2, c3, c4, rfl⟩ := array5 (hsz.trans k0)
  obtain ⟨fuel, hf⟩ := h
  obtain ⟨y0, y1, y2, n, hx, h0, h1, h2⟩ := trod_struct3' hu hf
  rw [t0, o0, k1] at h0
  rw [t1, o1, k3] at h1
  rw [t2, o2, cells9] at h2
  simp only [Value.cells, List.drop_zero, List.drop_succ_cons, List.take_succ_cons, List.take_zero] at h0 h1 h2
  obtain ⟨l, hl1, hl2⟩ := instr_cell h0
  obtain ⟨ms, e2, x2, m2⟩ := DataW.trod_string Tryd.underlying9 h2
  simp only [List.cons.injEq, and_true] at e2
  have hx' : d = .agg [y0.1, y1.1, y2.1] := hx
  have hw' : ∀ n, n ∈ y0.1.weights Tryd.prog 22 ++ (y1.1.weights Tryd.prog 25 ++ (y2.1.weights Tryd.prog 9 ++ [])) → n ≤ reachBytes := by
    intro n hn
    apply hw n
    rw [hx', DataW.weights]
    simp only [Tryd.underlying27]
    exact hn
  obtain ⟨s, es, s1, s2, q1, q2⟩ := state_cell h1 (fun n hn => hw' n (List.mem_append_right _ (List.mem_append_left _ hn)))
  have b0 := hl2 (fun n hn => hw' n (List.mem_append_left _ hn))
  have b2 : ms.size ≤ 140737488351232 := by
    have := hw' ms.size (List.mem_append_right _ (List.mem_append_right _ (List.mem_append_left _ (by rw [x2]; simp [DataW.weights]))))
    omega
  exact ⟨l, c0, s, c2, c3, ms, by rw [es, e2], hl1, ⟨rfl, s1, s2, by omega, by omega⟩, by omega, by omega⟩
end Go.Proofs.YtfnojlgmbfocfaaDoor
