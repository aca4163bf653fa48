/-
  An argument that is a code, a state, a memory: how long its lists are.
-/
import Derived.Test.YtfnojlgmbfocfaaDoorVFrameW
namespace Go.Proofs.YtfnojlgmbfocfaaDoor
open Go.ChangeShapes Go.WideShapes Go.ChangeAt Go.RowKit Go.Joins
set_option linter.unusedVariables false

set_option maxRecDepth 100000 in
theorem work_arg8 {H : Type} {enc : TypeId × Value → H} {W : World} {base : Nat} {v : Value} {d : DataW H} {p : List MemPlace}
    (hval : Value.okWide Tryd.prog W .any base 27 v) (h : DataW.Trod enc Tryd.prog W 0 (fun _ => true) true 27 v d p) (hw : ∀ n, n ∈ d.weights Tryd.prog 27 → n ≤ reachBytes) :
    ∃ l c s vs vk m, SeesW W v l c s vs vk m ∧ s.st.length * 8 ≤ 140737488351232 ∧ s.ca.length * 8 ≤ 140737488351232 := by
  have hr : reachBytes = 140737488351232 := rfl
  obtain ⟨f0, f1, f2, hu, ⟨t0, t1, t2⟩, o0, o1, o2⟩ := fieldsW
  obtain ⟨k0, k1, k3, k5⟩ := cellsW
  obtain ⟨cs, rfl, hsz⟩ := okWide_struct hu hval
  obtain ⟨c0, c1, c2, c3, c4, rfl⟩ := array5 (hsz.trans k0)
  obtain ⟨fuel, hf⟩ := h
  obtain ⟨y0, y1, y2, n, hx, h0, h1, h2⟩ := trod_struct3' hu hf
  rw [t0, o0, k1] at h0
  rw [t1, o1, k3] at h1
  rw [t2, o2, cells9] at h2
  simp only [Value.cells, List.drop_zero, List.drop_succ_cons, List.take_succ_cons, List.take_zero] at h0 h1 h2
  obtain ⟨l, hl1, hl2⟩ := instr_cell h0
  obtain ⟨ms, e2, x2, m2⟩ := DataW.trod_string Tryd.underlying9 h2
  simp only [List.cons.injEq, and_true] at e2
  have hx' : d = .agg [y0.1, y1.1, y2.1] := hx
  have hw' : ∀ n, n ∈ y0.1.weights Tryd.prog 22 ++ (y1.1.weights Tryd.prog 25 ++ (y2.1.weights Tryd.prog 9 ++ [])) → n ≤ reachBytes := by
    intro n hn
    apply hw n
    rw [hx', DataW.weights]
    simp only [Tryd.underlying27]
    exact hn
  obtain ⟨s, es, s1, s2, q1, q2⟩ := state_cell h1 (fun n hn => hw' n (List.mem_append_right _ (List.mem_append_left _ hn)))
  have b0 := hl2 (fun n hn => hw' n (List.mem_append_left _ hn))
  have b2 : ms.size ≤ 140737488351232 := by
    have := hw' ms.size (List.mem_append_right _ (List.mem_append_right _ (List.mem_append_left _ (by rw [x2]; simp [DataW.weights]))))
    omega
  exact ⟨l, c0, s, c2, c3, ms, ⟨by rw [es, e2], hl1, ⟨rfl, s1, s2, by omega, by omega⟩, by omega, by omega⟩, q1, q2⟩
end Go.Proofs.YtfnojlgmbfocfaaDoor
