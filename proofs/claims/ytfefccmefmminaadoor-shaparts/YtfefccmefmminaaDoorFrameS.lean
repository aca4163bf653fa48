/-
  An argument that is a slice of texts.
-/
import Derived.Test.YtfefccmefmminaaDoorFrame
import Derived.Test.YtfefccmefmminaaDoorPartsWalk
import Derived.SliceStrings
namespace Go.Proofs.YtfefccmefmminaaDoor
open Go.ChangeShapes Go.WideShapes Go.ChangeAt Go.RowKit
set_option linter.unusedVariables false

theorem strs_at {W : World} {a : Addr} {ss : List ByteArray} (h : ∀ i, i < ss.length → W.cell? (a.add i) = some (.string (ss.getD i ByteArray.empty))) (hp : 0 < ss.length) :
    ∃ b off, a = ⟨b, off, none⟩ ∧ ∀ j, j < ss.length → W.cell? ⟨b, off + j, none⟩ = some (.string (ss.getD j ByteArray.empty)) := by
  obtain ⟨b, off, spot⟩ := a
  have hspot : spot = none := by simpa [Addr.add] using World.cell?_spot (h 0 hp)
  subst hspot
  exact ⟨b, off, rfl, fun j hj => by rw [← addr_add]; exact h j hj⟩


theorem weightsAll_mem {H : Type} {e : TypeId} {n : Nat} {d : DataW H} : ∀ {l : List (DataW H)}, d ∈ l → n ∈ d.weights Tryd.prog e → n ∈ DataW.weightsAll Tryd.prog e l
  | [], hd, _ => by simp at hd
  | x :: r, hd, hn => by
    rw [DataW.weightsAll]
    rcases List.mem_cons.1 hd with h | h
    · subst h; exact List.mem_append_left _ hn
    · exact List.mem_append_right _ (weightsAll_mem h hn)

theorem seesS_arg {H : Type} {enc : TypeId × Value → H} {W : World} {base : Nat} {v : Value} {d : DataW H} {p : List MemPlace}
    (hval : Value.okWide Tryd.prog W .any base 25 v) (h : DataW.Trod enc Tryd.prog W 0 (fun _ => true) true 25 v d p) (hw : ∀ n, n ∈ d.weights Tryd.prog 25 → n ≤ reachBytes) : ∃ xs, SeesS W v xs ∧ (xs.length ≤ 4611686018427387904 ∧ ∀ s ∈ xs, s.size ≤ 140737488351232) := by
  obtain ⟨a0, len, cap, rfl⟩ := okWide_slice Tryd.underlying25 hval
  obtain ⟨fuel, hf⟩ := h
  have hr : reachBytes = 140737488351232 := rfl
  rcases open_strings Tryd.underlying25 Tryd.underlying9 (by kernel_rfl) hf with ⟨hcs, hx⟩ | ⟨x, l, c, zs, hcs, _, hl, hm, hz, hx, hcell, hwz⟩
  · simp [Value.cells] at hcs
    obtain ⟨rfl, rfl, rfl⟩ := hcs
    exact ⟨[], ⟨0, 0, none, 0, rfl, Nat.le_refl _, fun _ => rfl, fun h => absurd rfl h, fun j hj => by simp at hj⟩, by simp, fun s hs => by simp at hs⟩
  · simp [Value.cells] at hcs
    obtain ⟨rfl, rfl, rfl⟩ := hcs
    simp only [Prod.mk.injEq] at hx
    obtain ⟨rfl, _⟩ := hx
    have hz' : zs.length = cap := by simpa using hz
    have hlen : (zs.take len).length = len := by rw [List.length_take]; omega
    have hm' : cap ≤ 4611686018427387904 := by
      have h9 : Tryd.prog.bytesOf 9 = 16 := by kernel_rfl
      have := hw (((strs (H := H) (zs.take len)).length + (strs (H := H) (zs.drop len)).length) * Tryd.prog.bytesOf 9) (by simp [DataW.weights, Tryd.underlying25])
      rw [h9] at this
      have e : (strs (H := H) (zs.take len)).length + (strs (H := H) (zs.drop len)).length = cap := by simp only [strs, List.length_map, List.length_take, List.length_drop]; omega
      rw [e] at this
      omega
    refine ⟨zs.take len, ?_, by omega, fun s hs => ?_⟩
    · by_cases h0 : len = 0
      · subst h0
        exact ⟨0, 0, some x, cap, rfl, Nat.zero_le _, (fun h => by cases h), fun h => absurd (by simp) h, fun j hj => by simp at hj⟩
      · obtain ⟨b, off, rfl, hc⟩ := strs_at hcell (by omega)
        refine ⟨b, off, _, cap, by rw [hlen], by omega, (fun h => by cases h), fun _ => rfl, fun j hj => ?_⟩
        have hj' : j < len := by omega
        have hjz : j < zs.length := by omega
        rw [hc j hjz]
        simp [List.getD, hj', hjz]
    · have hmem : (DataW.lit (H := H) (.string s.data.toList)) ∈ strs (H := H) (zs.take len) := List.mem_map.2 ⟨s, hs, rfl⟩
      have h2 := hw s.size (by
        simp only [DataW.weights, Tryd.underlying25]
        exact List.mem_cons_of_mem _ (List.mem_append_left _ (weightsAll_mem hmem (by simp [DataW.weights]))))
      omega

end Go.Proofs.YtfefccmefmminaaDoor
