/-
  An argument that is a slice of texts, read as data; how long it is.
-/
import Derived.Test.YtebjkgibciiocaaFrame
import Derived.Test.YtebjkgibciiocaaTxtA
import Derived.SliceStrings
namespace Go.Proofs.Ytebjkgibciiocaa
open Go.ChangeShapes Go.WideShapes Go.ChangeAt Go.RowKit
set_option linter.unusedVariables false

theorem strs_at {W : World} {a : Addr} {ss : List ByteArray} (h : ∀ i, i < ss.length → W.cell? (a.add i) = some (.string (ss.getD i ByteArray.empty))) (hp : 0 < ss.length) :
    ∃ b off, a = ⟨b, off, none⟩ ∧ ∀ j, j < ss.length → W.cell? ⟨b, off + j, none⟩ = some (.string (ss.getD j ByteArray.empty)) := by
  obtain ⟨b, off, spot⟩ := a
  have hspot : spot = none := by simpa [Addr.add] using World.cell?_spot (h 0 hp)
  subst hspot
  exact ⟨b, off, rfl, fun j hj => by rw [← addr_add]; exact h j hj⟩

theorem seesS_arg {H : Type} {enc : TypeId × Value → H} {W : World} {base : Nat} {v : Value} {d : DataW H} {p : List MemPlace}
    (hval : Value.okWide Try.prog W .any base 36 v) (h : DataW.Trod enc Try.prog W 0 (fun _ => true) true 36 v d p) (hw : ∀ n, n ∈ d.weights Try.prog 36 → n ≤ reachBytes) : ∃ xs, Txt.Sees W v xs ∧ xs.length * 16 ≤ 140737488351232 := by
  obtain ⟨a0, len, cap, rfl⟩ := okWide_slice Try.underlying36 hval
  obtain ⟨fuel, hf⟩ := h
  rcases open_strings Try.underlying36 Try.underlying9 (by kernel_rfl) hf with ⟨hcs, hx⟩ | ⟨x, l, c, zs, hcs, _, hl, hm, hz, hx, hcell, hwz⟩
  · simp [Value.cells] at hcs
    obtain ⟨rfl, rfl, rfl⟩ := hcs
    exact ⟨[], ⟨0, 0, none, 0, rfl, Nat.le_refl _, fun _ => rfl, fun h => absurd rfl h, fun j hj => by simp at hj⟩, by simp⟩
  · simp [Value.cells] at hcs
    obtain ⟨rfl, rfl, rfl⟩ := hcs
    simp only [Prod.mk.injEq] at hx
    obtain ⟨rfl, _⟩ := hx
    have hz' : zs.length = cap := by simpa using hz
    have hlen : (zs.take len).length = len := by rw [List.length_take]; omega
    refine ⟨zs.take len, ?_, ?_⟩
    · by_cases h0 : len = 0
      · subst h0
        exact ⟨0, 0, some x, cap, rfl, Nat.zero_le _, (fun h => by cases h), fun h => absurd (by simp) h, fun j hj => by simp at hj⟩
      · obtain ⟨b, off, rfl, hc⟩ := strs_at hcell (by omega)
        refine ⟨b, off, _, cap, by rw [hlen], by omega, (fun h => by cases h), fun _ => rfl, fun j hj => ?_⟩
        have hj' : j < len := by omega
        have hjz : j < zs.length := by omega
        rw [hc j hjz]
        simp [List.getD, hj', hjz]
    · have h9 : Try.prog.bytesOf 9 = 16 := by kernel_rfl
      have := hw (((strs (H := H) (zs.take len)).length + (strs (H := H) (zs.drop len)).length) * Try.prog.bytesOf 9) (by simp [DataW.weights, Try.underlying36])
      rw [h9] at this
      have e : (strs (H := H) (zs.take len)).length = len := by simp only [strs, List.length_map, List.length_take]; omega
      rw [e] at this
      rw [hlen]
      have hr : reachBytes = 140737488351232 := rfl
      omega

end Go.Proofs.Ytebjkgibciiocaa
