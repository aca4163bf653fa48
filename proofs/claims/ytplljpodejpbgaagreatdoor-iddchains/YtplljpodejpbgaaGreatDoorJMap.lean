/-
  Sessions in the map: what a look finds, what a login lays.
-/
import Derived.Test.YtplljpodejpbgaaGreatDoorJState
import Derived.Maps.OwnSet
import Derived.StringKeys
namespace Go.Proofs.YtplljpodejpbgaaGreatDoor
open Go.RowKit Go.Maps Go.ChangeShapes Go.WideShapes Go.WideMaps
set_option linter.unusedVariables false
set_option linter.unusedSimpArgs false
set_option maxRecDepth 100000

theorem keyS : Keyed Tryz.prog 9 := string_keyed Tryz.underlying9
theorem zeroSes (w : World) : (zeroValue 99).run Tryz.prog w = .ok (.agg #[.int .i64 0, .int .i64 0]) w := by kernel_rfl
theorem keyT (t : ByteArray) (h : t.size ≤ maxLen) : keyOf Tryz.prog 9 (.string t) = some (keyB t) := keyOf_string_mk Tryz.underlying9 h
theorem tok_inj {a b : ByteArray} (h : a.data.toList = b.data.toList) : a = b := by
  obtain ⟨⟨x⟩⟩ := a
  obtain ⟨⟨y⟩⟩ := b
  simp at h
  rw [h]

section
variable {w : World} {d ub mb : Nat} {us : List (Acc × Value)} {vd : Value} {dr : List Int} {n : Nat} {ss : List Ses} {vg : Value} {gs : List Gra}
theorem map_ok {k : Nat} {D : DataW Unit} (hm : w.ownsMap Tryz.prog 9 sesR mb k D) (hM : MapIs D ss) (t : ByteArray) (ht : t.size ≤ maxLen) :
    ∃ a b h, (Instr.lookup 71 (.map (some mb)) (.string t) true).run Tryz.prog w = .ok (.tuple #[.agg #[.int .i64 a, .int .i64 b], .bool h]) w ∧
      ((h = true ∧ ∃ s ∈ ss, s.token = t ∧ a = (s.who : Int) ∧ b = (s.login : Int)) ∨ (h = false ∧ (∀ s ∈ ss, s.token ≠ t) ∧ a = 0 ∧ b = 0)) := by
  obtain ⟨v, ps, hrun, hR⟩ := hm.look_ok keyS Tryz.underlying71 (zeroSes w) (sesR_mk 0 0) (keyT t ht)
  obtain ⟨a, b, rfl, hy⟩ := sesR_inv hR
  simp only [Prod.mk.injEq] at hy
  refine ⟨a, b, _, hrun, ?_⟩
  cases hh : Maps.has D (keyB t) with
  | true =>
    left
    obtain ⟨s, hs, e⟩ := (hM.has t.data.toList).1 hh
    have e' := tok_inj e
    refine ⟨rfl, s, hs, e', ?_⟩
    have h1 := hM.at_ s hs (sesD 0 0)
    rw [e', hy.1] at h1
    simp only [sesD, DataW.agg.injEq, List.cons.injEq, DataW.lit.injEq, Lit.int.injEq, true_and, and_true] at h1
    exact h1
  | false =>
    right
    have h1 := Maps.atKey_of_not_has hh (sesD 0 0)
    rw [hy.1] at h1
    simp only [sesD, DataW.agg.injEq, List.cons.injEq, DataW.lit.injEq, Lit.int.injEq, true_and, and_true] at h1
    refine ⟨rfl, fun s hs e => ?_, h1⟩
    have := (hM.has t.data.toList).2 ⟨s, hs, by rw [e]⟩
    rw [show Maps.has D (.string t.data.toList) = Maps.has D (keyB t) from rfl, hh] at this
    cases this

theorem isKeyB (t : ByteArray) : WideAt.IsKeyLit (keyB t) := by unfold keyB; trivial
theorem MapIs.put {D : DataW Unit} (hM : MapIs D ss) (hI : Maps.IsMap D) (s : Ses) (hn : ∀ x ∈ ss, x.token ≠ s.token) : MapIs (D.put (keyB s.token) (sesD s.who s.login)) (ss ++ [s]) := by
  refine ⟨fun x => ?_, fun y hy z => ?_, ?_⟩
  · by_cases e : x = s.token.data.toList
    · subst e
      rw [show (Lit.string s.token.data.toList) = keyB s.token from rfl, Maps.has_put_same hI (isKeyB _)]
      exact ⟨fun _ => ⟨s, by simp, rfl⟩, fun _ => rfl⟩
    · rw [Maps.has_put_other (by unfold keyB; simpa using e), hM.has x]
      constructor
      · rintro ⟨y, hy, rfl⟩
        exact ⟨y, by simp [hy], rfl⟩
      · rintro ⟨y, hy, he⟩
        simp at hy
        rcases hy with hy | hy
        · exact ⟨y, hy, he⟩
        · subst hy
          exact absurd he.symm e
  · simp at hy
    rcases hy with hy | hy
    · rw [Maps.atKey_put_other (by unfold keyB; intro h; simp at h; exact hn y hy (tok_inj (by rw [h])))]
      exact hM.at_ y hy z
    · subst hy
      exact Maps.atKey_put_same hI (isKeyB _) _ _
  · rw [List.map_append, List.nodup_append]
    refine ⟨hM.nd, by simp, fun a ha b hb => ?_⟩
    obtain ⟨x, hx, rfl⟩ := List.mem_map.1 ha
    simp at hb
    rw [hb]
    exact hn x hx
end
end Go.Proofs.YtplljpodejpbgaaGreatDoor
