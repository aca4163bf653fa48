/-
  What append makes of lists of messages.
-/
import Derived.Test.YtahibklmcooanaaORSend
namespace Go.Proofs.Ytahibklmcooanaa
open Go.RowKit
set_option linter.unusedVariables false
set_option linter.unusedSimpArgs false

theorem mC_at {w : World} {b off : Nat} {xs : List Msg} (h : ∀ j, j < xs.length → w.cell? ⟨b, off + j * 2, none⟩ = some (.int .i64 (xs.getD j Mq.z0).1) ∧ w.cell? ⟨b, off + j * 2 + 1, none⟩ = some (.string (xs.getD j Mq.z0).2)) :
    ∀ j u, (Mq.mC xs)[j]? = some u → w.cell? ((⟨b, off, none⟩ : Addr).add j) = some u := by
  intro j u hj
  have hjl : j < xs.length * 2 := by
    have := (List.getElem?_eq_some_iff.1 hj).1
    rwa [Mq.mC_len] at this
  obtain ⟨e1, e2⟩ := Mq.mC_get xs (j / 2) (by omega)
  obtain ⟨h1, h2⟩ := h (j / 2) (by omega)
  rw [addr_add]
  rcases Nat.mod_two_eq_zero_or_one j with hm | hm
  · rw [show j / 2 * 2 = j by omega] at e1 h1
    rw [e1] at hj
    rw [h1]
    exact hj
  · rw [show j / 2 * 2 + 1 = j by omega] at e2
    rw [show off + j / 2 * 2 + 1 = off + j by omega] at h2
    rw [e2] at hj
    rw [h2]
    exact hj
/-- 'append(nil, v...)': a copy. -/
theorem run_copyM (w : World) (ty : TypeId) (v : Value) (xs : List Msg) (hS : Mq.Sees w v xs) (hb : xs.length ≤ 1000000) :
    ∃ v' w', (Builtin.append_ #[79, 79] ty #[.slice none 0 0, v]).run Try.prog w = .ok v' w' ∧ Mq.Owns w' w.heap.size v' xs ∧ Below w.heap.size w w' := by
  obtain ⟨i0, hi, hz0, hz1, hz2⟩ := info_parts Mq.Try.infoM
  obtain ⟨b, off, ao, cap, rfl, hcap, hnil, hao, hcell⟩ := hS
  by_cases hy : xs = []
  · subst hy
    cases ao with
    | none =>
      obtain rfl := hnil rfl
      exact ⟨.slice none 0 0, w, run_append_owned_none (P := Try.prog) (w := w) w.heap.size 79 ty 55 i0 2 Try.underlying79 hi _ _ _ (World.ownsRow_nil _ _ _ _), World.ownsRow_nil _ _ _ _, Below.refl _ _⟩
    | some ad =>
      obtain ⟨v', w', hr, h1, h2, h3⟩ := run_append_own (P := Try.prog) w w.heap.size 79 ty 55 i0 (.agg #[.int .i64 0, .string ByteArray.empty]) 2 24 Try.underlying79 hi hz0 hz1 hz2 rfl (by decide) _ _ _ (World.ownsRow_nil _ _ _ _) ad 0 cap [] rfl (by simp) (by simp) (by simp only [maxLen]; omega) (by simp) (Nat.le_refl _)
      exact ⟨v', w', hr, by simpa [Mq.Owns, Mq.mC] using h1, (Below.refl _ _).grown h2 (Nat.le_refl _) (fun k hk => by simp [Value.ownBlock] at hk)⟩
  · obtain rfl := hao hy
    have hpl : 0 < xs.length := List.length_pos_iff.2 hy
    obtain ⟨g, cap', w', hr, h1, h2, h3, _⟩ := run_append_lies (P := Try.prog) w 79 ty w.heap.size 55 i0 (.agg #[.int .i64 0, .string ByteArray.empty]) 2 24 Try.underlying79 hi hz0 hz1 hz2 rfl (by decide) (.slice none 0 0) 0 [] (World.ownsRow_nil _ _ _ _) ⟨b, off, none⟩ xs.length cap (Mq.mC xs) (Mq.mC_len xs) (mC_at hcell) (Mq.mC_one xs) hpl (by simp only [maxLen]; omega) (by omega) (Nat.le_refl _) _ rfl
    exact ⟨_, w', hr, by simpa [Mq.Owns] using h1, (Below.refl _ _).grown h2 (Nat.le_refl _) (fun k hk => by simp [Value.ownBlock] at hk)⟩
/-- 'append(v, x)', v the call's own. -/
theorem run_oneM (w : World) (ty : TypeId) (base : Nat) (v : Value) (xs : List Msg) (hown : Mq.Owns w base v xs) (b : Nat) (x : Msg) (h0 : w.cell? ⟨b, 0, none⟩ = some (.int .i64 x.1)) (h1 : w.cell? ⟨b, 1, none⟩ = some (.string x.2)) (hb : xs.length ≤ 1000000) (hbase : base ≤ w.heap.size) :
    ∃ v' w', (Builtin.append_ #[79, 79] ty #[v, .slice (some ⟨b, 0, none⟩) 1 1]).run Try.prog w = .ok v' w' ∧ Mq.Owns w' base v' (xs ++ [x]) ∧ Below base w w' := by
  obtain ⟨i0, hi, hz0, hz1, hz2⟩ := info_parts Mq.Try.infoM
  obtain ⟨g, cap', w', hr, h2, h3, _, _⟩ := run_append_lies (P := Try.prog) w 79 ty base 55 i0 (.agg #[.int .i64 0, .string ByteArray.empty]) 2 24 Try.underlying79 hi hz0 hz1 hz2 rfl (by decide) v _ _ hown ⟨b, 0, none⟩ 1 1 (Mq.mC [x]) rfl (mC_at (xs := [x]) (fun j hj => by
    have : j = 0 := by simp at hj; omega
    subst this
    exact ⟨by simpa using h0, by simpa using h1⟩)) (Mq.mC_one _) (by decide) (by simp only [maxLen]; omega) (by omega) hbase _ rfl
  exact ⟨_, w', hr, by simpa [Mq.Owns, Mq.mC_app] using h2, (Below.refl _ _).grown h3 hbase (fun k hk => (hown.lt k hk).1)⟩
end Go.Proofs.Ytahibklmcooanaa
