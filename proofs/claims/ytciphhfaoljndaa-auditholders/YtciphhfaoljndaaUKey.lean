/-
  Keys of two numbers; what the maps of Check, Holders and Chain tell.
-/
import Derived.Test.YtciphhfaoljndaaUBase
import Derived.Maps.OwnSet
import Derived.DeepKeys4
namespace Go.Proofs.Ytciphhfaoljndaa
open Go.RowKit Go.Maps Go.ChangeMaps
set_option linter.unusedVariables false
set_option linter.unusedSimpArgs false

theorem uLaid : laidOutB Try.prog = true := by kernel_rfl
theorem rowH : (52 : TypeId) < Try.prog.types.size := of_decide_eq_true (by kernel_rfl)
theorem wideH : (match Try.prog.underlying 52 with | some (.array _ _) | some (.struct _) => true | _ => false) = true := by rw [Try.underlying52]
theorem keyH : Keyed Try.prog 52 := Keyed.of_law (deep_law_laid uLaid (m := 2) (by omega) rowH (by kernel_rfl) wideH)
def klH (a b : Int) : Lit := .string (keyBytes [.int .i64 a, .int .i64 b])
theorem wf64 {x : Int} (h : In64 x) : (Lit.int .i64 x).wf = true := by
  unfold In64 at h
  simp only [Lit.wf, Bool.and_eq_true, decide_eq_true_eq]
  exact ⟨by rw [show IntKind.i64.min = -9223372036854775808 from rfl]; omega, by rw [show IntKind.i64.max = 9223372036854775807 from rfl]; omega⟩
theorem cellsH : Try.prog.cellsOf 52 = 2 := by kernel_rfl
theorem formedH {a b : Value} : (Value.agg #[a, b]).formed Try.prog 52 = true := by simp [Value.formed, Try.underlying52, cellsH]
theorem deepH : Try.prog.keyType 52 = true := by kernel_rfl
theorem litsH (a b : Int) (ha : In64 a) (hb : In64 b) : Try.prog.keyLits (Try.prog.types.size + 1) 52 [.int .i64 a, .int .i64 b] = some [.int .i64 a, .int .i64 b] := by
  obtain ⟨m, hm⟩ : ∃ m, Try.prog.types.size + 1 = m + 2 := ⟨Try.prog.types.size - 1, by have h : 52 < Try.prog.types.size := rowH; omega⟩
  have c3 : Try.prog.cellsOf 3 = 1 := by kernel_rfl
  rw [hm]
  simp [Program.keyLits, Try.underlying52, Try.underlying3, cellsH, c3, wf64 ha, wf64 hb]
theorem keyH_mk (a b : Int) (ha : In64 a) (hb : In64 b) : keyOf Try.prog 52 (.agg #[.int .i64 a, .int .i64 b]) = some (klH a b) := by
  unfold keyOf
  rw [Try.underlying52]
  simp only [deepH, formedH, Bool.and_self, if_true]
  show (Program.keyLits Try.prog (Try.prog.types.size + 1) 52 [.int .i64 a, .int .i64 b]).map _ = _
  rw [litsH a b ha hb]
  rfl
theorem klH_inj {a b c d : Int} (ha : In64 a) (hb : In64 b) (hc : In64 c) (hd : In64 d) (h : klH a b = klH c d) : a = c ∧ b = d := by
  have h1 := keyH_mk a b ha hb
  have h2 := keyH_mk c d hc hd
  rw [← h] at h2
  have := keyH.inj h1 h2
  simpa using this
theorem klH_key (a b : Int) : WideAt.IsKeyLit (klH a b) := by unfold klH; trivial
theorem zeroU (w : World) : (zeroValue 38).run Try.prog w = .ok (.agg #[]) w := by kernel_rfl
theorem keyI : Keyed Try.prog 3 := int_keyed Try.underlying3
theorem keyI_mk (a : Int) (ha : In64 a) : keyOf Try.prog 3 (.int .i64 a) = some (.int .i64 a) := keyOf_int_mk Try.underlying3 (wf64 ha)
theorem intKey (a : Int) : WideAt.IsKeyLit (.int .i64 a) := trivial

/-- The map of Check: who was given what by the first k. -/
def GotD (D : DataW Unit) (gs : List GrL) (k : Nat) : Prop := ∀ a b, In64 a → In64 b → Maps.has D (klH a b) = gotB gs a b k
theorem GotD.start (gs : List GrL) : GotD (.map []) gs 0 := fun a b _ _ => rfl
theorem GotD.put {D : DataW Unit} {gs : List GrL} {k : Nat} (h : GotD D gs k) (hD : IsMap D) (hI : InG gs) (hk : k < gs.length) : GotD (D.put (klH gs[k].2.2.1 gs[k].2.2.2) (.agg [])) gs (k + 1) := by
  intro a b ha hb
  rw [gotB_succ hk, ← h a b ha hb]
  obtain ⟨_, _, i1, i2⟩ := hI gs[k] (List.getElem_mem hk)
  by_cases e : klH a b = klH gs[k].2.2.1 gs[k].2.2.2
  · obtain ⟨rfl, rfl⟩ := klH_inj ha hb i1 i2 e
    rw [Maps.has_put_same hD (klH_key _ _)]
    simp [toB]
  · rw [Maps.has_put_other e]
    have hn : toB a b gs[k] = false := by
      unfold toB
      rw [decide_eq_false_iff_not]
      rintro ⟨h1, h2⟩
      exact e (by rw [h1, h2])
    rw [hn, Bool.or_false]
/-- The map of Holders: to whom, of the first k. -/
def HolD (D : DataW Unit) (l : List Int) : Prop := ∀ a, Maps.has D (.int .i64 a) = decide (a ∈ l)
theorem HolD.start : HolD (.map []) [] := fun a => rfl
theorem HolD.put {D : DataW Unit} {l : List Int} (h : HolD D l) (hD : IsMap D) (x : Int) : HolD (D.put (.int .i64 x) (.agg [])) (l ++ [x]) := by
  intro a
  by_cases e : a = x
  · subst e
    rw [Maps.has_put_same hD (intKey _)]
    simp
  · rw [Maps.has_put_other (by simpa using e), h a]
    simp [e]
/-- The map of Chain: the first one of the first k to whom. -/
def FstD (D : DataW Unit) (gs : List GrL) (cat : Int) (k : Nat) : Prop := ∀ a z, Maps.has D (.int .i64 a) = (fstG (gs.take k) a cat).isSome ∧ D.atKey (.int .i64 a) z = (match fstG (gs.take k) a cat with | some i => .lit (.int .i64 (i : Int)) | none => z)
theorem FstD.start (gs : List GrL) (cat : Int) : FstD (.map []) gs cat 0 := fun a z => ⟨rfl, rfl⟩
theorem fst_succ {gs : List GrL} {cat : Int} {k : Nat} (hk : k < gs.length) (a : Int) : fstG (gs.take (k + 1)) a cat = (fstG (gs.take k) a cat).or (if toB a cat gs[k] = true then some k else none) := by
  unfold fstG
  rw [List.take_succ_eq_append_getElem hk, List.findIdx?_append]
  congr 1
  rw [List.findIdx?_cons, List.length_take, Nat.min_eq_left (by omega)]
  cases toB a cat gs[k] <;> simp
theorem FstD.skip {D : DataW Unit} {gs : List GrL} {cat : Int} {k : Nat} (h : FstD D gs cat k) (hk : k < gs.length) (hn : gs[k].2.2.2 ≠ cat ∨ Maps.has D (.int .i64 gs[k].2.2.1) = true) : FstD D gs cat (k + 1) := by
  intro a z
  have e : fstG (gs.take (k + 1)) a cat = fstG (gs.take k) a cat := by
    rw [fst_succ hk]
    by_cases hb : toB a cat gs[k] = true
    · unfold toB at hb
      rw [decide_eq_true_eq] at hb
      rcases hn with hn | hn
      · exact absurd hb.2 hn
      · rw [hb.1, (h a z).1] at hn
        obtain ⟨i, hi⟩ := Option.isSome_iff_exists.1 hn
        rw [hi]
        rfl
    · rw [if_neg hb, Option.or_none]
  rw [e]
  exact h a z
theorem FstD.put {D : DataW Unit} {gs : List GrL} {cat : Int} {k : Nat} (h : FstD D gs cat k) (hD : IsMap D) (hk : k < gs.length) (hc : gs[k].2.2.2 = cat) (hn : Maps.has D (.int .i64 gs[k].2.2.1) = false) : FstD (D.put (.int .i64 gs[k].2.2.1) (.lit (.int .i64 (k : Int)))) gs cat (k + 1) := by
  intro a z
  rw [fst_succ hk]
  by_cases e : a = gs[k].2.2.1
  · subst e
    rw [Maps.has_put_same hD (intKey _), Maps.atKey_put_same hD (intKey _)]
    have hz := (h gs[k].2.2.1 z).1
    rw [hn] at hz
    have hz2 : fstG (gs.take k) gs[k].2.2.1 cat = none := by
      cases hf : fstG (gs.take k) gs[k].2.2.1 cat with
      | none => rfl
      | some i => rw [hf] at hz; cases hz
    rw [hz2, if_pos (by unfold toB; simp [hc])]
    exact ⟨rfl, rfl⟩
  · rw [Maps.has_put_other (by simpa using e), Maps.atKey_put_other (by simpa using e)]
    rw [if_neg (by unfold toB; rw [decide_eq_true_eq]; rintro ⟨h1, _⟩; exact e h1.symm), Option.or_none]
    exact h a z
end Go.Proofs.Ytciphhfaoljndaa
