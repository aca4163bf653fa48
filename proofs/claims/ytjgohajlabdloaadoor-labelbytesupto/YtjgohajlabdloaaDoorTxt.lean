/-
  A set's text and a label's, and that they are read as what they are of.
-/
import Derived.Test.YtjgohajlabdloaaDoorLabP
import Derived.Lib.ItoaNum
namespace Go.Proofs.YtjgohajlabdloaaDoor
open Go.RowKit
set_option linter.unusedVariables false

/-- A set's text. -/
def commasL : List Int → List UInt8
  | [] => []
  | [x] => Lib.itoa x
  | x :: y :: r => Lib.itoa x ++ 44 :: commasL (y :: r)

theorem commasL_cons (x : Int) {r : List Int} (h : r ≠ []) : commasL (x :: r) = Lib.itoa x ++ 44 :: commasL r := by
  cases r with
  | nil => exact absurd rfl h
  | cons y r => rfl

theorem commasL_snoc (x : Int) : ∀ (xs : List Int), xs ≠ [] → commasL (xs ++ [x]) = commasL xs ++ 44 :: Lib.itoa x
  | [], h => absurd rfl h
  | [y], _ => rfl
  | y :: z :: r, _ => by
    have := commasL_snoc x (z :: r) (by simp)
    rw [List.cons_append, commasL_cons y (by simp), this, commasL_cons y (r := z :: r) (by simp)]
    simp

theorem ofNat_toNat (n : Nat) (h : n < 256) : (UInt8.ofNat n).toNat = n := by
  rw [UInt8.toNat_ofNat']
  exact Nat.mod_eq_of_lt h

theorem decDigits_mem : ∀ (u : Nat), ∀ b ∈ Lib.decDigits u, 48 ≤ b.toNat ∧ b.toNat ≤ 57 := by
  intro u
  induction u using Nat.strongRecOn with
  | _ u ih =>
    intro b hb
    by_cases h : u < 10
    · rw [Lib.decDigits, dif_pos h] at hb
      simp only [List.mem_singleton] at hb
      rw [hb, ofNat_toNat _ (by omega)]
      omega
    · rw [Lib.decDigits, dif_neg h] at hb
      rcases List.mem_append.1 hb with hb | hb
      · exact ih (u / 10) (by omega) b hb
      · simp only [List.mem_singleton] at hb
        rw [hb, ofNat_toNat _ (by omega)]
        omega

theorem catRun_app : ∀ (a b : List UInt8) (m : Int), catRun m (a ++ b) = (catRun m a).bind fun k => catRun k b
  | [], b, m => rfl
  | c :: a, b, m => by
    simp only [List.cons_append, catRun]
    cases catStep m c with
    | none => rfl
    | some k => exact catRun_app a b k

theorem catStep_digit (m : Int) (d : Nat) (hd : d < 10) (h1 : m * 10 + d ≤ 2147483647) (h2 : m * 10 + d ≠ 0) : catStep m (UInt8.ofNat (48 + d)) = some (m * 10 + d) := by
  have e : ((UInt8.ofNat (48 + d)).toNat : Int) - 48 = d := by
    rw [ofNat_toNat _ (by omega)]
    omega
  rw [catStep, e, if_neg (by omega)]

theorem catRun_dec : ∀ (u : Nat), 1 ≤ u → u ≤ 2147483647 → catRun 0 (Lib.decDigits u) = some (u : Int) := by
  intro u
  induction u using Nat.strongRecOn with
  | _ u ih =>
    intro h1 h2
    by_cases h : u < 10
    · rw [Lib.decDigits, dif_pos h]
      simp only [catRun]
      rw [catStep_digit 0 u h (by omega) (by omega)]
      simp
    · rw [Lib.decDigits, dif_neg h, catRun_app, ih (u / 10) (by omega) (by omega) (by omega)]
      simp only [Option.bind_some, catRun]
      rw [catStep_digit _ _ (by omega) (by omega) (by omega)]
      simp only [Option.bind_some, Option.some.injEq]
      omega

theorem itoa_pos {x : Int} (h : 1 ≤ x) : Lib.itoa x = Lib.decDigits x.toNat := by rw [Lib.itoa, if_neg (by omega)]
theorem catV_itoa {x : Int} (h1 : 1 ≤ x) (h2 : x ≤ 2147483647) : catV (Lib.itoa x) = x := by
  rw [itoa_pos h1, catV, catRun_dec _ (by omega) (by omega)]
  simp
  omega
theorem itoa_mem {x : Int} (h1 : 1 ≤ x) : ∀ b ∈ Lib.itoa x, 48 ≤ b.toNat ∧ b.toNat ≤ 57 := by
  rw [itoa_pos h1]
  exact decDigits_mem _
theorem itoa_ne {x : Int} (h1 : 1 ≤ x) : Lib.itoa x ≠ [] := by
  rw [itoa_pos h1]
  intro h
  have := Lib.nDigits_pos x.toNat
  rw [← Lib.decDigits_length, h] at this
  simp at this

theorem indexByte_none : ∀ (a : List UInt8) (c : UInt8), c ∉ a → Lib.indexByte a c = -1
  | [], c, _ => rfl
  | b :: a, c, h => by
    have h1 : (b == c) = false := by simp only [List.mem_cons, not_or] at h; simpa using fun e => h.1 e.symm
    have h2 := indexByte_none a c (fun hm => h (List.mem_cons_of_mem _ hm))
    rw [Lib.indexByte, h1, h2]
    rfl
theorem indexByte_at : ∀ (a b : List UInt8) (c : UInt8), c ∉ a → Lib.indexByte (a ++ c :: b) c = a.length
  | [], b, c, _ => by simp [Lib.indexByte]
  | x :: a, b, c, h => by
    have h1 : (x == c) = false := by simp only [List.mem_cons, not_or] at h; simpa using fun e => h.1 e.symm
    have h2 := indexByte_at a b c (fun hm => h (List.mem_cons_of_mem _ hm))
    rw [List.cons_append, Lib.indexByte, h1, h2]
    simp
theorem cutL_none {a : List UInt8} {c : UInt8} (h : c ∉ a) : cutL a c = (a, [], false) := by
  rw [cutL, indexByte_none a c h]
  rfl
theorem cutL_at {a : List UInt8} (b : List UInt8) {c : UInt8} (h : c ∉ a) : cutL (a ++ c :: b) c = (a, b, true) := by
  rw [cutL, indexByte_at a b c h, if_pos (by omega)]
  simp

theorem okB_take {a b : List Int} (h : okB (a ++ b) = true) : okB a = true := by
  rw [okB_iff] at h ⊢
  obtain ⟨h1, h2, h3⟩ := h
  simp at h1
  exact ⟨by omega, (List.pairwise_append.1 h2).1, fun x hx => h3 x (List.mem_append_left _ hx)⟩

theorem comma_not {x : Int} (h1 : 1 ≤ x) : (44 : UInt8) ∉ Lib.itoa x := by
  intro h
  have := itoa_mem h1 44 h
  simp at this

theorem commasL_len : ∀ (r : List Int), r.length ≤ (commasL r).length + 1
  | [] => by simp
  | [x] => by simp
  | x :: y :: r => by
    have := commasL_len (y :: r)
    rw [commasL_cons x (by simp)]
    simp at this ⊢
    omega

theorem runL_commas : ∀ (r : List Int) (f : Nat) (out : List Int), r ≠ [] → r.length ≤ f → okB (out ++ r) = true → runL f out (commasL r) = (out ++ r, true)
  | [], _, _, h, _, _ => absurd rfl h
  | x :: r, 0, _, _, h, _ => by simp at h
  | x :: r, f + 1, out, _, hf, hok => by
    have hx : 1 ≤ x ∧ x ≤ 2147483647 := (okB_iff.1 hok).2.2 x (by simp)
    have hok1 : okB (out ++ [x]) = true := okB_take (b := r) (by simpa using hok)
    by_cases hr : r = []
    · subst hr
      rw [runL, show commasL [x] = Lib.itoa x from rfl, cutL_none (comma_not hx.1)]
      simp only
      rw [catV_itoa hx.1 hx.2, hok1]
      have : decide (0 < x) = true := by simp; omega
      rw [this]
      simp
    · rw [runL, commasL_cons x hr, cutL_at _ (comma_not hx.1)]
      simp only
      rw [catV_itoa hx.1 hx.2, hok1]
      have : decide (0 < x) = true := by simp; omega
      rw [this]
      simp only [Bool.and_self, if_true]
      rw [runL_commas r f (out ++ [x]) hr (by simp at hf; omega) (by simpa using hok)]
      simp

theorem commasL_ne {r : List Int} (hr : r ≠ []) (h : ∀ x ∈ r, 1 ≤ x) : commasL r ≠ [] := by
  cases r with
  | nil => exact absurd rfl hr
  | cons x r =>
    by_cases h2 : r = []
    · subst h2
      exact itoa_ne (h x (by simp))
    · rw [commasL_cons x h2]
      simp

theorem listedL_commas {r : List Int} (hok : okB r = true) : listedL (commasL r) = (r, true) := by
  by_cases hr : r = []
  · subst hr
    rfl
  · rw [listedL, if_neg (commasL_ne hr (fun x hx => ((okB_iff.1 hok).2.2 x hx).1)), runL_commas r _ [] hr (by have := commasL_len r; omega) (by simpa using hok)]
    rfl

theorem commasL_mem : ∀ (r : List Int), (∀ x ∈ r, 1 ≤ x) → ∀ b ∈ commasL r, b = 44 ∨ (48 ≤ b.toNat ∧ b.toNat ≤ 57)
  | [], _, b, hb => by simp [commasL] at hb
  | [x], h, b, hb => Or.inr (itoa_mem (h x (by simp)) b hb)
  | x :: y :: r, h, b, hb => by
    rw [commasL_cons x (by simp)] at hb
    rcases List.mem_append.1 hb with hb | hb
    · exact Or.inr (itoa_mem (h x (by simp)) b hb)
    · rcases List.mem_cons.1 hb with hb | hb
      · exact Or.inl hb
      · exact commasL_mem (y :: r) (fun z hz => h z (List.mem_cons_of_mem _ hz)) b hb

/-- A label's text. -/
def printL (s i : List Int) : List UInt8 := 123 :: (commasL s ++ 124 :: (commasL i ++ [125]))

theorem hasSuffix_snoc (a : List UInt8) (c : UInt8) : Lib.hasSuffix (a ++ [c]) [c] = true := by
  rw [Lib.hasSuffix, List.isSuffixOf_iff_suffix]
  exact List.suffix_append _ _

theorem trimSuffix_snoc (a : List UInt8) (c : UInt8) : Lib.trimSuffix (a ++ [c]) [c] = a := by
  rw [Lib.trimSuffix, hasSuffix_snoc, if_pos rfl]
  simp only [List.length_append, List.length_singleton, Nat.add_sub_cancel]
  exact List.take_left

theorem parseL_print {s i : List Int} (h1 : okB s = true) (h2 : okB i = true) : parseL (printL s i) = some (s, i) := by
  have hp : Lib.hasPrefix (printL s i) [123] = true := by simp [Lib.hasPrefix, printL]
  have e1 : Lib.trimPrefix (printL s i) [123] = (commasL s ++ 124 :: commasL i) ++ [125] := by
    rw [Lib.trimPrefix, hp]
    simp [printL]
  have hs : Lib.hasSuffix ((commasL s ++ 124 :: commasL i) ++ [125]) [125] = true := hasSuffix_snoc _ _
  have e2 : Lib.trimSuffix ((commasL s ++ 124 :: commasL i) ++ [125]) [125] = commasL s ++ 124 :: commasL i := by
    exact trimSuffix_snoc _ _
  have hc : cutL (commasL s ++ 124 :: commasL i) 124 = (commasL s, commasL i, true) := by
    refine cutL_at _ ?_
    intro h
    have := commasL_mem s (fun x hx => ((okB_iff.1 h1).2.2 x hx).1) 124 h
    simp at this
  rw [parseL]
  simp only [e1, e2, hc, hp, hs, listedL_commas h1, listedL_commas h2]
  simp

end Go.Proofs.YtjgohajlabdloaaDoor
