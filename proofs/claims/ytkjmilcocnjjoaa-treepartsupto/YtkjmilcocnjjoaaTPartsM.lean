/-
  TreeParts: mathematics of what is put, and of its ranges.
-/
import Derived.Test.YtkjmilcocnjjoaaTRangeS
import Derived.Test.YtkjmilcocnjjoaaTPutTS
import Derived.Test.YtkjmilcocnjjoaaTAwakeI
namespace Go.Proofs.Ytkjmilcocnjjoaa.S
open Go.RowKit Go.Shelf Tm
set_option linter.unusedVariables false
attribute [local go_sem] Oper.semAt_some

/-- Each key holds itself. -/
def putAll (ks : List ByteArray) : List It := ks.foldl (fun L k => putL keyLt k k L) []
theorem putAll_snoc (ks : List ByteArray) (k : ByteArray) : putAll (ks ++ [k]) = putL keyLt k k (putAll ks) := by simp [putAll]
theorem put_vals (k : ByteArray) (L : List It) (h : ∀ x ∈ L, x.1 = x.2) : ∀ x ∈ putL keyLt k k L, x.1 = x.2 := by
  induction L with
  | nil => intro x hx; simp [putL] at hx; rw [hx]
  | cons y L ih =>
    intro x hx
    simp only [putL] at hx
    have h1 := ih (fun z hz => h z (List.mem_cons_of_mem _ hz))
    split at hx
    · rcases List.mem_cons.1 hx with rfl | hx
      · exact h _ (List.mem_cons_self ..)
      · exact h1 x hx
    · split at hx
      · rcases List.mem_cons.1 hx with rfl | hx
        · rfl
        · exact h x hx
      · rcases List.mem_cons.1 hx with rfl | hx
        · rfl
        · exact h x (List.mem_cons_of_mem _ hx)
theorem putAll_vals (ks : List ByteArray) : ∀ x ∈ putAll ks, x.1 = x.2 := by
  suffices h : ∀ (ks : List ByteArray) (L : List It), (∀ x ∈ L, x.1 = x.2) → ∀ x ∈ ks.foldl (fun L k => putL keyLt k k L) L, x.1 = x.2 from h ks [] (fun x hx => by cases hx)
  intro ks
  induction ks with
  | nil => intro L h; exact h
  | cons k ks ih => intro L h; exact ih _ (put_vals k L h)
theorem putAll_len (ks : List ByteArray) : (putAll ks).length ≤ ks.length := by
  suffices h : ∀ (ks : List ByteArray) (L : List It), (ks.foldl (fun L k => putL keyLt k k L) L).length ≤ L.length + ks.length by have e := h ks []; simpa [putAll] using e
  intro ks
  induction ks with
  | nil => intro L; simp
  | cons k ks ih =>
    intro L
    have h1 := ih (putL keyLt k k L)
    have h2 := put_len (lt := keyLt) k k L
    simp only [List.foldl_cons, List.length_cons]
    split at h2 <;> omega

theorem range_open {k : ByteArray} {m : Int} {L : List It} (hm : (L.length : Int) ≤ m) : rangeL k ⟨#[]⟩ m L = geL keyLt k L := by
  unfold rangeL
  have e := List.takeWhile_append_of_pos (p := fun x : It => okTo ⟨#[]⟩ x.1) (l₁ := geL keyLt k L) (l₂ := []) (fun x _ => by simp [okTo])
  simp only [List.append_nil, List.takeWhile_nil] at e
  have : (geL keyLt k L).length ≤ L.length := by unfold geL; simp
  rw [e, List.take_of_length_le (by omega)]

theorem ge_cut (a b : ByteArray) (L : List It) (hs : srt keyLt L) (hab : keyLt b a = false) : geL keyLt a L = (geL keyLt a L).takeWhile (fun x => keyLt x.1 b) ++ geL keyLt b L := by
  induction L with
  | nil => rfl
  | cons x L ih =>
    have h1 := (List.pairwise_cons.1 hs)
    simp only [geL, atL]
    by_cases ha : keyLt x.1 a = true
    · have hb : keyLt x.1 b = true := by
        cases hb : keyLt x.1 b with
        | true => rfl
        | false =>
          cases hba : keyLt b x.1 with
          | true => have := totB.tr _ _ _ hba ha; rw [hab] at this; cases this
          | false => have := totB.tri _ _ hb hba; rw [this, hab] at ha; cases ha
      rw [if_pos ha, if_pos hb]
      simp only [List.drop_succ_cons]
      exact ih h1.2
    · rw [if_neg ha]
      have ha2 : keyLt x.1 a = false := by simpa using ha
      have hall : geL keyLt a L = L := ge_all a L (fun y hy => by
        have h2 := h1.1 y hy
        cases h3 : keyLt y.1 a with
        | false => rfl
        | true => have := totB.tr _ _ _ h2 h3; rw [ha2] at this; cases this)
      have e := ih h1.2
      rw [hall] at e
      by_cases hb : keyLt x.1 b = true
      · rw [if_pos hb]
        simp only [List.drop_zero, List.takeWhile_cons, hb, if_true, List.drop_succ_cons, List.cons_append]
        congr 1
      · rw [if_neg hb]
        have hb2 : keyLt x.1 b = false := by simpa using hb
        simp [hb2]

theorem range_cut {a b : ByteArray} {m : Int} {L : List It} (hm : (L.length : Int) ≤ m) (hb : b ≠ ⟨#[]⟩) : rangeL a b m L = (geL keyLt a L).takeWhile (fun x => keyLt x.1 b) := by
  unfold rangeL
  have e : (fun x : It => okTo b x.1) = fun x => keyLt x.1 b := by funext x; simp [okTo, hb]
  rw [e]
  have h1 : (geL keyLt a L).length ≤ L.length := by unfold geL; simp
  have h2 := (List.takeWhile_sublist (fun x : It => keyLt x.1 b) (l := geL keyLt a L)).length_le
  exact List.take_of_length_le (by omega)
theorem range_le {a b : ByteArray} {m : Int} {L : List It} (hm : (L.length : Int) ≤ m) : (rangeL a b m L).length ≤ (geL keyLt a L).length := by
  unfold rangeL
  have h2 := (List.takeWhile_sublist (fun x : It => okTo b x.1) (l := geL keyLt a L)).length_le
  exact Nat.le_trans (by rw [List.length_take]; exact Nat.min_le_right _ _) h2

set_option maxHeartbeats 2000000 in
theorem range_zero {w : World} {q o d : Nat} {t : LT d} {L : List It} (h : TrA w q o d t L) (k tt : ByteArray) (m : Int) (hm : m ≤ 0) :
    Calls Try.prog 23 #[.pointer (some ⟨q, 0, none⟩), .string k, .string tt, .int .i64 m] w fun e w' =>
      ∃ v, e = .returned v ∧ w'.ownsRow w.heap.size 57 2 v (rangeL k tt m L).length (itC encS (rangeL k tt m L)) ∧ Below w.heap.size w w' := by
  have hb : Below w.heap.size w ((w.alloc (.cells #[.string tt] 9)).alloc (.cells #[.int .i64 m] 3)) := ((Below.refl _ w).alloc (Nat.le_refl _) _).alloc (by simp) _
  have hg := given_yes q _ (h.below hb).cells.1
  have hr : rangeL k tt m L = [] := by unfold rangeL; rw [show m.toNat = 0 by omega]; simp
  rw [hr]
  have HB := hid hb
  clear hb h hr
  refine (callsIn_wide (n := 3)).1 ?_
  refine callsIn_of_wp_marks Try.func23 rfl trivial ?_ rfl
  simp only [Try.ntmps23, List.size_toArray, List.length_cons, List.length_nil, Nat.reduceAdd, Nat.reduceSub, Array.replicate_succ, Array.replicate_zero, List.push_toArray, List.append_toArray, List.nil_append, List.cons_append]
  have hcm : ((w.alloc (.cells #[.string tt] 9)).alloc (.cells #[.int .i64 m] 3)).cell? ⟨w.heap.size + 1, 0, none⟩ = some (.int .i64 m) := by
    have := Boxed.new (w.alloc (.cells #[.string tt] 9)) 3 (.int .i64 m)
    rw [World.size_alloc] at this
    exact this.cell
  gi_wp2
  refine ⟨trivial, ?_⟩
  refine (callsIn_wide.2 hg).mono ?_
  rintro e w' ⟨rfl, hw⟩
  subst hw
  gi_wp2
  exact ⟨_, results_tmp rfl _ _ _, _, rfl, World.ownsRow_nil _ _ _ _, HB.out⟩

theorem range_tot {w : World} {q o d : Nat} {t : LT d} {L : List It} (h : TrA w q o d t L) (ho : 2 ≤ o) (ho2 : o ≤ 64) (hL : L.length ≤ 1099511627776) (k tt : ByteArray) (m : Int) :
    Calls Try.prog 23 #[.pointer (some ⟨q, 0, none⟩), .string k, .string tt, .int .i64 m] w fun e w' =>
      ∃ v, e = .returned v ∧ w'.ownsRow w.heap.size 57 2 v (rangeL k tt m L).length (itC encS (rangeL k tt m L)) ∧ Below w.heap.size w w' := by
  by_cases hm : 0 < m
  · exact range_any h ho ho2 hL k tt m hm
  · exact range_zero h k tt m (by omega)

end Go.Proofs.Ytkjmilcocnjjoaa.S
