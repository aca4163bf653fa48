/-
  A text in its pieces; the words of a field.
-/
import Derived.Test.YtllhibdjopfcnaaGreatDoorHBodyC
import Derived.Test.YtllhibdjopfcnaaGreatDoorRFormA
namespace Go.Proofs.YtllhibdjopfcnaaGreatDoor
open Go.RowKit
set_option linter.unusedVariables false

theorem split_list (c : UInt8) : ∀ l : List UInt8, Lib.splitB ⟨#[c]⟩ 0 (Lib.count l [c]) ⟨l.toArray⟩ = (splitC c l).map fun x => (⟨x.toArray⟩ : ByteArray)
  | [] => by
    rw [Lib.count_miss (by simp [Lib.index])]
    rfl
  | b :: l => by
    have ih := split_list c l
    have hex : ∀ k, (⟨(b :: l).toArray⟩ : ByteArray).extract (k + 1) (⟨(b :: l).toArray⟩ : ByteArray).size = ⟨(l.drop k).toArray⟩ := by
      intro k
      rw [size_list, extract_from _ _ _ rfl]
      rfl
    have hix2 : ∀ s : List UInt8, Lib.indexB ⟨s.toArray⟩ ⟨#[c]⟩ = Lib.index s [c] := fun s => rfl
    by_cases h : b = c
    · subst h
      have hix : Lib.index (b :: l) [b] = ((0 : Nat) : Int) := by rw [Lib.index]; simp [List.isPrefixOf]
      rw [Lib.count_cons_eq, Nat.add_comm, Lib.splitB_hit _ _ _ _ 0 (by rw [hix2, hix]), show 0 + (⟨#[b]⟩ : ByteArray).size = 0 + 1 from rfl, hex 0, List.drop_zero, ih]
      simp [splitC]
      rfl
    · rw [Lib.count_cons_ne b c l h]
      have hp : ([c] : List UInt8).isPrefixOf (b :: l) = false := by simp [List.isPrefixOf, Ne.symm h]
      have hix : Lib.index (b :: l) [c] = if Lib.index l [c] == -1 then -1 else Lib.index l [c] + 1 := by rw [Lib.index, hp]; simp
      have hsc : splitC c (b :: l) = (b :: (splitC c l).headD []) :: (splitC c l).tail := by rw [splitC, if_neg h]
      by_cases hm : Lib.index l [c] = -1
      · rw [Lib.splitB_miss _ _ _ _ (by rw [hix2, hix, if_pos (beq_iff_eq.2 hm)])]
        rw [Lib.splitB_miss _ _ _ _ (by rw [hix2, hm])] at ih
        cases hs : splitC c l with
        | nil => exact absurd hs (splitC_ne c l)
        | cons x t =>
          rw [hs] at ih
          simp only [List.map_cons, List.cons.injEq] at ih
          obtain ⟨e1, e2⟩ := ih
          have e1' : l = x := by have := congrArg (fun x : ByteArray => x.data.toList) e1; simpa using this
          have e2' : t = [] := by simpa using e2.symm
          rw [hsc, hs, e2', ← e1']
          rfl
      · have hge := Lib.index_ge l [c]
        obtain ⟨j, hj⟩ : ∃ j : Nat, Lib.index l [c] = j := ⟨(Lib.index l [c]).toNat, by omega⟩
        have hix' : Lib.index (b :: l) [c] = ((j + 1 : Nat) : Int) := by rw [hix, if_neg (fun e => hm (beq_iff_eq.1 e)), hj]; omega
        have hct := Lib.count_hit (s := l) (sub := [c]) (by simp) hj
        obtain ⟨k, hk⟩ : ∃ k, Lib.count l [c] = k + 1 := ⟨_, by rw [hct, Nat.add_comm]⟩
        rw [hk] at ih ⊢
        rw [Lib.splitB_hit _ _ _ _ (j + 1) (by rw [hix2, hix']), show j + 1 + (⟨#[c]⟩ : ByteArray).size = (j + 1) + 1 from rfl, hex (j + 1)]
        rw [Lib.splitB_hit _ _ _ _ j (by rw [hix2, hj]), show j + (⟨#[c]⟩ : ByteArray).size = j + 1 from rfl, size_list, extract_from _ _ _ rfl] at ih
        cases hs : splitC c l with
        | nil => exact absurd hs (splitC_ne c l)
        | cons x t =>
          rw [hs] at ih
          simp only [List.map_cons, List.cons.injEq] at ih
          obtain ⟨e1, e2⟩ := ih
          rw [extract_take] at e1
          have e1' : l.take j = x := by have := congrArg (fun x : ByteArray => x.data.toList) e1; simpa using this
          rw [hsc, hs, e2, extract_take]
          simp [← e1']
theorem splitC_len_le (c : UInt8) : ∀ (l : List UInt8), ∀ x ∈ splitC c l, x.length ≤ l.length
  | [], x, h => by simp [splitC] at h; subst h; simp
  | b :: r, x, h => by
    have ih := splitC_len_le c r
    have hne := splitC_ne c r
    rw [splitC] at h
    split at h
    · rcases List.mem_cons.1 h with rfl | h
      · simp
      · have := ih x h; simp; omega
    · cases hs : splitC c r with
      | nil => exact absurd hs hne
      | cons y t =>
        rw [hs] at h ih
        simp only [List.headD_cons, List.tail_cons] at h
        rcases List.mem_cons.1 h with rfl | h
        · have := ih y (by simp); simp; omega
        · have := ih x (by simp [h]); simp; omega
theorem splitC_few (c : UInt8) : ∀ (l : List UInt8), (splitC c l).length ≤ l.length + 1
  | [] => by simp [splitC]
  | b :: r => by
    have ih := splitC_few c r
    have hne := splitC_ne c r
    rw [splitC]
    split
    · simp; omega
    · cases hs : splitC c r with
      | nil => exact absurd hs hne
      | cons y t => rw [hs] at ih; simp at ih ⊢; omega
/-- A word, as it counts. -/
def wdB (w : List UInt8) : List UInt8 := small (trimB w)
theorem wordsL_take {vs : List (List UInt8)} {k : Nat} (h : k < vs.length) : wordsL (vs.take (k + 1)) = wordsL (vs.take k) ++ (splitC 44 vs[k]).map wdB := by
  unfold wordsL
  rw [List.take_succ_eq_append_getElem h, List.flatMap_append]
  simp [wdB]
theorem wordsL_more {vs : List (List UInt8)} {k : Nat} (h : k < vs.length) : ∃ r, wordsL vs = wordsL (vs.take k) ++ (splitC 44 vs[k]).map wdB ++ r := by
  refine ⟨wordsL (vs.drop (k + 1)), ?_⟩
  rw [← wordsL_take h]
  unfold wordsL
  rw [← List.flatMap_append, List.take_append_drop]
theorem closesL_F (h : HeadL) : closesL h = ((wordsL (valsF h.2.2.2 cnS)).contains closeS || (decide (h.2.2.1 = 0) && !(wordsL (valsF h.2.2.2 cnS)).contains keepS)) := by
  unfold closesL
  rw [valsL_F, show small cnS = cnS by decide]
theorem map_take_next {l : List (List UInt8)} {j : Nat} (h : j < l.length) : (l.take (j + 1)).map wdB = (l.take j).map wdB ++ [wdB l[j]] := by
  rw [List.take_succ_eq_append_getElem h, List.map_append]
  rfl
theorem map_hit {l : List (List UInt8)} {j : Nat} (h : j < l.length) : wdB l[j] ∈ l.map wdB := List.mem_map.2 ⟨_, List.getElem_mem _, rfl⟩
end Go.Proofs.YtllhibdjopfcnaaGreatDoor
