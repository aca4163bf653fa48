/-
  What is laid into a memory, said at once.
-/
import Derived.Test.YtkaffbchlngfaaaDoorEOwn
namespace Go.Proofs.YtkaffbchlngfaaaDoor
open Go.RowKit
set_option linter.unusedVariables false
set_option linter.unusedSimpArgs false

theorem bN_eq (b s : List Nat) (a n : Nat) (hs : n ≤ s.length) (h : a + n ≤ b.length) : bN b a s n = b.take a ++ s.take n ++ b.drop (a + n) := by
  induction n with
  | zero => simp [bN]
  | succ k ih =>
    unfold bN
    rw [ih (by omega) (by omega)]
    have hl : (b.take a ++ s.take k).length = a + k := by simp; omega
    rw [List.set_append_right _ _ (by omega), hl, Nat.sub_self, List.drop_eq_getElem_cons (show a + k < b.length by omega), List.set_cons_zero]
    have hg : s.getD k 0 = s[k]'(by omega) := by simp [List.getD, show k < s.length by omega]
    rw [hg, List.take_succ_eq_append_getElem (show k < s.length by omega)]
    simp only [List.append_assoc, List.cons_append, List.nil_append, Nat.add_assoc]
theorem rep_get (j : Nat) : (List.replicate 16 false).getD j false = false := by
  rw [List.getD_eq_getElem?_getD, List.getElem?_replicate]
  split <;> rfl
theorem getD_set_self {l : List Bool} {j : Nat} (h : j < l.length) : (l.set j true).getD j false = true := by simp [List.getD, h]
theorem getD_set_far {l : List Bool} {i j : Nat} (h : i ≠ j) : (l.set i true).getD j false = l.getD j false := by simp [List.getD, List.getElem?_set_ne h]
theorem oN_len (ow : List Bool) (a n : Nat) : (oN ow a n).length = ow.length := by
  induction n with
  | zero => rfl
  | succ k ih => unfold oN; rw [List.length_set]; exact ih
theorem oN_get (a n j : Nat) (h : a + n ≤ 4096) (hj : j < 16) : (oN (List.replicate 16 false) a n).getD j false = decide (0 < n ∧ a / 256 ≤ j ∧ j ≤ (a + n - 1) / 256) := by
  induction n with
  | zero => rw [show oN (List.replicate 16 false) a 0 = List.replicate 16 false from rfl, rep_get, decide_eq_false (by omega)]
  | succ k ih =>
    have ih := ih (by omega)
    unfold oN
    have hl : (oN (List.replicate 16 false) a k).length = 16 := by rw [oN_len]; simp
    by_cases e : (a + k) / 256 = j
    · have e1 := getD_set_self (l := oN (List.replicate 16 false) a k) (j := j) (by omega)
      rw [e]
      rw [e1, decide_eq_true (by omega)]
    · have e1 := getD_set_far (l := oN (List.replicate 16 false) a k) e
      rw [e1, ih]
      apply decide_eq_decide.2
      omega
theorem oIdx_eq (ow : List Bool) (f g k : Nat) (hfg : f ≤ g) (h : ∀ j, j < k → ow.getD j false = decide (f ≤ j ∧ j ≤ g)) : oIdx ow k = (List.range' f (min k (g + 1) - f)).map (fun x => ((x : Nat) : Int)) := by
  induction k with
  | zero => simp [oIdx]
  | succ k ih =>
    have ih := ih (fun j hj => h j (by omega))
    unfold oIdx
    rw [h k (by omega), ih]
    by_cases e : f ≤ k ∧ k ≤ g
    · rw [if_pos (by simpa using e), show min (k + 1) (g + 1) - f = (min k (g + 1) - f) + 1 by omega, List.range'_concat]
      simp
      omega
    · rw [if_neg (by simpa using e), show min (k + 1) (g + 1) - f = min k (g + 1) - f by omega]
theorem oIdx_none (k : Nat) (ow : List Bool) (h : ∀ j, j < k → ow.getD j false = false) : oIdx ow k = [] := by
  induction k with
  | zero => rfl
  | succ k ih =>
    unfold oIdx
    rw [h k (by omega), if_neg (by simp)]
    exact ih (fun j hj => h j (by omega))
theorem strOf_inj {a b : ByteArray} (h : bytesOf a = bytesOf b) : a = b := by rw [← strOf_bytesOf a, ← strOf_bytesOf b, h]
theorem bytesOf_take (s : ByteArray) (n : Nat) (h : n ≤ s.size) : bytesOf (s.extract 0 n) = (bytesOf s).take n := by
  unfold bytesOf
  rw [← List.map_take]
  congr 1
  rw [ByteArray.data_extract]
  simp
theorem imgL_small (t : ByteArray) : ∀ x ∈ imgL t, x < 256 := by
  intro x hx
  unfold imgL at hx
  rcases List.mem_append.1 hx with h1 | h1
  · exact bytesOf_lt t x h1
  · have h2 := (List.mem_replicate.1 h1).2
    omega
theorem now_eq (t s : ByteArray) (ht : t.size ≤ 4096) (a : Nat) (h : a + s.size ≤ 4096) :
    strOf (((bN (imgL t) a (bytesOf s) s.size).drop 0).take 4096) = (strOf (((imgL t).drop 0).take 4096)).extract 0 a ++ s ++ (strOf (((imgL t).drop 0).take 4096)).extract (a + s.size) 4096 := by
  have hl := imgL_len t ht
  have hb := bytesOf_len s
  have hW : bytesOf (strOf (((imgL t).drop 0).take 4096)) = imgL t := by
    rw [List.drop_zero, List.take_of_length_le (by omega), bytesOf_strOf (imgL_small t)]
  have hWs : (strOf (((imgL t).drop 0).take 4096)).size = 4096 := by rw [← bytesOf_len, hW, hl]
  generalize strOf (((imgL t).drop 0).take 4096) = W at *
  have hN : (bN (imgL t) a (bytesOf s) s.size) = (imgL t).take a ++ bytesOf s ++ (imgL t).drop (a + s.size) := by
    rw [bN_eq _ _ _ _ (by omega) (by omega), show (bytesOf s).take s.size = bytesOf s from List.take_of_length_le (by omega)]
  have hNl : (bN (imgL t) a (bytesOf s) s.size).length = 4096 := by rw [hN]; simp; omega
  apply strOf_inj
  rw [List.drop_zero, List.take_of_length_le (by omega), hN, bytesOf_append, bytesOf_append, bytesOf_take W a (by omega)]
  have e := bytesOf_extract W (a + s.size) (by omega)
  rw [hWs] at e
  rw [e, hW, bytesOf_strOf]
  intro x hx
  rcases List.mem_append.1 hx with h1 | h1
  · rcases List.mem_append.1 h1 with h2 | h2
    · exact imgL_small t x (List.mem_of_mem_take h2)
    · exact bytesOf_lt s x h2
  · exact imgL_small t x (List.mem_of_mem_drop h1)
theorem was_size (t : ByteArray) (ht : t.size ≤ 4096) : (strOf (((imgL t).drop 0).take 4096)).size = 4096 := by
  have hl := imgL_len t ht
  rw [← bytesOf_len, List.drop_zero, List.take_of_length_le (by omega), bytesOf_strOf (imgL_small t), hl]
/-- The pages that are laid into: from the first one's to the last one's. -/
theorem own_some (a n : Nat) (h : a + n ≤ 4096) (hn : 0 < n) : oIdx (oN (List.replicate 16 false) a n) 16 = (List.range' (a / 256) ((a + n - 1) / 256 - a / 256 + 1)).map (fun x => ((x : Nat) : Int)) := by
  rw [oIdx_eq _ (a / 256) ((a + n - 1) / 256) 16 (by omega) (fun j hj => by
    rw [oN_get a n j h hj]
    apply decide_eq_decide.2
    omega)]
  congr 2
  omega
theorem own_none (a : Nat) : oIdx (oN (List.replicate 16 false) a 0) 16 = [] := oIdx_none _ _ (fun j _ => rep_get j)
end Go.Proofs.YtkaffbchlngfaaaDoor
