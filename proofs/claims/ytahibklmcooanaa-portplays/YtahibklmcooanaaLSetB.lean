/-
  The contracts of package set's Meet, Less, Within and Has on lists of numbers.
-/
import Derived.Test.YtahibklmcooanaaLSet
namespace Go.Proofs.Ytahibklmcooanaa
open Go.RowKit
set_option linter.unusedVariables false

/-- What is in both, and in the first alone. -/
def meetL (xs ys : List Int) : List Int := (sd xs).filter fun x => decide (x ∈ ys) == true
def lessL (xs ys : List Int) : List Int := (sd xs).filter fun x => decide (x ∈ ys) == false

theorem mem_meetL (xs ys : List Int) (x : Int) : x ∈ meetL xs ys ↔ x ∈ xs ∧ x ∈ ys := by simp [meetL, mem_sd]
theorem mem_lessL (xs ys : List Int) (x : Int) : x ∈ lessL xs ys ↔ x ∈ xs ∧ x ∉ ys := by simp [lessL, mem_sd]
theorem meetL_rises (xs ys : List Int) : (meetL xs ys).Pairwise (· < ·) := (sd_rises xs).filter _
theorem lessL_rises (xs ys : List Int) : (lessL xs ys).Pairwise (· < ·) := (sd_rises xs).filter _
theorem length_meetL (xs ys : List Int) : (meetL xs ys).length ≤ xs.length := Nat.le_trans (List.length_filter_le _ _) (length_sd_le xs)
theorem length_lessL (xs ys : List Int) : (lessL xs ys).length ≤ xs.length := Nat.le_trans (List.length_filter_le _ _) (length_sd_le xs)
theorem meetL_eq (xs ys : List Int) : meetL xs ys = sd (xs.filter fun x => decide (x ∈ ys)) := (sd_of (meetL_rises xs ys) (fun x => by simp [mem_meetL])).symm
theorem lessL_eq (xs ys : List Int) : lessL xs ys = sd (xs.filter fun x => !decide (x ∈ ys)) := (sd_of (lessL_rises xs ys) (fun x => by simp [mem_lessL])).symm
theorem lessL_nil (xs ys : List Int) : lessL xs ys = [] ↔ ∀ x, x ∈ xs → x ∈ ys := by
  rw [List.eq_nil_iff_forall_not_mem]
  constructor
  · intro h x hx
    refine Decidable.byContradiction fun hy => h x ?_
    rw [mem_lessL]
    exact ⟨hx, hy⟩
  · intro h x hx
    rw [mem_lessL] at hx
    exact hx.2 (h x hx.1)

set_option maxHeartbeats 400000 in
theorem less_any (v u : Value) (xs ys : List Int) (w : World) (hS : Sees w v xs) (hT : Sees w u ys) (hb : (xs.length + ys.length) * 8 ≤ 140737488355328) :
    Calls Try.prog 52 #[v, u] w fun e w' => ∃ v', e = .returned v' ∧ Owns w' w.heap.size v' (lessL xs ys) ∧ Below w.heap.size w w' := by
  go_enter Try.func52, Try.ntmps52
  go_wp2_with fail
  refine (pick_any v u false xs ys _ hS hT hb).mono ?_
  rintro e w1 ⟨v1, rfl, hO, hB⟩
  go_wp2
  go_ret
  exact ⟨v1, rfl, hO, hB⟩

/-- all of the first are in the second -/
def withinB (xs ys : List Int) : Bool := decide (lessL xs ys = [])

set_option maxHeartbeats 400000 in
theorem within_any (v u : Value) (xs ys : List Int) (w : World) (hS : Sees w v xs) (hT : Sees w u ys) (hb : (xs.length + ys.length) * 8 ≤ 140737488355328) :
    Calls Try.prog 53 #[v, u] w fun e w' => e = .returned (.bool (withinB xs ys)) ∧ Below w.heap.size w w' := by
  have hlen := length_lessL xs ys
  go_enter Try.func53, Try.ntmps53
  go_wp2_with fail
  refine (less_any v u xs ys _ hS hT hb).mono ?_
  rintro e w1 ⟨v1, rfl, hO, hB⟩
  obtain ⟨b2, off2, ao2, cap2, rfl, hcap2, _, hao2, hcell2⟩ := hO.sees
  clear hao2 hcell2 hO
  obtain ⟨ls, hls⟩ : ∃ ls, ls = lessL xs ys := ⟨_, rfl⟩
  have hfin : withinB xs ys = ((ls.length : Int) == 0) := by
    unfold withinB
    rw [← hls]
    cases ls <;> simp
    omega
  rw [← hls] at hlen
  have HF := hid hfin
  rw [← hls]
  clear hfin hls
  go_wp2
  go_ret
  exact ⟨ret_bool (by rw [HF.out]), hB⟩

end Go.Proofs.Ytahibklmcooanaa
