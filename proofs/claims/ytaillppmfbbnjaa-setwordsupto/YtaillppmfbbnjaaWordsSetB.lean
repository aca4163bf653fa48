/-
  The contracts of package set's Meet, Less, Within and Has on lists of texts.
-/
import Derived.Test.YtaillppmfbbnjaaWordsSet
namespace Go.Proofs.Ytaillppmfbbnjaa
open Go.RowKit
set_option linter.unusedVariables false

/-- What is in both, and in the first alone. -/
def meetLS (xs ys : List (List UInt8)) : List (List UInt8) := (sdS xs).filter fun x => decide (x ∈ ys) == true
def lessLS (xs ys : List (List UInt8)) : List (List UInt8) := (sdS xs).filter fun x => decide (x ∈ ys) == false

theorem mem_meetLS (xs ys : List (List UInt8)) (x : List UInt8) : x ∈ meetLS xs ys ↔ x ∈ xs ∧ x ∈ ys := by simp [meetLS, mem_sdS]
theorem mem_lessLS (xs ys : List (List UInt8)) (x : List UInt8) : x ∈ lessLS xs ys ↔ x ∈ xs ∧ x ∉ ys := by simp [lessLS, mem_sdS]
theorem meetL_risesS (xs ys : List (List UInt8)) : (meetLS xs ys).Pairwise (· < ·) := (sdS_rises xs).filter _
theorem lessL_risesS (xs ys : List (List UInt8)) : (lessLS xs ys).Pairwise (· < ·) := (sdS_rises xs).filter _
theorem length_meetLS (xs ys : List (List UInt8)) : (meetLS xs ys).length ≤ xs.length := Nat.le_trans (List.length_filter_le _ _) (length_sdS_le xs)
theorem length_lessLS (xs ys : List (List UInt8)) : (lessLS xs ys).length ≤ xs.length := Nat.le_trans (List.length_filter_le _ _) (length_sdS_le xs)
theorem meetL_eqS (xs ys : List (List UInt8)) : meetLS xs ys = sdS (xs.filter fun x => decide (x ∈ ys)) := (sdS_of (meetL_risesS xs ys) (fun x => by simp [mem_meetLS])).symm
theorem lessL_eqS (xs ys : List (List UInt8)) : lessLS xs ys = sdS (xs.filter fun x => !decide (x ∈ ys)) := (sdS_of (lessL_risesS xs ys) (fun x => by simp [mem_lessLS])).symm
theorem lessL_nilS (xs ys : List (List UInt8)) : lessLS xs ys = [] ↔ ∀ x, x ∈ xs → x ∈ ys := by
  rw [List.eq_nil_iff_forall_not_mem]
  constructor
  · intro h x hx
    refine Decidable.byContradiction fun hy => h x ?_
    rw [mem_lessLS]
    exact ⟨hx, hy⟩
  · intro h x hx
    rw [mem_lessLS] at hx
    exact hx.2 (h x hx.1)

set_option maxHeartbeats 400000 in
theorem meet_anyS (v u : Value) (xs ys : List (List UInt8)) (w : World) (hS : SeesS w v xs) (hT : SeesS w u ys) (hb : (xs.length + ys.length) * 16 ≤ 140737488355328) :
    Calls Try.prog 25 #[v, u] w fun e w' => ∃ v', e = .returned v' ∧ OwnsS w' w.heap.size v' (meetLS xs ys) ∧ Below w.heap.size w w' := by
  go_enter Try.func25, Try.ntmps25
  go_wp2_with fail
  refine (pick_anyS v u true xs ys _ hS hT hb).mono ?_
  rintro e w1 ⟨v1, rfl, hO, hB⟩
  go_wp2
  go_ret
  exact ⟨v1, rfl, hO, hB⟩

set_option maxHeartbeats 400000 in
theorem less_anyS (v u : Value) (xs ys : List (List UInt8)) (w : World) (hS : SeesS w v xs) (hT : SeesS w u ys) (hb : (xs.length + ys.length) * 16 ≤ 140737488355328) :
    Calls Try.prog 29 #[v, u] w fun e w' => ∃ v', e = .returned v' ∧ OwnsS w' w.heap.size v' (lessLS xs ys) ∧ Below w.heap.size w w' := by
  go_enter Try.func29, Try.ntmps29
  go_wp2_with fail
  refine (pick_anyS v u false xs ys _ hS hT hb).mono ?_
  rintro e w1 ⟨v1, rfl, hO, hB⟩
  go_wp2
  go_ret
  exact ⟨v1, rfl, hO, hB⟩

/-- all of the first are in the second -/
def withinBS (xs ys : List (List UInt8)) : Bool := decide (lessLS xs ys = [])

set_option maxHeartbeats 400000 in
theorem within_anyS (v u : Value) (xs ys : List (List UInt8)) (w : World) (hS : SeesS w v xs) (hT : SeesS w u ys) (hb : (xs.length + ys.length) * 16 ≤ 140737488355328) :
    Calls Try.prog 27 #[v, u] w fun e w' => e = .returned (.bool (withinBS xs ys)) ∧ Below w.heap.size w w' := by
  have hlen := length_lessLS xs ys
  go_enter Try.func27, Try.ntmps27
  go_wp2_with fail
  refine (less_anyS v u xs ys _ hS hT hb).mono ?_
  rintro e w1 ⟨v1, rfl, hO, hB⟩
  obtain ⟨b2, off2, ao2, cap2, rfl, hcap2, _, hao2, hcell2⟩ := hO.sees
  clear hao2 hcell2 hO
  obtain ⟨ls, hls⟩ : ∃ ls, ls = lessLS xs ys := ⟨_, rfl⟩
  have hfin : withinBS xs ys = ((ls.length : Int) == 0) := by
    unfold withinBS
    rw [← hls]
    cases ls <;> simp
    omega
  rw [← hls] at hlen
  have HF := hid hfin
  rw [← hls]
  clear hfin hls
  go_wp2
  go_ret
  exact ⟨ret_bool (by rw [HF.out]), hB⟩


set_option maxHeartbeats 400000 in
theorem hasS_any (v : Value) (xs : List (List UInt8)) (x : List UInt8) (sx : ByteArray) (hsx : sx = ⟨x.toArray⟩) (w : World) (hS : SeesS w v xs) (hb : xs.length < 4611686018427387904) :
    Calls Try.prog 26 #[v, .string sx] w fun e w' => e = .returned (.bool (decide (x ∈ xs))) ∧ w' = w := by
  obtain ⟨b, off, ao, cap, rfl, hcap, _, hao, hcell⟩ := hS
  by_cases hne : xs = []
  · subst hne
    clear hsx
    go_enter Try.func26, Try.ntmps26
    go_wp2_with fail
    refine (Try.slices_Contains_string_empty _ _ _ _).mono ?_
    rintro e w1 ⟨rfl, rfl⟩
    go_wp2
    go_ret
    exact ⟨by simp, rfl⟩
  · obtain rfl := hao hne
    have hc := Try.slices_Contains_string b off xs.length cap (xs.map fun l => ⟨l.toArray⟩) sx w (by simp) (by omega) (fun j hj => by
      have hj' : j < xs.length := by simpa using hj
      rw [hcell j hj']
      simp [List.getD, hj'])
    have he : Lib.containsS ((xs.map fun l => (⟨l.toArray⟩ : ByteArray)).take xs.length) sx = decide (x ∈ xs) := by
      rw [List.take_of_length_le (by simp), Bool.eq_iff_iff, Lib.containsS_iff, decide_eq_true_eq, hsx, List.mem_map]
      constructor
      · rintro ⟨l, hl, e⟩
        simp only [ByteArray.mk.injEq] at e
        have e2 : l = x := by simpa using congrArg Array.toList e
        rw [← e2]
        exact hl
      · exact fun h => ⟨x, h, rfl⟩
    rw [he] at hc
    clear hcell hne hao he hsx
    go_enter Try.func26, Try.ntmps26
    go_wp2_with fail
    refine hc.mono ?_
    clear hc
    rintro e w1 ⟨rfl, rfl⟩
    go_wp2
    go_ret
    exact ⟨rfl, rfl⟩

end Go.Proofs.Ytaillppmfbbnjaa
