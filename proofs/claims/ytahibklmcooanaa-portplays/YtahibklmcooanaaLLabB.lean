/-
  The contracts of the document's checks: Rises, Cats, May, Check, Alike, Same; of slices.Equal and label's Same.
-/
import Derived.Test.YtahibklmcooanaaLLabA
namespace Go.Proofs.Ytahibklmcooanaa
open Go.RowKit
set_option linter.unusedVariables false

def risB (xs : List Int) : Bool := decide (xs.Pairwise (· < ·))

theorem ris_step {xs : List Int} {j : Nat} {x y : Int} (hj : j + 1 < xs.length) (hx : x = xs.getD j 0) (hy : y = xs.getD (j + 1) 0) (h : (xs.take (j + 1)).Pairwise (· < ·)) (hxy : x < y) : (xs.take (j + 1 + 1)).Pairwise (· < ·) := by
  have hj' : j < xs.length := by omega
  rw [take_snoc hj hy]
  have h0 := h
  rw [take_snoc hj' hx] at h0
  refine rises_snoc h (fun a ha => ?_)
  rw [take_snoc hj' hx] at ha
  rcases List.mem_append.1 ha with h1 | h1
  · have := (List.pairwise_append.1 h0).2.2 a h1 x (by simp)
    omega
  · simp at h1
    omega

theorem ris_stop {xs : List Int} {j : Nat} {x y : Int} (hj : j + 1 < xs.length) (hx : x = xs.getD j 0) (hy : y = xs.getD (j + 1) 0) (hxy : y ≤ x) : risB xs = false := by
  simp only [risB, decide_eq_false_iff_not]
  intro h
  have hj' : j < xs.length := by omega
  have := List.pairwise_iff_getElem.1 h j (j + 1) hj' hj (by omega)
  rw [hx, hy] at hxy
  simp [List.getD, hj, hj'] at hxy
  omega

set_option maxHeartbeats 400000 in
theorem refRises_any (v : Value) (xs : List Int) (w : World) (hS : Sees w v xs) (hlen : xs.length ≤ 4611686018427387904) :
    Calls Try.prog 48 #[v] w fun e w' => e = .returned (.bool (risB xs)) ∧ Below w.heap.size w w' := by
  obtain ⟨b, off, ao, cap, rfl, hcap, _, hao, hcell⟩ := hS
  go_enter Try.func48, Try.ntmps48
  go_wp2
  go_loopw [3] (fun i wr => ∃ (j n : Nat), j ≤ xs.length ∧ i = .int .i64 ((j : Int) + 1) ∧ (xs.take (j + 1)).Pairwise (· < ·) ∧ wr = w.drewN n) (fun i _ => xs.length + 1 - (intOf i).toNat)
  case atStart =>
    refine ⟨0, 0, Nat.zero_le _, rfl, ?_, rfl⟩
    cases xs <;> simp
  case round =>
    obtain ⟨j, n, hk, rfl, hp, rfl⟩ := hrel
    by_cases hlt : j + 1 < xs.length
    · have hlt' : (j : Int) + 1 < (xs.length : Int) := by omega
      have hne : xs ≠ [] := by intro h; rw [h] at hlt; simp at hlt
      obtain rfl := hao hne
      obtain ⟨x, hx⟩ : ∃ y, y = xs.getD j 0 := ⟨_, rfl⟩
      obtain ⟨y, hy⟩ : ∃ y, y = xs.getD (j + 1) 0 := ⟨_, rfl⟩
      have hc := hcell j (by omega)
      have hc2 := hcell (j + 1) hlt
      rw [← hx] at hc
      rw [← hy] at hc2
      have HX := hid hx
      have HY := hid hy
      have HC := hid hcell
      have HN := hid hp
      have e1 : ((j : Int) + 1 - 1) = (j : Int) := by omega
      have e2 : ((j : Int) + 1).toNat = j + 1 := by omega
      clear hx hy hcell hp hne hao
      by_cases h1 : x < y
      · have h1' : decide (y ≤ x) = false := by simp; omega
        go_wp2
        go_quiet (fail)
        go_wp2
        go_roundw
        case rel => exact ⟨j + 1, _, by omega, by go_num, ris_step hlt HX.out HY.out HN.out h1, rfl⟩
        case measure => simp [intOf]; omega
      · have h1' : y ≤ x := by omega
        go_wp2
        go_quiet (fail)
        go_wp2
        go_ret
        exact ⟨ret_bool (ris_stop hlt HX.out HY.out h1').symm, below_drewN (below_drewN (Below.refl _ _) _) _⟩
    · have hlt' : ¬ (j : Int) + 1 < (xs.length : Int) := by omega
      rw [List.take_of_length_le (by omega)] at hp
      have HC := hid hp
      clear hp
      go_wp2
      go_ret
      exact ⟨ret_bool (by simp [risB, HC.out]), below_drewN (Below.refl _ _) _⟩

theorem catsB_of {xs : List Int} (h : ∀ x, x ∈ xs → 1 ≤ x ∧ x ≤ 2147483647) : catsB xs = risB xs := by
  rw [catsB, risB, decide_eq_decide]
  exact ⟨fun h1 => h1.1, fun h1 => ⟨h1, h⟩⟩

theorem catsB_not {xs : List Int} {k : Nat} {y : Int} (hk : k < xs.length) (hy : y = xs.getD k 0) (h : y < 1 ∨ 2147483647 < y) : catsB xs = false := by
  simp only [catsB, decide_eq_false_iff_not]
  intro hc
  have := hc.2 y (by rw [hy]; simp [List.getD, hk])
  omega

set_option maxHeartbeats 400000 in
theorem cats_any (v : Value) (xs : List Int) (w : World) (hS : Sees w v xs) (hlen : xs.length ≤ 4611686018427387904) :
    Calls Try.prog 38 #[v] w fun e w' => e = .returned (.bool (catsB xs)) ∧ Below w.heap.size w w' := by
  have hR := refRises_any v xs w hS hlen
  obtain ⟨b, off, ao, cap, rfl, hcap, _, hao, hcell⟩ := hS
  go_enter Try.func38, Try.ntmps38
  go_wp2
  go_loop [3] (fun i => ∃ (k : Nat), k ≤ xs.length ∧ i = .int .i64 k ∧ ∀ x, x ∈ xs.take k → 1 ≤ x ∧ x ≤ 2147483647) (fun i => xs.length - (intOf i).toNat)
  case atStart => exact ⟨0, Nat.zero_le _, rfl, by simp⟩
  case round =>
    obtain ⟨k, hk, rfl, hcat⟩ := hrel
    by_cases hlt : k < xs.length
    · have hne : xs ≠ [] := by intro h; rw [h] at hlt; simp at hlt
      obtain rfl := hao hne
      obtain ⟨y, hy⟩ : ∃ y, y = xs.getD k 0 := ⟨_, rfl⟩
      have hc := hcell k hlt
      rw [← hy] at hc
      have HY := hid hy
      have HC := hid hcell
      have HN := hid hcat
      clear hy hcell hcat hne hao hR
      by_cases h1 : y < 1
      · go_wp2
        go_ret
        exact ⟨ret_bool (catsB_not hlt HY.out (by omega)).symm, Below.refl _ _⟩
      · have h1' : decide (y < 1) = false := by simpa using h1
        by_cases h2 : y ≤ 2147483647
        · have h2' : decide (2147483647 < y) = false := by simp; omega
          go_wp2
          go_round
          case rel =>
            refine ⟨k + 1, by omega, by go_num, ?_⟩
            rw [take_snoc hlt HY.out]
            intro x hx
            rcases List.mem_append.1 hx with h | h
            · exact HN.out x h
            · simp at h
              omega
          case measure => simp [intOf]; omega
        · have h2' : 2147483647 < y := by omega
          go_wp2
          go_ret
          exact ⟨ret_bool (catsB_not hlt HY.out (by omega)).symm, Below.refl _ _⟩
    · rw [List.take_of_length_le (by omega)] at hcat
      have HC := hid (catsB_of hcat)
      clear hcat
      go_wp2_with fail
      refine hR.mono ?_
      rintro e w1 ⟨rfl, h1⟩
      go_wp2
      go_ret
      exact ⟨ret_bool HC.out.symm, h1⟩

set_option maxHeartbeats 400000 in
theorem may_any (v : Value) (s i : List Int) (w : World) (h : SeesL w v s i) :
    Calls Try.prog 39 #[v] w fun e w' => e = .returned (.bool (mayB s i)) ∧ Below w.heap.size w w' := by
  obtain ⟨u, x, rfl, h1, h2, h3, h4⟩ := h
  have hR := cats_any u s _ (h1.box (.cells #[u, x] 37)) h3
  have hR2 : ∀ w1, Below (w.alloc (.cells #[u, x] 37)).heap.size (w.alloc (.cells #[u, x] 37)) w1 → Calls Try.prog 38 #[x] w1 fun e w' => e = .returned (.bool (catsB i)) ∧ Below w1.heap.size w1 w' := fun w1 h => cats_any x i w1 ((h2.box _).below h) h4
  have HB := hid (Boxed.new w u x)
  have HR := hid hR
  have HR2 := hid hR2
  have HZ := hid (below_alloc w (.cells #[u, x] 37))
  have hsz := HZ.out.size
  obtain ⟨b, off, ao, cap, rfl, _⟩ := h1
  obtain ⟨b2, off2, ao2, cap2, rfl, _⟩ := h2
  clear hR hR2
  by_cases hs : s.length ≤ 64
  · have hs' : (s.length : Int) ≤ 64 := by omega
    by_cases hi : i.length ≤ 64
    · have hi' : (i.length : Int) ≤ 64 := by omega
      have HE : Hid (mayB s i = (catsB s && catsB i)) := by unfold Hid; simp [mayB, okB, hs, hi]
      generalize catsB s = bs at *
      generalize catsB i = bi at *
      go_enter Try.func39, Try.ntmps39
      go_wp2_with fail
      refine HR.out.mono ?_
      clear HR
      rintro e w1 ⟨rfl, k1⟩
      have hR2 := HR2.out w1 k1
      obtain ⟨c1, c2⟩ := HB.out.below k1
      have HF := hid (HZ.out.trans (k1.mono hsz))
      have hsz1 := HF.out.size
      clear HR2 HB HZ hsz k1
      cases bs
      · go_wp2
        go_ret
        exact ⟨ret_bool (by rw [HE.out]; rfl), HF.out⟩
      · go_wp2_with fail
        refine hR2.mono ?_
        clear hR2
        rintro e w2 ⟨rfl, k2⟩
        go_wp2
        go_ret
        exact ⟨ret_bool (by rw [HE.out]; rfl), HF.out.trans (k2.mono hsz1)⟩
    · have hi' : decide ((i.length : Int) ≤ 64) = false := by simp; omega
      have HE : Hid (mayB s i = false) := by unfold Hid; simp [mayB, okB, hi]
      go_enter Try.func39, Try.ntmps39
      go_wp2
      go_ret
      exact ⟨ret_bool HE.out.symm, HZ.out⟩
  · have hs' : decide ((s.length : Int) ≤ 64) = false := by simp; omega
    have HE : Hid (mayB s i = false) := by unfold Hid; simp [mayB, okB, hs]
    go_enter Try.func39, Try.ntmps39
    go_wp2
    go_ret
    exact ⟨ret_bool HE.out.symm, HZ.out⟩

end Go.Proofs.Ytahibklmcooanaa
