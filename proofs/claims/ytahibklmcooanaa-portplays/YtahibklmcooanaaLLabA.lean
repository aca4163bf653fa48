/-
  The contracts of label's checks: rises, mayBe, Check, checkBoth; of the document's: Rises, Cats, May, Check, Alike, Same.
-/
import Derived.Test.YtahibklmcooanaaLLab
namespace Go.Proofs.Ytahibklmcooanaa
open Go.RowKit
set_option linter.unusedVariables false

theorem cats_step {xs : List Int} {k : Nat} {y : Int} (hk : k < xs.length) (hy : y = xs.getD k 0) (h : catsP (xs.take k)) (h1 : lastI (xs.take k) < y) (h2 : y ≤ 2147483647) : catsP (xs.take (k + 1)) ∧ lastI (xs.take (k + 1)) = y := by
  rw [take_snoc hk hy]
  exact ⟨(catsP_snoc _ _).2 ⟨h, h1, h2⟩, lastI_snoc _ _⟩

theorem cats_stop {xs : List Int} {k : Nat} {y : Int} (hk : k < xs.length) (hy : y = xs.getD k 0) (h1 : y ≤ lastI (xs.take k) ∨ 2147483647 < y) : catsB xs = false := by
  simp only [catsB, decide_eq_false_iff_not]
  intro h
  have h3 := catsP_take h (k + 1)
  rw [take_snoc hk hy] at h3
  have := (catsP_snoc _ _).1 h3
  omega

set_option maxHeartbeats 400000 in
theorem rises_any (v : Value) (xs : List Int) (w : World) (hS : Sees w v xs) (hlen : xs.length ≤ 4611686018427387904) :
    Calls Try.prog 50 #[v] w fun e w' => e = .returned (.bool (catsB xs)) ∧ w' = w := by
  obtain ⟨b, off, ao, cap, rfl, hcap, _, hao, hcell⟩ := hS
  go_enter Try.func50, Try.ntmps50
  go_wp2
  go_loop [3, 8] (fun l i => ∃ (k : Nat) (la : Int), k ≤ xs.length ∧ i = .int .i64 k ∧ l = .int .i64 la ∧ catsP (xs.take k) ∧ lastI (xs.take k) = la) (fun _ i => xs.length - (intOf i).toNat)
  case atStart => exact ⟨0, 0, Nat.zero_le _, rfl, rfl, by simp [catsP_nil], by simp [lastI]⟩
  case round =>
    obtain ⟨k, la, hk, rfl, rfl, hcat, hla⟩ := hrel
    by_cases hlt : k < xs.length
    · have hne : xs ≠ [] := by intro h; rw [h] at hlt; simp at hlt
      obtain rfl := hao hne
      obtain ⟨y, hy⟩ : ∃ y, y = xs.getD k 0 := ⟨_, rfl⟩
      have hc := hcell k hlt
      rw [← hy] at hc
      have HY := hid hy
      have HC := hid hcell
      have HN := hid hcat
      have HL := hid hla
      clear hy hcell hcat hne hao hla
      by_cases h1 : y ≤ la
      · go_wp2
        go_ret
        exact ⟨ret_bool (cats_stop hlt HY.out (by rw [HL.out]; omega)).symm, rfl⟩
      · have h1' : decide (y ≤ la) = false := by simpa using h1
        by_cases h2 : y ≤ 2147483647
        · have h2' : decide (2147483647 < y) = false := by simp; omega
          go_wp2
          go_round
          case rel =>
            have h3 := cats_step hlt HY.out HN.out (by rw [HL.out]; omega) h2
            exact ⟨k + 1, y, by omega, by go_num, rfl, h3.1, h3.2⟩
          case measure => simp [intOf]; omega
        · have h2' : 2147483647 < y := by omega
          go_wp2
          go_ret
          exact ⟨ret_bool (cats_stop hlt HY.out (by omega)).symm, rfl⟩
    · rw [List.take_of_length_le (by omega)] at hcat
      have HC := hid hcat
      clear hcat hla
      go_wp2
      go_ret
      exact ⟨ret_bool (by simp [catsB, HC.out]), rfl⟩

set_option maxHeartbeats 400000 in
theorem mayBe_any (v : Value) (xs : List Int) (w : World) (hS : Sees w v xs) (hlen : xs.length ≤ 4611686018427387904) :
    Calls Try.prog 54 #[v] w fun e w' => e = .returned (.bool (okB xs)) ∧ w' = w := by
  have hR := rises_any v xs w hS hlen
  obtain ⟨b, off, ao, cap, rfl, hcap, _, hao, hcell⟩ := hS
  by_cases h : xs.length ≤ 64
  · have h' : (xs.length : Int) ≤ 64 := by omega
    have HE : Hid (okB xs = catsB xs) := by unfold Hid; simp [okB, h]
    go_enter Try.func54, Try.ntmps54
    go_wp2_with fail
    refine hR.mono ?_
    rintro e w' ⟨rfl, rfl⟩
    go_wp2
    go_ret
    exact ⟨ret_bool HE.out.symm, rfl⟩
  · have h' : decide ((xs.length : Int) ≤ 64) = false := by simp; omega
    have HE : Hid (okB xs = false) := by unfold Hid; simp [okB, h]
    go_enter Try.func54, Try.ntmps54
    go_wp2
    go_ret
    exact ⟨ret_bool HE.out.symm, rfl⟩

/-- The errno of a check. -/
def errOf (b : Bool) : Int := if b then 0 else 20

/-- At p lies a label of two lists. -/
def Boxed (w : World) (p : Nat) (u v : Value) : Prop := w.cell? ⟨p, 0, none⟩ = some u ∧ w.cell? ⟨p, 1, none⟩ = some v

theorem Boxed.below {w w' : World} {p : Nat} {u v : Value} (h : Boxed w p u v) (hb : Below w.heap.size w w') : Boxed w' p u v :=
  ⟨(hb.cell (World.block_lt_of_cell? w _ h.1)).trans h.1, (hb.cell (World.block_lt_of_cell? w _ h.2)).trans h.2⟩

theorem below_alloc (w : World) (o : Obj) : Below w.heap.size w (w.alloc o) := (Below.refl _ _).alloc (Nat.le_refl _) o
theorem Sees.box {w : World} {v : Value} {xs : List Int} (h : Sees w v xs) (o : Obj) : Sees (w.alloc o) v xs := h.below (below_alloc w o)
theorem Boxed.box {w : World} {p : Nat} {u v : Value} (h : Boxed w p u v) (o : Obj) : Boxed (w.alloc o) p u v := h.below (below_alloc w o)
theorem Boxed.new (w : World) (u v : Value) : Boxed (w.alloc (.cells #[u, v] 37)) w.heap.size u v := ⟨by simp, by simp⟩
theorem Boxed.new2 (w : World) (o : Obj) (u v : Value) : Boxed ((w.alloc o).alloc (.cells #[u, v] 37)) (w.heap.size + 1) u v := by
  have h := Boxed.new (w.alloc o) u v
  simpa using h

set_option maxHeartbeats 400000 in
theorem check_any (u v : Value) (s i : List Int) (w : World) (hS : Sees w u s) (hI : Sees w v i) (h1 : s.length ≤ 4611686018427387904) (h2 : i.length ≤ 4611686018427387904) :
    Calls Try.prog 45 #[.agg #[u, v]] w fun e w' => e = .returned (.int .i64 (errOf (mayB s i))) ∧ Below w.heap.size w w' := by
  have hR := mayBe_any u s _ (hS.box (.cells #[u, v] 37)) h1
  have hR2 := mayBe_any v i _ (hI.box (.cells #[u, v] 37)) h2
  have hZ := hid (below_alloc w (.cells #[u, v] 37))
  unfold mayB
  generalize okB s = bs at *
  generalize okB i = bi at *
  clear hS hI
  cases bs
  · go_enter Try.func45, Try.ntmps45
    go_wp2_with fail
    refine hR.mono ?_
    rintro e w' ⟨rfl, rfl⟩
    go_wp2
    go_ret
    exact ⟨rfl, hZ.out⟩
  · go_enter Try.func45, Try.ntmps45
    go_wp2_with fail
    refine hR.mono ?_
    rintro e w' ⟨rfl, rfl⟩
    go_wp2_with fail
    refine hR2.mono ?_
    rintro e w' ⟨rfl, rfl⟩
    cases bi
    · go_wp2
      go_ret
      exact ⟨rfl, hZ.out⟩
    · go_wp2
      go_ret
      exact ⟨rfl, hZ.out⟩

/-- A label of two lists. -/
def SeesL (w : World) (v : Value) (s i : List Int) : Prop := ∃ u x, v = .agg #[u, x] ∧ Sees w u s ∧ Sees w x i ∧ s.length ≤ 4611686018427387904 ∧ i.length ≤ 4611686018427387904

theorem SeesL.below {w w' : World} {v : Value} {s i : List Int} (h : SeesL w v s i) (hb : Below w.heap.size w w') : SeesL w' v s i := by
  obtain ⟨u, x, rfl, h1, h2, h3⟩ := h
  exact ⟨u, x, rfl, h1.below hb, h2.below hb, h3⟩
theorem SeesL.box {w : World} {v : Value} {s i : List Int} (h : SeesL w v s i) (o : Obj) : SeesL (w.alloc o) v s i := h.below (below_alloc w o)

theorem check_l (v : Value) (s i : List Int) (w : World) (h : SeesL w v s i) :
    Calls Try.prog 45 #[v] w fun e w' => e = .returned (.int .i64 (errOf (mayB s i))) ∧ Below w.heap.size w w' := by
  obtain ⟨u, x, rfl, h1, h2, h3, h4⟩ := h
  exact check_any u x s i w h1 h2 h3 h4

end Go.Proofs.Ytahibklmcooanaa
