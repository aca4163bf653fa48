/-
  The walk of ParseAll.
-/
import Derived.Test.YtllhibdjopfcnaaGreatDoorDAll
import Derived.Test.YtllhibdjopfcnaaGreatDoorPSameAll
namespace Go.Proofs.YtllhibdjopfcnaaGreatDoor
open Go.RowKit
set_option linter.unusedVariables false

theorem tgt_few (L : List UInt8) : (tgt L).query.length ≤ 32 := by
  unfold tgt
  split
  · simp
  · split
    · simp
    · split
      · simp
      · split
        · simp
        · split
          · simp
          · rename_i h
            show (formL (cutC 63 L).2.1).length ≤ 32
            omega
theorem parse_few (s : List UInt8) : (parseL s).1.2.2.2.length ≤ 32 := by
  unfold parseL
  split
  · simp [hz]
  · split
    · simp [hz]
    · split
      · exact lines_few _ _ _ _ (fun h e => by cases e)
      · simp [hz]
theorem first_few {V : List UInt8} {q : ReqL} {n : Nat} (h : firstL V = (.ok (q, n))) : q.head.2.2.2.length ≤ 32 ∧ q.query.length ≤ 32 := by
  unfold firstL at h
  split at h
  · split at h
    · cases h
    · cases h
  · rename_i at' _
    split at h
    · cases h
    · split at h
      · cases h
      · cases h
      · rename_i b m _
        obtain ⟨h1, _⟩ := got_inj h
        subst h1
        exact ⟨parse_few _, tgt_few _⟩

/-- How many requests bytes tell, and how great they are. -/
theorem all_few : ∀ (n : Nat) (s : List UInt8), s.length ≤ n → (allL s).1.length ≤ s.length ∧ ∀ q ∈ (allL s).1, q.head.2.2.2.length ≤ 32 ∧ q.query.length ≤ 32 := by
  intro n
  induction n with
  | zero =>
    intro s hs
    have : s = [] := List.eq_nil_of_length_eq_zero (by omega)
    subst this
    rw [allL_end (by simp) (show firstL [] = .error none from rfl)]
    exact ⟨by simp, fun q hq => by cases hq⟩
  | succ n ih =>
    intro s hs
    rw [allL_step]
    match hT : firstL (s.take 65536) with
    | .error (some t) => exact ⟨by simp, fun q hq => by cases hq⟩
    | .error none => exact ⟨by simp, fun q hq => by cases hq⟩
    | .ok (q, m) =>
      have hm := firstL_got hT
      rw [List.length_take] at hm
      obtain ⟨h1, h2⟩ := ih (s.drop m) (by rw [List.length_drop]; omega)
      rw [List.length_drop] at h1
      refine ⟨by simp only [List.length_cons]; omega, fun r hr => ?_⟩
      rcases List.mem_cons.1 hr with rfl | hr
      · exact first_few hT
      · exact h2 r hr

set_option maxRecDepth 20000 in
set_option maxHeartbeats 4000000 in
theorem all_walk (s0 : ByteArray) (w : World) (hM : ML w) (hs : s0.size ≤ 1048576) :
    Calls Tryz.prog 4 #[.string s0] w fun e w' => e = .returned (.bool true) ∧ Below w.heap.size w w' := by
  obtain ⟨L, rfl⟩ : ∃ L : List UInt8, s0 = ⟨L.toArray⟩ := ⟨s0.data.toList, by simp⟩
  rw [size_list] at hs
  have hA := all_any L w hM (by omega)
  have HR := hid (fun w1 => rall_any L w1 (by omega))
  obtain ⟨hlen, hfew⟩ := all_few _ L (Nat.le_refl _)
  have HW := hid awakeP_any
  have HM := hid hM
  have hgl := hM.lt
  obtain ⟨s, hse⟩ : ∃ s : ByteArray, s = ⟨L.toArray⟩ := ⟨_, rfl⟩
  rw [← hse] at hA HR ⊢
  obtain ⟨A, hAe⟩ : ∃ A, A = allL L := ⟨_, rfl⟩
  rw [← hAe] at hA HR hlen hfew
  obtain ⟨rs, st⟩ := A
  simp only at hA HR hlen hfew
  clear hAe hse hM
  go_enter Tryz.func4, Tryz.ntmps4
  go_wp2_with fail
  refine hA.mono ?_
  clear hA
  rintro e w1 ⟨v1, es1, rfl, hO1, hq1, hB1⟩
  obtain ⟨ao1, cap1, rfl⟩ := hO1.shape
  have hR := HR.out w1
  clear HR
  go_wp2_with fail
  refine hR.mono ?_
  clear hR
  rintro e w2 ⟨v2, es2, rfl, hO2, hq2, hB2⟩
  obtain ⟨ao2, cap2, rfl⟩ := hO2.shape
  have hl1 : es1.length ≤ 1000000000 := by
    have := congrArg List.length hq1
    rw [List.length_map] at this
    omega
  have hf1 : ∀ e ∈ es1, e.q.head.2.2.2.length ≤ 140737488355328 ∧ e.q.query.length ≤ 140737488355328 := fun e he => by
    have := hfew e.q (by rw [← hq1]; exact List.mem_map.2 ⟨e, he, rfl⟩)
    omega
  have hS := rsameAll_any (.slice ao1 es1.length cap1) (.slice ao2 es2.length cap2) es1 es2 w2 (hO1.below hB2).sees hO2.sees hl1 hf1
  have HB2 := hid (hB1.trans (hB2.mono hB1.size))
  have HQ := hid (hq1.trans hq2.symm)
  clear hO1 hO2 hq1 hq2 hB1 hB2 hl1 hf1 hfew hlen
  go_wp2_with fail
  refine hS.mono ?_
  clear hS
  rintro e w3 ⟨r, rfl, hr, hB3⟩
  have hrt : r = true := hr.2 HQ.out
  subst hrt
  have hB03 := HB2.out.trans (hB3.mono HB2.out.size)
  have hA := HW.out w3 (HM.out.below hB03 hgl)
  have HB3 := hid hB03
  clear hr hB3 hB03 HW
  go_wp2_with fail
  refine hA.mono ?_
  clear hA
  rintro e w4 ⟨rfl, hB4⟩
  have HB4 := hid (HB3.out.trans (hB4.mono HB3.out.size))
  clear hB4
  go_wp2
  go_ret
  exact ⟨rfl, HB4.out⟩
end Go.Proofs.YtllhibdjopfcnaaGreatDoor
