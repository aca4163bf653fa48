/-
  The walk of HeadBodies.
-/
import Derived.Test.YtfdjnkjiffdbfaaDoorHAwake
import Derived.Test.YtfdjnkjiffdbfaaDoorHCloses
import Derived.Test.YtfdjnkjiffdbfaaDoorRBody
import Derived.Test.YtfdjnkjiffdbfaaDoorRCloses
namespace Go.Proofs.YtfdjnkjiffdbfaaDoor
open Go.RowKit
set_option linter.unusedVariables false

set_option maxRecDepth 20000 in
set_option maxHeartbeats 8000000 in
theorem bodies_walk (h : HeadL) (v : Value) (w : World) (hM : ML w) (hS : SeesP w v h.2.2.2) (hl : h.2.2.2.length ≤ 1048576) (hb : ∀ p ∈ h.2.2.2, p.2.length ≤ 1048576) :
    Calls Tryd.prog 4 #[.agg #[strV h.1, strV h.2.1, .int .i64 h.2.2.1, v]] w fun e w' => e = .returned (.bool true) ∧ Below w.heap.size w w' := by
  have HP := hid (fun w1 hS1 => body_any h (strV h.1) (strV h.2.1) v w1 hS1 hl hb)
  have HR := hid (fun w1 hS1 => rbody_any h (strV h.1) (strV h.2.1) v w1 hS1 hl hb)
  have HC := hid (fun w1 hM1 hS1 => closes_any h (strV h.1) (strV h.2.1) v w1 hM1 hS1 hl hb)
  have HD := hid (fun w1 hS1 => rcloses_any h (strV h.1) (strV h.2.1) v w1 hS1 hl hb)
  obtain ⟨a, ha⟩ : ∃ a, a = strV h.1 := ⟨_, rfl⟩
  obtain ⟨b, hb'⟩ : ∃ b, b = strV h.2.1 := ⟨_, rfl⟩
  obtain ⟨m, hm⟩ : ∃ m, m = h.2.2.1 := ⟨_, rfl⟩
  obtain ⟨fs, hfs⟩ : ∃ fs, fs = h.2.2.2 := ⟨_, rfl⟩
  rw [← hfs] at hS HP HR HC HD
  rw [← ha, ← hb', ← hm] at HP HR HC HD ⊢
  obtain ⟨B, hB⟩ : ∃ B, B = bodyL h := ⟨_, rfl⟩
  obtain ⟨C, hC⟩ : ∃ C, C = closesL h := ⟨_, rfl⟩
  rw [← hB] at HP HR
  rw [← hC] at HC HD
  unfold outB at HP HR
  obtain ⟨B1, B2, B3⟩ := B
  simp only at HP HR
  have HA := hid awake_any
  have hH0 := HeadAt.new w a b (.int .i64 m) v
  have hB0 := below_alloc w (.cells #[a, b, .int .i64 m, v] 24)
  obtain ⟨w0, hw0⟩ : ∃ w0, w0 = w.alloc (.cells #[a, b, .int .i64 m, v] 24) := ⟨_, rfl⟩
  rw [← hw0] at hH0 hB0
  have HW0 := hid hw0
  have hgl := hM.lt
  have HM0 := hid (hM.below hB0 hgl)
  have HS0 := hid (hS.below hB0)
  have HB0 := hid hB0
  have HH0 := hid hH0
  obtain ⟨z0, z1, z2, z3, _, _, _, _⟩ := hH0.cells
  clear hw0 hH0 hB0 hM hS hb hl ha hb' hm hfs hB hC
  go_enter Tryd.func4, Tryd.ntmps4
  go_wp2_with (first | rw [← HW0.out] | fail)
  refine (HP.out w0 HS0.out).mono ?_
  clear HP
  rintro e w1 ⟨rfl, hB1⟩
  have hH1 := HH0.out.below hB1 HH0.out.lt
  have HS1 := hid (HS0.out.below hB1)
  have HM1 := hid (HM0.out.below hB1 HM0.out.lt)
  have HB1 := hid (HB0.out.trans (hB1.mono HB0.out.size))
  obtain ⟨z0, z1, z2, z3, _, _, _, _⟩ := hH1.cells
  have HH1 := hid hH1
  clear hH1 HH0 HS0 HM0 HB0 hB1
  go_wp2_with fail
  refine (HR.out w1 HS1.out).mono ?_
  clear HR
  rintro e w2 ⟨rfl, hB2⟩
  have hH2 := HH1.out.below hB2 HH1.out.lt
  have HS2 := hid (HS1.out.below hB2)
  have HM2 := hid (HM1.out.below hB2 HM1.out.lt)
  have HB2 := hid (HB1.out.trans (hB2.mono HB1.out.size))
  obtain ⟨y0, y1, y2, y3, _, _, _, _⟩ := hH2.cells
  have HH2 := hid hH2
  clear hH2 HH1 HS1 HM1 HB1 hB2
  go_wp2_with fail
  have HMW : Hid (∀ W, (Below w2.heap.size w2 W ∧ W.cell? ⟨w.heap.size, 0, none⟩ = some a ∧ W.cell? ⟨w.heap.size, 1, none⟩ = some b ∧ W.cell? ⟨w.heap.size, 2, none⟩ = some (.int .i64 m) ∧ W.cell? ⟨w.heap.size, 3, none⟩ = some v) → ML W) := fun W hs => HM2.out.below hs.1 HM2.out.lt
  have HSW : Hid (∀ W, (Below w2.heap.size w2 W ∧ W.cell? ⟨w.heap.size, 0, none⟩ = some a ∧ W.cell? ⟨w.heap.size, 1, none⟩ = some b ∧ W.cell? ⟨w.heap.size, 2, none⟩ = some (.int .i64 m) ∧ W.cell? ⟨w.heap.size, 3, none⟩ = some v) → SeesP W v fs) := fun W hs => HS2.out.below hs.1
  have HK : Hid (∀ W W' : World, Below W.heap.size W W' → (Below w2.heap.size w2 W ∧ W.cell? ⟨w.heap.size, 0, none⟩ = some a ∧ W.cell? ⟨w.heap.size, 1, none⟩ = some b ∧ W.cell? ⟨w.heap.size, 2, none⟩ = some (.int .i64 m) ∧ W.cell? ⟨w.heap.size, 3, none⟩ = some v) → (Below w2.heap.size w2 W' ∧ W'.cell? ⟨w.heap.size, 0, none⟩ = some a ∧ W'.cell? ⟨w.heap.size, 1, none⟩ = some b ∧ W'.cell? ⟨w.heap.size, 2, none⟩ = some (.int .i64 m) ∧ W'.cell? ⟨w.heap.size, 3, none⟩ = some v)) := by
    intro W W' hb hs
    have hB := hs.1.trans (hb.mono hs.1.size)
    obtain ⟨k0, k1, k2, k3, _, _, _, _⟩ := (HH2.out.below hB HH2.out.lt).cells
    exact ⟨hB, k0, k1, k2, k3⟩
  have HZ : Hid (∀ W, (Below w2.heap.size w2 W ∧ W.cell? ⟨w.heap.size, 0, none⟩ = some a ∧ W.cell? ⟨w.heap.size, 1, none⟩ = some b ∧ W.cell? ⟨w.heap.size, 2, none⟩ = some (.int .i64 m) ∧ W.cell? ⟨w.heap.size, 3, none⟩ = some v) → Below w.heap.size w W) := fun W hs => HB2.out.trans (hs.1.mono HB2.out.size)
  clear HH2 HS2 HM2 HB2
  go_region_held3 (fun W => (Below w2.heap.size w2 W ∧ W.cell? ⟨w.heap.size, 0, none⟩ = some a ∧ W.cell? ⟨w.heap.size, 1, none⟩ = some b ∧ W.cell? ⟨w.heap.size, 2, none⟩ = some (.int .i64 m) ∧ W.cell? ⟨w.heap.size, 3, none⟩ = some v)) (first | (exact ⟨Below.drew (Below.refl _ _), y0, y1, y2, y3⟩) | (exact HK.out _ _ (by assumption) (by assumption)))
    (first
      | (go_at_call 12
         refine (HC.out _ (HMW.out _ (by assumption)) (HSW.out _ (by assumption))).mono ?_
         rintro e' w3 ⟨rfl, hB3⟩)
      | (go_at_call 13
         refine (HD.out _ (HSW.out _ (by assumption))).mono ?_
         rintro e' w4 ⟨rfl, hB4⟩)
      | (go_at_call 9
         refine (HA.out _ (HMW.out _ (by assumption))).mono ?_
         rintro e' w5 ⟨rfl, hB5⟩))
  all_goals
    have HB5 := hid (HZ.out _ (by assumption))
    clear HC HD HA HMW HSW HK
    go_wp2
    go_ret
    exact ⟨rfl, HB5.out⟩
end Go.Proofs.YtfdjnkjiffdbfaaDoor
