/-
  The contract of a queue's Copy.
-/
import Derived.Test.YtebjkgibciiocaaPop
namespace Go.Proofs.Ytebjkgibciiocaa
open Go.RowKit
set_option linter.unusedVariables false

theorem copy_fin {w w2 : World} {p : Nat} {room drops : Int} {rv v' : Value} {f : Nat} {rs xs : List Int} (hQ : QAt w p room drops rv f rs xs) (hO : Owns w2 w.heap.size v' xs) (hB : Below w.heap.size w w2) :
    w.heap.size ≤ w2.heap.size ∧ QAt (w2.alloc (.cells #[.pointer (some ⟨w2.heap.size, 0, none⟩), .int .i64 room, .int .i64 drops, v', .int .i64 0, .int .i64 xs.length] 45)) w2.heap.size room drops v' 0 xs xs ∧ (∀ j, v'.ownBlock = some j → w.heap.size ≤ j) ∧
      Below w.heap.size w (w2.alloc (.cells #[.pointer (some ⟨w2.heap.size, 0, none⟩), .int .i64 room, .int .i64 drops, v', .int .i64 0, .int .i64 xs.length] 45)) := by
  have h1 := hQ.ring.le
  have h2 := hQ.rle
  have hR := Ring.straight xs 0
  rw [List.replicate_zero, List.append_nil] at hR
  exact ⟨hB.size, ⟨heap_alloc_new w2 _, owns_le (hO.below ((Below.refl _ _).alloc (Nat.le_refl _) _)) (Nat.zero_le _), hR, by omega, hQ.r1, hQ.r2⟩, fun j hj => (hO.lt j hj).1, hB.alloc hB.size _⟩

set_option maxHeartbeats 2000000 in
theorem copy_any (p : Nat) (room drops : Int) (rv : Value) (f : Nat) (rs xs : List Int) (w : World) (hQ : QAt w p room drops rv f rs xs) :
    Calls Try.prog 12 #[.pointer (some ⟨p, 0, none⟩)] w fun e w' => ∃ p' rv', e = .returned (.pointer (some ⟨p', 0, none⟩)) ∧ w.heap.size ≤ p' ∧ QAt w' p' room drops rv' 0 xs xs ∧ (∀ j, rv'.ownBlock = some j → w.heap.size ≤ j) ∧ Below w.heap.size w w' := by
  obtain ⟨c0, c1, c2, c3, c4, c5⟩ := hQ.lies.cells
  have hpl := hQ.lies.lt
  have h1 := hQ.ring.le
  have h2 := hQ.rle
  have h3 := hQ.r2
  have hS := straight_any p room drops rv f xs.length rs xs w.drew (hQ.below (Below.drew (Below.refl _ _))) (Nat.le_refl _) (by omega)
  rw [Nat.sub_self, List.replicate_zero, List.append_nil] at hS
  have HS := hid hS
  have HQ := hid hQ
  have HFIN := hid (fun v' w2 (hO : Owns w2 w.heap.size v' xs) (hB : Below w.heap.size w w2) => copy_fin hQ hO hB)
  clear hQ hS h1 h2 h3 c3 c4
  go_enter Try.func12, Try.ntmps12
  go_wp2_with fail
  refine (given_yes p _ c0).mono ?_
  rintro e w1 ⟨rfl, hw1⟩
  subst hw1
  go_wp2_with fail
  go_region_held3 (fun w' => w'.cell? ⟨p, 1, none⟩ = some (.int .i64 room) ∧ w'.cell? ⟨p, 2, none⟩ = some (.int .i64 drops) ∧ w'.cell? ⟨p, 5, none⟩ = some (.int .i64 xs.length))
    (first | (refine ⟨?_, ?_, ?_⟩ <;> first | assumption | (simp [*, World.cell?_alloc_some]; done)))
    (first
      | (go_at_call 25; refine HS.out.mono ?_; rintro e w2 ⟨v', rfl, hO2, hB2⟩; clear HS
         have hB3 : Below w1.heap.size w1 w2 := (Below.drew (Below.refl _ _)).trans hB2
         obtain ⟨d0, d1, d2, d3, d4, d5⟩ := (HQ.out.lies.below hB3).cells
         have H2 := hid (HFIN.out v' w2 hO2 hB3)
         obtain ⟨ao2, n2, cp2, hv2⟩ := owns_slice hO2
         subst hv2
         clear c0 c1 c2 c5 d0 d3 d4 HQ HFIN hO2 hB2 hB3))
  go_wp2
  go_ret
  exact ⟨_, _, rfl, H2.out.1, H2.out.2.1, H2.out.2.2.1, H2.out.2.2.2⟩

end Go.Proofs.Ytebjkgibciiocaa
