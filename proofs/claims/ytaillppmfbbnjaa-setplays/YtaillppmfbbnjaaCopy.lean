/-
  The contract of a set's Copy.
-/
import Derived.Test.YtaillppmfbbnjaaObjAll
import Derived.Deep.RegionWith
namespace Go.Proofs.Ytaillppmfbbnjaa
open Go.RowKit
set_option linter.unusedVariables false

theorem copy_fin {w1 w2 : World} {p : Nat} {room : Int} {lv v2 : Value} {xs : List Int} (hS : SetAt w1 p room lv xs) (hO : Owns w2 w1.heap.size v2 xs) (hB : Below w1.heap.size w1 w2) :
    w1.heap.size ≤ w2.heap.size ∧ SetAt (w2.alloc (.cells #[.pointer (some ⟨w2.heap.size, 0, none⟩), .int .i64 room, v2] 49)) w2.heap.size room v2 xs ∧ (∀ j, v2.ownBlock = some j → w1.heap.size ≤ j) ∧
      Below w1.heap.size w1 (w2.alloc (.cells #[.pointer (some ⟨w2.heap.size, 0, none⟩), .int .i64 room, v2] 49)) :=
  ⟨hB.size, ⟨heap_alloc_new w2 _, owns_le (hO.below ((Below.refl _ _).alloc (Nat.le_refl _) _)) (Nat.zero_le _), hS.rises, hS.le, hS.r1, hS.r64⟩, fun j hj => (hO.lt j hj).1, hB.alloc hB.size _⟩

set_option maxHeartbeats 2000000 in
theorem copyO_any (p : Nat) (room : Int) (lv : Value) (xs : List Int) (w : World) (hS : SetAt w p room lv xs) :
    Calls Try.prog 33 #[.pointer (some ⟨p, 0, none⟩)] w fun e w' => ∃ p' lv', e = .returned (.pointer (some ⟨p', 0, none⟩)) ∧ w.heap.size ≤ p' ∧ SetAt w' p' room lv' xs ∧ (∀ j, lv'.ownBlock = some j → w.heap.size ≤ j) ∧ Below w.heap.size w w' := by
  obtain ⟨c0, c1, c2, c3⟩ := hS.lies.cells
  have hpl := hS.lies.lt
  have hr64 := hS.r64
  have hle := hS.le
  have hfr : ∀ n, _ := fun n => fresh_any lv xs (w.drewN n) (hS.own.sees.below (below_drewN (Below.refl _ _) n)) (by omega)
  obtain ⟨ao, c, hlv⟩ := hS.shape
  have HS := hid hS
  have HF := hid hfr
  clear hS hfr
  subst hlv
  go_enter Try.func33, Try.ntmps33
  go_wp2_with fail
  refine (given_yes p _ c0).mono ?_
  rintro e w1 ⟨rfl, hw1⟩
  subst hw1
  go_wp2_with fail
  go_region_with (first | (go_at_call 38; refine (HF.out _).mono ?_; rintro e w2 ⟨v2, rfl, hO2, hB2⟩; have d1 := (hB2.cell (p := ⟨p, 1, none⟩) (by exact hpl)).trans c1; have d2 := (hB2.cell (p := ⟨p, 2, none⟩) (by exact hpl)).trans c2; obtain ⟨b2, off2, ao2, cap2, rfl, _, _, _, _⟩ := hO2.sees) | (go_at_call 45; refine (lay_any _ _ _ _ _).mono ?_; rintro e w3 ⟨rfl, rfl⟩))
  all_goals
    have hO3 : Owns w2 w1.heap.size (.slice ao2 xs.length cap2) xs := hO2
    have hB3 : Below w1.heap.size w1 w2 := (below_drewN (Below.refl _ _) _).trans hB2
    have hfin := copy_fin HS.out hO3 hB3
    have HFIN := hid hfin
    clear hfin hO3 hB3 hO2 hB2 HF HS d1 d2 c0 c1 c2 c3
    go_wp2
    go_ret
    exact ⟨_, _, rfl, HFIN.out.1, HFIN.out.2.1, HFIN.out.2.2.1, HFIN.out.2.2.2⟩

end Go.Proofs.Ytaillppmfbbnjaa
