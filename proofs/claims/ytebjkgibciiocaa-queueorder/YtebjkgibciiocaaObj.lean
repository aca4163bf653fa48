/-
  The contracts of a queue's Push, Pop, Len, Drops, Items and Copy.
-/
import Derived.Test.YtebjkgibciiocaaWiden
namespace Go.Proofs.Ytebjkgibciiocaa
open Go.RowKit
set_option linter.unusedVariables false

set_option maxHeartbeats 1000000 in
theorem len_any (p : Nat) (room drops : Int) (rv : Value) (f : Nat) (rs xs : List Int) (w : World) (hQ : QAt w p room drops rv f rs xs) :
    Calls Try.prog 13 #[.pointer (some ⟨p, 0, none⟩)] w fun e w' => e = .returned (.int .i64 xs.length) ∧ w' = w := by
  obtain ⟨c0, c1, c2, c3, c4, c5⟩ := hQ.lies.cells
  clear hQ
  go_enter Try.func13, Try.ntmps13
  go_wp2_with fail
  refine (given_yes p _ c0).mono ?_
  rintro e w1 ⟨rfl, hw1⟩
  subst hw1
  go_wp2
  go_ret
  exact ⟨rfl, rfl⟩

set_option maxHeartbeats 1000000 in
theorem drops_any (p : Nat) (room drops : Int) (rv : Value) (f : Nat) (rs xs : List Int) (w : World) (hQ : QAt w p room drops rv f rs xs) :
    Calls Try.prog 14 #[.pointer (some ⟨p, 0, none⟩)] w fun e w' => e = .returned (.int .i64 drops) ∧ w' = w := by
  obtain ⟨c0, c1, c2, c3, c4, c5⟩ := hQ.lies.cells
  clear hQ
  go_enter Try.func14, Try.ntmps14
  go_wp2_with fail
  refine (given_yes p _ c0).mono ?_
  rintro e w1 ⟨rfl, hw1⟩
  subst hw1
  go_wp2
  go_ret
  exact ⟨rfl, rfl⟩

set_option maxHeartbeats 1000000 in
theorem items_any (p : Nat) (room drops : Int) (rv : Value) (f : Nat) (rs xs : List Int) (w : World) (hQ : QAt w p room drops rv f rs xs) :
    Calls Try.prog 15 #[.pointer (some ⟨p, 0, none⟩)] w fun e w' => ∃ v', e = .returned v' ∧ Owns w' w.heap.size v' xs ∧ Below w.heap.size w w' := by
  obtain ⟨c0, c1, c2, c3, c4, c5⟩ := hQ.lies.cells
  have h1 := hQ.ring.le
  have h2 := hQ.rle
  have h3 := hQ.r2
  have hS := straight_any p room drops rv f xs.length rs xs w hQ (Nat.le_refl _) (by omega)
  rw [Nat.sub_self, List.replicate_zero, List.append_nil] at hS
  clear hQ
  go_enter Try.func15, Try.ntmps15
  go_wp2_with fail
  refine (given_yes p _ c0).mono ?_
  rintro e w1 ⟨rfl, hw1⟩
  subst hw1
  go_wp2_with fail
  refine hS.mono ?_
  rintro e w2 ⟨v', rfl, hO, hB⟩
  go_wp2
  go_ret
  exact ⟨v', rfl, hO, hB⟩

set_option maxHeartbeats 1000000 in
theorem pop_none (p : Nat) (room drops : Int) (rv : Value) (f : Nat) (rs : List Int) (w : World) (hQ : QAt w p room drops rv f rs []) :
    Calls Try.prog 10 #[.pointer (some ⟨p, 0, none⟩)] w fun e w' => e = .returned (.tuple #[.int .i64 0, .bool false]) ∧ w' = w := by
  obtain ⟨c0, c1, c2, c3, c4, c5⟩ := hQ.lies.cells
  simp only [List.length_nil] at c5
  clear hQ
  go_enter Try.func10, Try.ntmps10
  go_wp2_with fail
  refine (given_yes p _ c0).mono ?_
  rintro e w1 ⟨rfl, hw1⟩
  subst hw1
  go_wp2
  go_ret2
  exact ⟨rfl, rfl⟩

set_option maxHeartbeats 1000000 in
theorem push_full (p : Nat) (room drops x : Int) (rv : Value) (f : Nat) (rs xs : List Int) (w : World) (hQ : QAt w p room drops rv f rs xs) (hfull : room ≤ (xs.length : Int)) (h0 : 0 ≤ drops) (h1 : drops < 4611686018427387904) :
    Calls Try.prog 11 #[.pointer (some ⟨p, 0, none⟩), .int .i64 x] w fun e w' => e = .returned (.bool false) ∧ QAt w' p room (drops + 1) rv f rs xs ∧ Turned w w' p rv.ownBlock := by
  obtain ⟨c0, c1, c2, c3, c4, c5⟩ := hQ.lies.cells
  have y2 := hQ.lies.warm 2
  have hdn : ¬ 4611686018427387904 < drops + 1 := by omega
  have hw : IntKind.i64.wrap (drops + 1) = drops + 1 := by rw [IntKind.wrap_i64]; omega
  have HF := hid (fun q => (show QAt ((w.drewN q).setCell ⟨p, 2, none⟩ (.int .i64 (drops + 1))) p room (drops + 1) rv f rs xs ∧ Turned w ((w.drewN q).setCell ⟨p, 2, none⟩ (.int .i64 (drops + 1))) p rv.ownBlock from
    have hq := hQ.below (below_drewN (Below.refl _ _) q)
    ⟨⟨hq.lies.put2, owns_far hq.own hq.ne, hq.ring, hq.rle, hq.r1, hq.r2⟩, (Turned.of (below_drewN (Below.refl _ _) q) p _).put _ _⟩))
  clear hQ
  go_enter Try.func11, Try.ntmps11
  go_wp2_with fail
  refine (given_yes p _ c0).mono ?_
  rintro e w1 ⟨rfl, hw1⟩
  subst hw1
  go_wp2_with fail
  go_quiet (fail)
  go_wp2
  go_ret
  exact ⟨rfl, (HF.out _).1, (HF.out _).2⟩

end Go.Proofs.Ytebjkgibciiocaa
