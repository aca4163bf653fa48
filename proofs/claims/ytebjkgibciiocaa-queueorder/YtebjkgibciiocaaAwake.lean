/-
  A queue that a call has made itself: its contracts in one hand; the contract of 'awake'.
-/
import Derived.Test.YtebjkgibciiocaaCopy
namespace Go.Proofs.Ytebjkgibciiocaa
open Go.RowKit
set_option linter.unusedVariables false

/-- At p lies a queue, made behind w0; what lay there before is as it was. -/
def QB (w0 w : World) (p : Nat) (room drops : Int) (xs : List Int) : Prop :=
  ∃ rv f rs, QAt w p room drops rv f rs xs ∧ Below w0.heap.size w0 w ∧ w0.heap.size ≤ p ∧ ∀ j, rv.ownBlock = some j → w0.heap.size ≤ j

theorem QB.bel {w0 w : World} {p : Nat} {room drops : Int} {xs : List Int} (h : QB w0 w p room drops xs) : Below w0.heap.size w0 w := by
  obtain ⟨rv, f, rs, hQ, hB, hp, hr⟩ := h
  exact hB

theorem QB.below {w0 w w' : World} {p : Nat} {room drops : Int} {xs : List Int} (h : QB w0 w p room drops xs) (hb : Below w.heap.size w w') : QB w0 w' p room drops xs := by
  obtain ⟨rv, f, rs, hQ, hB, hp, hr⟩ := h
  exact ⟨rv, f, rs, hQ.below hb, hB.trans (hb.mono hB.size), hp, hr⟩

theorem QB.le {w0 w : World} {p : Nat} {room drops : Int} {xs : List Int} (h : QB w0 w p room drops xs) : (xs.length : Int) ≤ room ∧ room ≤ 65536 := by
  obtain ⟨rv, f, rs, hQ, hB, hp, hr⟩ := h
  have h1 := hQ.ring.le
  have h2 := hQ.rle
  exact ⟨by omega, hQ.r2⟩

theorem turned_below {w0 w w' : World} {p : Nat} {ob : Option Nat} (hB : Below w0.heap.size w0 w) (hT : Turned w w' p ob) (hp : w0.heap.size ≤ p) (hr : ∀ j, ob = some j → w0.heap.size ≤ j) : Below w0.heap.size w0 w' := by
  have hs := hB.size
  refine ⟨hT.os.trans hB.os, hT.tape.trans hB.tape, hT.output.trans hB.output, Nat.le_trans hs hT.size, fun k hk => ?_⟩
  rw [hT.block k (by omega) (by omega) (fun e => by have := hr k e.symm; omega)]
  exact hB.block k hk

theorem QB.turn {w0 w w' : World} {p : Nat} {room drops' : Int} {rv rv' : Value} {f' : Nat} {rs' xs' : List Int} (hB : Below w0.heap.size w0 w) (hp : w0.heap.size ≤ p) (hr : ∀ j, rv.ownBlock = some j → w0.heap.size ≤ j)
    (hQ : QAt w' p room drops' rv' f' rs' xs') (hT : Turned w w' p rv.ownBlock) (hF : rv'.ownBlock = rv.ownBlock ∨ ∀ j, rv'.ownBlock = some j → w.heap.size ≤ j) : QB w0 w' p room drops' xs' := by
  refine ⟨rv', f', rs', hQ, turned_below hB hT hp hr, hp, fun j hj => ?_⟩
  rcases hF with e | e
  · exact hr j (by rw [← e]; exact hj)
  · exact Nat.le_trans hB.size (e j hj)

theorem new_B (room : Int) (w : World) (h1 : 1 ≤ room) (h2 : room ≤ 65536) :
    Calls Try.prog 8 #[.int .i64 room] w fun e w' => e = .returned (.tuple #[.pointer (some ⟨w.heap.size, 0, none⟩), .int .i64 0]) ∧ QB w w' w.heap.size room 0 [] := by
  refine (new_any room w h1 h2).mono ?_
  rintro e w' ⟨rfl, hL, hB⟩
  exact ⟨rfl, .slice none 0 0, 0, [], ⟨hL, World.ownsRow_nil _ _ _ _, ⟨Nat.le_refl _, Or.inr ⟨rfl, rfl⟩, fun i hi => by simp at hi⟩, by simp; omega, h1, h2⟩, hB, Nat.le_refl _, fun j hj => by simp [Value.ownBlock] at hj⟩

theorem push_B (w0 : World) (p : Nat) (room drops x : Int) (xs : List Int) (w : World) (h : QB w0 w p room drops xs) (hlt : (xs.length : Int) < room) :
    Calls Try.prog 11 #[.pointer (some ⟨p, 0, none⟩), .int .i64 x] w fun e w' => e = .returned (.bool true) ∧ QB w0 w' p room drops (xs ++ [x]) := by
  obtain ⟨rv, f, rs, hQ, hB, hp, hr⟩ := h
  refine (push_put p room drops x rv f rs xs w hQ hlt).mono ?_
  rintro e w' ⟨rfl, rv', f', rs', hQ', hT, hF⟩
  exact ⟨rfl, QB.turn hB hp hr hQ' hT hF⟩

theorem full_B (w0 : World) (p : Nat) (room drops x : Int) (xs : List Int) (w : World) (h : QB w0 w p room drops xs) (hfull : room ≤ (xs.length : Int)) (h0 : 0 ≤ drops) (h1 : drops < 4611686018427387904) :
    Calls Try.prog 11 #[.pointer (some ⟨p, 0, none⟩), .int .i64 x] w fun e w' => e = .returned (.bool false) ∧ QB w0 w' p room (drops + 1) xs := by
  obtain ⟨rv, f, rs, hQ, hB, hp, hr⟩ := h
  refine (push_full p room drops x rv f rs xs w hQ hfull h0 h1).mono ?_
  rintro e w' ⟨rfl, hQ', hT⟩
  exact ⟨rfl, QB.turn hB hp hr hQ' hT (Or.inl rfl)⟩

theorem pop_B (w0 : World) (p : Nat) (room drops x : Int) (xs : List Int) (w : World) (h : QB w0 w p room drops (x :: xs)) :
    Calls Try.prog 10 #[.pointer (some ⟨p, 0, none⟩)] w fun e w' => e = .returned (.tuple #[.int .i64 x, .bool true]) ∧ QB w0 w' p room drops xs := by
  obtain ⟨rv, f, rs, hQ, hB, hp, hr⟩ := h
  refine (pop_some p room drops x rv f rs xs w hQ).mono ?_
  rintro e w' ⟨rfl, rv', f', rs', hQ', hT, hF⟩
  exact ⟨rfl, QB.turn hB hp hr hQ' hT hF⟩

theorem popno_B (w0 : World) (p : Nat) (room drops : Int) (w : World) (h : QB w0 w p room drops []) :
    Calls Try.prog 10 #[.pointer (some ⟨p, 0, none⟩)] w fun e w' => e = .returned (.tuple #[.int .i64 0, .bool false]) ∧ w' = w := by
  obtain ⟨rv, f, rs, hQ, hB, hp, hr⟩ := h
  exact pop_none p room drops rv f rs w hQ

theorem len_B (w0 : World) (p : Nat) (room drops : Int) (xs : List Int) (w : World) (h : QB w0 w p room drops xs) :
    Calls Try.prog 13 #[.pointer (some ⟨p, 0, none⟩)] w fun e w' => e = .returned (.int .i64 xs.length) ∧ w' = w := by
  obtain ⟨rv, f, rs, hQ, hB, hp, hr⟩ := h
  exact len_any p room drops rv f rs xs w hQ

theorem drops_B (w0 : World) (p : Nat) (room drops : Int) (xs : List Int) (w : World) (h : QB w0 w p room drops xs) :
    Calls Try.prog 14 #[.pointer (some ⟨p, 0, none⟩)] w fun e w' => e = .returned (.int .i64 drops) ∧ w' = w := by
  obtain ⟨rv, f, rs, hQ, hB, hp, hr⟩ := h
  exact drops_any p room drops rv f rs xs w hQ

theorem items_B (w0 : World) (p : Nat) (room drops : Int) (xs : List Int) (w : World) (h : QB w0 w p room drops xs) :
    Calls Try.prog 15 #[.pointer (some ⟨p, 0, none⟩)] w fun e w' => ∃ v', e = .returned v' ∧ Owns w' w.heap.size v' xs ∧ Below w.heap.size w w' := by
  obtain ⟨rv, f, rs, hQ, hB, hp, hr⟩ := h
  exact items_any p room drops rv f rs xs w hQ

theorem sees_two (w : World) (x y : Int) : Sees (w.alloc (.cells #[.int .i64 x, .int .i64 y] 3)) (.slice (some ⟨w.heap.size, 0, none⟩) 2 2) [x, y] := by
  refine ⟨w.heap.size, 0, _, 2, rfl, Nat.le_refl _, (fun h => by cases h), fun _ => rfl, fun j hj => ?_⟩
  have : j = 0 ∨ j = 1 := by simp at hj; omega
  rcases this with rfl | rfl <;> simp

set_option maxHeartbeats 2000000 in
theorem awake_any (w : World) : Calls Try.prog 9 #[] w fun e w' => e = .returned (.bool true) ∧ Below w.heap.size w w' := by
  go_enter Try.func9, Try.ntmps9
  go_wp2_with fail
  refine (new_B 2 _ (by decide) (by decide)).mono ?_
  rintro e w1 ⟨rfl, h1⟩
  go_wp2_with fail
  refine (push_B _ _ _ _ _ _ _ h1 (by decide)).mono ?_
  clear h1
  rintro e w2 ⟨rfl, h2⟩
  go_wp2_with fail
  refine (push_B _ _ _ _ _ _ _ h2 (by decide)).mono ?_
  clear h2
  rintro e w3 ⟨rfl, h3⟩
  go_wp2_with fail
  refine (full_B _ _ _ _ _ _ _ h3 (by decide) (by decide) (by decide)).mono ?_
  clear h3
  rintro e w4 ⟨rfl, h4⟩
  go_wp2_with fail
  refine (pop_B _ _ _ _ _ [2] _ h4).mono ?_
  clear h4
  rintro e w5 ⟨rfl, h5⟩
  go_wp2_with fail
  refine (drops_B _ _ _ _ _ _ h5).mono ?_
  rintro e w6 ⟨rfl, hw⟩
  subst hw
  go_wp2_with fail
  refine (push_B _ _ _ _ _ _ _ h5 (by decide)).mono ?_
  clear h5
  rintro e w7 ⟨rfl, h7⟩
  go_wp2_with fail
  refine (items_B _ _ _ _ _ _ h7).mono ?_
  rintro e w8 ⟨v8, rfl, hO8, hB8⟩
  have hb := h7.bel
  clear h7
  go_wp2_with fail
  have hM := same_any _ _ [2, 4] [2, 4] _ (hO8.sees.below ((Below.refl _ _).alloc (Nat.le_refl _) _)) (sees_two w8 2 4) (by decide) (by decide)
  rw [decide_eq_true (rfl : [(2 : Int), 4] = [2, 4])] at hM
  refine hM.mono ?_
  clear hM hO8
  rintro e w9 ⟨rfl, hB9⟩
  go_wp2
  go_ret
  have hb8 : Below w.heap.size w w8 := hb.trans (hB8.mono hb.size)
  exact ⟨rfl, (hb8.alloc hb8.size _).trans (hB9.mono (by simp; have := hb8.size; omega))⟩

/-- A queue that nobody made: no queue, or one of zero values. -/
def Nobody (w : World) (pv : Value) : Prop := pv = .pointer none ∨ ∃ z, pv = .pointer (some ⟨z, 0, none⟩) ∧ w.cell? ⟨z, 0, none⟩ = some (.pointer none)

theorem given_no (pv : Value) (w : World) (h : Nobody w pv) : Calls Try.prog 22 #[pv] w fun e w' => e = .returned (.bool false) ∧ w' = w := by
  rcases h with rfl | ⟨z, rfl, hz⟩
  · exact given_nil w
  · exact given_zero z w hz

set_option maxHeartbeats 400000 in
theorem pop_no (pv : Value) (w : World) (h : Nobody w pv) : Calls Try.prog 10 #[pv] w fun e w' => e = .returned (.tuple #[.int .i64 0, .bool false]) ∧ w' = w := by
  go_enter Try.func10, Try.ntmps10
  go_wp2_with fail
  refine (given_no pv _ h).mono ?_
  rintro e w1 ⟨rfl, rfl⟩
  go_wp2
  go_ret2
  exact ⟨rfl, rfl⟩

set_option maxHeartbeats 400000 in
theorem push_no (pv : Value) (x : Int) (w : World) (h : Nobody w pv) : Calls Try.prog 11 #[pv, .int .i64 x] w fun e w' => e = .returned (.bool false) ∧ w' = w := by
  go_enter Try.func11, Try.ntmps11
  go_wp2_with fail
  refine (given_no pv _ h).mono ?_
  rintro e w1 ⟨rfl, rfl⟩
  go_wp2
  go_ret
  exact ⟨rfl, rfl⟩

set_option maxHeartbeats 400000 in
theorem len_no (pv : Value) (w : World) (h : Nobody w pv) : Calls Try.prog 13 #[pv] w fun e w' => e = .returned (.int .i64 0) ∧ w' = w := by
  go_enter Try.func13, Try.ntmps13
  go_wp2_with fail
  refine (given_no pv _ h).mono ?_
  rintro e w1 ⟨rfl, rfl⟩
  go_wp2
  go_ret
  exact ⟨rfl, rfl⟩

set_option maxHeartbeats 400000 in
theorem drops_no (pv : Value) (w : World) (h : Nobody w pv) : Calls Try.prog 14 #[pv] w fun e w' => e = .returned (.int .i64 0) ∧ w' = w := by
  go_enter Try.func14, Try.ntmps14
  go_wp2_with fail
  refine (given_no pv _ h).mono ?_
  rintro e w1 ⟨rfl, rfl⟩
  go_wp2
  go_ret
  exact ⟨rfl, rfl⟩

set_option maxHeartbeats 400000 in
theorem items_no (pv : Value) (w : World) (h : Nobody w pv) : Calls Try.prog 15 #[pv] w fun e w' => e = .returned (.slice none 0 0) ∧ w' = w := by
  go_enter Try.func15, Try.ntmps15
  go_wp2_with fail
  refine (given_no pv _ h).mono ?_
  rintro e w1 ⟨rfl, rfl⟩
  go_wp2
  go_ret
  exact ⟨rfl, rfl⟩

set_option maxHeartbeats 400000 in
theorem copy_no (pv : Value) (w : World) (h : Nobody w pv) : Calls Try.prog 12 #[pv] w fun e w' => e = .returned (.pointer none) ∧ w' = w := by
  go_enter Try.func12, Try.ntmps12
  go_wp2_with fail
  refine (given_no pv _ h).mono ?_
  rintro e w1 ⟨rfl, rfl⟩
  go_wp2
  go_ret
  exact ⟨rfl, rfl⟩

set_option maxHeartbeats 1000000 in
theorem nobody_walk (x : Int) (w : World) : Calls Try.prog 6 #[.int .i64 x] w fun e w' => e = .returned (.bool true) ∧ Below w.heap.size w w' := by
  go_enter Try.func6, Try.ntmps6
  go_wp2
  go_loop [4] (fun i => ∃ k : Nat, k ≤ 2 ∧ i = .int .i64 k) (fun i => 2 - (intOf i).toNat)
  case atStart => exact ⟨0, by decide, rfl⟩
  case round =>
    obtain ⟨k, hk, rfl⟩ := hrel
    have hk3 : k = 0 ∨ k = 1 ∨ k = 2 := by omega
    rcases hk3 with rfl | rfl | rfl
    · have hN : Nobody ((w.alloc (.cells #[.pointer none, .int .i64 0, .int .i64 0, .slice none 0 0, .int .i64 0, .int .i64 0] 45)).alloc (.cells #[.pointer none, .pointer (some ⟨w.heap.size, 0, none⟩)] 23)) (.pointer none) := Or.inl rfl
      go_wp2_with (first | (go_at_call 10; refine (pop_no _ _ hN).mono ?_; rintro e w' ⟨rfl, rfl⟩) | (go_at_call 11; refine (push_no _ _ _ hN).mono ?_; rintro e w' ⟨rfl, rfl⟩) | (go_at_call 13; refine (len_no _ _ hN).mono ?_; rintro e w' ⟨rfl, rfl⟩) | (go_at_call 14; refine (drops_no _ _ hN).mono ?_; rintro e w' ⟨rfl, rfl⟩) | (go_at_call 15; refine (items_no _ _ hN).mono ?_; rintro e w' ⟨rfl, rfl⟩) | (go_at_call 12; refine (copy_no _ _ hN).mono ?_; rintro e w' ⟨rfl, rfl⟩))
      go_round
      case rel => exact ⟨1, by decide, rfl⟩
      case measure => simp [intOf]
    · have hN : Nobody ((w.alloc (.cells #[.pointer none, .int .i64 0, .int .i64 0, .slice none 0 0, .int .i64 0, .int .i64 0] 45)).alloc (.cells #[.pointer none, .pointer (some ⟨w.heap.size, 0, none⟩)] 23)) (.pointer (some ⟨w.heap.size, 0, none⟩)) := Or.inr ⟨_, rfl, by simp⟩
      go_wp2_with (first | (go_at_call 10; refine (pop_no _ _ hN).mono ?_; rintro e w' ⟨rfl, rfl⟩) | (go_at_call 11; refine (push_no _ _ _ hN).mono ?_; rintro e w' ⟨rfl, rfl⟩) | (go_at_call 13; refine (len_no _ _ hN).mono ?_; rintro e w' ⟨rfl, rfl⟩) | (go_at_call 14; refine (drops_no _ _ hN).mono ?_; rintro e w' ⟨rfl, rfl⟩) | (go_at_call 15; refine (items_no _ _ hN).mono ?_; rintro e w' ⟨rfl, rfl⟩) | (go_at_call 12; refine (copy_no _ _ hN).mono ?_; rintro e w' ⟨rfl, rfl⟩))
      go_round
      case rel => exact ⟨2, by decide, rfl⟩
      case measure => simp [intOf]
    · go_wp2_with fail
      refine (awake_any _).mono ?_
      rintro e w1 ⟨rfl, hB⟩
      go_wp2
      go_ret
      exact ⟨rfl, (((Below.refl _ _).alloc (Nat.le_refl _) _).alloc (by simp) _).trans (hB.mono (by simp; omega))⟩

end Go.Proofs.Ytebjkgibciiocaa
