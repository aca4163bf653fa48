/-
  Queues of texts that a call has made itself.
-/
import Derived.Test.YtebjkgibciiocaaTxtB
namespace Go.Proofs.Ytebjkgibciiocaa.Txt
open Go.RowKit Go.Proofs.Ytebjkgibciiocaa
set_option linter.unusedVariables false
/-- At p lies a queue, made behind w0; what lay there before is as it was. -/
def QB (w0 w : World) (p : Nat) (room drops : Int) (xs : List ByteArray) : Prop :=
  ∃ rv f rs, QAt w p room drops rv f rs xs ∧ Below w0.heap.size w0 w ∧ w0.heap.size ≤ p ∧ ∀ j, rv.ownBlock = some j → w0.heap.size ≤ j

theorem QB.bel {w0 w : World} {p : Nat} {room drops : Int} {xs : List ByteArray} (h : QB w0 w p room drops xs) : Below w0.heap.size w0 w := by
  obtain ⟨rv, f, rs, hQ, hB, hp, hr⟩ := h
  exact hB

theorem QB.below {w0 w w' : World} {p : Nat} {room drops : Int} {xs : List ByteArray} (h : QB w0 w p room drops xs) (hb : Below w.heap.size w w') : QB w0 w' p room drops xs := by
  obtain ⟨rv, f, rs, hQ, hB, hp, hr⟩ := h
  exact ⟨rv, f, rs, hQ.below hb, hB.trans (hb.mono hB.size), hp, hr⟩

theorem QB.le {w0 w : World} {p : Nat} {room drops : Int} {xs : List ByteArray} (h : QB w0 w p room drops xs) : (xs.length : Int) ≤ room ∧ room ≤ 65536 := by
  obtain ⟨rv, f, rs, hQ, hB, hp, hr⟩ := h
  have h1 := hQ.ring.le
  have h2 := hQ.rle
  exact ⟨by omega, hQ.r2⟩


theorem QB.turn {w0 w w' : World} {p : Nat} {room drops' : Int} {rv rv' : Value} {f' : Nat} {rs' xs' : List ByteArray} (hB : Below w0.heap.size w0 w) (hp : w0.heap.size ≤ p) (hr : ∀ j, rv.ownBlock = some j → w0.heap.size ≤ j)
    (hQ : QAt w' p room drops' rv' f' rs' xs') (hT : Turned w w' p rv.ownBlock) (hF : rv'.ownBlock = rv.ownBlock ∨ ∀ j, rv'.ownBlock = some j → w.heap.size ≤ j) : QB w0 w' p room drops' xs' := by
  refine ⟨rv', f', rs', hQ, turned_below hB hT hp hr, hp, fun j hj => ?_⟩
  rcases hF with e | e
  · exact hr j (by rw [← e]; exact hj)
  · exact Nat.le_trans hB.size (e j hj)

theorem new_B (room : Int) (w : World) (h1 : 1 ≤ room) (h2 : room ≤ 65536) :
    Calls Try.prog 17 #[.int .i64 room] w fun e w' => e = .returned (.tuple #[.pointer (some ⟨w.heap.size, 0, none⟩), .int .i64 0]) ∧ QB w w' w.heap.size room 0 [] := by
  refine (new_any room w h1 h2).mono ?_
  rintro e w' ⟨rfl, hL, hB⟩
  exact ⟨rfl, .slice none 0 0, 0, [], ⟨hL, World.ownsRow_nil _ _ _ _, ⟨Nat.le_refl _, Or.inr ⟨rfl, rfl⟩, fun i hi => by simp at hi⟩, by simp; omega, h1, h2⟩, hB, Nat.le_refl _, fun j hj => by simp [Value.ownBlock] at hj⟩

theorem push_B (w0 : World) (p : Nat) (room drops : Int) (x : ByteArray) (xs : List ByteArray) (w : World) (h : QB w0 w p room drops xs) (hlt : (xs.length : Int) < room) :
    Calls Try.prog 18 #[.pointer (some ⟨p, 0, none⟩), .string x] w fun e w' => e = .returned (.bool true) ∧ QB w0 w' p room drops (xs ++ [x]) := by
  obtain ⟨rv, f, rs, hQ, hB, hp, hr⟩ := h
  refine (push_put p room drops x rv f rs xs w hQ hlt).mono ?_
  rintro e w' ⟨rfl, rv', f', rs', hQ', hT, hF⟩
  exact ⟨rfl, QB.turn hB hp hr hQ' hT hF⟩

theorem full_B (w0 : World) (p : Nat) (room drops : Int) (x : ByteArray) (xs : List ByteArray) (w : World) (h : QB w0 w p room drops xs) (hfull : room ≤ (xs.length : Int)) (h0 : 0 ≤ drops) (h1 : drops < 4611686018427387904) :
    Calls Try.prog 18 #[.pointer (some ⟨p, 0, none⟩), .string x] w fun e w' => e = .returned (.bool false) ∧ QB w0 w' p room (drops + 1) xs := by
  obtain ⟨rv, f, rs, hQ, hB, hp, hr⟩ := h
  refine (push_full p room drops x rv f rs xs w hQ hfull h0 h1).mono ?_
  rintro e w' ⟨rfl, hQ', hT⟩
  exact ⟨rfl, QB.turn hB hp hr hQ' hT (Or.inl rfl)⟩

theorem pop_B (w0 : World) (p : Nat) (room drops : Int) (x : ByteArray) (xs : List ByteArray) (w : World) (h : QB w0 w p room drops (x :: xs)) :
    Calls Try.prog 19 #[.pointer (some ⟨p, 0, none⟩)] w fun e w' => e = .returned (.tuple #[.string x, .bool true]) ∧ QB w0 w' p room drops xs := by
  obtain ⟨rv, f, rs, hQ, hB, hp, hr⟩ := h
  refine (pop_some p room drops x rv f rs xs w hQ).mono ?_
  rintro e w' ⟨rfl, rv', f', rs', hQ', hT, hF⟩
  exact ⟨rfl, QB.turn hB hp hr hQ' hT hF⟩

theorem popno_B (w0 : World) (p : Nat) (room drops : Int) (w : World) (h : QB w0 w p room drops []) :
    Calls Try.prog 19 #[.pointer (some ⟨p, 0, none⟩)] w fun e w' => e = .returned (.tuple #[.string ByteArray.empty, .bool false]) ∧ w' = w := by
  obtain ⟨rv, f, rs, hQ, hB, hp, hr⟩ := h
  exact pop_none p room drops rv f rs w hQ

theorem len_B (w0 : World) (p : Nat) (room drops : Int) (xs : List ByteArray) (w : World) (h : QB w0 w p room drops xs) :
    Calls Try.prog 20 #[.pointer (some ⟨p, 0, none⟩)] w fun e w' => e = .returned (.int .i64 xs.length) ∧ w' = w := by
  obtain ⟨rv, f, rs, hQ, hB, hp, hr⟩ := h
  exact len_any p room drops rv f rs xs w hQ

theorem drops_B (w0 : World) (p : Nat) (room drops : Int) (xs : List ByteArray) (w : World) (h : QB w0 w p room drops xs) :
    Calls Try.prog 21 #[.pointer (some ⟨p, 0, none⟩)] w fun e w' => e = .returned (.int .i64 drops) ∧ w' = w := by
  obtain ⟨rv, f, rs, hQ, hB, hp, hr⟩ := h
  exact drops_any p room drops rv f rs xs w hQ


end Go.Proofs.Ytebjkgibciiocaa.Txt
