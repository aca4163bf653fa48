/-
  SetPlays: what stands between two calls of the script: the set, the list beside it, the copy and the list that stood when it was made; nothing of them is shared.
-/
import Derived.Test.YtaillppmfbbnjaaCopy
namespace Go.Proofs.Ytaillppmfbbnjaa
open Go.RowKit
set_option linter.unusedVariables false

/-- v lies in another row than lv. -/
def Apart (v lv : Value) : Prop := v.ownBlock = none ∨ v.ownBlock ≠ lv.ownBlock

theorem own_ne_lies {w : World} {p : Nat} {room : Int} {lv v : Value} {xs : List Int} (hL : Lies w p room lv) (hO : Owns w 0 v xs) : v.ownBlock ≠ some p := by
  intro e
  rcases hO.2 with ⟨hlv, _⟩ | ⟨g, cap, cur, hlv, _, hg, _⟩
  · rw [hlv] at e
    simp [Value.ownBlock] at e
  · rw [hlv] at e
    simp [Value.ownBlock] at e
    subst e
    unfold Lies at hL
    rw [hg] at hL
    simp at hL

theorem keep_own {w w' : World} {p : Nat} {room : Int} {lv v : Value} {ys : List Int} (hL : Lies w p room lv) (hT : Turned w w' p lv.ownBlock) (hO : Owns w 0 v ys) (hA : Apart v lv) : Owns w' 0 v ys := by
  have hne := own_ne_lies hL hO
  refine ⟨hO.1, ?_⟩
  rcases hO.2 with hn | ⟨g, cap, cur, rfl, hb, hg, rest⟩
  · exact Or.inl hn
  · refine Or.inr ⟨g, cap, cur, rfl, hb, ?_, rest⟩
    rw [hT.block g (Array.getElem?_eq_some_iff.1 hg).1 (fun e => hne (by rw [e]; rfl)) ?_]
    · exact hg
    · rcases hA with h | h
      · simp [Value.ownBlock] at h
      · exact h

theorem keep_set {w w' : World} {p pc : Nat} {room : Int} {lv lvc : Value} {xs ys : List Int} (hS : SetAt w p room lv xs) (hT : Turned w w' p lv.ownBlock) (hC : SetAt w pc room lvc ys) (hne : pc ≠ p) (hA : Apart lvc lv) : SetAt w' pc room lvc ys := by
  refine ⟨?_, keep_own hS.lies hT hC.own hA, hC.rises, hC.le, hC.r1, hC.r64⟩
  unfold Lies
  rw [hT.block pc hC.lies.lt hne (fun e => own_ne_lies hC.lies hS.own e.symm)]
  exact hC.lies

theorem apart_turn {w : World} {v lv lv' : Value} {ys : List Int} (hO : Owns w 0 v ys) (hA : Apart v lv) (hF : lv'.ownBlock = lv.ownBlock ∨ ∀ j, lv'.ownBlock = some j → w.heap.size ≤ j) : Apart v lv' := by
  rcases hF with e | e
  · unfold Apart
    rw [e]
    exact hA
  · cases hv : v.ownBlock with
    | none => exact Or.inl hv
    | some k =>
      refine Or.inr fun h => ?_
      rw [hv] at h
      have h1 := e k h.symm
      have h2 := (hO.lt k hv).2
      omega

theorem apart_new {w w' : World} {base : Nat} {v lv : Value} {xs ys : List Int} (hO : Owns w 0 lv xs) (hN : Owns w' base v ys) (hb : w.heap.size ≤ base) : Apart v lv := by
  cases hv : v.ownBlock with
  | none => exact Or.inl hv
  | some k =>
    refine Or.inr fun h => ?_
    rw [hv] at h
    have h1 := (hO.lt k h.symm).2
    have h2 := (hN.lt k hv).1
    omega

/-- What stands beside the set and its list: the copy, and old memory. -/
structure PlayC (w0 : World) (p : Nat) (room : Int) (old c lv : Value) (wr : World) : Prop where
  copy : c = .pointer none ∨ ∃ pc lvc ys, c = .pointer (some ⟨pc, 0, none⟩) ∧ pc ≠ p ∧ SetAt wr pc room lvc ys ∧ Apart lvc lv ∧ Owns wr 0 old ys ∧ Apart old lv
  bel : Below w0.heap.size w0 wr
  pos : w0.heap.size ≤ p
  row : ∀ j, lv.ownBlock = some j → w0.heap.size ≤ j

/-- All of it. -/
structure PlayS (w0 : World) (p : Nat) (room : Int) (l old c lv : Value) (xs : List Int) (wr : World) : Prop where
  set : SetAt wr p room lv xs
  list : Owns wr 0 l xs
  apart : Apart l lv
  rest : PlayC w0 p room old c lv wr

theorem PlayC.below {w0 wr w' : World} {p : Nat} {room : Int} {old c lv : Value} (h : PlayC w0 p room old c lv wr) (hb : Below wr.heap.size wr w') : PlayC w0 p room old c lv w' := by
  refine ⟨?_, h.bel.trans (hb.mono h.bel.size), h.pos, h.row⟩
  rcases h.copy with e | ⟨pc, lvc, ys, e, h1, h2, h3, h4, h5⟩
  · exact Or.inl e
  · exact Or.inr ⟨pc, lvc, ys, e, h1, h2.below hb, h3, h4.below hb, h5⟩

theorem PlayS.below {w0 wr w' : World} {p : Nat} {room : Int} {l old c lv : Value} {xs : List Int} (h : PlayS w0 p room l old c lv xs wr) (hb : Below wr.heap.size wr w') : PlayS w0 p room l old c lv xs w' :=
  ⟨h.set.below hb, h.list.below hb, h.apart, h.rest.below hb⟩

theorem PlayS.turn {w0 wr w' : World} {p : Nat} {room : Int} {l old c lv lv' : Value} {xs : List Int} (h : PlayS w0 p room l old c lv xs wr) (hT : Turned wr w' p lv.ownBlock)
    (hF : lv'.ownBlock = lv.ownBlock ∨ ∀ j, lv'.ownBlock = some j → wr.heap.size ≤ j) : Owns w' 0 l xs ∧ Apart l lv' ∧ PlayC w0 p room old c lv' w' := by
  have hs := h.rest.bel.size
  refine ⟨keep_own h.set.lies hT h.list h.apart, apart_turn h.list h.apart hF, ?_, ?_, h.rest.pos, ?_⟩
  · rcases h.rest.copy with e | ⟨pc, lvc, ys, e, h1, h2, h3, h4, h5⟩
    · exact Or.inl e
    · exact Or.inr ⟨pc, lvc, ys, e, h1, keep_set h.set hT h2 h1 h3, apart_turn h2.own h3 hF, keep_own h.set.lies hT h4 h5, apart_turn h4 h5 hF⟩
  · refine ⟨hT.os.trans h.rest.bel.os, hT.tape.trans h.rest.bel.tape, hT.output.trans h.rest.bel.output, Nat.le_trans hs hT.size, fun k hk => ?_⟩
    have hp := h.rest.pos
    rw [hT.block k (by omega) (by omega) (fun e => by have := h.rest.row k e.symm; omega)]
    exact h.rest.bel.block k hk
  · intro j hj
    rcases hF with e | e
    · exact h.rest.row j (by rw [← e]; exact hj)
    · exact Nat.le_trans hs (e j hj)

/-- A new list beside the set. -/
theorem PlayC.list {w0 w1 w2 : World} {base p : Nat} {room : Int} {l old c lv : Value} {xs : List Int} (h : PlayC w0 p room old c lv w1) (hS : SetAt w1 p room lv xs) (hO : Owns w2 base l xs) (hb : w1.heap.size ≤ base) (hB : Below w1.heap.size w1 w2) : PlayS w0 p room l old c lv xs w2 :=
  ⟨hS.below hB, owns_le hO (Nat.zero_le _), apart_new hS.own hO hb, h.below hB⟩

/-- A copy is made. -/
theorem PlayS.copied {w0 wr w' : World} {p pc : Nat} {room : Int} {l old c lv lvc : Value} {xs : List Int} (h : PlayS w0 p room l old c lv xs wr) (hC : SetAt w' pc room lvc xs) (hpc : wr.heap.size ≤ pc) (hlv : ∀ j, lvc.ownBlock = some j → wr.heap.size ≤ j) (hB : Below wr.heap.size wr w') :
    PlayS w0 p room l l (.pointer (some ⟨pc, 0, none⟩)) lv xs w' := by
  have hpl := h.set.lies.lt
  refine ⟨h.set.below hB, h.list.below hB, h.apart, ⟨Or.inr ⟨pc, lvc, xs, rfl, by omega, hC, ?_, h.list.below hB, h.apart⟩, h.rest.bel.trans (hB.mono h.rest.bel.size), h.rest.pos, h.rest.row⟩⟩
  cases hv : lvc.ownBlock with
  | none => exact Or.inl hv
  | some k =>
    refine Or.inr fun e => ?_
    rw [hv] at e
    have h1 := hlv k hv
    have h2 := (h.set.own.lt k e.symm).2
    omega

theorem PlayS.len {w0 wr : World} {p : Nat} {room : Int} {l old c lv : Value} {xs : List Int} (h : PlayS w0 p room l old c lv xs wr) : xs.length ≤ 64 := by
  have h1 := h.set.le
  have h2 := h.set.r64
  omega

theorem PlayS.shape {w0 wr : World} {p : Nat} {room : Int} {l old c lv : Value} {xs : List Int} (h : PlayS w0 p room l old c lv xs wr) : ∃ ao cap, l = .slice ao xs.length cap := by
  obtain ⟨b, off, ao, cap, hv, _⟩ := h.list.sees
  exact ⟨ao, cap, hv⟩

theorem sd_in {xs : List Int} {x : Int} (h : xs.Pairwise (· < ·)) (hx : x ∈ xs) : sd (xs ++ [x]) = xs := by
  refine sd_of h fun z => ?_
  simp only [List.mem_append, List.mem_singleton]
  constructor
  · exact Or.inl
  · rintro (h1 | rfl)
    · exact h1
    · exact hx

theorem less_out {xs : List Int} {x : Int} (h : xs.Pairwise (· < ·)) (hx : x ∉ xs) : lessL xs [x] = xs := by
  refine ordI.uniq (lessL_rises _ _) h fun z => ?_
  rw [mem_lessL, List.mem_singleton]
  constructor
  · exact fun h1 => h1.1
  · exact fun h1 => ⟨h1, fun e => hx (e ▸ h1)⟩

end Go.Proofs.Ytaillppmfbbnjaa
