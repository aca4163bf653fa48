/-
  A list that is written round the end of a row; where a queue lies in memory; the contracts of given, New and place.
-/
import Derived.Test.YtebjkgibciiocaaBase
namespace Go.Proofs.Ytebjkgibciiocaa
open Go.RowKit
set_option linter.unusedVariables false

theorem mod_cases {f i L : Nat} (hf : f < L) (hi : i ≤ L) : ((f + i) % L = f + i ∧ f + i < L) ∨ ((f + i) % L = f + i - L ∧ L ≤ f + i) := by
  by_cases h : f + i < L
  · exact Or.inl ⟨Nat.mod_eq_of_lt h, h⟩
  · refine Or.inr ⟨?_, by omega⟩
    rw [Nat.mod_eq_sub_mod (by omega), Nat.mod_eq_of_lt (by omega)]

/-- The row rs holds xs from the place f on, round its end. -/
structure Ring (rs : List Int) (f : Nat) (xs : List Int) : Prop where
  le : xs.length ≤ rs.length
  first : (f < rs.length) ∨ (f = 0 ∧ rs.length = 0)
  spot : ∀ i, i < xs.length → rs.getD ((f + i) % rs.length) 0 = xs.getD i 0

theorem Ring.lt {rs xs : List Int} {f : Nat} (h : Ring rs f xs) (h0 : 0 < rs.length) : f < rs.length := by
  rcases h.first with h1 | h1 <;> omega

theorem Ring.push {rs xs : List Int} {f : Nat} (x : Int) (h : Ring rs f xs) (hlt : xs.length < rs.length) :
    Ring (rs.set ((f + xs.length) % rs.length) x) f (xs ++ [x]) := by
  have hf := h.lt (by omega)
  refine ⟨by simp; omega, Or.inl (by simpa using hf), fun i hi => ?_⟩
  rw [List.length_set]
  have hm : (f + xs.length) % rs.length < rs.length := Nat.mod_lt _ (by omega)
  simp at hi
  by_cases hie : i = xs.length
  · subst hie
    simp [List.getD, hm]
  · have hil : i < xs.length := by omega
    have hne : (f + xs.length) % rs.length ≠ (f + i) % rs.length := by
      rcases mod_cases (i := i) hf (by omega) with ⟨e1, e2⟩ | ⟨e1, e2⟩ <;> rcases mod_cases (i := xs.length) hf (by omega) with ⟨e3, e4⟩ | ⟨e3, e4⟩ <;> rw [e1, e3] <;> omega
    have h2 := h.spot i hil
    simp only [List.getD] at h2 ⊢
    rw [List.getElem?_set_ne hne, h2, List.getElem?_append_left hil]

theorem Ring.pop {rs xs : List Int} {f : Nat} {x : Int} (z : Int) (h : Ring rs f (x :: xs)) :
    rs.getD f 0 = x ∧ f < rs.length ∧ Ring (rs.set f z) ((f + 1) % rs.length) xs := by
  have hle := h.le
  simp at hle
  have hf := h.lt (by omega)
  have h0 := h.spot 0 (by simp)
  rw [Nat.add_zero, Nat.mod_eq_of_lt hf] at h0
  refine ⟨by simpa using h0, hf, ⟨by simp; omega, Or.inl (by simp; exact Nat.mod_lt _ (by omega)), fun i hi => ?_⟩⟩
  rw [List.length_set, Nat.mod_add_mod, Nat.add_assoc, Nat.add_comm 1 i]
  have hne : f ≠ (f + (i + 1)) % rs.length := by
    rcases mod_cases (i := i + 1) hf (by omega) with ⟨e1, e2⟩ | ⟨e1, e2⟩ <;> rw [e1] <;> omega
  have h2 := h.spot (i + 1) (by simpa using hi)
  simp only [List.getD] at h2 ⊢
  rw [List.getElem?_set_ne hne, h2, List.getElem?_cons_succ]

theorem Ring.straight (xs : List Int) (k : Nat) : Ring (xs ++ List.replicate k 0) 0 xs := by
  refine ⟨by simp, ?_, fun i hi => ?_⟩
  · by_cases h : 0 < xs.length + k
    · exact Or.inl (by simpa using h)
    · exact Or.inr ⟨rfl, by simp; constructor <;> (try apply List.eq_nil_of_length_eq_zero) <;> omega⟩
  · rw [Nat.zero_add, Nat.mod_eq_of_lt (by simp; omega)]
    simp only [List.getD]
    rw [List.getElem?_append_left hi]

/-- At p lies a queue's struct. -/
def Lies (w : World) (p : Nat) (room drops : Int) (rv : Value) (f n : Nat) : Prop :=
  w.heap[p]? = some (.cells #[.pointer (some ⟨p, 0, none⟩), .int .i64 room, .int .i64 drops, rv, .int .i64 f, .int .i64 n] 45 (0, 0))

theorem Lies.cells {w : World} {p : Nat} {room drops : Int} {rv : Value} {f n : Nat} (h : Lies w p room drops rv f n) :
    w.cell? ⟨p, 0, none⟩ = some (.pointer (some ⟨p, 0, none⟩)) ∧ w.cell? ⟨p, 1, none⟩ = some (.int .i64 room) ∧ w.cell? ⟨p, 2, none⟩ = some (.int .i64 drops) ∧ w.cell? ⟨p, 3, none⟩ = some rv ∧ w.cell? ⟨p, 4, none⟩ = some (.int .i64 f) ∧ w.cell? ⟨p, 5, none⟩ = some (.int .i64 n) := by
  unfold Lies at h
  refine ⟨?_, ?_, ?_, ?_, ?_, ?_⟩ <;> simp [World.cell?, h]

theorem Lies.warm {w : World} {p : Nat} {room drops : Int} {rv : Value} {f n : Nat} (h : Lies w p room drops rv f n) (k : Nat) : w.frozen? ⟨p, k, none⟩ = false := by
  unfold Lies at h
  simp [World.frozen?, h]

theorem Lies.lt {w : World} {p : Nat} {room drops : Int} {rv : Value} {f n : Nat} (h : Lies w p room drops rv f n) : p < w.heap.size := (Array.getElem?_eq_some_iff.1 h).1

theorem Lies.below {w w' : World} {p : Nat} {room drops : Int} {rv : Value} {f n : Nat} (h : Lies w p room drops rv f n) (hb : Below w.heap.size w w') : Lies w' p room drops rv f n := by
  unfold Lies
  rw [hb.block p h.lt]
  exact h

theorem Lies.put2 {w : World} {p : Nat} {room drops d : Int} {rv : Value} {f n : Nat} (h : Lies w p room drops rv f n) : Lies (w.setCell ⟨p, 2, none⟩ (.int .i64 d)) p room d rv f n := by
  unfold Lies at *
  simp only [World.setCell, Array.getElem?_modify, h]
  simp

theorem Lies.put3 {w : World} {p : Nat} {room drops : Int} {rv u : Value} {f n : Nat} (h : Lies w p room drops rv f n) : Lies (w.setCell ⟨p, 3, none⟩ u) p room drops u f n := by
  unfold Lies at *
  simp only [World.setCell, Array.getElem?_modify, h]
  simp

theorem Lies.put4 {w : World} {p : Nat} {room drops : Int} {rv : Value} {f n : Nat} (g : Nat) (h : Lies w p room drops rv f n) : Lies (w.setCell ⟨p, 4, none⟩ (.int .i64 g)) p room drops rv g n := by
  unfold Lies at *
  simp only [World.setCell, Array.getElem?_modify, h]
  simp

theorem Lies.put5 {w : World} {p : Nat} {room drops : Int} {rv : Value} {f n : Nat} (m : Nat) (h : Lies w p room drops rv f n) : Lies (w.setCell ⟨p, 5, none⟩ (.int .i64 m)) p room drops rv f m := by
  unfold Lies at *
  simp only [World.setCell, Array.getElem?_modify, h]
  simp

theorem Try.info45 : (Try.prog.info? 45).map (fun i => i.size) = some 6 := by kernel_rfl

theorem eql_self (a : Addr) (w : World) : (binOp .eql 23 (.pointer (some a)) (.pointer (some a))).run Try.prog w = .ok (.bool true) w := by
  obtain ⟨j, hj, _⟩ := Option.map_eq_some_iff.1 Try.info45
  exact run_eql_ptr_same w a Try.underlying23 hj

theorem eql_nil_some (a : Addr) (w : World) : (binOp .eql 23 (.pointer none) (.pointer (some a))).run Try.prog w = .ok (.bool false) w := by
  have h : ∀ d : Nat, (Op.equalIn (d + 1) 23 (.pointer none) (.pointer (some a))).run Try.prog w = .ok false w := fun d => by
    simp [Op.equalIn, run_underlying Try.underlying23]
  simp only [binOp]
  simp [Op.equal, Op.maxDepth, h 9999]

set_option maxHeartbeats 400000 in
theorem given_yes (p : Nat) (w : World) (h0 : w.cell? ⟨p, 0, none⟩ = some (.pointer (some ⟨p, 0, none⟩))) :
    Calls Try.prog 22 #[.pointer (some ⟨p, 0, none⟩)] w fun e w' => e = .returned (.bool true) ∧ w' = w := by
  have he := eql_self ⟨p, 0, none⟩ w
  go_enter Try.func22, Try.ntmps22
  go_wp2
  go_ret
  exact ⟨rfl, rfl⟩

set_option maxHeartbeats 400000 in
theorem given_zero (p : Nat) (w : World) (h0 : w.cell? ⟨p, 0, none⟩ = some (.pointer none)) :
    Calls Try.prog 22 #[.pointer (some ⟨p, 0, none⟩)] w fun e w' => e = .returned (.bool false) ∧ w' = w := by
  have he := eql_nil_some ⟨p, 0, none⟩ w
  go_enter Try.func22, Try.ntmps22
  go_wp2
  go_ret
  exact ⟨rfl, rfl⟩

set_option maxHeartbeats 400000 in
theorem given_nil (w : World) :
    Calls Try.prog 22 #[.pointer none] w fun e w' => e = .returned (.bool false) ∧ w' = w := by
  go_enter Try.func22, Try.ntmps22
  go_wp2
  go_ret
  exact ⟨rfl, rfl⟩

set_option maxHeartbeats 400000 in
theorem new_bad (room : Int) (w : World) (h : room < 1 ∨ 65536 < room) :
    Calls Try.prog 8 #[.int .i64 room] w fun e w' => e = .returned (.tuple #[.pointer none, .int .i64 1]) ∧ w' = w := by
  rcases h with h | h
  · go_enter Try.func8, Try.ntmps8
    go_wp2
    go_ret2
    exact ⟨rfl, rfl⟩
  · have h' : ¬ room < 1 := by omega
    go_enter Try.func8, Try.ntmps8
    go_wp2
    go_ret2
    exact ⟨rfl, rfl⟩

set_option maxHeartbeats 400000 in
theorem new_any (room : Int) (w : World) (h1 : 1 ≤ room) (h2 : room ≤ 65536) :
    Calls Try.prog 8 #[.int .i64 room] w fun e w' => e = .returned (.tuple #[.pointer (some ⟨w.heap.size, 0, none⟩), .int .i64 0]) ∧ Lies w' w.heap.size room 0 (.slice none 0 0) 0 0 ∧ Below w.heap.size w w' := by
  have h1' : ¬ room < 1 := by omega
  have h2' : ¬ 65536 < room := by omega
  go_enter Try.func8, Try.ntmps8
  go_wp2
  go_ret2
  refine ⟨rfl, ?_, ?_⟩
  · exact heap_alloc_new w _
  · exact (Below.refl _ _).alloc (Nat.le_refl _) _

set_option maxHeartbeats 400000 in
theorem place_any (p : Nat) (f k n c : Nat) (ao : Option Addr) (w : World) (h3 : w.cell? ⟨p, 3, none⟩ = some (.slice ao n c)) (h4 : w.cell? ⟨p, 4, none⟩ = some (.int .i64 f)) (hf : f ≤ 65536) (hk : k ≤ 65536) (hn : 0 < n) (hn2 : n ≤ 65536) :
    Calls Try.prog 23 #[.pointer (some ⟨p, 0, none⟩), .int .i64 k] w fun e w' => e = .returned (.int .i64 ((f + k) % n : Nat)) ∧ ∃ q, w' = w.drewN q := by
  go_enter Try.func23, Try.ntmps23
  go_wp2_with fail
  go_quiet (fail)
  go_wp2
  go_ret
  exact ⟨rfl, _, rfl⟩

end Go.Proofs.Ytebjkgibciiocaa
