/-
  Queues of messages: where they lie, straight, widen.
-/
import Derived.Test.YtahibklmcooanaaLBase
import Derived.OwnWalk
import Derived.Handy
import Derived.LaidEqlPtr
import Derived.Deep.RegionHeld3
import Derived.Laws.OwnMore
namespace Go.Proofs.Ytahibklmcooanaa.Mq
open Go.RowKit Go.Proofs.Ytahibklmcooanaa
set_option linter.unusedVariables false
set_option linter.unusedSimpArgs false

abbrev Msg := Int × ByteArray
def z0 : Msg := (0, ByteArray.empty)
def mC : List Msg → List Value
  | [] => []
  | p :: r => .int .i64 p.1 :: .string p.2 :: mC r
theorem mC_len (l : List Msg) : (mC l).length = l.length * 2 := by
  induction l with
  | nil => rfl
  | cons p r ih => simp [mC, ih]; omega
theorem mC_app (a b : List Msg) : mC (a ++ b) = mC a ++ mC b := by
  induction a with
  | nil => rfl
  | cons p r ih => simp [mC, ih]
theorem mC_get : ∀ (l : List Msg) (j : Nat), j < l.length → (mC l)[j * 2]? = some (.int .i64 (l.getD j z0).1) ∧ (mC l)[j * 2 + 1]? = some (.string (l.getD j z0).2)
  | [], j, h => by simp at h
  | p :: r, 0, h => by simp [mC]
  | p :: r, j + 1, h => by
    have ih := mC_get r j (by simpa using h)
    rw [show (j + 1) * 2 = j * 2 + 1 + 1 by omega]
    simpa [mC] using ih
theorem mC_one (l : List Msg) : ∀ v ∈ mC l, v.oneCell' = true := by
  induction l with
  | nil => intro v hv; cases hv
  | cons p r ih =>
    intro v hv
    simp only [mC, List.mem_cons] at hv
    rcases hv with rfl | rfl | hv
    · rfl
    · rfl
    · exact ih v hv
theorem mC_set : ∀ (l : List Msg) (k : Nat) (y : Msg), ((mC l).set (k * 2) (.int .i64 y.1)).set (k * 2 + 1) (.string y.2) = mC (l.set k y)
  | [], k, y => by simp [mC]
  | p :: r, 0, y => by simp [mC]
  | p :: r, k + 1, y => by
    rw [show (k + 1) * 2 = k * 2 + 1 + 1 by omega]
    simp [mC, mC_set r k y]
theorem mC_rep (n : Nat) : (madeCells #[.int .i64 0, .string ByteArray.empty] (n * 2)).toList = mC (List.replicate n z0) := by
  apply List.ext_getElem?
  intro j
  by_cases hj : j < n * 2
  · have hd : j / 2 < n := by omega
    obtain ⟨e1, e2⟩ := mC_get (List.replicate n z0) (j / 2) (by simpa using hd)
    rcases Nat.mod_two_eq_zero_or_one j with h | h
    · have e : j / 2 * 2 = j := by omega
      rw [e] at e1
      rw [e1]
      simp [madeCells, hj, h, hd, z0]
    · have e : j / 2 * 2 + 1 = j := by omega
      rw [e] at e2
      rw [e2]
      simp [madeCells, hj, h, hd, z0]
  · rw [List.getElem?_eq_none (by simp [madeCells]; omega), List.getElem?_eq_none (by rw [mC_len]; simp; omega)]

/-- The slice v reads xs in the world w. -/
def Sees (w : World) (v : Value) (xs : List Msg) : Prop :=
  ∃ b off ao cap, v = .slice ao xs.length cap ∧ xs.length ≤ cap ∧ (ao = none → cap = 0) ∧ (xs ≠ [] → ao = some ⟨b, off, none⟩) ∧ ∀ j, j < xs.length → w.cell? ⟨b, off + j * 2, none⟩ = some (.int .i64 (xs.getD j z0).1) ∧ w.cell? ⟨b, off + j * 2 + 1, none⟩ = some (.string (xs.getD j z0).2)

theorem Sees.below {w w' : World} {v : Value} {xs : List Msg} (h : Sees w v xs) (hb : Below w.heap.size w w') : Sees w' v xs := by
  obtain ⟨b, off, ao, cap, hv, hc, hn, ha, hcell⟩ := h
  refine ⟨b, off, ao, cap, hv, hc, hn, ha, fun j hj => ?_⟩
  obtain ⟨h1, h2⟩ := hcell j hj
  exact ⟨(hb.cell (World.block_lt_of_cell? w _ h1)).trans h1, (hb.cell (World.block_lt_of_cell? w _ h2)).trans h2⟩

/-- The slice v is the call's own, made from block 'base' on, and holds xs. -/
def Owns (w : World) (base : Nat) (v : Value) (xs : List Msg) : Prop := w.ownsRow base 55 2 v xs.length (mC xs)
theorem Owns.below {w w' : World} {base : Nat} {v : Value} {xs : List Msg} (h : Owns w base v xs) (hb : Below w.heap.size w w') : Owns w' base v xs := ownsRow_below h hb
theorem Owns.sees {w : World} {base : Nat} {v : Value} {xs : List Msg} (h : Owns w base v xs) : Sees w v xs := by
  rcases h.2 with ⟨rfl, hn⟩ | ⟨g, cap, cur, rfl, hbase, hg, hcap, _, _, ht⟩
  · have : xs = [] := List.eq_nil_of_length_eq_zero hn
    subst this
    exact ⟨0, 0, none, 0, rfl, Nat.le_refl _, fun _ => rfl, fun h => absurd rfl h, fun j hj => by simp at hj⟩
  · refine ⟨g, 0, _, cap, rfl, hcap, (fun h => by cases h), fun _ => rfl, fun j hj => ?_⟩
    obtain ⟨e1, e2⟩ := mC_get xs j hj
    have h1 := h.cells (g := g) rfl _ _ e1
    have h2 := h.cells (g := g) rfl _ _ e2
    rw [addr_add] at h1 h2
    exact ⟨h1, h2⟩
theorem Try.infoM : (Try.prog.info? 55).map (fun i => (i.zero, i.size, i.bytes)) = some (some (.agg #[.int .i64 0, .string ByteArray.empty]), 2, 24) := by kernel_rfl
theorem owns_le {w : World} {base base' : Nat} {v : Value} {xs : List Msg} (h : Owns w base v xs) (hb : base' ≤ base) : Owns w base' v xs := by
  refine ⟨h.1, ?_⟩
  rcases h.2 with hn | ⟨g, cap, cur, rfl, hbase, hg, rest⟩
  · exact Or.inl hn
  · exact Or.inr ⟨g, cap, cur, rfl, by omega, hg, rest⟩



theorem owns_store {w : World} {base k : Nat} {g n cap : Nat} {ys : List Msg} (y : Msg) (h : Owns w base (.slice (some ⟨g, 0, none⟩) n cap) ys) (hn : ys.length = n) :
    Owns ((w.setCell ⟨g, k * 2, none⟩ (.int .i64 y.1)).setCell ⟨g, k * 2 + 1, none⟩ (.string y.2)) base (.slice (some ⟨g, 0, none⟩) n cap) (ys.set k y) ∧ w.grownBy ((w.setCell ⟨g, k * 2, none⟩ (.int .i64 y.1)).setCell ⟨g, k * 2 + 1, none⟩ (.string y.2)) (some g) := by
  subst hn
  have hs := World.ownsRow.stored h (k * 2) (.int .i64 y.1)
  have ht := World.ownsRow.stored hs.1 (k * 2 + 1) (.string y.2)
  refine ⟨?_, ⟨rfl, rfl, rfl, by simp, fun i hi hne => ?_⟩⟩
  · unfold Owns
    rw [List.length_set, ← mC_set]
    exact ht.1
  · rw [ht.2.block i (by simpa using hi) hne, hs.2.block i hi hne]

theorem mod_cases {f i L : Nat} (hf : f < L) (hi : i ≤ L) : ((f + i) % L = f + i ∧ f + i < L) ∨ ((f + i) % L = f + i - L ∧ L ≤ f + i) := by
  by_cases h : f + i < L
  · exact Or.inl ⟨Nat.mod_eq_of_lt h, h⟩
  · refine Or.inr ⟨?_, by omega⟩
    rw [Nat.mod_eq_sub_mod (by omega), Nat.mod_eq_of_lt (by omega)]

theorem wrap_ok (x : Int) (h1 : 0 ≤ x) (h2 : x ≤ 4611686018427387904) : IntKind.i64.wrap x = x := by rw [IntKind.wrap_i64]; omega
/-- The row rs holds xs from the place f on, round its end. -/
structure Ring (rs : List Msg) (f : Nat) (xs : List Msg) : Prop where
  le : xs.length ≤ rs.length
  first : (f < rs.length) ∨ (f = 0 ∧ rs.length = 0)
  spot : ∀ i, i < xs.length → rs.getD ((f + i) % rs.length) z0 = xs.getD i z0

theorem Ring.lt {rs xs : List Msg} {f : Nat} (h : Ring rs f xs) (h0 : 0 < rs.length) : f < rs.length := by
  rcases h.first with h1 | h1 <;> omega

theorem Ring.push {rs xs : List Msg} {f : Nat} (x : Msg) (h : Ring rs f xs) (hlt : xs.length < rs.length) :
    Ring (rs.set ((f + xs.length) % rs.length) x) f (xs ++ [x]) := by
  have hf := h.lt (by omega)
  refine ⟨by simp; omega, Or.inl (by simpa using hf), fun i hi => ?_⟩
  rw [List.length_set]
  have hm : (f + xs.length) % rs.length < rs.length := Nat.mod_lt _ (by omega)
  simp at hi
  by_cases hie : i = xs.length
  · subst hie
    simp [List.getD, hm]
  · have hil : i < xs.length := by omega
    have hne : (f + xs.length) % rs.length ≠ (f + i) % rs.length := by
      rcases mod_cases (i := i) hf (by omega) with ⟨e1, e2⟩ | ⟨e1, e2⟩ <;> rcases mod_cases (i := xs.length) hf (by omega) with ⟨e3, e4⟩ | ⟨e3, e4⟩ <;> rw [e1, e3] <;> omega
    have h2 := h.spot i hil
    simp only [List.getD] at h2 ⊢
    rw [List.getElem?_set_ne hne, h2, List.getElem?_append_left hil]

theorem Ring.pop {rs xs : List Msg} {f : Nat} {x : Msg} (z : Msg) (h : Ring rs f (x :: xs)) :
    rs.getD f z0 = x ∧ f < rs.length ∧ Ring (rs.set f z) ((f + 1) % rs.length) xs := by
  have hle := h.le
  simp at hle
  have hf := h.lt (by omega)
  have h0 := h.spot 0 (by simp)
  rw [Nat.add_zero, Nat.mod_eq_of_lt hf] at h0
  refine ⟨by simpa using h0, hf, ⟨by simp; omega, Or.inl (by simp; exact Nat.mod_lt _ (by omega)), fun i hi => ?_⟩⟩
  rw [List.length_set, Nat.mod_add_mod, Nat.add_assoc, Nat.add_comm 1 i]
  have hne : f ≠ (f + (i + 1)) % rs.length := by
    rcases mod_cases (i := i + 1) hf (by omega) with ⟨e1, e2⟩ | ⟨e1, e2⟩ <;> rw [e1] <;> omega
  have h2 := h.spot (i + 1) (by simpa using hi)
  simp only [List.getD] at h2 ⊢
  rw [List.getElem?_set_ne hne, h2, List.getElem?_cons_succ]

theorem Ring.straight (xs : List Msg) (k : Nat) : Ring (xs ++ List.replicate k z0) 0 xs := by
  refine ⟨by simp, ?_, fun i hi => ?_⟩
  · by_cases h : 0 < xs.length + k
    · exact Or.inl (by simpa using h)
    · exact Or.inr ⟨rfl, by simp; constructor <;> (try apply List.eq_nil_of_length_eq_zero) <;> omega⟩
  · rw [Nat.zero_add, Nat.mod_eq_of_lt (by simp; omega)]
    simp only [List.getD]
    rw [List.getElem?_append_left hi]

/-- At p lies a queue's struct. -/
def Lies (w : World) (p : Nat) (room drops : Int) (rv : Value) (f n : Nat) : Prop :=
  w.heap[p]? = some (.cells #[.pointer (some ⟨p, 0, none⟩), .int .i64 room, .int .i64 drops, rv, .int .i64 f, .int .i64 n] 89 (0, 0))

theorem Lies.cells {w : World} {p : Nat} {room drops : Int} {rv : Value} {f n : Nat} (h : Lies w p room drops rv f n) :
    w.cell? ⟨p, 0, none⟩ = some (.pointer (some ⟨p, 0, none⟩)) ∧ w.cell? ⟨p, 1, none⟩ = some (.int .i64 room) ∧ w.cell? ⟨p, 2, none⟩ = some (.int .i64 drops) ∧ w.cell? ⟨p, 3, none⟩ = some rv ∧ w.cell? ⟨p, 4, none⟩ = some (.int .i64 f) ∧ w.cell? ⟨p, 5, none⟩ = some (.int .i64 n) := by
  unfold Lies at h
  refine ⟨?_, ?_, ?_, ?_, ?_, ?_⟩ <;> simp [World.cell?, h]

theorem Lies.warm {w : World} {p : Nat} {room drops : Int} {rv : Value} {f n : Nat} (h : Lies w p room drops rv f n) (k : Nat) : w.frozen? ⟨p, k, none⟩ = false := by
  unfold Lies at h
  simp [World.frozen?, h]

theorem Lies.lt {w : World} {p : Nat} {room drops : Int} {rv : Value} {f n : Nat} (h : Lies w p room drops rv f n) : p < w.heap.size := (Array.getElem?_eq_some_iff.1 h).1

theorem Lies.below {w w' : World} {p : Nat} {room drops : Int} {rv : Value} {f n : Nat} (h : Lies w p room drops rv f n) (hb : Below w.heap.size w w') : Lies w' p room drops rv f n := by
  unfold Lies
  rw [hb.block p h.lt]
  exact h

theorem Lies.put2 {w : World} {p : Nat} {room drops d : Int} {rv : Value} {f n : Nat} (h : Lies w p room drops rv f n) : Lies (w.setCell ⟨p, 2, none⟩ (.int .i64 d)) p room d rv f n := by
  unfold Lies at *
  simp only [World.setCell, Array.getElem?_modify, h]
  simp

theorem Lies.put3 {w : World} {p : Nat} {room drops : Int} {rv u : Value} {f n : Nat} (h : Lies w p room drops rv f n) : Lies (w.setCell ⟨p, 3, none⟩ u) p room drops u f n := by
  unfold Lies at *
  simp only [World.setCell, Array.getElem?_modify, h]
  simp

theorem Lies.put4 {w : World} {p : Nat} {room drops : Int} {rv : Value} {f n : Nat} (g : Nat) (h : Lies w p room drops rv f n) : Lies (w.setCell ⟨p, 4, none⟩ (.int .i64 g)) p room drops rv g n := by
  unfold Lies at *
  simp only [World.setCell, Array.getElem?_modify, h]
  simp

theorem Lies.put5 {w : World} {p : Nat} {room drops : Int} {rv : Value} {f n : Nat} (m : Nat) (h : Lies w p room drops rv f n) : Lies (w.setCell ⟨p, 5, none⟩ (.int .i64 m)) p room drops rv f m := by
  unfold Lies at *
  simp only [World.setCell, Array.getElem?_modify, h]
  simp

theorem Try.infoTxt : (Try.prog.info? 89).map (fun i => i.size) = some 6 := by kernel_rfl

theorem eql_self (a : Addr) (w : World) : (binOp .eql 65 (.pointer (some a)) (.pointer (some a))).run Try.prog w = .ok (.bool true) w := by
  obtain ⟨j, hj, _⟩ := Option.map_eq_some_iff.1 Try.infoTxt
  exact run_eql_ptr_same w a Try.underlying65 hj

theorem eql_nil_some (a : Addr) (w : World) : (binOp .eql 65 (.pointer none) (.pointer (some a))).run Try.prog w = .ok (.bool false) w := by
  have h : ∀ d : Nat, (Op.equalIn (d + 1) 65 (.pointer none) (.pointer (some a))).run Try.prog w = .ok false w := fun d => by
    simp [Op.equalIn, run_underlying Try.underlying65]
  simp only [binOp]
  simp [Op.equal, Op.maxDepth, h 9999]

set_option maxHeartbeats 400000 in
theorem given_yes (p : Nat) (w : World) (h0 : w.cell? ⟨p, 0, none⟩ = some (.pointer (some ⟨p, 0, none⟩))) :
    Calls Try.prog 42 #[.pointer (some ⟨p, 0, none⟩)] w fun e w' => e = .returned (.bool true) ∧ w' = w := by
  have he := eql_self ⟨p, 0, none⟩ w
  go_enter Try.func42, Try.ntmps42
  go_wp2
  go_ret
  exact ⟨rfl, rfl⟩

set_option maxHeartbeats 400000 in
theorem given_zero (p : Nat) (w : World) (h0 : w.cell? ⟨p, 0, none⟩ = some (.pointer none)) :
    Calls Try.prog 42 #[.pointer (some ⟨p, 0, none⟩)] w fun e w' => e = .returned (.bool false) ∧ w' = w := by
  have he := eql_nil_some ⟨p, 0, none⟩ w
  go_enter Try.func42, Try.ntmps42
  go_wp2
  go_ret
  exact ⟨rfl, rfl⟩

set_option maxHeartbeats 400000 in
theorem given_nil (w : World) :
    Calls Try.prog 42 #[.pointer none] w fun e w' => e = .returned (.bool false) ∧ w' = w := by
  go_enter Try.func42, Try.ntmps42
  go_wp2
  go_ret
  exact ⟨rfl, rfl⟩

set_option maxHeartbeats 400000 in
theorem new_bad (room : Int) (w : World) (h : room < 1 ∨ 65536 < room) :
    Calls Try.prog 21 #[.int .i64 room] w fun e w' => e = .returned (.tuple #[.pointer none, .int .i64 1]) ∧ w' = w := by
  rcases h with h | h
  · go_enter Try.func21, Try.ntmps21
    go_wp2
    go_ret2
    exact ⟨rfl, rfl⟩
  · have h' : ¬ room < 1 := by omega
    go_enter Try.func21, Try.ntmps21
    go_wp2
    go_ret2
    exact ⟨rfl, rfl⟩

set_option maxHeartbeats 400000 in
theorem new_any (room : Int) (w : World) (h1 : 1 ≤ room) (h2 : room ≤ 65536) :
    Calls Try.prog 21 #[.int .i64 room] w fun e w' => e = .returned (.tuple #[.pointer (some ⟨w.heap.size, 0, none⟩), .int .i64 0]) ∧ Lies w' w.heap.size room 0 (.slice none 0 0) 0 0 ∧ Below w.heap.size w w' := by
  have h1' : ¬ room < 1 := by omega
  have h2' : ¬ 65536 < room := by omega
  go_enter Try.func21, Try.ntmps21
  go_wp2
  go_ret2
  refine ⟨rfl, ?_, ?_⟩
  · exact heap_alloc_new w _
  · exact (Below.refl _ _).alloc (Nat.le_refl _) _

set_option maxHeartbeats 400000 in
theorem place_any (p : Nat) (f k n c : Nat) (ao : Option Addr) (w : World) (h3 : w.cell? ⟨p, 3, none⟩ = some (.slice ao n c)) (h4 : w.cell? ⟨p, 4, none⟩ = some (.int .i64 f)) (hf : f ≤ 65536) (hk : k ≤ 65536) (hn : 0 < n) (hn2 : n ≤ 65536) :
    Calls Try.prog 47 #[.pointer (some ⟨p, 0, none⟩), .int .i64 k] w fun e w' => e = .returned (.int .i64 ((f + k) % n : Nat)) ∧ ∃ q, w' = w.drewN q := by
  go_enter Try.func47, Try.ntmps47
  go_wp2_with fail
  go_quiet (fail)
  go_wp2
  go_ret
  exact ⟨rfl, _, rfl⟩


/-- At p lies a queue with a room, its row rv, which holds xs round its end. -/
structure QAt (w : World) (p : Nat) (room drops : Int) (rv : Value) (f : Nat) (rs xs : List Msg) : Prop where
  lies : Lies w p room drops rv f xs.length
  own : Owns w 0 rv rs
  ring : Ring rs f xs
  rle : (rs.length : Int) ≤ room
  r1 : 1 ≤ room
  r2 : room ≤ 65536

theorem QAt.below {w w' : World} {p : Nat} {room drops : Int} {rv : Value} {f : Nat} {rs xs : List Msg} (h : QAt w p room drops rv f rs xs) (hb : Below w.heap.size w w') : QAt w' p room drops rv f rs xs :=
  ⟨h.lies.below hb, h.own.below hb, h.ring, h.rle, h.r1, h.r2⟩

theorem QAt.shape {w : World} {p : Nat} {room drops : Int} {rv : Value} {f : Nat} {rs xs : List Msg} (h : QAt w p room drops rv f rs xs) : ∃ ao c, rv = .slice ao rs.length c := by
  obtain ⟨b, off, ao, cap, hv, _⟩ := h.own.sees
  exact ⟨ao, cap, hv⟩

/-- A row that is not empty lies in a block of its own. -/
theorem owns_block {w : World} {base : Nat} {v : Value} {xs : List Msg} (h : Owns w base v xs) (h0 : 0 < xs.length) :
    ∃ g c, v = .slice (some ⟨g, 0, none⟩) xs.length c ∧ base ≤ g ∧ g < w.heap.size ∧ (∀ j, w.frozen? ⟨g, j, none⟩ = false) ∧ ∀ j, j < xs.length → w.cell? ⟨g, j * 2, none⟩ = some (.int .i64 (xs.getD j z0).1) ∧ w.cell? ⟨g, j * 2 + 1, none⟩ = some (.string (xs.getD j z0).2) := by
  have h' := h
  rcases h.2 with ⟨_, hn⟩ | ⟨g, cap, cur, rfl, hbase, hg, rest⟩
  · omega
  · refine ⟨g, cap, rfl, hbase, (Array.getElem?_eq_some_iff.1 hg).1, fun j => World.ownsRow.frozenAt h j, fun j hj => ?_⟩
    obtain ⟨e1, e2⟩ := mC_get xs j hj
    have h1 := h.cells (g := g) rfl _ _ e1
    have h2 := h.cells (g := g) rfl _ _ e2
    rw [addr_add, Nat.zero_add] at h1 h2
    exact ⟨h1, h2⟩

theorem straight_step {xs : List Msg} {k L : Nat} {y : Msg} (hk : k < xs.length) (hL : xs.length ≤ L) (hy : y = xs.getD k z0) :
    (xs.take k ++ List.replicate (L - k) z0).set k y = xs.take (k + 1) ++ List.replicate (L - (k + 1)) z0 := by
  have e : L - k = (L - (k + 1)) + 1 := by omega
  have hl : (xs.take k).length = k := by rw [List.length_take]; omega
  rw [List.set_append_right _ _ (by omega), hl, Nat.sub_self, e, List.replicate_succ, List.set_cons_zero, List.take_succ_eq_append_getElem hk, List.append_assoc, List.singleton_append]
  congr 2
  rw [hy]
  simp [List.getD, hk]

theorem straight_store {w wr : World} {xs : List Msg} {k L g : Nat} (y : Msg) (hk : k < xs.length) (hL : xs.length ≤ L) (hy : y = xs.getD k z0) (hown : Owns wr w.heap.size (.slice (some ⟨g, 0, none⟩) L L) (xs.take k ++ List.replicate (L - k) z0)) (hbel : Below w.heap.size w wr) (hg : g = w.heap.size) (q : Nat) :
    Owns (((wr.drewN q).setCell ⟨g, k * 2, none⟩ (.int .i64 y.1)).setCell ⟨g, k * 2 + 1, none⟩ (.string y.2)) w.heap.size (.slice (some ⟨g, 0, none⟩) L L) (xs.take (k + 1) ++ List.replicate (L - (k + 1)) z0) ∧ Below w.heap.size w (((wr.drewN q).setCell ⟨g, k * 2, none⟩ (.int .i64 y.1)).setCell ⟨g, k * 2 + 1, none⟩ (.string y.2)) := by
  have h := owns_store (k := k) y (hown.below (below_drewN (Below.refl _ _) q)) (by simp; omega)
  rw [straight_step hk hL hy] at h
  exact ⟨h.1, ((below_drewN hbel q).setCell (by simp [hg]) _).setCell (by simp [hg]) _⟩

set_option maxRecDepth 20000 in
set_option maxHeartbeats 2000000 in
theorem straight_any (p : Nat) (room drops : Int) (rv : Value) (f L : Nat) (rs xs : List Msg) (w : World) (hQ : QAt w p room drops rv f rs xs) (hL : xs.length ≤ L) (hL2 : L ≤ 65536) :
    Calls Try.prog 43 #[.pointer (some ⟨p, 0, none⟩), .int .i64 L] w fun e w' => ∃ v', e = .returned v' ∧ Owns w' w.heap.size v' (xs ++ List.replicate (L - xs.length) z0) ∧ Below w.heap.size w w' := by
  obtain ⟨i0, hi, hz0, hz1, hz2⟩ := info_parts Try.infoM
  obtain ⟨c0, c1, c2, c3, c4, c5⟩ := hQ.lies.cells
  have hpl := hQ.lies.lt
  have HQ := hid hQ
  obtain ⟨ao, c, hrv⟩ := hQ.shape
  clear hQ c0 c1 c2
  subst hrv
  have hb2 : i0.bytes * L ≤ 281474976710656 := by rw [hz2]; omega
  have hb3 : L ≤ maxLen := by simp only [maxLen]; omega
  go_enter Try.func43, Try.ntmps43
  go_wp2_with (at_make; refine wpList_make_full _ rfl _ _ 79 rfl w.heap.size 55 i0 (.agg #[.int .i64 0, .string ByteArray.empty]) 2 Try.underlying79 hi hz0 hz1 .i64 .i64 _ _ L rfl rfl rfl rfl hb2 hb3 (Nat.le_refl _) ?_; intro w0 hown0 hgrow0; have hB0 : Below w.heap.size w w0 := (Below.refl _ _).grown hgrow0 (Nat.le_refl _) (fun k hk => by cases hk); have d5 := (hB0.cell (p := ⟨p, 5, none⟩) (by exact hpl)).trans c5)
  have HO0 : Owns w0 w.heap.size (.slice (some ⟨w.heap.size, 0, none⟩) L L) (xs.take 0 ++ List.replicate (L - 0) z0) := by
    have h := hown0
    rw [show (Value.agg #[.int .i64 0, .string ByteArray.empty]).cells = #[.int .i64 0, .string ByteArray.empty] from rfl, mC_rep] at h
    simpa [Owns] using h
  have H0 := hid HO0
  have HB0 := hid hB0
  clear HO0 hown0 hgrow0 hB0 d5 c3 c4 c5
  go_loopw [13] (fun i wr => ∃ k : Nat, k ≤ xs.length ∧ i = .int .i64 k ∧ Owns wr w.heap.size (.slice (some ⟨w.heap.size, 0, none⟩) L L) (xs.take k ++ List.replicate (L - k) z0) ∧ Below w.heap.size w wr) (fun i _ => xs.length - (intOf i).toNat)
  case atStart => exact ⟨0, Nat.zero_le _, rfl, H0.out, HB0.out⟩
  case round =>
    clear H0 HB0
    obtain ⟨k, hk, rfl, hown, hbel⟩ := hrel
    by_cases hlt : k < xs.length
    · have hQ := HQ.out.below hbel
      have hrl := hQ.ring.le
      have hfl := hQ.ring.lt (by omega)
      have hrm := hQ.rle
      have hr2 := hQ.r2
      obtain ⟨rb, rc, hrv, _, hrb, _, hrc⟩ := owns_block hQ.own (by omega)
      cases hrv
      obtain ⟨c0, c1, c2, c3, c4, c5⟩ := hQ.lies.cells
      obtain ⟨m, hm⟩ : ∃ m, m = (f + k) % rs.length := ⟨_, rfl⟩
      have hml : m < rs.length := by rw [hm]; exact Nat.mod_lt _ (by omega)
      obtain ⟨hc, hc'⟩ := hrc m hml
      have hsp := hQ.ring.spot k hlt
      rw [← hm] at hsp
      rw [hsp] at hc hc'
      obtain ⟨y, hy⟩ : ∃ y, y = xs.getD k z0 := ⟨_, rfl⟩
      rw [← hy] at hc hc'
      have hPl := place_any p f k rs.length c (some ⟨rb, 0, none⟩) wr.drew c3 c4 (by omega) (by omega) (by omega) (by omega)
      rw [← hm] at hPl
      have hlen : (xs.take k ++ List.replicate (L - k) z0).length = L := by simp; omega
      obtain ⟨g2, cc, hgv, _, hg, hfz, hlc⟩ := owns_block hown (by omega)
      rw [hlen] at hgv
      cases hgv
      obtain ⟨y0, hy0⟩ : ∃ y0, y0 = (xs.take k ++ List.replicate (L - k) z0).getD k z0 := ⟨_, rfl⟩
      obtain ⟨hlk, hlk'⟩ := hlc k (by omega)
      rw [← hy0] at hlk hlk'
      have hfk := hfz (k * 2)
      have hfk' := hfz (k * 2 + 1)
      have hkL : k < L := by omega
      obtain ⟨y1, y2⟩ := y
      obtain ⟨y01, y02⟩ := y0
      have HR := hid (fun q => straight_store (g := w.heap.size) (y1, y2) hlt hL hy hown hbel rfl q)
      have hne1 : w.heap.size ≠ rb := by
        have := HQ.out.own.lt rb rfl
        omega
      have hne2 : w.heap.size ≠ p := by omega
      dsimp only at hc hc' hlk hlk'
      clear hown hbel hQ hrl hfl hrm hr2 hrb hrc c0 c1 c2 c5 hm hsp hy hg hfz hlc hy0 hlen
      go_wp2_with fail
      go_region_held3 (fun w' => w'.cell? ⟨p, 3, none⟩ = some (.slice (some ⟨rb, 0, none⟩) rs.length c) ∧ w'.cell? ⟨rb, m * 2, none⟩ = some (.int .i64 y1) ∧ w'.cell? ⟨rb, m * 2 + 1, none⟩ = some (.string y2))
        (first | (refine ⟨?_, ?_, ?_⟩ <;> first | assumption | (simp [*, World.cell?_setCell_far]; done)))
        (first
          | (go_at_call 47; refine hPl.mono ?_; rintro e w2 ⟨rfl, q, rfl⟩; clear hPl))
      go_wp2
      go_roundw
      case rel => exact ⟨k + 1, by omega, by go_num, (HR.out _).1, (HR.out _).2⟩
      case measure => simp [intOf]; omega
    · have hke : k = xs.length := by omega
      rw [hke, List.take_of_length_le (Nat.le_refl _)] at hown
      have HO := hid hown
      clear hown hke
      go_wp2
      go_ret
      exact ⟨_, rfl, HO.out, hbel⟩

/-- What a call on the queue at p has turned: its struct, its row, and new blocks. -/
structure Turned (w w' : World) (p : Nat) (ob : Option Nat) : Prop where
  os : w'.os = w.os
  tape : w'.tape = w.tape
  output : w'.output = w.output
  size : w.heap.size ≤ w'.heap.size
  block : ∀ k, k < w.heap.size → k ≠ p → some k ≠ ob → w'.heap[k]? = w.heap[k]?

theorem Turned.of {w w' : World} (h : Below w.heap.size w w') (p : Nat) (ob : Option Nat) : Turned w w' p ob := ⟨h.os, h.tape, h.output, h.size, fun k hk _ _ => h.block k hk⟩

theorem Turned.drewN {w w' : World} {p : Nat} {ob : Option Nat} (h : Turned w w' p ob) (q : Nat) : Turned w (w'.drewN q) p ob := by
  have hb := below_drewN (Below.refl w'.heap.size w') q
  exact ⟨hb.os.trans h.os, hb.tape.trans h.tape, hb.output.trans h.output, Nat.le_trans h.size hb.size, fun k hk h1 h2 => (hb.block k (Nat.lt_of_lt_of_le hk h.size)).trans (h.block k hk h1 h2)⟩

theorem Turned.put {w w' : World} {p : Nat} {ob : Option Nat} (h : Turned w w' p ob) (j : Nat) (u : Value) : Turned w (w'.setCell ⟨p, j, none⟩ u) p ob :=
  ⟨h.os, h.tape, h.output, by simpa using h.size, fun k hk h1 h2 => (heap_setCell_other w' ⟨p, j, none⟩ k u (fun e => h1 (by simp [e]))).trans (h.block k hk h1 h2)⟩

theorem Turned.row {w w' : World} {p g : Nat} (h : Turned w w' p (some g)) (j : Nat) (u : Value) : Turned w (w'.setCell ⟨g, j, none⟩ u) p (some g) :=
  ⟨h.os, h.tape, h.output, by simpa using h.size, fun k hk h1 h2 => (heap_setCell_other w' ⟨g, j, none⟩ k u (fun e => h2 (by simp [e]))).trans (h.block k hk h1 h2)⟩

theorem Turned.new {w w' : World} {p g : Nat} {ob : Option Nat} (h : Turned w w' p ob) (hg : w.heap.size ≤ g) (j : Nat) (u : Value) : Turned w (w'.setCell ⟨g, j, none⟩ u) p ob :=
  ⟨h.os, h.tape, h.output, by simpa using h.size, fun k hk h1 h2 => (heap_setCell_other w' ⟨g, j, none⟩ k u (fun e => by simp at e; omega)).trans (h.block k hk h1 h2)⟩

theorem Turned.then {w w2 w3 : World} {p rb : Nat} (ob : Option Nat) (h : Turned w w2 p none) (k : Turned w2 w3 p (some rb)) (hr : w.heap.size ≤ rb) : Turned w w3 p ob := by
  refine ⟨k.os.trans h.os, k.tape.trans h.tape, k.output.trans h.output, Nat.le_trans h.size k.size, fun i hi h1 h2 => ?_⟩
  exact (k.block i (Nat.lt_of_lt_of_le hi h.size) h1 (fun e => by cases e; omega)).trans (h.block i hi h1 (by simp))

theorem Turned.behind {w w2 : World} {p : Nat} {ob : Option Nat} (q : Nat) (h : Turned (w.drewN q) w2 p ob) : Turned w w2 p ob := by
  have hb := below_drewN (Below.refl w.heap.size w) q
  exact ⟨h.os.trans hb.os, h.tape.trans hb.tape, h.output.trans hb.output, Nat.le_trans hb.size h.size, fun i hi h1 h2 => (h.block i (Nat.lt_of_lt_of_le hi hb.size) h1 h2).trans (hb.block i hi)⟩

theorem turned_below {w0 w w' : World} {p : Nat} {ob : Option Nat} (hB : Below w0.heap.size w0 w) (hT : Turned w w' p ob) (hp : w0.heap.size ≤ p) (hr : ∀ j, ob = some j → w0.heap.size ≤ j) : Below w0.heap.size w0 w' := by
  have hs := hB.size
  refine ⟨hT.os.trans hB.os, hT.tape.trans hB.tape, hT.output.trans hB.output, Nat.le_trans hs hT.size, fun k hk => ?_⟩
  rw [hT.block k (by omega) (by omega) (fun e => by have := hr k e.symm; omega)]
  exact hB.block k hk

theorem owns_far {w : World} {base p j : Nat} {v u : Value} {xs : List Msg} (h : Owns w base v xs) (hne : v.ownBlock ≠ some p) : Owns (w.setCell ⟨p, j, none⟩ u) base v xs :=
  World.ownsRow.kept h ⟨rfl, rfl, rfl, by simp, fun k _ hk => heap_setCell_other w ⟨p, j, none⟩ k u (fun e => hk (by simp [e]))⟩ (Or.inr hne)

theorem Lies.far {w : World} {p g j : Nat} {u : Value} {room drops : Int} {rv : Value} {f n : Nat} (h : Lies w p room drops rv f n) (hne : p ≠ g) : Lies (w.setCell ⟨g, j, none⟩ u) p room drops rv f n := by
  unfold Lies
  rw [heap_setCell_other w ⟨g, j, none⟩ p u (by simpa using hne)]
  exact h

theorem QAt.ne {w : World} {p : Nat} {room drops : Int} {rv : Value} {f : Nat} {rs xs : List Msg} (h : QAt w p room drops rv f rs xs) : rv.ownBlock ≠ some p := by
  intro e
  rcases h.own.2 with ⟨hlv, _⟩ | ⟨g, cap, cur, hlv, _, hg, _⟩
  · rw [hlv] at e
    simp [Value.ownBlock] at e
  · rw [hlv] at e
    simp [Value.ownBlock] at e
    subst e
    have := h.lies
    unfold Lies at this
    rw [hg] at this
    simp at this

theorem widen_fin {w w2 : World} {p : Nat} {room drops : Int} {rv v' : Value} {f L : Nat} {rs xs : List Msg} (hQ : QAt w p room drops rv f rs xs) (hO : Owns w2 w.heap.size v' (xs ++ List.replicate (L - xs.length) z0)) (hB : Below w.heap.size w w2) (hL : xs.length < L) (hL2 : (L : Int) ≤ room) :
    QAt ((w2.setCell ⟨p, 3, none⟩ v').setCell ⟨p, 4, none⟩ (.int .i64 (0 : Nat))) p room drops v' 0 (xs ++ List.replicate (L - xs.length) z0) xs ∧ Turned w ((w2.setCell ⟨p, 3, none⟩ v').setCell ⟨p, 4, none⟩ (.int .i64 (0 : Nat))) p none ∧ ∀ j, v'.ownBlock = some j → w.heap.size ≤ j := by
  have hne : v'.ownBlock ≠ some p := fun e => by
    have := (hO.lt p e).1
    have := hQ.lies.lt
    omega
  have h1 := hQ.r1
  have h2 := hQ.r2
  exact ⟨⟨((hQ.lies.below hB).put3).put4 0, owns_far (owns_far (owns_le hO (Nat.zero_le _)) hne) hne, Ring.straight _ _, by simp; omega, h1, h2⟩, ((Turned.of hB p none).put _ _).put _ _, fun j hj => (hO.lt j hj).1⟩


theorem owns_slice {w : World} {base : Nat} {v : Value} {xs : List Msg} (h : Owns w base v xs) : ∃ ao n c, v = .slice ao n c := by
  obtain ⟨b, off, ao, cap, hv, _⟩ := h.sees
  exact ⟨ao, _, cap, hv⟩


set_option maxHeartbeats 2000000 in
theorem widen_any (p : Nat) (room drops : Int) (rv : Value) (f : Nat) (rs xs : List Msg) (w : World) (hQ : QAt w p room drops rv f rs xs) (hlt : (xs.length : Int) < room) :
    Calls Try.prog 46 #[.pointer (some ⟨p, 0, none⟩)] w fun e w' => e = .returned (.tuple #[]) ∧ ∃ v' rs', QAt w' p room drops v' 0 rs' xs ∧ xs.length < rs'.length ∧ Turned w w' p none ∧ ∀ j, v'.ownBlock = some j → w.heap.size ≤ j := by
  obtain ⟨c0, c1, c2, c3, c4, c5⟩ := hQ.lies.cells
  have hz := hQ.lies.warm
  have hz3 := hz 3
  have hz4 := hz 4
  have hpl := hQ.lies.lt
  have hr2 := hQ.r2
  have e1 : IntKind.i64.wrap (2 * xs.length) = 2 * xs.length := wrap_ok _ (by omega) (by omega)
  have e2 : IntKind.i64.wrap (2 * xs.length + 1) = 2 * xs.length + 1 := wrap_ok _ (by omega) (by omega)
  obtain ⟨L, hL⟩ : ∃ L : Nat, (L : Int) = if room < 2 * (xs.length : Int) + 1 then room else 2 * (xs.length : Int) + 1 := ⟨(if room < 2 * (xs.length : Int) + 1 then room else 2 * (xs.length : Int) + 1).toNat, by split <;> omega⟩
  have hL1 : xs.length < L := by split at hL <;> omega
  have hL2 : (L : Int) ≤ room := by split at hL <;> omega
  have hS := straight_any p room drops rv f L rs xs w.drew (hQ.below (Below.drew (Below.refl _ _))) (by omega) (by omega)
  have hfin := hid (fun v' w2 (hO : Owns w2 w.heap.size v' (xs ++ List.replicate (L - xs.length) z0)) (hB : Below w.heap.size w w2) => widen_fin hQ hO hB hL1 hL2)
  have HL := hid (show xs.length < (xs ++ List.replicate (L - xs.length) z0).length by simp; omega)
  have hmn := hL.symm
  have HS := hid hS
  have HQ := hid hQ
  clear hQ hL c0 c2 c3 hz hS hL1 hL2 hlt hr2
  go_enter Try.func46, Try.ntmps46
  go_wp2_with fail
  go_region_held3 (fun w' => w'.cell? ⟨p, 1, none⟩ = some (.int .i64 room) ∧ w'.cell? ⟨p, 5, none⟩ = some (.int .i64 xs.length))
    (first | (refine ⟨?_, ?_⟩ <;> first | assumption | (simp [*, World.cell?_setCell_other]; done)))
    (first
      | (go_at_call 43; refine HS.out.mono ?_; rintro e w2 ⟨v', rfl, hO2, hB2⟩; clear HS
         have hB3 : Below w.heap.size w w2 := (Below.drew (Below.refl _ _)).trans hB2
         obtain ⟨d0, d1, d2, d3, d4, d5⟩ := (HQ.out.lies.below hB3).cells
         have y3 := (HQ.out.lies.below hB3).warm 3
         have y4 := (HQ.out.lies.below hB3).warm 4
         have H2 := hid (hfin.out v' w2 hO2 hB3)
         obtain ⟨ao2, n2, cp2, hv2⟩ := owns_slice hO2
         subst hv2
         clear c1 c5 c4 hz3 hz4 d0 d2 HQ hfin hO2 hB2 hB3))
  go_wp2
  go_returns
  exact ⟨rfl, _, _, H2.out.1, HL.out, H2.out.2.1, H2.out.2.2⟩

end Go.Proofs.Ytahibklmcooanaa.Mq
