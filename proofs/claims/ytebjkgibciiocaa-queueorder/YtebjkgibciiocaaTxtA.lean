/-
  Queues of texts: what queues of numbers have: where they lie, straight, widen.
-/
import Derived.Test.YtebjkgibciiocaaAwake
import Derived.Deep.RegionHeld3
import Derived.Laws.OwnMore
namespace Go.Proofs.Ytebjkgibciiocaa.Txt
open Go.RowKit Go.Proofs.Ytebjkgibciiocaa
set_option linter.unusedVariables false


/-- The slice v reads xs in the world w. -/
def Sees (w : World) (v : Value) (xs : List ByteArray) : Prop :=
  ∃ b off ao cap, v = .slice ao xs.length cap ∧ xs.length ≤ cap ∧ (ao = none → cap = 0) ∧ (xs ≠ [] → ao = some ⟨b, off, none⟩) ∧ ∀ j, j < xs.length → w.cell? ⟨b, off + j, none⟩ = some (.string (xs.getD j ByteArray.empty))

theorem Sees.below {w w' : World} {v : Value} {xs : List ByteArray} (h : Sees w v xs) (hb : Below w.heap.size w w') : Sees w' v xs := by
  obtain ⟨b, off, ao, cap, hv, hc, hn, ha, hcell⟩ := h
  exact ⟨b, off, ao, cap, hv, hc, hn, ha, fun j hj => (hb.cell (World.block_lt_of_cell? w _ (hcell j hj))).trans (hcell j hj)⟩

/-- The slice v is the call's own, made from block 'base' on, and holds xs. -/
def Owns (w : World) (base : Nat) (v : Value) (xs : List ByteArray) : Prop := w.ownsRow base 9 1 v xs.length (xs.map Value.string)


theorem Owns.below {w w' : World} {base : Nat} {v : Value} {xs : List ByteArray} (h : Owns w base v xs) (hb : Below w.heap.size w w') : Owns w' base v xs := ownsRow_below h hb

theorem Owns.sees {w : World} {base : Nat} {v : Value} {xs : List ByteArray} (h : Owns w base v xs) : Sees w v xs := by
  rcases h.2 with ⟨rfl, hn⟩ | ⟨g, cap, cur, rfl, hbase, hg, hcap, _, _, ht⟩
  · have : xs = [] := List.eq_nil_of_length_eq_zero hn
    subst this
    exact ⟨0, 0, none, 0, rfl, Nat.le_refl _, fun _ => rfl, fun h => absurd rfl h, fun j hj => by simp at hj⟩
  · refine ⟨g, 0, _, cap, rfl, hcap, (fun h => by cases h), fun _ => rfl, fun j hj => ?_⟩
    have hc := h.cells (g := g) rfl j (.string (xs.getD j ByteArray.empty)) (by simp [List.getD, hj])
    rw [Nat.zero_add]
    have hadd : (⟨g, 0, none⟩ : Addr).add j = ⟨g, j, none⟩ := by unfold Addr.add; split <;> simp_all
    rwa [hadd] at hc

theorem Try.info9 : (Try.prog.info? 9).map (fun i => (i.zero, i.size, i.bytes)) = some (some (.string ByteArray.empty), 1, 16) := by kernel_rfl




theorem owns_le {w : World} {base base' : Nat} {v : Value} {xs : List ByteArray} (h : Owns w base v xs) (hb : base' ≤ base) : Owns w base' v xs := by
  refine ⟨h.1, ?_⟩
  rcases h.2 with hn | ⟨g, cap, cur, rfl, hbase, hg, rest⟩
  · exact Or.inl hn
  · exact Or.inr ⟨g, cap, cur, rfl, by omega, hg, rest⟩



theorem owns_store {w : World} {base k : Nat} {g n cap : Nat} {ys : List ByteArray} (y : ByteArray) (h : Owns w base (.slice (some ⟨g, 0, none⟩) n cap) ys) (hn : ys.length = n) :
    Owns (w.setCell ⟨g, k, none⟩ (.string y)) base (.slice (some ⟨g, 0, none⟩) n cap) (ys.set k y) ∧ w.grownBy (w.setCell ⟨g, k, none⟩ (.string y)) (some g) := by
  subst hn
  have hs := World.ownsRow.stored h k (.string y)
  refine ⟨?_, hs.2⟩
  unfold Owns
  rw [List.length_set, List.map_set]
  exact hs.1






/-- The row rs holds xs from the place f on, round its end. -/
structure Ring (rs : List ByteArray) (f : Nat) (xs : List ByteArray) : Prop where
  le : xs.length ≤ rs.length
  first : (f < rs.length) ∨ (f = 0 ∧ rs.length = 0)
  spot : ∀ i, i < xs.length → rs.getD ((f + i) % rs.length) ByteArray.empty = xs.getD i ByteArray.empty

theorem Ring.lt {rs xs : List ByteArray} {f : Nat} (h : Ring rs f xs) (h0 : 0 < rs.length) : f < rs.length := by
  rcases h.first with h1 | h1 <;> omega

theorem Ring.push {rs xs : List ByteArray} {f : Nat} (x : ByteArray) (h : Ring rs f xs) (hlt : xs.length < rs.length) :
    Ring (rs.set ((f + xs.length) % rs.length) x) f (xs ++ [x]) := by
  have hf := h.lt (by omega)
  refine ⟨by simp; omega, Or.inl (by simpa using hf), fun i hi => ?_⟩
  rw [List.length_set]
  have hm : (f + xs.length) % rs.length < rs.length := Nat.mod_lt _ (by omega)
  simp at hi
  by_cases hie : i = xs.length
  · subst hie
    simp [List.getD, hm]
  · have hil : i < xs.length := by omega
    have hne : (f + xs.length) % rs.length ≠ (f + i) % rs.length := by
      rcases mod_cases (i := i) hf (by omega) with ⟨e1, e2⟩ | ⟨e1, e2⟩ <;> rcases mod_cases (i := xs.length) hf (by omega) with ⟨e3, e4⟩ | ⟨e3, e4⟩ <;> rw [e1, e3] <;> omega
    have h2 := h.spot i hil
    simp only [List.getD] at h2 ⊢
    rw [List.getElem?_set_ne hne, h2, List.getElem?_append_left hil]

theorem Ring.pop {rs xs : List ByteArray} {f : Nat} {x : ByteArray} (z : ByteArray) (h : Ring rs f (x :: xs)) :
    rs.getD f ByteArray.empty = x ∧ f < rs.length ∧ Ring (rs.set f z) ((f + 1) % rs.length) xs := by
  have hle := h.le
  simp at hle
  have hf := h.lt (by omega)
  have h0 := h.spot 0 (by simp)
  rw [Nat.add_zero, Nat.mod_eq_of_lt hf] at h0
  refine ⟨by simpa using h0, hf, ⟨by simp; omega, Or.inl (by simp; exact Nat.mod_lt _ (by omega)), fun i hi => ?_⟩⟩
  rw [List.length_set, Nat.mod_add_mod, Nat.add_assoc, Nat.add_comm 1 i]
  have hne : f ≠ (f + (i + 1)) % rs.length := by
    rcases mod_cases (i := i + 1) hf (by omega) with ⟨e1, e2⟩ | ⟨e1, e2⟩ <;> rw [e1] <;> omega
  have h2 := h.spot (i + 1) (by simpa using hi)
  simp only [List.getD] at h2 ⊢
  rw [List.getElem?_set_ne hne, h2, List.getElem?_cons_succ]

theorem Ring.straight (xs : List ByteArray) (k : Nat) : Ring (xs ++ List.replicate k ByteArray.empty) 0 xs := by
  refine ⟨by simp, ?_, fun i hi => ?_⟩
  · by_cases h : 0 < xs.length + k
    · exact Or.inl (by simpa using h)
    · exact Or.inr ⟨rfl, by simp; constructor <;> (try apply List.eq_nil_of_length_eq_zero) <;> omega⟩
  · rw [Nat.zero_add, Nat.mod_eq_of_lt (by simp; omega)]
    simp only [List.getD]
    rw [List.getElem?_append_left hi]

/-- At p lies a queue's struct. -/
def Lies (w : World) (p : Nat) (room drops : Int) (rv : Value) (f n : Nat) : Prop :=
  w.heap[p]? = some (.cells #[.pointer (some ⟨p, 0, none⟩), .int .i64 room, .int .i64 drops, rv, .int .i64 f, .int .i64 n] 51 (0, 0))

theorem Lies.cells {w : World} {p : Nat} {room drops : Int} {rv : Value} {f n : Nat} (h : Lies w p room drops rv f n) :
    w.cell? ⟨p, 0, none⟩ = some (.pointer (some ⟨p, 0, none⟩)) ∧ w.cell? ⟨p, 1, none⟩ = some (.int .i64 room) ∧ w.cell? ⟨p, 2, none⟩ = some (.int .i64 drops) ∧ w.cell? ⟨p, 3, none⟩ = some rv ∧ w.cell? ⟨p, 4, none⟩ = some (.int .i64 f) ∧ w.cell? ⟨p, 5, none⟩ = some (.int .i64 n) := by
  unfold Lies at h
  refine ⟨?_, ?_, ?_, ?_, ?_, ?_⟩ <;> simp [World.cell?, h]

theorem Lies.warm {w : World} {p : Nat} {room drops : Int} {rv : Value} {f n : Nat} (h : Lies w p room drops rv f n) (k : Nat) : w.frozen? ⟨p, k, none⟩ = false := by
  unfold Lies at h
  simp [World.frozen?, h]

theorem Lies.lt {w : World} {p : Nat} {room drops : Int} {rv : Value} {f n : Nat} (h : Lies w p room drops rv f n) : p < w.heap.size := (Array.getElem?_eq_some_iff.1 h).1

theorem Lies.below {w w' : World} {p : Nat} {room drops : Int} {rv : Value} {f n : Nat} (h : Lies w p room drops rv f n) (hb : Below w.heap.size w w') : Lies w' p room drops rv f n := by
  unfold Lies
  rw [hb.block p h.lt]
  exact h

theorem Lies.put2 {w : World} {p : Nat} {room drops d : Int} {rv : Value} {f n : Nat} (h : Lies w p room drops rv f n) : Lies (w.setCell ⟨p, 2, none⟩ (.int .i64 d)) p room d rv f n := by
  unfold Lies at *
  simp only [World.setCell, Array.getElem?_modify, h]
  simp

theorem Lies.put3 {w : World} {p : Nat} {room drops : Int} {rv u : Value} {f n : Nat} (h : Lies w p room drops rv f n) : Lies (w.setCell ⟨p, 3, none⟩ u) p room drops u f n := by
  unfold Lies at *
  simp only [World.setCell, Array.getElem?_modify, h]
  simp

theorem Lies.put4 {w : World} {p : Nat} {room drops : Int} {rv : Value} {f n : Nat} (g : Nat) (h : Lies w p room drops rv f n) : Lies (w.setCell ⟨p, 4, none⟩ (.int .i64 g)) p room drops rv g n := by
  unfold Lies at *
  simp only [World.setCell, Array.getElem?_modify, h]
  simp

theorem Lies.put5 {w : World} {p : Nat} {room drops : Int} {rv : Value} {f n : Nat} (m : Nat) (h : Lies w p room drops rv f n) : Lies (w.setCell ⟨p, 5, none⟩ (.int .i64 m)) p room drops rv f m := by
  unfold Lies at *
  simp only [World.setCell, Array.getElem?_modify, h]
  simp

theorem Try.infoTxt : (Try.prog.info? 51).map (fun i => i.size) = some 6 := by kernel_rfl

theorem eql_self (a : Addr) (w : World) : (binOp .eql 37 (.pointer (some a)) (.pointer (some a))).run Try.prog w = .ok (.bool true) w := by
  obtain ⟨j, hj, _⟩ := Option.map_eq_some_iff.1 Try.infoTxt
  exact run_eql_ptr_same w a Try.underlying37 hj

theorem eql_nil_some (a : Addr) (w : World) : (binOp .eql 37 (.pointer none) (.pointer (some a))).run Try.prog w = .ok (.bool false) w := by
  have h : ∀ d : Nat, (Op.equalIn (d + 1) 37 (.pointer none) (.pointer (some a))).run Try.prog w = .ok false w := fun d => by
    simp [Op.equalIn, run_underlying Try.underlying37]
  simp only [binOp]
  simp [Op.equal, Op.maxDepth, h 9999]

set_option maxHeartbeats 400000 in
theorem given_yes (p : Nat) (w : World) (h0 : w.cell? ⟨p, 0, none⟩ = some (.pointer (some ⟨p, 0, none⟩))) :
    Calls Try.prog 26 #[.pointer (some ⟨p, 0, none⟩)] w fun e w' => e = .returned (.bool true) ∧ w' = w := by
  have he := eql_self ⟨p, 0, none⟩ w
  go_enter Try.func26, Try.ntmps26
  go_wp2
  go_ret
  exact ⟨rfl, rfl⟩

set_option maxHeartbeats 400000 in
theorem given_zero (p : Nat) (w : World) (h0 : w.cell? ⟨p, 0, none⟩ = some (.pointer none)) :
    Calls Try.prog 26 #[.pointer (some ⟨p, 0, none⟩)] w fun e w' => e = .returned (.bool false) ∧ w' = w := by
  have he := eql_nil_some ⟨p, 0, none⟩ w
  go_enter Try.func26, Try.ntmps26
  go_wp2
  go_ret
  exact ⟨rfl, rfl⟩

set_option maxHeartbeats 400000 in
theorem given_nil (w : World) :
    Calls Try.prog 26 #[.pointer none] w fun e w' => e = .returned (.bool false) ∧ w' = w := by
  go_enter Try.func26, Try.ntmps26
  go_wp2
  go_ret
  exact ⟨rfl, rfl⟩

set_option maxHeartbeats 400000 in
theorem new_bad (room : Int) (w : World) (h : room < 1 ∨ 65536 < room) :
    Calls Try.prog 17 #[.int .i64 room] w fun e w' => e = .returned (.tuple #[.pointer none, .int .i64 1]) ∧ w' = w := by
  rcases h with h | h
  · go_enter Try.func17, Try.ntmps17
    go_wp2
    go_ret2
    exact ⟨rfl, rfl⟩
  · have h' : ¬ room < 1 := by omega
    go_enter Try.func17, Try.ntmps17
    go_wp2
    go_ret2
    exact ⟨rfl, rfl⟩

set_option maxHeartbeats 400000 in
theorem new_any (room : Int) (w : World) (h1 : 1 ≤ room) (h2 : room ≤ 65536) :
    Calls Try.prog 17 #[.int .i64 room] w fun e w' => e = .returned (.tuple #[.pointer (some ⟨w.heap.size, 0, none⟩), .int .i64 0]) ∧ Lies w' w.heap.size room 0 (.slice none 0 0) 0 0 ∧ Below w.heap.size w w' := by
  have h1' : ¬ room < 1 := by omega
  have h2' : ¬ 65536 < room := by omega
  go_enter Try.func17, Try.ntmps17
  go_wp2
  go_ret2
  refine ⟨rfl, ?_, ?_⟩
  · exact heap_alloc_new w _
  · exact (Below.refl _ _).alloc (Nat.le_refl _) _

set_option maxHeartbeats 400000 in
theorem place_any (p : Nat) (f k n c : Nat) (ao : Option Addr) (w : World) (h3 : w.cell? ⟨p, 3, none⟩ = some (.slice ao n c)) (h4 : w.cell? ⟨p, 4, none⟩ = some (.int .i64 f)) (hf : f ≤ 65536) (hk : k ≤ 65536) (hn : 0 < n) (hn2 : n ≤ 65536) :
    Calls Try.prog 28 #[.pointer (some ⟨p, 0, none⟩), .int .i64 k] w fun e w' => e = .returned (.int .i64 ((f + k) % n : Nat)) ∧ ∃ q, w' = w.drewN q := by
  go_enter Try.func28, Try.ntmps28
  go_wp2_with fail
  go_quiet (fail)
  go_wp2
  go_ret
  exact ⟨rfl, _, rfl⟩


/-- At p lies a queue with a room, its row rv, which holds xs round its end. -/
structure QAt (w : World) (p : Nat) (room drops : Int) (rv : Value) (f : Nat) (rs xs : List ByteArray) : Prop where
  lies : Lies w p room drops rv f xs.length
  own : Owns w 0 rv rs
  ring : Ring rs f xs
  rle : (rs.length : Int) ≤ room
  r1 : 1 ≤ room
  r2 : room ≤ 65536

theorem QAt.below {w w' : World} {p : Nat} {room drops : Int} {rv : Value} {f : Nat} {rs xs : List ByteArray} (h : QAt w p room drops rv f rs xs) (hb : Below w.heap.size w w') : QAt w' p room drops rv f rs xs :=
  ⟨h.lies.below hb, h.own.below hb, h.ring, h.rle, h.r1, h.r2⟩

theorem QAt.shape {w : World} {p : Nat} {room drops : Int} {rv : Value} {f : Nat} {rs xs : List ByteArray} (h : QAt w p room drops rv f rs xs) : ∃ ao c, rv = .slice ao rs.length c := by
  obtain ⟨b, off, ao, cap, hv, _⟩ := h.own.sees
  exact ⟨ao, cap, hv⟩

/-- A row that is not empty lies in a block of its own. -/
theorem owns_block {w : World} {base : Nat} {v : Value} {xs : List ByteArray} (h : Owns w base v xs) (h0 : 0 < xs.length) :
    ∃ g c, v = .slice (some ⟨g, 0, none⟩) xs.length c ∧ base ≤ g ∧ g < w.heap.size ∧ (∀ j, w.frozen? ⟨g, j, none⟩ = false) ∧ ∀ j, j < xs.length → w.cell? ⟨g, j, none⟩ = some (.string (xs.getD j ByteArray.empty)) := by
  have h' := h
  rcases h.2 with ⟨_, hn⟩ | ⟨g, cap, cur, rfl, hbase, hg, rest⟩
  · omega
  · refine ⟨g, cap, rfl, hbase, (Array.getElem?_eq_some_iff.1 hg).1, fun j => World.ownsRow.frozenAt h j, fun j hj => ?_⟩
    rw [World.ownsRow.cellAt h j (by omega)]
    simp [List.getD, hj]

theorem straight_step {xs : List ByteArray} {k L : Nat} {y : ByteArray} (hk : k < xs.length) (hL : xs.length ≤ L) (hy : y = xs.getD k ByteArray.empty) :
    (xs.take k ++ List.replicate (L - k) ByteArray.empty).set k y = xs.take (k + 1) ++ List.replicate (L - (k + 1)) ByteArray.empty := by
  have e : L - k = (L - (k + 1)) + 1 := by omega
  have hl : (xs.take k).length = k := by rw [List.length_take]; omega
  rw [List.set_append_right _ _ (by omega), hl, Nat.sub_self, e, List.replicate_succ, List.set_cons_zero, List.take_succ_eq_append_getElem hk, List.append_assoc, List.singleton_append]
  congr 2
  rw [hy]
  simp [List.getD, hk]

theorem straight_store {w wr : World} {xs : List ByteArray} {k L g : Nat} (y : ByteArray) (hk : k < xs.length) (hL : xs.length ≤ L) (hy : y = xs.getD k ByteArray.empty) (hown : Owns wr w.heap.size (.slice (some ⟨g, 0, none⟩) L L) (xs.take k ++ List.replicate (L - k) ByteArray.empty)) (hbel : Below w.heap.size w wr) (hg : g = w.heap.size) (q : Nat) :
    Owns ((wr.drewN q).setCell ⟨g, k, none⟩ (.string y)) w.heap.size (.slice (some ⟨g, 0, none⟩) L L) (xs.take (k + 1) ++ List.replicate (L - (k + 1)) ByteArray.empty) ∧ Below w.heap.size w ((wr.drewN q).setCell ⟨g, k, none⟩ (.string y)) := by
  have h := owns_store (k := k) y (hown.below (below_drewN (Below.refl _ _) q)) (by simp; omega)
  rw [straight_step hk hL hy] at h
  exact ⟨h.1, (below_drewN hbel q).setCell (by simp [hg]) _⟩

set_option maxHeartbeats 2000000 in
theorem straight_any (p : Nat) (room drops : Int) (rv : Value) (f L : Nat) (rs xs : List ByteArray) (w : World) (hQ : QAt w p room drops rv f rs xs) (hL : xs.length ≤ L) (hL2 : L ≤ 65536) :
    Calls Try.prog 29 #[.pointer (some ⟨p, 0, none⟩), .int .i64 L] w fun e w' => ∃ v', e = .returned v' ∧ Owns w' w.heap.size v' (xs ++ List.replicate (L - xs.length) ByteArray.empty) ∧ Below w.heap.size w w' := by
  obtain ⟨i0, hi, hz0, hz1, hz2⟩ := info_parts Try.info9
  obtain ⟨c0, c1, c2, c3, c4, c5⟩ := hQ.lies.cells
  have hpl := hQ.lies.lt
  have HQ := hid hQ
  obtain ⟨ao, c, hrv⟩ := hQ.shape
  clear hQ c0 c1 c2
  subst hrv
  have hb2 : i0.bytes * L ≤ 281474976710656 := by rw [hz2]; omega
  have hb3 : L ≤ maxLen := by simp only [maxLen]; omega
  go_enter Try.func29, Try.ntmps29
  go_wp2_with (at_make; refine wpList_make_full _ rfl _ _ 36 rfl w.heap.size 9 i0 (.string ByteArray.empty) 1 Try.underlying36 hi hz0 hz1 .i64 .i64 _ _ L rfl rfl rfl rfl hb2 hb3 (Nat.le_refl _) ?_; intro w0 hown0 hgrow0; have hB0 : Below w.heap.size w w0 := (Below.refl _ _).grown hgrow0 (Nat.le_refl _) (fun k hk => by cases hk); have d5 := (hB0.cell (p := ⟨p, 5, none⟩) (by exact hpl)).trans c5)
  have HO0 : Owns w0 w.heap.size (.slice (some ⟨w.heap.size, 0, none⟩) L L) (xs.take 0 ++ List.replicate (L - 0) ByteArray.empty) := by
    have h := hown0
    rw [Nat.mul_one, show (Value.string ByteArray.empty).cells = #[Value.string ByteArray.empty] from rfl, toList_madeCells_one] at h
    simpa [Owns] using h
  have H0 := hid HO0
  have HB0 := hid hB0
  clear HO0 hown0 hgrow0 hB0 d5 c3 c4 c5
  go_loopw [13] (fun i wr => ∃ k : Nat, k ≤ xs.length ∧ i = .int .i64 k ∧ Owns wr w.heap.size (.slice (some ⟨w.heap.size, 0, none⟩) L L) (xs.take k ++ List.replicate (L - k) ByteArray.empty) ∧ Below w.heap.size w wr) (fun i _ => xs.length - (intOf i).toNat)
  case atStart => exact ⟨0, Nat.zero_le _, rfl, H0.out, HB0.out⟩
  case round =>
    clear H0 HB0
    obtain ⟨k, hk, rfl, hown, hbel⟩ := hrel
    by_cases hlt : k < xs.length
    · have hQ := HQ.out.below hbel
      have hrl := hQ.ring.le
      have hfl := hQ.ring.lt (by omega)
      have hrm := hQ.rle
      have hr2 := hQ.r2
      obtain ⟨rb, rc, hrv, _, hrb, _, hrc⟩ := owns_block hQ.own (by omega)
      cases hrv
      obtain ⟨c0, c1, c2, c3, c4, c5⟩ := hQ.lies.cells
      obtain ⟨m, hm⟩ : ∃ m, m = (f + k) % rs.length := ⟨_, rfl⟩
      have hml : m < rs.length := by rw [hm]; exact Nat.mod_lt _ (by omega)
      have hc := hrc m hml
      have hsp := hQ.ring.spot k hlt
      rw [← hm] at hsp
      rw [hsp] at hc
      obtain ⟨y, hy⟩ : ∃ y, y = xs.getD k ByteArray.empty := ⟨_, rfl⟩
      rw [← hy] at hc
      have hPl := place_any p f k rs.length c (some ⟨rb, 0, none⟩) wr.drew c3 c4 (by omega) (by omega) (by omega) (by omega)
      rw [← hm] at hPl
      have hlen : (xs.take k ++ List.replicate (L - k) ByteArray.empty).length = L := by simp; omega
      obtain ⟨g2, cc, hgv, _, hg, hfz, hlc⟩ := owns_block hown (by omega)
      rw [hlen] at hgv
      cases hgv
      obtain ⟨y0, hy0⟩ : ∃ y0, y0 = (xs.take k ++ List.replicate (L - k) ByteArray.empty).getD k ByteArray.empty := ⟨_, rfl⟩
      have hlk := hlc k (by omega)
      rw [← hy0] at hlk
      have hfk := hfz k
      have hkL : k < L := by omega
      have HR := hid (fun q => straight_store (g := w.heap.size) y hlt hL hy hown hbel rfl q)
      have hne1 : w.heap.size ≠ rb := by
        have := HQ.out.own.lt rb rfl
        omega
      have hne2 : w.heap.size ≠ p := by omega
      clear hown hbel hQ hrl hfl hrm hr2 hrb hrc c0 c1 c2 c5 hm hsp hy hg hfz hlc hy0 hlen
      go_wp2_with fail
      go_region_held3 (fun w' => w'.cell? ⟨p, 3, none⟩ = some (.slice (some ⟨rb, 0, none⟩) rs.length c) ∧ w'.cell? ⟨rb, m, none⟩ = some (.string y))
        (first | (refine ⟨?_, ?_⟩ <;> first | assumption | go_keep))
        (first
          | (go_at_call 28; refine hPl.mono ?_; rintro e w2 ⟨rfl, q, rfl⟩; clear hPl))
      go_wp2
      go_roundw
      case rel => exact ⟨k + 1, by omega, by go_num, (HR.out _).1, (HR.out _).2⟩
      case measure => simp [intOf]; omega
    · have hke : k = xs.length := by omega
      rw [hke, List.take_of_length_le (Nat.le_refl _)] at hown
      have HO := hid hown
      clear hown hke
      go_wp2
      go_ret
      exact ⟨_, rfl, HO.out, hbel⟩







theorem owns_far {w : World} {base p j : Nat} {v u : Value} {xs : List ByteArray} (h : Owns w base v xs) (hne : v.ownBlock ≠ some p) : Owns (w.setCell ⟨p, j, none⟩ u) base v xs :=
  World.ownsRow.kept h ⟨rfl, rfl, rfl, by simp, fun k _ hk => heap_setCell_other w ⟨p, j, none⟩ k u (fun e => hk (by simp [e]))⟩ (Or.inr hne)

theorem Lies.far {w : World} {p g j : Nat} {u : Value} {room drops : Int} {rv : Value} {f n : Nat} (h : Lies w p room drops rv f n) (hne : p ≠ g) : Lies (w.setCell ⟨g, j, none⟩ u) p room drops rv f n := by
  unfold Lies
  rw [heap_setCell_other w ⟨g, j, none⟩ p u (by simpa using hne)]
  exact h

theorem QAt.ne {w : World} {p : Nat} {room drops : Int} {rv : Value} {f : Nat} {rs xs : List ByteArray} (h : QAt w p room drops rv f rs xs) : rv.ownBlock ≠ some p := by
  intro e
  rcases h.own.2 with ⟨hlv, _⟩ | ⟨g, cap, cur, hlv, _, hg, _⟩
  · rw [hlv] at e
    simp [Value.ownBlock] at e
  · rw [hlv] at e
    simp [Value.ownBlock] at e
    subst e
    have := h.lies
    unfold Lies at this
    rw [hg] at this
    simp at this

theorem widen_fin {w w2 : World} {p : Nat} {room drops : Int} {rv v' : Value} {f L : Nat} {rs xs : List ByteArray} (hQ : QAt w p room drops rv f rs xs) (hO : Owns w2 w.heap.size v' (xs ++ List.replicate (L - xs.length) ByteArray.empty)) (hB : Below w.heap.size w w2) (hL : xs.length < L) (hL2 : (L : Int) ≤ room) :
    QAt ((w2.setCell ⟨p, 3, none⟩ v').setCell ⟨p, 4, none⟩ (.int .i64 (0 : Nat))) p room drops v' 0 (xs ++ List.replicate (L - xs.length) ByteArray.empty) xs ∧ Turned w ((w2.setCell ⟨p, 3, none⟩ v').setCell ⟨p, 4, none⟩ (.int .i64 (0 : Nat))) p none ∧ ∀ j, v'.ownBlock = some j → w.heap.size ≤ j := by
  have hne : v'.ownBlock ≠ some p := fun e => by
    have := (hO.lt p e).1
    have := hQ.lies.lt
    omega
  have h1 := hQ.r1
  have h2 := hQ.r2
  exact ⟨⟨((hQ.lies.below hB).put3).put4 0, owns_far (owns_far (owns_le hO (Nat.zero_le _)) hne) hne, Ring.straight _ _, by simp; omega, h1, h2⟩, ((Turned.of hB p none).put _ _).put _ _, fun j hj => (hO.lt j hj).1⟩


theorem owns_slice {w : World} {base : Nat} {v : Value} {xs : List ByteArray} (h : Owns w base v xs) : ∃ ao n c, v = .slice ao n c := by
  obtain ⟨b, off, ao, cap, hv, _⟩ := h.sees
  exact ⟨ao, _, cap, hv⟩


set_option maxHeartbeats 2000000 in
theorem widen_any (p : Nat) (room drops : Int) (rv : Value) (f : Nat) (rs xs : List ByteArray) (w : World) (hQ : QAt w p room drops rv f rs xs) (hlt : (xs.length : Int) < room) :
    Calls Try.prog 27 #[.pointer (some ⟨p, 0, none⟩)] w fun e w' => e = .returned (.tuple #[]) ∧ ∃ v' rs', QAt w' p room drops v' 0 rs' xs ∧ xs.length < rs'.length ∧ Turned w w' p none ∧ ∀ j, v'.ownBlock = some j → w.heap.size ≤ j := by
  obtain ⟨c0, c1, c2, c3, c4, c5⟩ := hQ.lies.cells
  have hz := hQ.lies.warm
  have hz3 := hz 3
  have hz4 := hz 4
  have hpl := hQ.lies.lt
  have hr2 := hQ.r2
  have e1 : IntKind.i64.wrap (2 * xs.length) = 2 * xs.length := wrap_ok _ (by omega) (by omega)
  have e2 : IntKind.i64.wrap (2 * xs.length + 1) = 2 * xs.length + 1 := wrap_ok _ (by omega) (by omega)
  obtain ⟨L, hL⟩ : ∃ L : Nat, (L : Int) = if room < 2 * (xs.length : Int) + 1 then room else 2 * (xs.length : Int) + 1 := ⟨(if room < 2 * (xs.length : Int) + 1 then room else 2 * (xs.length : Int) + 1).toNat, by split <;> omega⟩
  have hL1 : xs.length < L := by split at hL <;> omega
  have hL2 : (L : Int) ≤ room := by split at hL <;> omega
  have hS := straight_any p room drops rv f L rs xs w.drew (hQ.below (Below.drew (Below.refl _ _))) (by omega) (by omega)
  have hfin := hid (fun v' w2 (hO : Owns w2 w.heap.size v' (xs ++ List.replicate (L - xs.length) ByteArray.empty)) (hB : Below w.heap.size w w2) => widen_fin hQ hO hB hL1 hL2)
  have HL := hid (show xs.length < (xs ++ List.replicate (L - xs.length) ByteArray.empty).length by simp; omega)
  have hmn := hL.symm
  have HS := hid hS
  have HQ := hid hQ
  clear hQ hL c0 c2 c3 hz hS hL1 hL2 hlt hr2
  go_enter Try.func27, Try.ntmps27
  go_wp2_with fail
  go_region_held3 (fun w' => w'.cell? ⟨p, 1, none⟩ = some (.int .i64 room) ∧ w'.cell? ⟨p, 5, none⟩ = some (.int .i64 xs.length))
    (first | (refine ⟨?_, ?_⟩ <;> first | assumption | (simp [*, World.cell?_setCell_other]; done)))
    (first
      | (go_at_call 29; refine HS.out.mono ?_; rintro e w2 ⟨v', rfl, hO2, hB2⟩; clear HS
         have hB3 : Below w.heap.size w w2 := (Below.drew (Below.refl _ _)).trans hB2
         obtain ⟨d0, d1, d2, d3, d4, d5⟩ := (HQ.out.lies.below hB3).cells
         have y3 := (HQ.out.lies.below hB3).warm 3
         have y4 := (HQ.out.lies.below hB3).warm 4
         have H2 := hid (hfin.out v' w2 hO2 hB3)
         obtain ⟨ao2, n2, cp2, hv2⟩ := owns_slice hO2
         subst hv2
         clear c1 c5 c4 hz3 hz4 d0 d2 HQ hfin hO2 hB2 hB3))
  go_wp2
  go_returns
  exact ⟨rfl, _, _, H2.out.1, HL.out, H2.out.2.1, H2.out.2.2⟩

end Go.Proofs.Ytebjkgibciiocaa.Txt
