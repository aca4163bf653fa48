/-
  The contracts of straight and widen.
-/
import Derived.Test.YtebjkgibciiocaaRing
import Derived.Deep.RegionHeld3
import Derived.Laws.OwnMore
namespace Go.Proofs.Ytebjkgibciiocaa
open Go.RowKit
set_option linter.unusedVariables false

/-- At p lies a queue with a room, its row rv, which holds xs round its end. -/
structure QAt (w : World) (p : Nat) (room drops : Int) (rv : Value) (f : Nat) (rs xs : List Int) : Prop where
  lies : Lies w p room drops rv f xs.length
  own : Owns w 0 rv rs
  ring : Ring rs f xs
  rle : (rs.length : Int) ≤ room
  r1 : 1 ≤ room
  r2 : room ≤ 65536

theorem QAt.below {w w' : World} {p : Nat} {room drops : Int} {rv : Value} {f : Nat} {rs xs : List Int} (h : QAt w p room drops rv f rs xs) (hb : Below w.heap.size w w') : QAt w' p room drops rv f rs xs :=
  ⟨h.lies.below hb, h.own.below hb, h.ring, h.rle, h.r1, h.r2⟩

theorem QAt.shape {w : World} {p : Nat} {room drops : Int} {rv : Value} {f : Nat} {rs xs : List Int} (h : QAt w p room drops rv f rs xs) : ∃ ao c, rv = .slice ao rs.length c := by
  obtain ⟨b, off, ao, cap, hv, _⟩ := h.own.sees
  exact ⟨ao, cap, hv⟩

/-- A row that is not empty lies in a block of its own. -/
theorem owns_block {w : World} {base : Nat} {v : Value} {xs : List Int} (h : Owns w base v xs) (h0 : 0 < xs.length) :
    ∃ g c, v = .slice (some ⟨g, 0, none⟩) xs.length c ∧ base ≤ g ∧ g < w.heap.size ∧ (∀ j, w.frozen? ⟨g, j, none⟩ = false) ∧ ∀ j, j < xs.length → w.cell? ⟨g, j, none⟩ = some (.int .i64 (xs.getD j 0)) := by
  have h' := h
  rcases h.2 with ⟨_, hn⟩ | ⟨g, cap, cur, rfl, hbase, hg, rest⟩
  · omega
  · refine ⟨g, cap, rfl, hbase, (Array.getElem?_eq_some_iff.1 hg).1, fun j => World.ownsRow.frozenAt h j, fun j hj => ?_⟩
    rw [World.ownsRow.cellAt h j (by omega)]
    simp [List.getD, hj]

theorem straight_step {xs : List Int} {k L : Nat} {y : Int} (hk : k < xs.length) (hL : xs.length ≤ L) (hy : y = xs.getD k 0) :
    (xs.take k ++ List.replicate (L - k) 0).set k y = xs.take (k + 1) ++ List.replicate (L - (k + 1)) 0 := by
  have e : L - k = (L - (k + 1)) + 1 := by omega
  have hl : (xs.take k).length = k := by rw [List.length_take]; omega
  rw [List.set_append_right _ _ (by omega), hl, Nat.sub_self, e, List.replicate_succ, List.set_cons_zero, List.take_succ_eq_append_getElem hk, List.append_assoc, List.singleton_append]
  congr 2
  rw [hy]
  simp [List.getD, hk]

theorem straight_store {w wr : World} {xs : List Int} {k L g : Nat} (y : Int) (hk : k < xs.length) (hL : xs.length ≤ L) (hy : y = xs.getD k 0) (hown : Owns wr w.heap.size (.slice (some ⟨g, 0, none⟩) L L) (xs.take k ++ List.replicate (L - k) 0)) (hbel : Below w.heap.size w wr) (hg : g = w.heap.size) (q : Nat) :
    Owns ((wr.drewN q).setCell ⟨g, k, none⟩ (.int .i64 y)) w.heap.size (.slice (some ⟨g, 0, none⟩) L L) (xs.take (k + 1) ++ List.replicate (L - (k + 1)) 0) ∧ Below w.heap.size w ((wr.drewN q).setCell ⟨g, k, none⟩ (.int .i64 y)) := by
  have h := owns_store (k := k) y (hown.below (below_drewN (Below.refl _ _) q)) (by simp; omega)
  rw [straight_step hk hL hy] at h
  exact ⟨h.1, (below_drewN hbel q).setCell (by simp [hg]) _⟩

set_option maxHeartbeats 2000000 in
theorem straight_any (p : Nat) (room drops : Int) (rv : Value) (f L : Nat) (rs xs : List Int) (w : World) (hQ : QAt w p room drops rv f rs xs) (hL : xs.length ≤ L) (hL2 : L ≤ 65536) :
    Calls Try.prog 25 #[.pointer (some ⟨p, 0, none⟩), .int .i64 L] w fun e w' => ∃ v', e = .returned v' ∧ Owns w' w.heap.size v' (xs ++ List.replicate (L - xs.length) 0) ∧ Below w.heap.size w w' := by
  obtain ⟨i0, hi, hz0, hz1, hz2⟩ := info_parts Try.info3
  obtain ⟨c0, c1, c2, c3, c4, c5⟩ := hQ.lies.cells
  have hpl := hQ.lies.lt
  have HQ := hid hQ
  obtain ⟨ao, c, hrv⟩ := hQ.shape
  clear hQ c0 c1 c2
  subst hrv
  have hb2 : i0.bytes * L ≤ 281474976710656 := by rw [hz2]; omega
  have hb3 : L ≤ maxLen := by simp only [maxLen]; omega
  go_enter Try.func25, Try.ntmps25
  go_wp2_with (at_make; refine wpList_make_full _ rfl _ _ 22 rfl w.heap.size 3 i0 (.int .i64 0) 1 Try.underlying22 hi hz0 hz1 .i64 .i64 _ _ L rfl rfl rfl rfl hb2 hb3 (Nat.le_refl _) ?_; intro w0 hown0 hgrow0; have hB0 : Below w.heap.size w w0 := (Below.refl _ _).grown hgrow0 (Nat.le_refl _) (fun k hk => by cases hk); have d5 := (hB0.cell (p := ⟨p, 5, none⟩) (by exact hpl)).trans c5)
  have HO0 : Owns w0 w.heap.size (.slice (some ⟨w.heap.size, 0, none⟩) L L) (xs.take 0 ++ List.replicate (L - 0) 0) := by
    have h := hown0
    rw [Nat.mul_one, show (Value.int .i64 0).cells = #[Value.int .i64 0] from rfl, toList_madeCells_one] at h
    simpa [Owns] using h
  have H0 := hid HO0
  have HB0 := hid hB0
  clear HO0 hown0 hgrow0 hB0 d5 c3 c4 c5
  go_loopw [13] (fun i wr => ∃ k : Nat, k ≤ xs.length ∧ i = .int .i64 k ∧ Owns wr w.heap.size (.slice (some ⟨w.heap.size, 0, none⟩) L L) (xs.take k ++ List.replicate (L - k) 0) ∧ Below w.heap.size w wr) (fun i _ => xs.length - (intOf i).toNat)
  case atStart => exact ⟨0, Nat.zero_le _, rfl, H0.out, HB0.out⟩
  case round =>
    clear H0 HB0
    obtain ⟨k, hk, rfl, hown, hbel⟩ := hrel
    by_cases hlt : k < xs.length
    · have hQ := HQ.out.below hbel
      have hrl := hQ.ring.le
      have hfl := hQ.ring.lt (by omega)
      have hrm := hQ.rle
      have hr2 := hQ.r2
      obtain ⟨rb, rc, hrv, _, hrb, _, hrc⟩ := owns_block hQ.own (by omega)
      cases hrv
      obtain ⟨c0, c1, c2, c3, c4, c5⟩ := hQ.lies.cells
      obtain ⟨m, hm⟩ : ∃ m, m = (f + k) % rs.length := ⟨_, rfl⟩
      have hml : m < rs.length := by rw [hm]; exact Nat.mod_lt _ (by omega)
      have hc := hrc m hml
      have hsp := hQ.ring.spot k hlt
      rw [← hm] at hsp
      rw [hsp] at hc
      obtain ⟨y, hy⟩ : ∃ y, y = xs.getD k 0 := ⟨_, rfl⟩
      rw [← hy] at hc
      have hPl := place_any p f k rs.length c (some ⟨rb, 0, none⟩) wr.drew c3 c4 (by omega) (by omega) (by omega) (by omega)
      rw [← hm] at hPl
      have hlen : (xs.take k ++ List.replicate (L - k) 0).length = L := by simp; omega
      obtain ⟨g2, cc, hgv, _, hg, hfz, hlc⟩ := owns_block hown (by omega)
      rw [hlen] at hgv
      cases hgv
      obtain ⟨y0, hy0⟩ : ∃ y0, y0 = (xs.take k ++ List.replicate (L - k) 0).getD k 0 := ⟨_, rfl⟩
      have hlk := hlc k (by omega)
      rw [← hy0] at hlk
      have hfk := hfz k
      have hkL : k < L := by omega
      have HR := hid (fun q => straight_store (g := w.heap.size) y hlt hL hy hown hbel rfl q)
      have hne1 : w.heap.size ≠ rb := by
        have := HQ.out.own.lt rb rfl
        omega
      have hne2 : w.heap.size ≠ p := by omega
      clear hown hbel hQ hrl hfl hrm hr2 hrb hrc c0 c1 c2 c5 hm hsp hy hg hfz hlc hy0 hlen
      go_wp2_with fail
      go_region_held3 (fun w' => w'.cell? ⟨p, 3, none⟩ = some (.slice (some ⟨rb, 0, none⟩) rs.length c) ∧ w'.cell? ⟨rb, m, none⟩ = some (.int .i64 y))
        (first | (refine ⟨?_, ?_⟩ <;> first | assumption | go_keep))
        (first
          | (go_at_call 23; refine hPl.mono ?_; rintro e w2 ⟨rfl, q, rfl⟩; clear hPl))
      go_wp2
      go_roundw
      case rel => exact ⟨k + 1, by omega, by go_num, (HR.out _).1, (HR.out _).2⟩
      case measure => simp [intOf]; omega
    · have hke : k = xs.length := by omega
      rw [hke, List.take_of_length_le (Nat.le_refl _)] at hown
      have HO := hid hown
      clear hown hke
      go_wp2
      go_ret
      exact ⟨_, rfl, HO.out, hbel⟩

/-- What a call on the queue at p has turned: its struct, its row, and new blocks. -/
structure Turned (w w' : World) (p : Nat) (ob : Option Nat) : Prop where
  os : w'.os = w.os
  tape : w'.tape = w.tape
  output : w'.output = w.output
  size : w.heap.size ≤ w'.heap.size
  block : ∀ k, k < w.heap.size → k ≠ p → some k ≠ ob → w'.heap[k]? = w.heap[k]?

theorem Turned.of {w w' : World} (h : Below w.heap.size w w') (p : Nat) (ob : Option Nat) : Turned w w' p ob := ⟨h.os, h.tape, h.output, h.size, fun k hk _ _ => h.block k hk⟩

theorem Turned.drewN {w w' : World} {p : Nat} {ob : Option Nat} (h : Turned w w' p ob) (q : Nat) : Turned w (w'.drewN q) p ob := by
  have hb := below_drewN (Below.refl w'.heap.size w') q
  exact ⟨hb.os.trans h.os, hb.tape.trans h.tape, hb.output.trans h.output, Nat.le_trans h.size hb.size, fun k hk h1 h2 => (hb.block k (Nat.lt_of_lt_of_le hk h.size)).trans (h.block k hk h1 h2)⟩

theorem Turned.put {w w' : World} {p : Nat} {ob : Option Nat} (h : Turned w w' p ob) (j : Nat) (u : Value) : Turned w (w'.setCell ⟨p, j, none⟩ u) p ob :=
  ⟨h.os, h.tape, h.output, by simpa using h.size, fun k hk h1 h2 => (heap_setCell_other w' ⟨p, j, none⟩ k u (fun e => h1 (by simp [e]))).trans (h.block k hk h1 h2)⟩

theorem Turned.row {w w' : World} {p g : Nat} (h : Turned w w' p (some g)) (j : Nat) (u : Value) : Turned w (w'.setCell ⟨g, j, none⟩ u) p (some g) :=
  ⟨h.os, h.tape, h.output, by simpa using h.size, fun k hk h1 h2 => (heap_setCell_other w' ⟨g, j, none⟩ k u (fun e => h2 (by simp [e]))).trans (h.block k hk h1 h2)⟩

theorem Turned.new {w w' : World} {p g : Nat} {ob : Option Nat} (h : Turned w w' p ob) (hg : w.heap.size ≤ g) (j : Nat) (u : Value) : Turned w (w'.setCell ⟨g, j, none⟩ u) p ob :=
  ⟨h.os, h.tape, h.output, by simpa using h.size, fun k hk h1 h2 => (heap_setCell_other w' ⟨g, j, none⟩ k u (fun e => by simp at e; omega)).trans (h.block k hk h1 h2)⟩

theorem owns_far {w : World} {base p j : Nat} {v u : Value} {xs : List Int} (h : Owns w base v xs) (hne : v.ownBlock ≠ some p) : Owns (w.setCell ⟨p, j, none⟩ u) base v xs :=
  World.ownsRow.kept h ⟨rfl, rfl, rfl, by simp, fun k _ hk => heap_setCell_other w ⟨p, j, none⟩ k u (fun e => hk (by simp [e]))⟩ (Or.inr hne)

theorem Lies.far {w : World} {p g j : Nat} {u : Value} {room drops : Int} {rv : Value} {f n : Nat} (h : Lies w p room drops rv f n) (hne : p ≠ g) : Lies (w.setCell ⟨g, j, none⟩ u) p room drops rv f n := by
  unfold Lies
  rw [heap_setCell_other w ⟨g, j, none⟩ p u (by simpa using hne)]
  exact h

theorem QAt.ne {w : World} {p : Nat} {room drops : Int} {rv : Value} {f : Nat} {rs xs : List Int} (h : QAt w p room drops rv f rs xs) : rv.ownBlock ≠ some p := by
  intro e
  rcases h.own.2 with ⟨hlv, _⟩ | ⟨g, cap, cur, hlv, _, hg, _⟩
  · rw [hlv] at e
    simp [Value.ownBlock] at e
  · rw [hlv] at e
    simp [Value.ownBlock] at e
    subst e
    have := h.lies
    unfold Lies at this
    rw [hg] at this
    simp at this

theorem widen_fin {w w2 : World} {p : Nat} {room drops : Int} {rv v' : Value} {f L : Nat} {rs xs : List Int} (hQ : QAt w p room drops rv f rs xs) (hO : Owns w2 w.heap.size v' (xs ++ List.replicate (L - xs.length) 0)) (hB : Below w.heap.size w w2) (hL : xs.length < L) (hL2 : (L : Int) ≤ room) :
    QAt ((w2.setCell ⟨p, 3, none⟩ v').setCell ⟨p, 4, none⟩ (.int .i64 (0 : Nat))) p room drops v' 0 (xs ++ List.replicate (L - xs.length) 0) xs ∧ Turned w ((w2.setCell ⟨p, 3, none⟩ v').setCell ⟨p, 4, none⟩ (.int .i64 (0 : Nat))) p none ∧ ∀ j, v'.ownBlock = some j → w.heap.size ≤ j := by
  have hne : v'.ownBlock ≠ some p := fun e => by
    have := (hO.lt p e).1
    have := hQ.lies.lt
    omega
  have h1 := hQ.r1
  have h2 := hQ.r2
  exact ⟨⟨((hQ.lies.below hB).put3).put4 0, owns_far (owns_far (owns_le hO (Nat.zero_le _)) hne) hne, Ring.straight _ _, by simp; omega, h1, h2⟩, ((Turned.of hB p none).put _ _).put _ _, fun j hj => (hO.lt j hj).1⟩

end Go.Proofs.Ytebjkgibciiocaa
