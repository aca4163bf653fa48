/-
  The contracts of a queue's Push where there is room, of Pop where something waits, and of Copy.
-/
import Derived.Test.YtebjkgibciiocaaObj
namespace Go.Proofs.Ytebjkgibciiocaa
open Go.RowKit
set_option linter.unusedVariables false

theorem push_fin {w : World} {p rb c m : Nat} {room drops x : Int} {f : Nat} {rs xs : List Int} (hQ : QAt w p room drops (.slice (some ⟨rb, 0, none⟩) rs.length c) f rs xs) (hlt : xs.length < rs.length) (hm : m = (f + xs.length) % rs.length) (q : Nat) :
    QAt (((w.drewN q).setCell ⟨rb, m, none⟩ (.int .i64 x)).setCell ⟨p, 5, none⟩ (.int .i64 ((xs.length : Int) + 1))) p room drops (.slice (some ⟨rb, 0, none⟩) rs.length c) f (rs.set m x) (xs ++ [x])
      ∧ Turned w (((w.drewN q).setCell ⟨rb, m, none⟩ (.int .i64 x)).setCell ⟨p, 5, none⟩ (.int .i64 ((xs.length : Int) + 1))) p (some rb) := by
  have hq := hQ.below (below_drewN (Below.refl _ _) q)
  have hne := hq.ne
  have hpr : p ≠ rb := fun e => hne (by simp [Value.ownBlock, e])
  have hs := owns_store (k := m) x hq.own rfl
  have hl5 := (hq.lies.far (g := rb) (j := m) (u := .int .i64 x) hpr).put5 (xs.length + 1)
  have e1 : (((xs.length + 1 : Nat)) : Int) = (xs.length : Int) + 1 := by omega
  rw [e1] at hl5
  refine ⟨⟨by rw [List.length_append, List.length_singleton]; exact hl5, owns_far hs.1 hne, ?_, by rw [List.length_set]; exact hq.rle, hq.r1, hq.r2⟩, ((Turned.of (below_drewN (Below.refl _ _) q) p (some rb)).row _ _).put _ _⟩
  rw [hm]
  exact hq.ring.push x hlt

set_option maxHeartbeats 2000000 in
theorem push_room (p : Nat) (room drops x : Int) (rv : Value) (f : Nat) (rs xs : List Int) (w : World) (hQ : QAt w p room drops rv f rs xs) (hlt : (xs.length : Int) < room) (hne : xs.length ≠ rs.length) :
    Calls Try.prog 11 #[.pointer (some ⟨p, 0, none⟩), .int .i64 x] w fun e w' => e = .returned (.bool true) ∧ ∃ rv' f' rs', QAt w' p room drops rv' f' rs' (xs ++ [x]) ∧ Turned w w' p rv.ownBlock ∧ (rv'.ownBlock = rv.ownBlock ∨ ∀ j, rv'.ownBlock = some j → w.heap.size ≤ j) := by
  obtain ⟨c0, c1, c2, c3, c4, c5⟩ := hQ.lies.cells
  have hle := hQ.ring.le
  have hlr : xs.length < rs.length := by omega
  have hfl := hQ.ring.lt (by omega)
  have hrm := hQ.rle
  have hr2 := hQ.r2
  obtain ⟨rb, rc, hrv, _, hrb, hfz, hrc⟩ := owns_block hQ.own (by omega)
  subst hrv
  obtain ⟨m, hm⟩ : ∃ m, m = (f + xs.length) % rs.length := ⟨_, rfl⟩
  have hml : m < rs.length := by rw [hm]; exact Nat.mod_lt _ (by omega)
  have hc := hrc m hml
  have hfm := hfz m
  obtain ⟨y, hy⟩ : ∃ y, y = rs.getD m 0 := ⟨_, rfl⟩
  rw [← hy] at hc
  have hpr : rb ≠ p := fun e => hQ.ne (by simp [Value.ownBlock, e])
  have hPl := hid (fun (n : Nat) => place_any p f xs.length rs.length rc (some ⟨rb, 0, none⟩) (w.drewN n) (by simpa using c3) (by simpa using c4) (by omega) (by omega) (by omega) (by omega))
  rw [← hm] at hPl
  have HF := hid (push_fin (x := x) hQ hlr hm)
  have hb1 : ((xs.length : Int) == (rs.length : Int)) = false := by simp; omega
  have hb2 : ¬ room ≤ (xs.length : Int) := by omega
  have z5 := hQ.lies.warm 5
  have hxl : xs.length ≤ 65536 := by omega
  clear hQ hle hne hfl hrm hr2 hrb hfz hrc hm hy c2 hlr
  go_enter Try.func11, Try.ntmps11
  go_wp2_with fail
  refine (given_yes p _ c0).mono ?_
  rintro e w1 ⟨rfl, hw1⟩
  subst hw1
  go_wp2_with fail
  go_quiet (fail)
  go_wp2_with fail
  go_quiet (fail)
  go_wp2_with fail
  go_region_held3 (fun w' => w'.cell? ⟨p, 3, none⟩ = some (.slice (some ⟨rb, 0, none⟩) rs.length rc) ∧ w'.cell? ⟨p, 5, none⟩ = some (.int .i64 xs.length))
    (first | (refine ⟨?_, ?_⟩ <;> first | assumption | (simp [*, World.cell?_setCell_far]; done)))
    (first
      | (go_at_call 23; refine (hPl.out _).mono ?_; rintro e w2 ⟨rfl, q, rfl⟩; clear hPl))
  go_wp2
  go_ret
  exact ⟨rfl, _, _, _, (HF.out _).1, (HF.out _).2, Or.inl rfl⟩

theorem Turned.then {w w2 w3 : World} {p rb : Nat} (ob : Option Nat) (h : Turned w w2 p none) (k : Turned w2 w3 p (some rb)) (hr : w.heap.size ≤ rb) : Turned w w3 p ob := by
  refine ⟨k.os.trans h.os, k.tape.trans h.tape, k.output.trans h.output, Nat.le_trans h.size k.size, fun i hi h1 h2 => ?_⟩
  exact (k.block i (Nat.lt_of_lt_of_le hi h.size) h1 (fun e => by cases e; omega)).trans (h.block i hi h1 (by simp))

theorem Turned.behind {w w2 : World} {p : Nat} {ob : Option Nat} (q : Nat) (h : Turned (w.drewN q) w2 p ob) : Turned w w2 p ob := by
  have hb := below_drewN (Below.refl w.heap.size w) q
  exact ⟨h.os.trans hb.os, h.tape.trans hb.tape, h.output.trans hb.output, Nat.le_trans hb.size h.size, fun i hi h1 h2 => (h.block i (Nat.lt_of_lt_of_le hi hb.size) h1 h2).trans (hb.block i hi)⟩

set_option maxHeartbeats 2000000 in
theorem push_wide (p : Nat) (room drops x : Int) (rv : Value) (f : Nat) (rs xs : List Int) (w : World) (hQ : QAt w p room drops rv f rs xs) (hlt : (xs.length : Int) < room) (hne : xs.length = rs.length) :
    Calls Try.prog 11 #[.pointer (some ⟨p, 0, none⟩), .int .i64 x] w fun e w' => e = .returned (.bool true) ∧ ∃ rv' f' rs', QAt w' p room drops rv' f' rs' (xs ++ [x]) ∧ Turned w w' p rv.ownBlock ∧ (rv'.ownBlock = rv.ownBlock ∨ ∀ j, rv'.ownBlock = some j → w.heap.size ≤ j) := by
  obtain ⟨c0, c1, c2, c3, c4, c5⟩ := hQ.lies.cells
  obtain ⟨ao, c, hrv⟩ := hQ.shape
  subst hrv
  obtain ⟨ob, hob⟩ : ∃ ob, ob = (Value.slice ao rs.length c).ownBlock := ⟨_, rfl⟩
  rw [← hob]
  have hb1 : ((xs.length : Int) == (rs.length : Int)) = true := by simp; omega
  have hb2 : ¬ room ≤ (xs.length : Int) := by omega
  have hr2 := hQ.r2
  have hxl : xs.length ≤ 65536 := by omega
  have hWi := hid (fun (n : Nat) => widen_any p room drops _ f rs xs (w.drewN n) (hQ.below (below_drewN (Below.refl _ _) n)) hlt)
  clear hQ hne hr2 c2 c4 hob
  go_enter Try.func11, Try.ntmps11
  go_wp2_with fail
  refine (given_yes p _ c0).mono ?_
  rintro e w1 ⟨rfl, hw1⟩
  subst hw1
  go_wp2_with fail
  go_quiet (fail)
  go_wp2_with fail
  go_quiet (fail)
  go_wp2_with fail
  refine (hWi.out _).mono ?_
  clear hWi c0 c1 c3 c5
  rintro e w2 ⟨rfl, v', rs2, hQ2, hlr, hT2, hN2⟩
  obtain ⟨c0, c1, c2, c3, c4, c5⟩ := hQ2.lies.cells
  have hrm := hQ2.rle
  have hr2 := hQ2.r2
  obtain ⟨rb, rc, hrv, _, hrb, hfz, hrc⟩ := owns_block hQ2.own (by omega)
  subst hrv
  obtain ⟨m, hm⟩ : ∃ m, m = (0 + xs.length) % rs2.length := ⟨_, rfl⟩
  have hml : m < rs2.length := by rw [hm]; exact Nat.mod_lt _ (by omega)
  have hc := hrc m hml
  have hfm := hfz m
  obtain ⟨y, hy⟩ : ∃ y, y = rs2.getD m 0 := ⟨_, rfl⟩
  rw [← hy] at hc
  have hpr : rb ≠ p := fun e => hQ2.ne (by simp [Value.ownBlock, e])
  have hPl := hid (place_any p 0 xs.length rs2.length rc (some ⟨rb, 0, none⟩) w2.drew c3 c4 (by omega) (by omega) (by omega) (by omega))
  rw [← hm] at hPl
  have HF := hid (push_fin (x := x) hQ2 hlr hm)
  have hTT := hid (Turned.behind _ hT2)
  have hnew := hid (show w1.heap.size ≤ rb from by have := hN2 rb rfl; simpa using this)
  have z5 := hQ2.lies.warm 5
  clear hQ2 hrm hr2 hrb hfz hrc hm hy c2 hlr hT2 hN2 c0 c1
  go_wp2_with fail
  go_region_held3 (fun w' => w'.cell? ⟨p, 3, none⟩ = some (.slice (some ⟨rb, 0, none⟩) rs2.length rc) ∧ w'.cell? ⟨p, 5, none⟩ = some (.int .i64 xs.length))
    (first | (refine ⟨?_, ?_⟩ <;> first | assumption | (simp [*, World.cell?_setCell_far]; done)))
    (first
      | (go_at_call 23; refine hPl.out.mono ?_; rintro e w2 ⟨rfl, q, rfl⟩; clear hPl))
  go_wp2
  go_ret
  exact ⟨rfl, _, _, _, (HF.out _).1, hTT.out.then _ (HF.out _).2 hnew.out, Or.inr fun j hj => by cases hj; exact hnew.out⟩

theorem push_put (p : Nat) (room drops x : Int) (rv : Value) (f : Nat) (rs xs : List Int) (w : World) (hQ : QAt w p room drops rv f rs xs) (hlt : (xs.length : Int) < room) :
    Calls Try.prog 11 #[.pointer (some ⟨p, 0, none⟩), .int .i64 x] w fun e w' => e = .returned (.bool true) ∧ ∃ rv' f' rs', QAt w' p room drops rv' f' rs' (xs ++ [x]) ∧ Turned w w' p rv.ownBlock ∧ (rv'.ownBlock = rv.ownBlock ∨ ∀ j, rv'.ownBlock = some j → w.heap.size ≤ j) := by
  by_cases h : xs.length = rs.length
  · exact push_wide p room drops x rv f rs xs w hQ hlt h
  · exact push_room p room drops x rv f rs xs w hQ hlt h

end Go.Proofs.Ytebjkgibciiocaa
