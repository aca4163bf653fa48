/-
  The contracts of a queue's Pop where something waits, and of Copy.
-/
import Derived.Test.YtebjkgibciiocaaPush
namespace Go.Proofs.Ytebjkgibciiocaa
open Go.RowKit
set_option linter.unusedVariables false

theorem pop_fin {w : World} {p rb c m : Nat} {room drops x : Int} {f : Nat} {rs xs : List Int} (hQ : QAt w p room drops (.slice (some ⟨rb, 0, none⟩) rs.length c) f rs (x :: xs)) (hm : m = (f + 1) % rs.length) (q1 q2 : Nat) :
    QAt (((((w.drewN q1).setCell ⟨rb, f, none⟩ (.int .i64 0)).drewN q2).setCell ⟨p, 4, none⟩ (.int .i64 m)).setCell ⟨p, 5, none⟩ (.int .i64 xs.length)) p room drops (.slice (some ⟨rb, 0, none⟩) rs.length c) m (rs.set f 0) xs
      ∧ Turned w (((((w.drewN q1).setCell ⟨rb, f, none⟩ (.int .i64 0)).drewN q2).setCell ⟨p, 4, none⟩ (.int .i64 m)).setCell ⟨p, 5, none⟩ (.int .i64 xs.length)) p (some rb) := by
  have hq := hQ.below (below_drewN (Below.refl _ _) q1)
  have hne := hq.ne
  have hpr : p ≠ rb := fun e => hne (by simp [Value.ownBlock, e])
  have hs := owns_store (k := f) 0 hq.own rfl
  have hl := (hq.lies.far (g := rb) (j := f) (u := .int .i64 0) hpr)
  have hl2 := ((hl.below (below_drewN (Below.refl _ _) q2)).put4 m).put5 xs.length
  have ho := owns_far (j := 5) (u := .int .i64 xs.length) (owns_far (j := 4) (u := .int .i64 m) (hs.1.below (below_drewN (Below.refl _ _) q2)) hne) hne
  refine ⟨⟨hl2, ho, ?_, by rw [List.length_set]; exact hq.rle, hq.r1, hq.r2⟩, ((((Turned.of (below_drewN (Below.refl _ _) q1) p (some rb)).row _ _).drewN q2).put _ _).put _ _⟩
  rw [hm]
  exact (hq.ring.pop 0).2.2

set_option maxHeartbeats 2000000 in
theorem pop_some (p : Nat) (room drops x : Int) (rv : Value) (f : Nat) (rs xs : List Int) (w : World) (hQ : QAt w p room drops rv f rs (x :: xs)) :
    Calls Try.prog 10 #[.pointer (some ⟨p, 0, none⟩)] w fun e w' => e = .returned (.tuple #[.int .i64 x, .bool true]) ∧ ∃ rv' f' rs', QAt w' p room drops rv' f' rs' xs ∧ Turned w w' p rv.ownBlock ∧ (rv'.ownBlock = rv.ownBlock ∨ ∀ j, rv'.ownBlock = some j → w.heap.size ≤ j) := by
  obtain ⟨c0, c1, c2, c3, c4, c5⟩ := hQ.lies.cells
  have hle := hQ.ring.le
  rw [List.length_cons] at hle c5
  obtain ⟨hx, hfl, _⟩ := hQ.ring.pop 0
  have hrm := hQ.rle
  have hr2 := hQ.r2
  obtain ⟨rb, rc, hrv, _, hrb, hfz, hrc⟩ := owns_block hQ.own (by omega)
  subst hrv
  have hc := hrc f hfl
  rw [hx] at hc
  have hfm := hfz f
  have hpr : rb ≠ p := fun e => hQ.ne (by simp [Value.ownBlock, e])
  obtain ⟨m, hm⟩ : ∃ m, m = (f + 1) % rs.length := ⟨_, rfl⟩
  have hPl := hid (fun (w1 : World) (a : w1.cell? ⟨p, 3, none⟩ = some (.slice (some ⟨rb, 0, none⟩) rs.length rc)) (b : w1.cell? ⟨p, 4, none⟩ = some (.int .i64 f)) => place_any p f 1 rs.length rc (some ⟨rb, 0, none⟩) w1 a b (by omega) (by omega) (by omega) (by omega))
  rw [← hm] at hPl
  have HF := hid (pop_fin hQ hm)
  have z4 := hQ.lies.warm 4
  have z5 := hQ.lies.warm 5
  have hxl : xs.length ≤ 65536 := by omega
  have hb : (((xs.length + 1 : Nat) : Int) == 0) = false := by simp; omega
  have hrl : rs.length ≤ 65536 := by omega
  clear hQ hle hx hrm hr2 hrb hfz hrc hm c1 c2
  go_enter Try.func10, Try.ntmps10
  go_wp2_with fail
  refine (given_yes p _ c0).mono ?_
  rintro e w1 ⟨rfl, hw1⟩
  subst hw1
  go_wp2_with fail
  go_quiet (fail)
  go_wp2_with fail
  go_region_held3 (fun w' => w'.cell? ⟨p, 3, none⟩ = some (.slice (some ⟨rb, 0, none⟩) rs.length rc) ∧ w'.cell? ⟨p, 4, none⟩ = some (.int .i64 f))
    (first | (refine ⟨?_, ?_⟩ <;> first | assumption | (simp [*, World.cell?_setCell_far]; done)))
    (fail)
  go_wp2_with fail
  refine (hPl.out _ (by simp [World.cell?_setCell_far, hpr, c3]) (by simp [World.cell?_setCell_far, hpr, c4])).mono ?_
  clear hPl
  rintro e w2 ⟨rfl, q, rfl⟩
  go_wp2
  go_ret2
  exact ⟨rfl, _, _, _, (HF.out _ _).1, (HF.out _ _).2, Or.inl rfl⟩

end Go.Proofs.Ytebjkgibciiocaa
