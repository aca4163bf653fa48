/-
  Queues of texts: Push, Pop, Len, Drops.
-/
import Derived.Test.YtebjkgibciiocaaTxtA
namespace Go.Proofs.Ytebjkgibciiocaa.Txt
open Go.RowKit Go.Proofs.Ytebjkgibciiocaa
set_option linter.unusedVariables false

set_option maxHeartbeats 1000000 in
theorem len_any (p : Nat) (room drops : Int) (rv : Value) (f : Nat) (rs xs : List ByteArray) (w : World) (hQ : QAt w p room drops rv f rs xs) :
    Calls Try.prog 20 #[.pointer (some ⟨p, 0, none⟩)] w fun e w' => e = .returned (.int .i64 xs.length) ∧ w' = w := by
  obtain ⟨c0, c1, c2, c3, c4, c5⟩ := hQ.lies.cells
  clear hQ
  go_enter Try.func20, Try.ntmps20
  go_wp2_with fail
  refine (given_yes p _ c0).mono ?_
  rintro e w1 ⟨rfl, hw1⟩
  subst hw1
  go_wp2
  go_ret
  exact ⟨rfl, rfl⟩

set_option maxHeartbeats 1000000 in
theorem drops_any (p : Nat) (room drops : Int) (rv : Value) (f : Nat) (rs xs : List ByteArray) (w : World) (hQ : QAt w p room drops rv f rs xs) :
    Calls Try.prog 21 #[.pointer (some ⟨p, 0, none⟩)] w fun e w' => e = .returned (.int .i64 drops) ∧ w' = w := by
  obtain ⟨c0, c1, c2, c3, c4, c5⟩ := hQ.lies.cells
  clear hQ
  go_enter Try.func21, Try.ntmps21
  go_wp2_with fail
  refine (given_yes p _ c0).mono ?_
  rintro e w1 ⟨rfl, hw1⟩
  subst hw1
  go_wp2
  go_ret
  exact ⟨rfl, rfl⟩


set_option maxHeartbeats 1000000 in
theorem pop_none (p : Nat) (room drops : Int) (rv : Value) (f : Nat) (rs : List ByteArray) (w : World) (hQ : QAt w p room drops rv f rs []) :
    Calls Try.prog 19 #[.pointer (some ⟨p, 0, none⟩)] w fun e w' => e = .returned (.tuple #[.string ByteArray.empty, .bool false]) ∧ w' = w := by
  obtain ⟨c0, c1, c2, c3, c4, c5⟩ := hQ.lies.cells
  simp only [List.length_nil] at c5
  clear hQ
  go_enter Try.func19, Try.ntmps19
  go_wp2_with fail
  refine (given_yes p _ c0).mono ?_
  rintro e w1 ⟨rfl, hw1⟩
  subst hw1
  go_wp2
  go_ret2
  exact ⟨rfl, rfl⟩

set_option maxHeartbeats 1000000 in
theorem push_full (p : Nat) (room drops : Int) (x : ByteArray) (rv : Value) (f : Nat) (rs xs : List ByteArray) (w : World) (hQ : QAt w p room drops rv f rs xs) (hfull : room ≤ (xs.length : Int)) (h0 : 0 ≤ drops) (h1 : drops < 4611686018427387904) :
    Calls Try.prog 18 #[.pointer (some ⟨p, 0, none⟩), .string x] w fun e w' => e = .returned (.bool false) ∧ QAt w' p room (drops + 1) rv f rs xs ∧ Turned w w' p rv.ownBlock := by
  obtain ⟨c0, c1, c2, c3, c4, c5⟩ := hQ.lies.cells
  have y2 := hQ.lies.warm 2
  have hdn : ¬ 4611686018427387904 < drops + 1 := by omega
  have hw : IntKind.i64.wrap (drops + 1) = drops + 1 := by rw [IntKind.wrap_i64]; omega
  have HF := hid (fun q => (show QAt ((w.drewN q).setCell ⟨p, 2, none⟩ (.int .i64 (drops + 1))) p room (drops + 1) rv f rs xs ∧ Turned w ((w.drewN q).setCell ⟨p, 2, none⟩ (.int .i64 (drops + 1))) p rv.ownBlock from
    have hq := hQ.below (below_drewN (Below.refl _ _) q)
    ⟨⟨hq.lies.put2, owns_far hq.own hq.ne, hq.ring, hq.rle, hq.r1, hq.r2⟩, (Turned.of (below_drewN (Below.refl _ _) q) p _).put _ _⟩))
  clear hQ
  go_enter Try.func18, Try.ntmps18
  go_wp2_with fail
  refine (given_yes p _ c0).mono ?_
  rintro e w1 ⟨rfl, hw1⟩
  subst hw1
  go_wp2_with fail
  go_quiet (fail)
  go_wp2
  go_ret
  exact ⟨rfl, (HF.out _).1, (HF.out _).2⟩


theorem push_fin {w : World} {p rb c m : Nat} {room drops : Int} {x : ByteArray} {f : Nat} {rs xs : List ByteArray} (hQ : QAt w p room drops (.slice (some ⟨rb, 0, none⟩) rs.length c) f rs xs) (hlt : xs.length < rs.length) (hm : m = (f + xs.length) % rs.length) (q : Nat) :
    QAt (((w.drewN q).setCell ⟨rb, m, none⟩ (.string x)).setCell ⟨p, 5, none⟩ (.int .i64 ((xs.length : Int) + 1))) p room drops (.slice (some ⟨rb, 0, none⟩) rs.length c) f (rs.set m x) (xs ++ [x])
      ∧ Turned w (((w.drewN q).setCell ⟨rb, m, none⟩ (.string x)).setCell ⟨p, 5, none⟩ (.int .i64 ((xs.length : Int) + 1))) p (some rb) := by
  have hq := hQ.below (below_drewN (Below.refl _ _) q)
  have hne := hq.ne
  have hpr : p ≠ rb := fun e => hne (by simp [Value.ownBlock, e])
  have hs := owns_store (k := m) x hq.own rfl
  have hl5 := (hq.lies.far (g := rb) (j := m) (u := .string x) hpr).put5 (xs.length + 1)
  have e1 : (((xs.length + 1 : Nat)) : Int) = (xs.length : Int) + 1 := by omega
  rw [e1] at hl5
  refine ⟨⟨by rw [List.length_append, List.length_singleton]; exact hl5, owns_far hs.1 hne, ?_, by rw [List.length_set]; exact hq.rle, hq.r1, hq.r2⟩, ((Turned.of (below_drewN (Below.refl _ _) q) p (some rb)).row _ _).put _ _⟩
  rw [hm]
  exact hq.ring.push x hlt

set_option maxHeartbeats 2000000 in
theorem push_room (p : Nat) (room drops : Int) (x : ByteArray) (rv : Value) (f : Nat) (rs xs : List ByteArray) (w : World) (hQ : QAt w p room drops rv f rs xs) (hlt : (xs.length : Int) < room) (hne : xs.length ≠ rs.length) :
    Calls Try.prog 18 #[.pointer (some ⟨p, 0, none⟩), .string x] w fun e w' => e = .returned (.bool true) ∧ ∃ rv' f' rs', QAt w' p room drops rv' f' rs' (xs ++ [x]) ∧ Turned w w' p rv.ownBlock ∧ (rv'.ownBlock = rv.ownBlock ∨ ∀ j, rv'.ownBlock = some j → w.heap.size ≤ j) := by
  obtain ⟨c0, c1, c2, c3, c4, c5⟩ := hQ.lies.cells
  have hle := hQ.ring.le
  have hlr : xs.length < rs.length := by omega
  have hfl := hQ.ring.lt (by omega)
  have hrm := hQ.rle
  have hr2 := hQ.r2
  obtain ⟨rb, rc, hrv, _, hrb, hfz, hrc⟩ := owns_block hQ.own (by omega)
  subst hrv
  obtain ⟨m, hm⟩ : ∃ m, m = (f + xs.length) % rs.length := ⟨_, rfl⟩
  have hml : m < rs.length := by rw [hm]; exact Nat.mod_lt _ (by omega)
  have hc := hrc m hml
  have hfm := hfz m
  obtain ⟨y, hy⟩ : ∃ y, y = rs.getD m ByteArray.empty := ⟨_, rfl⟩
  rw [← hy] at hc
  have hpr : rb ≠ p := fun e => hQ.ne (by simp [Value.ownBlock, e])
  have hPl := hid (fun (n : Nat) => place_any p f xs.length rs.length rc (some ⟨rb, 0, none⟩) (w.drewN n) (by simpa using c3) (by simpa using c4) (by omega) (by omega) (by omega) (by omega))
  rw [← hm] at hPl
  have HF := hid (push_fin (x := x) hQ hlr hm)
  have hb1 : ((xs.length : Int) == (rs.length : Int)) = false := by simp; omega
  have hb2 : ¬ room ≤ (xs.length : Int) := by omega
  have z5 := hQ.lies.warm 5
  have hxl : xs.length ≤ 65536 := by omega
  clear hQ hle hne hfl hrm hr2 hrb hfz hrc hm hy c2 hlr
  go_enter Try.func18, Try.ntmps18
  go_wp2_with fail
  refine (given_yes p _ c0).mono ?_
  rintro e w1 ⟨rfl, hw1⟩
  subst hw1
  go_wp2_with fail
  go_quiet (fail)
  go_wp2_with fail
  go_quiet (fail)
  go_wp2_with fail
  go_region_held3 (fun w' => w'.cell? ⟨p, 3, none⟩ = some (.slice (some ⟨rb, 0, none⟩) rs.length rc) ∧ w'.cell? ⟨p, 5, none⟩ = some (.int .i64 xs.length))
    (first | (refine ⟨?_, ?_⟩ <;> first | assumption | (simp [*, World.cell?_setCell_far]; done)))
    (first
      | (go_at_call 28; refine (hPl.out _).mono ?_; rintro e w2 ⟨rfl, q, rfl⟩; clear hPl))
  go_wp2
  go_ret
  exact ⟨rfl, _, _, _, (HF.out _).1, (HF.out _).2, Or.inl rfl⟩



set_option maxHeartbeats 2000000 in
theorem push_wide (p : Nat) (room drops : Int) (x : ByteArray) (rv : Value) (f : Nat) (rs xs : List ByteArray) (w : World) (hQ : QAt w p room drops rv f rs xs) (hlt : (xs.length : Int) < room) (hne : xs.length = rs.length) :
    Calls Try.prog 18 #[.pointer (some ⟨p, 0, none⟩), .string x] w fun e w' => e = .returned (.bool true) ∧ ∃ rv' f' rs', QAt w' p room drops rv' f' rs' (xs ++ [x]) ∧ Turned w w' p rv.ownBlock ∧ (rv'.ownBlock = rv.ownBlock ∨ ∀ j, rv'.ownBlock = some j → w.heap.size ≤ j) := by
  obtain ⟨c0, c1, c2, c3, c4, c5⟩ := hQ.lies.cells
  obtain ⟨ao, c, hrv⟩ := hQ.shape
  subst hrv
  obtain ⟨ob, hob⟩ : ∃ ob, ob = (Value.slice ao rs.length c).ownBlock := ⟨_, rfl⟩
  rw [← hob]
  have hb1 : ((xs.length : Int) == (rs.length : Int)) = true := by simp; omega
  have hb2 : ¬ room ≤ (xs.length : Int) := by omega
  have hr2 := hQ.r2
  have hxl : xs.length ≤ 65536 := by omega
  have hWi := hid (fun (n : Nat) => widen_any p room drops _ f rs xs (w.drewN n) (hQ.below (below_drewN (Below.refl _ _) n)) hlt)
  clear hQ hne hr2 c2 c4 hob
  go_enter Try.func18, Try.ntmps18
  go_wp2_with fail
  refine (given_yes p _ c0).mono ?_
  rintro e w1 ⟨rfl, hw1⟩
  subst hw1
  go_wp2_with fail
  go_quiet (fail)
  go_wp2_with fail
  go_quiet (fail)
  go_wp2_with fail
  refine (hWi.out _).mono ?_
  clear hWi c0 c1 c3 c5
  rintro e w2 ⟨rfl, v', rs2, hQ2, hlr, hT2, hN2⟩
  obtain ⟨c0, c1, c2, c3, c4, c5⟩ := hQ2.lies.cells
  have hrm := hQ2.rle
  have hr2 := hQ2.r2
  obtain ⟨rb, rc, hrv, _, hrb, hfz, hrc⟩ := owns_block hQ2.own (by omega)
  subst hrv
  obtain ⟨m, hm⟩ : ∃ m, m = (0 + xs.length) % rs2.length := ⟨_, rfl⟩
  have hml : m < rs2.length := by rw [hm]; exact Nat.mod_lt _ (by omega)
  have hc := hrc m hml
  have hfm := hfz m
  obtain ⟨y, hy⟩ : ∃ y, y = rs2.getD m ByteArray.empty := ⟨_, rfl⟩
  rw [← hy] at hc
  have hpr : rb ≠ p := fun e => hQ2.ne (by simp [Value.ownBlock, e])
  have hPl := hid (place_any p 0 xs.length rs2.length rc (some ⟨rb, 0, none⟩) w2.drew c3 c4 (by omega) (by omega) (by omega) (by omega))
  rw [← hm] at hPl
  have HF := hid (push_fin (x := x) hQ2 hlr hm)
  have hTT := hid (Turned.behind _ hT2)
  have hnew := hid (show w1.heap.size ≤ rb from by have := hN2 rb rfl; simpa using this)
  have z5 := hQ2.lies.warm 5
  clear hQ2 hrm hr2 hrb hfz hrc hm hy c2 hlr hT2 hN2 c0 c1
  go_wp2_with fail
  go_region_held3 (fun w' => w'.cell? ⟨p, 3, none⟩ = some (.slice (some ⟨rb, 0, none⟩) rs2.length rc) ∧ w'.cell? ⟨p, 5, none⟩ = some (.int .i64 xs.length))
    (first | (refine ⟨?_, ?_⟩ <;> first | assumption | (simp [*, World.cell?_setCell_far]; done)))
    (first
      | (go_at_call 28; refine hPl.out.mono ?_; rintro e w2 ⟨rfl, q, rfl⟩; clear hPl))
  go_wp2
  go_ret
  exact ⟨rfl, _, _, _, (HF.out _).1, hTT.out.then _ (HF.out _).2 hnew.out, Or.inr fun j hj => by cases hj; exact hnew.out⟩

theorem push_put (p : Nat) (room drops : Int) (x : ByteArray) (rv : Value) (f : Nat) (rs xs : List ByteArray) (w : World) (hQ : QAt w p room drops rv f rs xs) (hlt : (xs.length : Int) < room) :
    Calls Try.prog 18 #[.pointer (some ⟨p, 0, none⟩), .string x] w fun e w' => e = .returned (.bool true) ∧ ∃ rv' f' rs', QAt w' p room drops rv' f' rs' (xs ++ [x]) ∧ Turned w w' p rv.ownBlock ∧ (rv'.ownBlock = rv.ownBlock ∨ ∀ j, rv'.ownBlock = some j → w.heap.size ≤ j) := by
  by_cases h : xs.length = rs.length
  · exact push_wide p room drops x rv f rs xs w hQ hlt h
  · exact push_room p room drops x rv f rs xs w hQ hlt h


theorem pop_fin {w : World} {p rb c m : Nat} {room drops : Int} {x : ByteArray} {f : Nat} {rs xs : List ByteArray} (hQ : QAt w p room drops (.slice (some ⟨rb, 0, none⟩) rs.length c) f rs (x :: xs)) (hm : m = (f + 1) % rs.length) (q1 q2 : Nat) :
    QAt (((((w.drewN q1).setCell ⟨rb, f, none⟩ (.string ByteArray.empty)).drewN q2).setCell ⟨p, 4, none⟩ (.int .i64 m)).setCell ⟨p, 5, none⟩ (.int .i64 xs.length)) p room drops (.slice (some ⟨rb, 0, none⟩) rs.length c) m (rs.set f ByteArray.empty) xs
      ∧ Turned w (((((w.drewN q1).setCell ⟨rb, f, none⟩ (.string ByteArray.empty)).drewN q2).setCell ⟨p, 4, none⟩ (.int .i64 m)).setCell ⟨p, 5, none⟩ (.int .i64 xs.length)) p (some rb) := by
  have hq := hQ.below (below_drewN (Below.refl _ _) q1)
  have hne := hq.ne
  have hpr : p ≠ rb := fun e => hne (by simp [Value.ownBlock, e])
  have hs := owns_store (k := f) ByteArray.empty hq.own rfl
  have hl := (hq.lies.far (g := rb) (j := f) (u := .string ByteArray.empty) hpr)
  have hl2 := ((hl.below (below_drewN (Below.refl _ _) q2)).put4 m).put5 xs.length
  have ho := owns_far (j := 5) (u := .int .i64 xs.length) (owns_far (j := 4) (u := .int .i64 m) (hs.1.below (below_drewN (Below.refl _ _) q2)) hne) hne
  refine ⟨⟨hl2, ho, ?_, by rw [List.length_set]; exact hq.rle, hq.r1, hq.r2⟩, ((((Turned.of (below_drewN (Below.refl _ _) q1) p (some rb)).row _ _).drewN q2).put _ _).put _ _⟩
  rw [hm]
  exact (hq.ring.pop ByteArray.empty).2.2

set_option maxHeartbeats 2000000 in
theorem pop_some (p : Nat) (room drops : Int) (x : ByteArray) (rv : Value) (f : Nat) (rs xs : List ByteArray) (w : World) (hQ : QAt w p room drops rv f rs (x :: xs)) :
    Calls Try.prog 19 #[.pointer (some ⟨p, 0, none⟩)] w fun e w' => e = .returned (.tuple #[.string x, .bool true]) ∧ ∃ rv' f' rs', QAt w' p room drops rv' f' rs' xs ∧ Turned w w' p rv.ownBlock ∧ (rv'.ownBlock = rv.ownBlock ∨ ∀ j, rv'.ownBlock = some j → w.heap.size ≤ j) := by
  obtain ⟨c0, c1, c2, c3, c4, c5⟩ := hQ.lies.cells
  have hle := hQ.ring.le
  rw [List.length_cons] at hle c5
  obtain ⟨hx, hfl, _⟩ := hQ.ring.pop ByteArray.empty
  have hrm := hQ.rle
  have hr2 := hQ.r2
  obtain ⟨rb, rc, hrv, _, hrb, hfz, hrc⟩ := owns_block hQ.own (by omega)
  subst hrv
  have hc := hrc f hfl
  rw [hx] at hc
  have hfm := hfz f
  have hpr : rb ≠ p := fun e => hQ.ne (by simp [Value.ownBlock, e])
  obtain ⟨m, hm⟩ : ∃ m, m = (f + 1) % rs.length := ⟨_, rfl⟩
  have hPl := hid (fun (w1 : World) (a : w1.cell? ⟨p, 3, none⟩ = some (.slice (some ⟨rb, 0, none⟩) rs.length rc)) (b : w1.cell? ⟨p, 4, none⟩ = some (.int .i64 f)) => place_any p f 1 rs.length rc (some ⟨rb, 0, none⟩) w1 a b (by omega) (by omega) (by omega) (by omega))
  rw [← hm] at hPl
  have HF := hid (pop_fin hQ hm)
  have z4 := hQ.lies.warm 4
  have z5 := hQ.lies.warm 5
  have hxl : xs.length ≤ 65536 := by omega
  have hb : (((xs.length + 1 : Nat) : Int) == 0) = false := by simp; omega
  have hrl : rs.length ≤ 65536 := by omega
  clear hQ hle hx hrm hr2 hrb hfz hrc hm c1 c2
  go_enter Try.func19, Try.ntmps19
  go_wp2_with fail
  refine (given_yes p _ c0).mono ?_
  rintro e w1 ⟨rfl, hw1⟩
  subst hw1
  go_wp2_with fail
  go_quiet (fail)
  go_wp2_with fail
  go_region_held3 (fun w' => w'.cell? ⟨p, 3, none⟩ = some (.slice (some ⟨rb, 0, none⟩) rs.length rc) ∧ w'.cell? ⟨p, 4, none⟩ = some (.int .i64 f))
    (first | (refine ⟨?_, ?_⟩ <;> first | assumption | (simp [*, World.cell?_setCell_far]; done)))
    (fail)
  go_wp2_with fail
  refine (hPl.out _ (by simp [World.cell?_setCell_far, hpr, c3]) (by simp [World.cell?_setCell_far, hpr, c4])).mono ?_
  clear hPl
  rintro e w2 ⟨rfl, q, rfl⟩
  go_wp2
  go_ret2
  exact ⟨rfl, _, _, _, (HF.out _ _).1, (HF.out _ _).2, Or.inl rfl⟩


end Go.Proofs.Ytebjkgibciiocaa.Txt
