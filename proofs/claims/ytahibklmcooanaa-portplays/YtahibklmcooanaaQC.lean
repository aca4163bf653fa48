/-
  Queues of messages: Pop, Copy.
-/
import Derived.Test.YtahibklmcooanaaQB
namespace Go.Proofs.Ytahibklmcooanaa.Mq
open Go.RowKit Go.Proofs.Ytahibklmcooanaa
set_option linter.unusedVariables false
set_option linter.unusedSimpArgs false

theorem set2 {w : World} {b : Nat} {x y u v : Value} (h0 : w.cell? ⟨b, 0, none⟩ = some x) (h1 : w.cell? ⟨b, 1, none⟩ = some y) : ((w.setCell ⟨b, 0, none⟩ u).setCell ⟨b, 1, none⟩ v).cell? ⟨b, 0, none⟩ = some u ∧ ((w.setCell ⟨b, 0, none⟩ u).setCell ⟨b, 1, none⟩ v).cell? ⟨b, 1, none⟩ = some v := by
  have e1 : (w.setCell ⟨b, 0, none⟩ u).cell? ⟨b, 1, none⟩ = some y := by rw [World.cell?_setCell_other _ _ _ _ (by simp)]; exact h1
  exact ⟨by rw [World.cell?_setCell_other _ _ _ _ (by simp)]; exact World.cell?_setCell_same _ _ _ h0, World.cell?_setCell_same _ _ _ e1⟩
theorem World.frozen?_of_block {w w' : World} {b j : Nat} (h : w'.heap[b]? = w.heap[b]?) : w'.frozen? ⟨b, j, none⟩ = w.frozen? ⟨b, j, none⟩ := by simp [World.frozen?, h]

set_option maxHeartbeats 1000000 in
theorem pop_none (p : Nat) (room drops : Int) (rv : Value) (f : Nat) (rs : List Msg) (w : World) (hQ : QAt w p room drops rv f rs []) :
    Calls Try.prog 36 #[.pointer (some ⟨p, 0, none⟩)] w fun e w' => e = .returned (.tuple #[mV z0, .bool false]) ∧ Below w.heap.size w w' := by
  obtain ⟨W, hW⟩ : ∃ W, W = w.alloc (.cells #[.int .i64 0, .string ⟨#[]⟩] 55) := ⟨_, rfl⟩
  have hbW : Below w.heap.size w W := by rw [hW]; exact below_box w _
  have hx0 : W.cell? ⟨w.heap.size, 0, none⟩ = some (.int .i64 0) := by rw [hW]; simp
  have hx1 : W.cell? ⟨w.heap.size, 1, none⟩ = some (.string ⟨#[]⟩) := by rw [hW]; simp
  have hz0 : W.frozen? ⟨w.heap.size, 0, none⟩ = false := by rw [hW]; simp
  have hz1 : W.frozen? ⟨w.heap.size, 1, none⟩ = false := by rw [hW]; simp
  have hQ := hQ.below hbW
  obtain ⟨c0, c1, c2, c3, c4, c5⟩ := hQ.lies.cells
  simp only [List.length_nil] at c5
  have HW := hid hW
  have HB := hid hbW
  clear hQ hW hbW
  go_enter Try.func36, Try.ntmps36
  go_wp2_with fail
  rw [← HW.out]
  clear HW
  refine (given_yes p _ c0).mono ?_
  rintro e w1 ⟨rfl, hw1⟩
  subst hw1
  go_wp2
  refine bodyPost_ret (v := .tuple #[.agg #[.int .i64 0, .string ⟨#[]⟩], .bool false]) (by simp [results, Try.results36, go_sem, hx0, hx1]) rfl ?_
  exact ⟨rfl, (HB.out.setCell (by simp) _).setCell (by simp) _⟩

theorem pop_fin {w : World} {p rb c m : Nat} {room drops : Int} {x : Msg} {f : Nat} {rs xs : List Msg} (hQ : QAt w p room drops (.slice (some ⟨rb, 0, none⟩) rs.length c) f rs (x :: xs)) (hm : m = (f + 1) % rs.length) (q2 : Nat) :
    QAt (((((w.setCell ⟨rb, f * 2, none⟩ (.int .i64 0)).setCell ⟨rb, f * 2 + 1, none⟩ (.string ⟨#[]⟩)).drewN q2).setCell ⟨p, 4, none⟩ (.int .i64 m)).setCell ⟨p, 5, none⟩ (.int .i64 xs.length)) p room drops (.slice (some ⟨rb, 0, none⟩) rs.length c) m (rs.set f z0) xs
      ∧ Turned w (((((w.setCell ⟨rb, f * 2, none⟩ (.int .i64 0)).setCell ⟨rb, f * 2 + 1, none⟩ (.string ⟨#[]⟩)).drewN q2).setCell ⟨p, 4, none⟩ (.int .i64 m)).setCell ⟨p, 5, none⟩ (.int .i64 xs.length)) p (some rb) := by
  have hq := hQ
  have hne := hq.ne
  have hpr : p ≠ rb := fun e => hne (by simp [Value.ownBlock, e])
  have hs := owns_store (k := f) z0 hq.own rfl
  have hl := ((hq.lies.far (g := rb) (j := f * 2) (u := .int .i64 0) hpr).far (g := rb) (j := f * 2 + 1) (u := .string ⟨#[]⟩) hpr)
  have hl2 := ((hl.below (below_drewN (Below.refl _ _) q2)).put4 m).put5 xs.length
  have ho := owns_far (j := 5) (u := .int .i64 xs.length) (owns_far (j := 4) (u := .int .i64 m) (hs.1.below (below_drewN (Below.refl _ _) q2)) hne) hne
  refine ⟨⟨hl2, ho, ?_, by rw [List.length_set]; exact hq.rle, hq.r1, hq.r2⟩, (((((Turned.of (Below.refl _ _) p (some rb)).row _ _).row _ _).drewN q2).put _ _).put _ _⟩
  rw [hm]
  exact (hq.ring.pop z0).2.2

set_option maxRecDepth 20000 in
set_option maxHeartbeats 2000000 in
theorem pop_some (p : Nat) (room drops : Int) (x : Msg) (rv : Value) (f : Nat) (rs xs : List Msg) (w : World) (hQ : QAt w p room drops rv f rs (x :: xs)) :
    Calls Try.prog 36 #[.pointer (some ⟨p, 0, none⟩)] w fun e w' => e = .returned (.tuple #[mV x, .bool true]) ∧ ∃ rv' f' rs', QAt w' p room drops rv' f' rs' xs ∧ Turned w w' p rv.ownBlock ∧ (rv'.ownBlock = rv.ownBlock ∨ ∀ j, rv'.ownBlock = some j → w.heap.size ≤ j) := by
  obtain ⟨W, hW⟩ : ∃ W, W = w.alloc (.cells #[.int .i64 0, .string ⟨#[]⟩] 55) := ⟨_, rfl⟩
  have hbW : Below w.heap.size w W := by rw [hW]; exact below_box w _
  have hx0 : W.cell? ⟨w.heap.size, 0, none⟩ = some (.int .i64 0) := by rw [hW]; simp
  have hx1 : W.cell? ⟨w.heap.size, 1, none⟩ = some (.string ⟨#[]⟩) := by rw [hW]; simp
  have hz0 : W.frozen? ⟨w.heap.size, 0, none⟩ = false := by rw [hW]; simp
  have hz1 : W.frozen? ⟨w.heap.size, 1, none⟩ = false := by rw [hW]; simp
  have hlW : w.heap.size < W.heap.size := by rw [hW]; simp
  have HP := hid hQ.lies.lt
  have HRV := hid (fun j hj => (hQ.own.lt j hj).2)
  have hQ := hQ.below hbW
  obtain ⟨c0, c1, c2, c3, c4, c5⟩ := hQ.lies.cells
  have hle := hQ.ring.le
  rw [List.length_cons] at hle c5
  obtain ⟨hx, hfl, _⟩ := hQ.ring.pop z0
  have hrm := hQ.rle
  have hr2 := hQ.r2
  obtain ⟨rb, rc, hrv, _, hrb, hfz, hrc⟩ := owns_block hQ.own (by omega)
  subst hrv
  obtain ⟨x1, x2⟩ := x
  obtain ⟨hc, hc'⟩ := hrc f hfl
  rw [hx] at hc hc'
  dsimp only at hc hc'
  have hfm := hfz (f * 2)
  have hfm' := hfz (f * 2 + 1)
  have hbr : rb ≠ w.heap.size := fun e => by have := HRV.out rb rfl; omega
  have hbp : p ≠ w.heap.size := fun e => by have := HP.out; omega
  have hpr : rb ≠ p := fun e => hQ.ne (by simp [Value.ownBlock, e])
  have hbr' := hbr.symm
  have hbp' := hbp.symm
  have hpr' := hpr.symm
  obtain ⟨m, hm⟩ : ∃ m, m = (f + 1) % rs.length := ⟨_, rfl⟩
  have hPl := hid (fun (w1 : World) (a : w1.cell? ⟨p, 3, none⟩ = some (.slice (some ⟨rb, 0, none⟩) rs.length rc)) (b : w1.cell? ⟨p, 4, none⟩ = some (.int .i64 f)) => place_any p f 1 rs.length rc (some ⟨rb, 0, none⟩) w1 a b (by omega) (by omega) (by omega) (by omega))
  rw [← hm] at hPl
  have HQ := hid hQ
  have z4 := hQ.lies.warm 4
  have z5 := hQ.lies.warm 5
  have hxl : xs.length ≤ 65536 := by omega
  have hb : (((xs.length + 1 : Nat) : Int) == 0) = false := by simp; omega
  have hrl : rs.length ≤ 65536 := by omega
  have HM := hid hm
  have HW := hid hW
  have HB := hid hbW
  clear hQ hle hx hrm hr2 hrb hfz hrc hm c1 c2 hW hbW HP HRV
  go_enter Try.func36, Try.ntmps36
  go_wp2_with fail
  rw [← HW.out]
  clear HW
  refine (given_yes p _ c0).mono ?_
  rintro e w1 ⟨rfl, hw1⟩
  subst hw1
  go_wp2_with fail
  go_region_held3 (fun w' => w'.cell? ⟨p, 3, none⟩ = some (.slice (some ⟨rb, 0, none⟩) rs.length rc) ∧ w'.cell? ⟨p, 4, none⟩ = some (.int .i64 f) ∧ w'.cell? ⟨rb, f * 2, none⟩ = some (.int .i64 x1) ∧ w'.cell? ⟨rb, f * 2 + 1, none⟩ = some (.string x2))
    (first | (refine ⟨?_, ?_, ?_, ?_⟩ <;> first | assumption | (simp [*, World.cell?_setCell_far]; done)))
    (fail)
  obtain ⟨W3, hW3⟩ : ∃ W3, W3 = ((w1.setCell ⟨w.heap.size, 0, none⟩ (.int .i64 x1)).setCell ⟨w.heap.size, 1, none⟩ (.string x2)).drew := ⟨_, rfl⟩
  obtain ⟨W4, hW4⟩ : ∃ W4, W4 = W3.alloc (.cells #[.int .i64 0, .string ⟨#[]⟩] 55) := ⟨_, rfl⟩
  have hs3 : W3.heap.size = w1.heap.size := by rw [hW3]; simp [World.drew]
  have hQ3 : QAt W3 p room drops (.slice (some ⟨rb, 0, none⟩) rs.length rc) f rs ((x1, x2) :: xs) := by
    rw [hW3]
    have hq := HQ.out
    exact QAt.below ⟨(hq.lies.far hbp).far hbp, owns_far (owns_far hq.own (by simpa [Value.ownBlock] using hbr)) (by simpa [Value.ownBlock] using hbr), hq.ring, hq.rle, hq.r1, hq.r2⟩ (Below.drew (Below.refl _ _))
  have hT3 : Turned w1 W3 p none ∨ True := Or.inr trivial
  have hB3 : Below w.heap.size w W3 := by
    rw [hW3]
    exact Below.drew ((HB.out.setCell (by simp) _).setCell (by simp) _)
  have hy0 : W3.cell? ⟨w.heap.size, 0, none⟩ = some (.int .i64 x1) := by rw [hW3, World.cell?_drew]; exact (set2 hx0 hx1).1
  have hy1 : W3.cell? ⟨w.heap.size, 1, none⟩ = some (.string x2) := by rw [hW3, World.cell?_drew]; exact (set2 hx0 hx1).2
  have hv0 : W3.frozen? ⟨w.heap.size, 0, none⟩ = false := by rw [hW3]; simpa using hz0
  have hv1 : W3.frozen? ⟨w.heap.size, 1, none⟩ = false := by rw [hW3]; simpa using hz1
  have hB4 : Below W3.heap.size W3 W4 := by rw [hW4]; exact below_box _ _
  have hQ4 := hQ3.below hB4
  have hn0 : W4.cell? ⟨W3.heap.size, 0, none⟩ = some (.int .i64 0) := by rw [hW4]; simp
  have hn1 : W4.cell? ⟨W3.heap.size, 1, none⟩ = some (.string ⟨#[]⟩) := by rw [hW4]; simp
  have g0 := (hB4.cell (p := ⟨w.heap.size, 0, none⟩) (by rw [hs3]; exact hlW)).trans hy0
  have g1 := (hB4.cell (p := ⟨w.heap.size, 1, none⟩) (by rw [hs3]; exact hlW)).trans hy1
  have k0 : W4.frozen? ⟨w.heap.size, 0, none⟩ = false := by rw [World.frozen?_of_block (hB4.block w.heap.size (by rw [hs3]; exact hlW))]; exact hv0
  have k1 : W4.frozen? ⟨w.heap.size, 1, none⟩ = false := by rw [World.frozen?_of_block (hB4.block w.heap.size (by rw [hs3]; exact hlW))]; exact hv1
  rw [← hW3]
  clear c0 c3 c4 c5 hc hc' hfm hfm' hx0 hx1 hz0 hz1 hT3 z4 z5
  obtain ⟨c0, c1, c2, c3, c4, c5⟩ := hQ4.lies.cells
  rw [List.length_cons] at c5
  obtain ⟨hx, _, _⟩ := hQ4.ring.pop z0
  obtain ⟨rb', rc', hrv', _, hrb, hfz, hrc⟩ := owns_block hQ4.own (by omega)
  cases hrv'
  obtain ⟨hc, hc'⟩ := hrc f hfl
  rw [hx] at hc hc'
  dsimp only at hc hc'
  have hfm := hfz (f * 2)
  have hfm' := hfz (f * 2 + 1)
  have z4 := hQ4.lies.warm 4
  have z5 := hQ4.lies.warm 5
  have HF := hid (fun n => pop_fin hQ4 HM.out n)
  have hTn := hid (hB3.trans (hB4.mono hB3.size))
  have hn3 : w.heap.size < W3.heap.size := by rw [hs3]; exact hlW
  have hrb3 : rb < W3.heap.size := (hQ3.own.lt rb rfl).2
  have hp3 : p < W3.heap.size := hQ3.lies.lt
  have q1 : rb ≠ W3.heap.size := by omega
  have q2 : p ≠ W3.heap.size := by omega
  have q3 : w.heap.size ≠ W3.heap.size := by omega
  have q1' := q1.symm
  have q2' := q2.symm
  have q3' := q3.symm
  have HW4 := hid hW4
  clear hQ4 hQ3 hB3 hB4 hW4 hW3 hx hrb hfz hrc hs3 hlW hn3 hrb3 hp3 HQ HB hy0 hy1 hv0 hv1 c1 c2
  go_wp2_with fail
  rw [← HW4.out]
  clear HW4
  go_region_held3 (fun w' => w'.cell? ⟨p, 3, none⟩ = some (.slice (some ⟨rb, 0, none⟩) rs.length rc) ∧ w'.cell? ⟨p, 4, none⟩ = some (.int .i64 f) ∧ w'.cell? ⟨W3.heap.size, 0, none⟩ = some (.int .i64 0) ∧ w'.cell? ⟨W3.heap.size, 1, none⟩ = some (.string ⟨#[]⟩))
    (first | (refine ⟨?_, ?_, ?_, ?_⟩ <;> first | assumption | (simp [*, World.cell?_setCell_far]; done)))
    (fail)
  go_wp2_with fail
  refine (hPl.out _ (by simp [World.cell?_setCell_far, hpr, hpr', c3]) (by simp [World.cell?_setCell_far, hpr, hpr', c4])).mono ?_
  clear hPl
  rintro e w2 ⟨rfl, q, rfl⟩
  go_wp2
  obtain ⟨V, hV⟩ : ∃ V, V = ((((W4.setCell ⟨rb, f * 2, none⟩ (.int .i64 0)).setCell ⟨rb, f * 2 + 1, none⟩ (.string ⟨#[]⟩)).drewN (1 + q)).setCell ⟨p, 4, none⟩ (.int .i64 m)).setCell ⟨p, 5, none⟩ (.int .i64 xs.length) := ⟨_, rfl⟩
  have v0 : V.cell? ⟨w.heap.size, 0, none⟩ = some (.int .i64 x1) := by rw [hV]; simp [World.cell?_setCell_far, hbr, hbp, g0]
  have v1 : V.cell? ⟨w.heap.size, 1, none⟩ = some (.string x2) := by rw [hV]; simp [World.cell?_setCell_far, hbr, hbp, g1]
  have HFV := HF.out (1 + q)
  rw [← hV] at HFV ⊢
  obtain ⟨u0, u1⟩ := set2 (u := .int .i64 x1) (v := .string x2) v0 v1
  refine bodyPost_ret (v := .tuple #[.agg #[.int .i64 x1, .string x2], .bool true]) (by simp [results, Try.results36, go_sem, u0, u1]) rfl ?_
  obtain ⟨f1, f2⟩ := HFV
  exact ⟨rfl, _, _, _, ⟨(f1.lies.far hbp).far hbp, owns_far (owns_far f1.own (by simpa [Value.ownBlock] using hbr)) (by simpa [Value.ownBlock] using hbr), f1.ring, f1.rle, f1.r1, f1.r2⟩, ((Turned.aft hTn.out f2).new (Nat.le_refl _) _ _).new (Nat.le_refl _) _ _, Or.inl rfl⟩

theorem copy_fin {w w2 : World} {p : Nat} {room drops : Int} {rv v' : Value} {f : Nat} {rs xs : List Msg} (hQ : QAt w p room drops rv f rs xs) (hO : Owns w2 w.heap.size v' xs) (hB : Below w.heap.size w w2) :
    w.heap.size ≤ w2.heap.size ∧ QAt (w2.alloc (.cells #[.pointer (some ⟨w2.heap.size, 0, none⟩), .int .i64 room, .int .i64 drops, v', .int .i64 0, .int .i64 xs.length] 89)) w2.heap.size room drops v' 0 xs xs ∧ (∀ j, v'.ownBlock = some j → w.heap.size ≤ j) ∧
      Below w.heap.size w (w2.alloc (.cells #[.pointer (some ⟨w2.heap.size, 0, none⟩), .int .i64 room, .int .i64 drops, v', .int .i64 0, .int .i64 xs.length] 89)) := by
  have h1 := hQ.ring.le
  have h2 := hQ.rle
  have hR := Ring.straight xs 0
  rw [List.replicate_zero, List.append_nil] at hR
  exact ⟨hB.size, ⟨heap_alloc_new w2 _, owns_le (hO.below ((Below.refl _ _).alloc (Nat.le_refl _) _)) (Nat.zero_le _), hR, by omega, hQ.r1, hQ.r2⟩, fun j hj => (hO.lt j hj).1, hB.alloc hB.size _⟩

set_option maxHeartbeats 2000000 in
theorem copy_any (p : Nat) (room drops : Int) (rv : Value) (f : Nat) (rs xs : List Msg) (w : World) (hQ : QAt w p room drops rv f rs xs) :
    Calls Try.prog 27 #[.pointer (some ⟨p, 0, none⟩)] w fun e w' => ∃ p' rv', e = .returned (.pointer (some ⟨p', 0, none⟩)) ∧ w.heap.size ≤ p' ∧ QAt w' p' room drops rv' 0 xs xs ∧ (∀ j, rv'.ownBlock = some j → w.heap.size ≤ j) ∧ Below w.heap.size w w' := by
  obtain ⟨c0, c1, c2, c3, c4, c5⟩ := hQ.lies.cells
  have hpl := hQ.lies.lt
  have h1 := hQ.ring.le
  have h2 := hQ.rle
  have h3 := hQ.r2
  have hS := straight_any p room drops rv f xs.length rs xs w.drew (hQ.below (Below.drew (Below.refl _ _))) (Nat.le_refl _) (by omega)
  rw [Nat.sub_self, List.replicate_zero, List.append_nil] at hS
  have HS := hid hS
  have HQ := hid hQ
  have HFIN := hid (fun v' w2 (hO : Owns w2 w.heap.size v' xs) (hB : Below w.heap.size w w2) => copy_fin hQ hO hB)
  clear hQ hS h1 h2 h3 c3 c4
  go_enter Try.func27, Try.ntmps27
  go_wp2_with fail
  refine (given_yes p _ c0).mono ?_
  rintro e w1 ⟨rfl, hw1⟩
  subst hw1
  go_wp2_with fail
  go_region_held3 (fun w' => w'.cell? ⟨p, 1, none⟩ = some (.int .i64 room) ∧ w'.cell? ⟨p, 2, none⟩ = some (.int .i64 drops) ∧ w'.cell? ⟨p, 5, none⟩ = some (.int .i64 xs.length))
    (first | (refine ⟨?_, ?_, ?_⟩ <;> first | assumption | (simp [*, World.cell?_alloc_some]; done)))
    (first
      | (go_at_call 43; refine HS.out.mono ?_; rintro e w2 ⟨v', rfl, hO2, hB2⟩; clear HS
         have hB3 : Below w1.heap.size w1 w2 := (Below.drew (Below.refl _ _)).trans hB2
         obtain ⟨d0, d1, d2, d3, d4, d5⟩ := (HQ.out.lies.below hB3).cells
         have H2 := hid (HFIN.out v' w2 hO2 hB3)
         obtain ⟨ao2, n2, cp2, hv2⟩ := owns_slice hO2
         subst hv2
         clear c0 c1 c2 c5 d0 d3 d4 HQ HFIN hO2 hB2 hB3))
  go_wp2
  go_ret
  exact ⟨_, _, rfl, H2.out.1, H2.out.2.1, H2.out.2.2.1, H2.out.2.2.2⟩

end Go.Proofs.Ytahibklmcooanaa.Mq
