/-
  Queues of messages: Len, Push, Pop, Copy.
-/
import Derived.Test.YtahibklmcooanaaQA
namespace Go.Proofs.Ytahibklmcooanaa.Mq
open Go.RowKit Go.Proofs.Ytahibklmcooanaa
set_option linter.unusedVariables false
set_option linter.unusedSimpArgs false

def mV (x : Msg) : Value := .agg #[.int .i64 x.1, .string x.2]
theorem Turned.aft {w W w2 : World} {p : Nat} {ob : Option Nat} (hb : Below w.heap.size w W) (h : Turned W w2 p ob) : Turned w w2 p ob :=
  ⟨h.os.trans hb.os, h.tape.trans hb.tape, h.output.trans hb.output, Nat.le_trans hb.size h.size, fun i hi h1 h2 => (h.block i (Nat.lt_of_lt_of_le hi hb.size) h1 h2).trans (hb.block i hi)⟩
theorem Turned.set_new {w w' : World} {p g : Nat} {ob : Option Nat} (h : Turned w w' p ob) (hg : w.heap.size ≤ g) (j : Nat) (u : Value) : Turned w (w'.setCell ⟨g, j, none⟩ u) p ob := h.new hg j u
theorem below_box (w : World) (o : Obj) : Below w.heap.size w (w.alloc o) := (Below.refl _ _).alloc (Nat.le_refl _) o

theorem World.cell?_of_block {w w' : World} {b : Nat} (h : w'.heap[b]? = w.heap[b]?) (j : Nat) : w'.cell? ⟨b, j, none⟩ = w.cell? ⟨b, j, none⟩ := by simp [World.cell?, h]
set_option maxHeartbeats 1000000 in
theorem len_any (p : Nat) (room drops : Int) (rv : Value) (f : Nat) (rs xs : List Msg) (w : World) (hQ : QAt w p room drops rv f rs xs) :
    Calls Try.prog 29 #[.pointer (some ⟨p, 0, none⟩)] w fun e w' => e = .returned (.int .i64 xs.length) ∧ w' = w := by
  obtain ⟨c0, c1, c2, c3, c4, c5⟩ := hQ.lies.cells
  clear hQ
  go_enter Try.func29, Try.ntmps29
  go_wp2_with fail
  refine (given_yes p _ c0).mono ?_
  rintro e w1 ⟨rfl, hw1⟩
  subst hw1
  go_wp2
  go_ret
  exact ⟨rfl, rfl⟩

set_option maxHeartbeats 1000000 in
theorem push_full (p : Nat) (room drops : Int) (x : Msg) (rv : Value) (f : Nat) (rs xs : List Msg) (w : World) (hQ : QAt w p room drops rv f rs xs) (hfull : room ≤ (xs.length : Int)) (h0 : 0 ≤ drops) (h1 : drops < 4611686018427387904) :
    Calls Try.prog 32 #[.pointer (some ⟨p, 0, none⟩), mV x] w fun e w' => e = .returned (.bool false) ∧ QAt w' p room (drops + 1) rv f rs xs ∧ Turned w w' p rv.ownBlock := by
  obtain ⟨x1, x2⟩ := x
  obtain ⟨W, hW⟩ : ∃ W, W = w.alloc (.cells #[.int .i64 x1, .string x2] 55) := ⟨_, rfl⟩
  have hbW : Below w.heap.size w W := by rw [hW]; exact below_box w _
  have hQ := hQ.below hbW
  obtain ⟨c0, c1, c2, c3, c4, c5⟩ := hQ.lies.cells
  have y2 := hQ.lies.warm 2
  have hdn : ¬ 4611686018427387904 < drops + 1 := by omega
  have hw : IntKind.i64.wrap (drops + 1) = drops + 1 := by rw [IntKind.wrap_i64]; omega
  have HF := hid (fun q => (show QAt ((W.drewN q).setCell ⟨p, 2, none⟩ (.int .i64 (drops + 1))) p room (drops + 1) rv f rs xs ∧ Turned W ((W.drewN q).setCell ⟨p, 2, none⟩ (.int .i64 (drops + 1))) p rv.ownBlock from
    have hq := hQ.below (below_drewN (Below.refl _ _) q)
    ⟨⟨hq.lies.put2, owns_far hq.own hq.ne, hq.ring, hq.rle, hq.r1, hq.r2⟩, (Turned.of (below_drewN (Below.refl _ _) q) p _).put _ _⟩))
  have HW := hid hW
  have HB := hid hbW
  clear hQ hW hbW
  unfold mV
  go_enter Try.func32, Try.ntmps32
  go_wp2_with fail
  rw [← HW.out]
  clear HW
  refine (given_yes p _ c0).mono ?_
  rintro e w1 ⟨rfl, hw1⟩
  subst hw1
  go_wp2_with fail
  go_quiet (fail)
  go_wp2
  go_ret
  exact ⟨rfl, (HF.out _).1, Turned.aft HB.out (HF.out _).2⟩

theorem push_fin {w : World} {p rb c m : Nat} {room drops : Int} {x1 : Int} {x2 : ByteArray} {f : Nat} {rs xs : List Msg} (hQ : QAt w p room drops (.slice (some ⟨rb, 0, none⟩) rs.length c) f rs xs) (hlt : xs.length < rs.length) (hm : m = (f + xs.length) % rs.length) (q : Nat) :
    QAt ((((w.drewN q).setCell ⟨rb, m * 2, none⟩ (.int .i64 x1)).setCell ⟨rb, m * 2 + 1, none⟩ (.string x2)).setCell ⟨p, 5, none⟩ (.int .i64 ((xs.length : Int) + 1))) p room drops (.slice (some ⟨rb, 0, none⟩) rs.length c) f (rs.set m (x1, x2)) (xs ++ [(x1, x2)])
      ∧ Turned w ((((w.drewN q).setCell ⟨rb, m * 2, none⟩ (.int .i64 x1)).setCell ⟨rb, m * 2 + 1, none⟩ (.string x2)).setCell ⟨p, 5, none⟩ (.int .i64 ((xs.length : Int) + 1))) p (some rb) := by
  have hq := hQ.below (below_drewN (Below.refl _ _) q)
  have hne := hq.ne
  have hpr : p ≠ rb := fun e => hne (by simp [Value.ownBlock, e])
  have hs := owns_store (k := m) (x1, x2) hq.own rfl
  have hl5 := ((hq.lies.far (g := rb) (j := m * 2) (u := .int .i64 x1) hpr).far (g := rb) (j := m * 2 + 1) (u := .string x2) hpr).put5 (xs.length + 1)
  have e1 : (((xs.length + 1 : Nat)) : Int) = (xs.length : Int) + 1 := by omega
  rw [e1] at hl5
  refine ⟨⟨by rw [List.length_append, List.length_singleton]; exact hl5, owns_far hs.1 hne, ?_, by rw [List.length_set]; exact hq.rle, hq.r1, hq.r2⟩, (((Turned.of (below_drewN (Below.refl _ _) q) p (some rb)).row _ _).row _ _).put _ _⟩
  rw [hm]
  exact hq.ring.push (x1, x2) hlt

set_option maxHeartbeats 2000000 in
theorem push_room (p : Nat) (room drops : Int) (x : Msg) (rv : Value) (f : Nat) (rs xs : List Msg) (w : World) (hQ : QAt w p room drops rv f rs xs) (hlt : (xs.length : Int) < room) (hne : xs.length ≠ rs.length) :
    Calls Try.prog 32 #[.pointer (some ⟨p, 0, none⟩), mV x] w fun e w' => e = .returned (.bool true) ∧ ∃ rv' f' rs', QAt w' p room drops rv' f' rs' (xs ++ [x]) ∧ Turned w w' p rv.ownBlock ∧ (rv'.ownBlock = rv.ownBlock ∨ ∀ j, rv'.ownBlock = some j → w.heap.size ≤ j) := by
  obtain ⟨x1, x2⟩ := x
  obtain ⟨W, hW⟩ : ∃ W, W = w.alloc (.cells #[.int .i64 x1, .string x2] 55) := ⟨_, rfl⟩
  have hbW : Below w.heap.size w W := by rw [hW]; exact below_box w _
  have hx0 : W.cell? ⟨w.heap.size, 0, none⟩ = some (.int .i64 x1) := by rw [hW]; simp
  have hx1 : W.cell? ⟨w.heap.size, 1, none⟩ = some (.string x2) := by rw [hW]; simp
  have hlW : w.heap.size < W.heap.size := by rw [hW]; simp
  have HP := hid hQ.lies.lt
  have HRV := hid (fun j hj => (hQ.own.lt j hj).2)
  have hQ := hQ.below hbW
  have HW := hid hW
  have HB := hid hbW
  clear hW hbW
  obtain ⟨c0, c1, c2, c3, c4, c5⟩ := hQ.lies.cells
  have hle := hQ.ring.le
  have hlr : xs.length < rs.length := by omega
  have hfl := hQ.ring.lt (by omega)
  have hrm := hQ.rle
  have hr2 := hQ.r2
  obtain ⟨rb, rc, hrv, _, hrb, hfz, hrc⟩ := owns_block hQ.own (by omega)
  subst hrv
  obtain ⟨m, hm⟩ : ∃ m, m = (f + xs.length) % rs.length := ⟨_, rfl⟩
  have hml : m < rs.length := by rw [hm]; exact Nat.mod_lt _ (by omega)
  obtain ⟨hc, hc'⟩ := hrc m hml
  have hfm := hfz (m * 2)
  have hfm' := hfz (m * 2 + 1)
  obtain ⟨y, hy⟩ : ∃ y, y = rs.getD m z0 := ⟨_, rfl⟩
  rw [← hy] at hc hc'
  obtain ⟨y1, y2⟩ := y
  dsimp only at hc hc'
  have hbr : rb ≠ w.heap.size := fun e => by have := HRV.out rb rfl; omega
  have hbp : p ≠ w.heap.size := fun e => by have := HP.out; omega
  have hpr : rb ≠ p := fun e => hQ.ne (by simp [Value.ownBlock, e])
  have hPl := hid (fun (n : Nat) => place_any p f xs.length rs.length rc (some ⟨rb, 0, none⟩) (W.drewN n) (by simpa using c3) (by simpa using c4) (by omega) (by omega) (by omega) (by omega))
  rw [← hm] at hPl
  have HF := hid (push_fin (x1 := x1) (x2 := x2) hQ hlr hm)
  have hb1 : ((xs.length : Int) == (rs.length : Int)) = false := by simp; omega
  have hb2 : ¬ room ≤ (xs.length : Int) := by omega
  have z5 := hQ.lies.warm 5
  have hxl : xs.length ≤ 65536 := by omega
  clear HP HRV hQ hle hne hfl hrm hr2 hrb hfz hrc hm hy c2 hlr
  unfold mV
  go_enter Try.func32, Try.ntmps32
  go_wp2_with fail
  rw [← HW.out]
  clear HW
  refine (given_yes p _ c0).mono ?_
  rintro e w1 ⟨rfl, hw1⟩
  subst hw1
  go_wp2_with fail
  go_quiet (fail)
  go_wp2_with fail
  go_quiet (fail)
  go_wp2_with fail
  go_region_held3 (fun w' => w'.cell? ⟨p, 3, none⟩ = some (.slice (some ⟨rb, 0, none⟩) rs.length rc) ∧ w'.cell? ⟨p, 5, none⟩ = some (.int .i64 xs.length) ∧ w'.cell? ⟨w.heap.size, 0, none⟩ = some (.int .i64 x1) ∧ w'.cell? ⟨w.heap.size, 1, none⟩ = some (.string x2))
    (first | (refine ⟨?_, ?_, ?_, ?_⟩ <;> first | assumption | (simp [*, World.cell?_setCell_far]; done)))
    (first
      | (go_at_call 47; refine (hPl.out _).mono ?_; rintro e w2 ⟨rfl, q, rfl⟩; clear hPl))
  go_wp2
  go_ret
  exact ⟨rfl, _, _, _, (HF.out _).1, Turned.aft HB.out (HF.out _).2, Or.inl rfl⟩



set_option maxHeartbeats 2000000 in
theorem push_wide (p : Nat) (room drops : Int) (x : Msg) (rv : Value) (f : Nat) (rs xs : List Msg) (w : World) (hQ : QAt w p room drops rv f rs xs) (hlt : (xs.length : Int) < room) (hne : xs.length = rs.length) :
    Calls Try.prog 32 #[.pointer (some ⟨p, 0, none⟩), mV x] w fun e w' => e = .returned (.bool true) ∧ ∃ rv' f' rs', QAt w' p room drops rv' f' rs' (xs ++ [x]) ∧ Turned w w' p rv.ownBlock ∧ (rv'.ownBlock = rv.ownBlock ∨ ∀ j, rv'.ownBlock = some j → w.heap.size ≤ j) := by
  obtain ⟨x1, x2⟩ := x
  obtain ⟨W, hW⟩ : ∃ W, W = w.alloc (.cells #[.int .i64 x1, .string x2] 55) := ⟨_, rfl⟩
  have hbW : Below w.heap.size w W := by rw [hW]; exact below_box w _
  have hx0 : W.cell? ⟨w.heap.size, 0, none⟩ = some (.int .i64 x1) := by rw [hW]; simp
  have hx1 : W.cell? ⟨w.heap.size, 1, none⟩ = some (.string x2) := by rw [hW]; simp
  have hlW : w.heap.size < W.heap.size := by rw [hW]; simp
  have HP := hid hQ.lies.lt
  have HRV := hid (fun j hj => (hQ.own.lt j hj).2)
  have hQ := hQ.below hbW
  have HW := hid hW
  have HB := hid hbW
  clear hW hbW
  obtain ⟨c0, c1, c2, c3, c4, c5⟩ := hQ.lies.cells
  obtain ⟨ao, c, hrv⟩ := hQ.shape
  subst hrv
  obtain ⟨ob, hob⟩ : ∃ ob, ob = (Value.slice ao rs.length c).ownBlock := ⟨_, rfl⟩
  rw [← hob]
  have hb1 : ((xs.length : Int) == (rs.length : Int)) = true := by simp; omega
  have hb2 : ¬ room ≤ (xs.length : Int) := by omega
  have hr2 := hQ.r2
  have hxl : xs.length ≤ 65536 := by omega
  have hWi := hid (fun (n : Nat) => widen_any p room drops _ f rs xs (W.drewN n) (hQ.below (below_drewN (Below.refl _ _) n)) hlt)
  clear HRV hQ hne hr2 c2 c4 hob
  unfold mV
  go_enter Try.func32, Try.ntmps32
  go_wp2_with fail
  rw [← HW.out]
  clear HW
  refine (given_yes p _ c0).mono ?_
  rintro e w1 ⟨rfl, hw1⟩
  subst hw1
  go_wp2_with fail
  go_quiet (fail)
  go_wp2_with fail
  go_quiet (fail)
  go_wp2_with fail
  refine (hWi.out _).mono ?_
  clear hWi c0 c1 c3 c5
  rintro e w2 ⟨rfl, v', rs2, hQ2, hlr, hT2, hN2⟩
  obtain ⟨c0, c1, c2, c3, c4, c5⟩ := hQ2.lies.cells
  have hrm := hQ2.rle
  have hr2 := hQ2.r2
  obtain ⟨rb, rc, hrv, _, hrb, hfz, hrc⟩ := owns_block hQ2.own (by omega)
  subst hrv
  obtain ⟨m, hm⟩ : ∃ m, m = (0 + xs.length) % rs2.length := ⟨_, rfl⟩
  have hml : m < rs2.length := by rw [hm]; exact Nat.mod_lt _ (by omega)
  obtain ⟨hc, hc'⟩ := hrc m hml
  have hfm := hfz (m * 2)
  have hfm' := hfz (m * 2 + 1)
  obtain ⟨y, hy⟩ : ∃ y, y = rs2.getD m z0 := ⟨_, rfl⟩
  rw [← hy] at hc hc'
  obtain ⟨y1, y2⟩ := y
  dsimp only at hc hc'
  have hpr : rb ≠ p := fun e => hQ2.ne (by simp [Value.ownBlock, e])
  have hPl := hid (place_any p 0 xs.length rs2.length rc (some ⟨rb, 0, none⟩) w2.drew c3 c4 (by omega) (by omega) (by omega) (by omega))
  rw [← hm] at hPl
  have HF := hid (push_fin (x1 := x1) (x2 := x2) hQ2 hlr hm)
  have hk0 : w2.cell? ⟨w.heap.size, 0, none⟩ = some (.int .i64 x1) := by
    rw [World.cell?_of_block (hT2.block w.heap.size (by simpa using hlW) (fun e => by have := HP.out; omega) (by simp)) 0]; simpa using hx0
  have hk1 : w2.cell? ⟨w.heap.size, 1, none⟩ = some (.string x2) := by
    rw [World.cell?_of_block (hT2.block w.heap.size (by simpa using hlW) (fun e => by have := HP.out; omega) (by simp)) 1]; simpa using hx1
  have hTT := hid (Turned.behind _ hT2)
  have hbr : rb ≠ w.heap.size := fun e => by have := hN2 rb rfl; simp at this; omega
  have hbp : p ≠ w.heap.size := fun e => by have := HP.out; omega
  have hnew := hid (show w1.heap.size ≤ rb from by have := hN2 rb rfl; simpa using this)
  have z5 := hQ2.lies.warm 5
  clear HP hQ2 hrm hr2 hrb hfz hrc hm hy c2 hlr hT2 hN2 c0 c1
  go_wp2_with fail
  go_region_held3 (fun w' => w'.cell? ⟨p, 3, none⟩ = some (.slice (some ⟨rb, 0, none⟩) rs2.length rc) ∧ w'.cell? ⟨p, 5, none⟩ = some (.int .i64 xs.length) ∧ w'.cell? ⟨w.heap.size, 0, none⟩ = some (.int .i64 x1) ∧ w'.cell? ⟨w.heap.size, 1, none⟩ = some (.string x2))
    (first | (refine ⟨?_, ?_, ?_, ?_⟩ <;> first | assumption | (simp [*, World.cell?_setCell_far]; done)))
    (first
      | (go_at_call 47; refine hPl.out.mono ?_; rintro e w2 ⟨rfl, q, rfl⟩; clear hPl))
  go_wp2
  go_ret
  exact ⟨rfl, _, _, _, (HF.out _).1, Turned.aft HB.out (hTT.out.then _ (HF.out _).2 hnew.out), Or.inr fun j hj => by cases hj; exact Nat.le_trans HB.out.size hnew.out⟩

theorem push_put (p : Nat) (room drops : Int) (x : Msg) (rv : Value) (f : Nat) (rs xs : List Msg) (w : World) (hQ : QAt w p room drops rv f rs xs) (hlt : (xs.length : Int) < room) :
    Calls Try.prog 32 #[.pointer (some ⟨p, 0, none⟩), mV x] w fun e w' => e = .returned (.bool true) ∧ ∃ rv' f' rs', QAt w' p room drops rv' f' rs' (xs ++ [x]) ∧ Turned w w' p rv.ownBlock ∧ (rv'.ownBlock = rv.ownBlock ∨ ∀ j, rv'.ownBlock = some j → w.heap.size ≤ j) := by
  by_cases h : xs.length = rs.length
  · exact push_wide p room drops x rv f rs xs w hQ hlt h
  · exact push_room p room drops x rv f rs xs w hQ hlt h


end Go.Proofs.Ytahibklmcooanaa.Mq
