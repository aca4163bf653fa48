/-
  Mailboxes: given, isUser, Push of whatever; freshText; what nobody made.
-/
import Derived.Test.YtahibklmcooanaaOBase
import Derived.Laws.IdiomStrings
namespace Go.Proofs.Ytahibklmcooanaa
open Go.RowKit
set_option linter.unusedVariables false
set_option linter.unusedSimpArgs false

theorem Try.infoPo : (Try.prog.info? 61).map (fun i => i.size) = some 2 := by kernel_rfl
theorem eqlP_self (a : Addr) (w : World) : (binOp .eql 23 (.pointer (some a)) (.pointer (some a))).run Try.prog w = .ok (.bool true) w := by
  obtain ⟨j, hj, _⟩ := Option.map_eq_some_iff.1 Try.infoPo
  exact run_eql_ptr_same w a Try.underlying23 hj
theorem eqlP_nil_some (a : Addr) (w : World) : (binOp .eql 23 (.pointer none) (.pointer (some a))).run Try.prog w = .ok (.bool false) w := by
  have h : ∀ d : Nat, (Op.equalIn (d + 1) 23 (.pointer none) (.pointer (some a))).run Try.prog w = .ok false w := fun d => by
    simp [Op.equalIn, run_underlying Try.underlying23]
  simp only [binOp]
  simp [Op.equal, Op.maxDepth, h 9999]
theorem pgiven_yes (p : Nat) (w : World) (h0 : w.cell? ⟨p, 0, none⟩ = some (.pointer (some ⟨p, 0, none⟩))) :
    Calls Try.prog 26 #[.pointer (some ⟨p, 0, none⟩)] w fun e w' => e = .returned (.bool true) ∧ w' = w := by
  have he := eqlP_self ⟨p, 0, none⟩ w
  go_enter Try.func26, Try.ntmps26
  go_wp2
  go_ret
  exact ⟨rfl, rfl⟩
/-- Mailboxes that nobody made. -/
def PNob (w : World) (pv : Value) : Prop := pv = .pointer none ∨ ∃ z, pv = .pointer (some ⟨z, 0, none⟩) ∧ w.cell? ⟨z, 0, none⟩ = some (.pointer none)
theorem PNob.below {w w' : World} {pv : Value} (h : PNob w pv) (hb : Below w.heap.size w w') : PNob w' pv := by
  rcases h with rfl | ⟨z, rfl, h⟩
  · exact Or.inl rfl
  · exact Or.inr ⟨z, rfl, (hb.cell (World.block_lt_of_cell? w _ h)).trans h⟩
theorem pgiven_no (pv : Value) (w : World) (h : PNob w pv) :
    Calls Try.prog 26 #[pv] w fun e w' => e = .returned (.bool false) ∧ w' = w := by
  rcases h with rfl | ⟨z, rfl, h0⟩
  · go_enter Try.func26, Try.ntmps26
    go_wp2
    go_ret
    exact ⟨rfl, rfl⟩
  · have he := eqlP_nil_some ⟨z, 0, none⟩ w
    go_enter Try.func26, Try.ntmps26
    go_wp2
    go_ret
    exact ⟨rfl, rfl⟩
theorem isUser_no (pv : Value) (who : Int) (w : World) (h : PNob w pv) :
    Calls Try.prog 28 #[pv, .int .i64 who] w fun e w' => e = .returned (.bool false) ∧ w' = w := by
  have hg := pgiven_no pv w h
  clear h
  go_enter Try.func28, Try.ntmps28
  go_wp2_with fail
  refine hg.mono ?_
  rintro e w1 ⟨rfl, rfl⟩
  go_wp2
  go_ret
  exact ⟨rfl, rfl⟩
def usr (n : Nat) (who : Int) : Bool := decide (0 ≤ who) && decide (who < (n : Int))
theorem usr_iff {n : Nat} {who : Int} : usr n who = true ↔ ∃ i : Nat, i < n ∧ who = i := by
  unfold usr
  constructor
  · intro h
    simp at h
    exact ⟨who.toNat, by omega, by omega⟩
  · rintro ⟨i, hi, rfl⟩
    simp
    omega
theorem usr_nat (n i : Nat) : usr n i = decide (i < n) := by
  unfold usr
  by_cases h : i < n
  · simp [h]
  · simp [h]
theorem isUser_yes (p n : Nat) (ao : Option Addr) (c : Nat) (who : Int) (w : World) (h0 : w.cell? ⟨p, 0, none⟩ = some (.pointer (some ⟨p, 0, none⟩))) (h1 : w.cell? ⟨p, 1, none⟩ = some (.slice ao n c)) :
    Calls Try.prog 28 #[.pointer (some ⟨p, 0, none⟩), .int .i64 who] w fun e w' => e = .returned (.bool (usr n who)) ∧ w' = w := by
  have hg := pgiven_yes p w h0
  unfold usr
  by_cases a : 0 ≤ who
  · by_cases b : who < (n : Int)
    · have a' : ¬ who < 0 := by omega
      go_enter Try.func28, Try.ntmps28
      go_wp2_with fail
      refine hg.mono ?_
      rintro e w1 ⟨rfl, hw1⟩
      subst hw1
      go_wp2
      go_ret
      exact ⟨by simp [a, b], rfl⟩
    · have a' : ¬ who < 0 := by omega
      go_enter Try.func28, Try.ntmps28
      go_wp2_with fail
      refine hg.mono ?_
      rintro e w1 ⟨rfl, hw1⟩
      subst hw1
      go_wp2
      go_ret
      exact ⟨by simp [a, b], rfl⟩
  · go_enter Try.func28, Try.ntmps28
    go_wp2_with fail
    refine hg.mono ?_
    rintro e w1 ⟨rfl, hw1⟩
    subst hw1
    go_wp2
    go_ret
    exact ⟨by simp; omega, rfl⟩

/-- A text's bytes, made anew, and the text of them. -/
theorem copy_text (x : ByteArray) (w : World) : ∃ C w1, (convert 9 97 (.string x)).run Try.prog w = .ok (.slice (some ⟨w.heap.size, 0, none⟩) x.size C) w1 ∧
    (convert 97 9 (.slice (some ⟨w.heap.size, 0, none⟩) x.size C)).run Try.prog w1 = .ok (.string x) w1 ∧ Below w.heap.size w w1 := by
  have h1 := run_bytes_of_string (P := Try.prog) w 9 97 5 x Try.underlying9 Try.underlying97 Try.underlying5
  refine ⟨_, _, h1, ?_, (Below.drew (Below.refl _ _)).alloc (Nat.le_refl _) _⟩
  obtain ⟨l⟩ := x
  obtain ⟨l⟩ := l
  have hsz : (⟨⟨l⟩⟩ : ByteArray).size = l.length := by simp [ByteArray.size]
  rw [hsz]
  refine run_convert_bytes_back (P := Try.prog) _ 97 9 5 ⟨w.heap.size, 0, none⟩ _ l Try.underlying97 Try.underlying5 Try.underlying9 (fun j hj => ?_)
  rw [addr_add, Nat.zero_add]
  have := World.cell?_alloc_mark w.drew (bytesRow ⟨l.toArray⟩ (grownCap w l.length 0 5)) 5 ((bytesRow ⟨l.toArray⟩ (grownCap w l.length 0 5)).size, (bytesRow ⟨l.toArray⟩ (grownCap w l.length 0 5)).size + 1) j
  rw [show w.drew.heap.size = w.heap.size from rfl] at this
  rw [this, bytesRow_at _ _ _ (by simpa using hj)]
  simp
theorem freshText_any (x : ByteArray) (w : World) :
    Calls Try.prog 33 #[.string x] w fun e w' => e = .returned (.string x) ∧ Below w.heap.size w w' := by
  obtain ⟨C, w1, k1, k2, kb⟩ := copy_text x w
  have HB := hid kb
  clear kb
  go_enter Try.func33, Try.ntmps33
  go_wp2
  go_ret
  exact ⟨rfl, HB.out⟩
theorem secrecy_any (i : Nat) (h : i ≤ 1000) (w : World) :
    Calls Try.prog 37 #[.int .i64 i] w fun e w' => e = .returned (.int .i64 (2 * (i : Int) + 1)) ∧ w' = w := by
  have e1 : IntKind.i64.wrap (2 * (i : Int)) = 2 * i := by rw [IntKind.wrap_i64]; omega
  have e2 : IntKind.i64.wrap (2 * (i : Int) + 1) = 2 * i + 1 := by rw [IntKind.wrap_i64]; omega
  go_enter Try.func37, Try.ntmps37
  go_wp2
  go_ret
  exact ⟨rfl, rfl⟩

section
set_option maxHeartbeats 1000000 in
theorem push_most (p : Nat) (room drops : Int) (x : Msg) (rv : Value) (f : Nat) (rs xs : List Msg) (w : World) (hQ : Mq.QAt w p room drops rv f rs xs) (hfull : room ≤ (xs.length : Int)) (h1 : drops = 4611686018427387904) :
    Calls Try.prog 32 #[.pointer (some ⟨p, 0, none⟩), Mq.mV x] w fun e w' => e = .returned (.bool false) ∧ Mq.QAt w' p room drops rv f rs xs ∧ Mq.Turned w w' p rv.ownBlock := by
  obtain ⟨x1, x2⟩ := x
  subst h1
  obtain ⟨W, hW⟩ : ∃ W, W = w.alloc (.cells #[.int .i64 x1, .string x2] 55) := ⟨_, rfl⟩
  have hbW : Below w.heap.size w W := by rw [hW]; exact Mq.below_box w _
  have hQ := hQ.below hbW
  obtain ⟨c0, c1, c2, c3, c4, c5⟩ := hQ.lies.cells
  have y2 := hQ.lies.warm 2
  have HF := hid (fun q => (show Mq.QAt ((W.drewN q).setCell ⟨p, 2, none⟩ (.int .i64 4611686018427387904)) p room 4611686018427387904 rv f rs xs ∧ Mq.Turned W ((W.drewN q).setCell ⟨p, 2, none⟩ (.int .i64 4611686018427387904)) p rv.ownBlock from
    have hq := hQ.below (below_drewN (Below.refl _ _) q)
    ⟨⟨hq.lies.put2, Mq.owns_far hq.own hq.ne, hq.ring, hq.rle, hq.r1, hq.r2⟩, (Mq.Turned.of (below_drewN (Below.refl _ _) q) p _).put _ _⟩))
  have HW := hid hW
  have HB := hid hbW
  clear hQ hW hbW
  unfold Mq.mV
  go_enter Try.func32, Try.ntmps32
  go_wp2_with fail
  rw [← HW.out]
  clear HW
  refine (Mq.given_yes p _ c0).mono ?_
  rintro e w1 ⟨rfl, hw1⟩
  subst hw1
  go_wp2_with fail
  go_quiet (fail)
  go_wp2
  go_ret
  exact ⟨rfl, (HF.out _).1, Mq.Turned.aft HB.out (HF.out _).2⟩
/-- What waits when one more has come. -/
def pushed (room : Int) (xs : List Msg) (x : Msg) : List Msg := if (xs.length : Int) < room then xs ++ [x] else xs
theorem push_any (p : Nat) (room drops : Int) (x : Msg) (rv : Value) (f : Nat) (rs xs : List Msg) (w : World) (hQ : Mq.QAt w p room drops rv f rs xs) (hd : 0 ≤ drops ∧ drops ≤ 4611686018427387904) :
    Calls Try.prog 32 #[.pointer (some ⟨p, 0, none⟩), Mq.mV x] w fun e w' => (∃ b, e = .returned (.bool b)) ∧ ∃ d' rv' f' rs', Mq.QAt w' p room d' rv' f' rs' (pushed room xs x) ∧ Mq.Turned w w' p rv.ownBlock ∧ (rv'.ownBlock = rv.ownBlock ∨ ∀ j, rv'.ownBlock = some j → w.heap.size ≤ j) ∧ 0 ≤ d' ∧ d' ≤ 4611686018427387904 := by
  unfold pushed
  by_cases hl : (xs.length : Int) < room
  · rw [if_pos hl]
    refine (Mq.push_put p room drops x rv f rs xs w hQ hl).mono ?_
    rintro e w' ⟨rfl, rv', f', rs', h1, h2, h3⟩
    exact ⟨⟨_, rfl⟩, drops, rv', f', rs', h1, h2, h3, hd⟩
  · rw [if_neg hl]
    by_cases h1 : drops = 4611686018427387904
    · refine (push_most p room drops x rv f rs xs w hQ (by omega) h1).mono ?_
      rintro e w' ⟨rfl, h2, h3⟩
      exact ⟨⟨_, rfl⟩, drops, rv, f, rs, h2, h3, Or.inl rfl, hd⟩
    · refine (Mq.push_full p room drops x rv f rs xs w hQ (by omega) hd.1 (by omega)).mono ?_
      rintro e w' ⟨rfl, h2, h3⟩
      exact ⟨⟨_, rfl⟩, drops + 1, rv, f, rs, h2, h3, Or.inl rfl, by omega⟩
end
end Go.Proofs.Ytahibklmcooanaa
