/-
  Trees: given, lay, New, Len, Depth.
-/
import Derived.Test.YtkjmilcocnjjoaaTPutBI
import Derived.LaidEqlPtr
namespace Go.Proofs.Ytkjmilcocnjjoaa.I
open Go.RowKit Tm
set_option linter.unusedVariables false

/-- How often a whole tree lies in a block. -/
def cT (q d : Nat) (t : LT d) (b : Nat) : Nat := eqN q b + cnt b d t

/-- A tree that New or Copy made: its block, its nodes, what it holds. -/
structure TrA (w : World) (q o d : Nat) (t : LT d) (L : List It) : Prop where
  blk : w.heap[q]? = some (.cells #[ptr q, .int .i64 o, .int .i64 (L.length : Nat), ptr (pT d t)] 61 (0, 0))
  lies : At w d t
  one : ∀ b, cT q d t b ≤ 1
  ok : okT (o - 1) (2 * o - 1) (min d 1) (2 * o - 1) d (er d t)
  srt : srt keyLt L
  holds : flat d (er d t) = L

theorem TrA.gr {w w' : World} {q o d : Nat} {t : LT d} {L : List It} {F : Nat → Prop} (h : TrA w q o d t L) (hg : Gr F w w') (hF : ∀ b, 0 < cT q d t b → ¬ F b) : TrA w' q o d t L :=
  ⟨by rw [hg.block q (heap_lt h.blk) (hF q (by have := eqN_self q; simp only [cT]; omega))]; exact h.blk, at_gr hg h.lies (fun b hb => hF b (by simp only [cT]; omega)), h.one, h.ok, h.srt, h.holds⟩
theorem TrA.below {w w' : World} {q o d : Nat} {t : LT d} {L : List It} (h : TrA w q o d t L) (hb : Below w.heap.size w w') : TrA w' q o d t L := h.gr (F := fun _ => False) (Gr.of_below hb _) (fun _ _ => id)
theorem TrA.lt {w : World} {q o d : Nat} {t : LT d} {L : List It} (h : TrA w q o d t L) {b : Nat} (hb : w.heap.size ≤ b) : cT q d t b = 0 := by
  have h1 := heap_lt h.blk
  have e1 : eqN q b = 0 := by unfold eqN; rw [if_neg (by omega)]
  have e2 := cnt_lt hb h.lies
  simp only [cT]; omega
theorem TrA.cells {w : World} {q o d : Nat} {t : LT d} {L : List It} (h : TrA w q o d t L) :
    w.cell? ⟨q, 0, none⟩ = some (.pointer (some ⟨q, 0, none⟩)) ∧ w.cell? ⟨q, 1, none⟩ = some (.int .i64 o) ∧ w.cell? ⟨q, 2, none⟩ = some (.int .i64 (L.length : Nat)) ∧ w.cell? ⟨q, 3, none⟩ = some (.pointer (some ⟨pT d t, 0, none⟩)) ∧ ∀ j, w.frozen? ⟨q, j, none⟩ = false := by
  have := h.blk
  refine ⟨?_, ?_, ?_, ?_, fun j => ?_⟩ <;> simp [World.cell?, World.frozen?, this, ptr]

theorem infoTree : (Try.prog.info? 61).map (fun i => i.size) = some 4 := by kernel_rfl
theorem eql_self (a : Addr) (w : World) : (binOp .eql 23 (.pointer (some a)) (.pointer (some a))).run Try.prog w = .ok (.bool true) w := by
  obtain ⟨j, hj, _⟩ := Option.map_eq_some_iff.1 infoTree
  exact run_eql_ptr_same w a Try.underlying23 hj
theorem eql_nil_some (a : Addr) (w : World) : (binOp .eql 23 (.pointer none) (.pointer (some a))).run Try.prog w = .ok (.bool false) w := by
  have h : ∀ d : Nat, (Op.equalIn (d + 1) 23 (.pointer none) (.pointer (some a))).run Try.prog w = .ok false w := fun d => by
    simp [Op.equalIn, run_underlying Try.underlying23]
  simp only [binOp]
  simp [Op.equal, Op.maxDepth, h 9999]

theorem given_nil (w : World) :
    Calls Try.prog 30 #[.pointer none] w fun e w' => e = .returned (.bool false) ∧ w = w' := by
  go_enter Try.func30, Try.ntmps30
  go_wp2
  go_ret
  exact ⟨rfl, rfl⟩
theorem given_no (q : Nat) (w : World) (h : w.cell? ⟨q, 0, none⟩ = some (.pointer none)) :
    Calls Try.prog 30 #[.pointer (some ⟨q, 0, none⟩)] w fun e w' => e = .returned (.bool false) ∧ w = w' := by
  have he := eql_nil_some ⟨q, 0, none⟩ w
  go_enter Try.func30, Try.ntmps30
  go_wp2
  go_ret
  exact ⟨rfl, rfl⟩

theorem given_yes (q : Nat) (w : World) (h : w.cell? ⟨q, 0, none⟩ = some (.pointer (some ⟨q, 0, none⟩))) :
    Calls Try.prog 30 #[.pointer (some ⟨q, 0, none⟩)] w fun e w' => e = .returned (.bool true) ∧ w = w' := by
  have he := eql_self ⟨q, 0, none⟩ w
  go_enter Try.func30, Try.ntmps30
  go_wp2
  go_ret
  exact ⟨rfl, rfl⟩

theorem lay_any (o c p : Nat) (w : World) :
    Calls Try.prog 25 #[.int .i64 o, .int .i64 c, ptr p] w fun e w' => e = .returned (ptr w.heap.size) ∧ w'.heap[w.heap.size]? = some (.cells #[ptr w.heap.size, .int .i64 o, .int .i64 c, ptr p] 61 (0, 0)) ∧ Below w.heap.size w w' := by
  unfold ptr
  go_enter Try.func25, Try.ntmps25
  go_wp2
  go_ret
  exact ⟨rfl, heap_alloc_new w _, (Below.refl _ w).alloc (Nat.le_refl _) _⟩

theorem new_no (o : Int) (w : World) (h : o < 2 ∨ 64 < o) :
    Calls Try.prog 8 #[.int .i64 o] w fun e w' => e = .returned (.tuple #[.pointer none, .int .i64 1]) ∧ w' = w := by
  by_cases h2 : o < 2
  · go_enter Try.func8, Try.ntmps8
    go_wp2
    go_ret2
    exact ⟨rfl, rfl⟩
  · have h3 : 64 < o := by omega
    have h4 : ¬ o < 2 := h2
    go_enter Try.func8, Try.ntmps8
    go_wp2
    go_ret2
    exact ⟨rfl, rfl⟩

theorem new_yes (o : Nat) (w : World) (h : 2 ≤ o) (h2 : o ≤ 64) :
    Calls Try.prog 8 #[.int .i64 o] w fun e w' => ∃ q t, e = .returned (.tuple #[ptr q, .int .i64 0]) ∧ TrA w' q o 0 t [] ∧ Below w.heap.size w w' ∧ (∀ b, b < w.heap.size → cT q 0 t b = 0) := by
  have e1 : ¬ ((o : Int) < 2) := by omega
  have e2 : ¬ (64 < (o : Int)) := by omega
  have hl := lay_any o 0 w.heap.size (w.alloc (.cells #[.slice none 0 0, .slice none 0 0] 69))
  unfold ptr at *
  go_enter Try.func8, Try.ntmps8
  go_wp2_with fail
  refine hl.mono ?_
  rintro e w' ⟨rfl, hlb, hbw⟩
  have HL := hid hlb
  have HB := hid hbw
  clear hlb hbw hl
  go_wp2
  go_ret2
  have hb1 : Below w.heap.size w (w.alloc (.cells #[.slice none 0 0, .slice none 0 0] 69)) := (Below.refl _ w).alloc (Nat.le_refl _) _
  have hs1 : (w.alloc (.cells #[.slice none 0 0, .slice none 0 0] 69)).heap.size = w.heap.size + 1 := by simp
  have hlb := HL.out
  have hbw := HB.out
  rw [hs1] at hlb hbw
  have hcnt : ∀ b, cT (w.heap.size + 1) 0 (lf w.heap.size (.slice none 0 0) []) b = eqN (w.heap.size + 1) b + eqN w.heap.size b := fun b => by
    show eqN _ b + (eqN w.heap.size b + rc (.slice none 0 0) b) = _
    rw [rc_nil]; omega
  refine ⟨w.heap.size + 1, lf w.heap.size (.slice none 0 0) [], by first | rfl | (simp [ptr]), ⟨hlb, ?_, fun b => ?_, ?_, ?_, rfl⟩, hb1.trans (hbw.mono (by omega)), fun b hb => ?_⟩
  · refine at_lf.2 ⟨?_, World.ownsRow_nil _ _ _ _⟩
    rw [hbw.block _ (by omega)]
    exact heap_alloc_new w _
  · rw [hcnt]
    unfold eqN
    split <;> split <;> omega
  · exact (ok_leaf _).2 ⟨Nat.zero_le _, Nat.zero_le _⟩
  · exact List.Pairwise.nil
  · rw [hcnt]
    unfold eqN
    rw [if_neg (by omega), if_neg (by omega)]

theorem len_any {w : World} {q o d : Nat} {t : LT d} {L : List It} (h : TrA w q o d t L) :
    Calls Try.prog 11 #[ptr q] w fun e w' => e = .returned (.int .i64 (L.length : Nat)) ∧ w = w' := by
  obtain ⟨c0, c1, c2, c3, _⟩ := h.cells
  unfold ptr
  clear h
  go_enter Try.func11, Try.ntmps11
  go_wp2_with fail
  refine (given_yes q w c0).mono ?_
  rintro e w' ⟨rfl, hw⟩
  subst hw
  go_wp2
  go_ret
  exact ⟨rfl, rfl⟩

end Go.Proofs.Ytkjmilcocnjjoaa.I
