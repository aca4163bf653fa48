/-
  The walk of QueueRound.
-/
import Derived.Test.YtebjkgibciiocaaAwake
import Derived.Deep.DeepCutAuto
import Derived.Deep.CutBlock
import Derived.Deep.LoopGhost
namespace Go.Proofs.Ytebjkgibciiocaa
open Go.RowKit
set_option linter.unusedVariables false

/-- m numbers in turn, from f on. -/
def seqL (f m : Nat) : List Int := (List.range' f m).map Int.ofNat

theorem seqL_length (f m : Nat) : (seqL f m).length = m := by simp [seqL]

theorem seqL_push (f m : Nat) : seqL f m ++ [((f + m : Nat) : Int)] = seqL f (m + 1) := by
  simp [seqL, List.range'_concat]

theorem seqL_pop (f m : Nat) : seqL f (m + 1) = (f : Int) :: seqL (f + 1) m := by
  simp [seqL, List.range'_succ]

theorem and15 (a : Int) : ∃ c : Nat, c ≤ 15 ∧ IntKind.i64.wrap ((BitVec.ofInt IntKind.i64.bits a &&& BitVec.ofInt IntKind.i64.bits 15).toNat : Int) = (c : Int) := by
  refine ⟨(BitVec.ofInt IntKind.i64.bits a &&& BitVec.ofInt IntKind.i64.bits 15).toNat, ?_, ?_⟩
  · rw [BitVec.toNat_and]
    exact Nat.and_le_right
  · have h : (BitVec.ofInt IntKind.i64.bits a &&& BitVec.ofInt IntKind.i64.bits 15).toNat ≤ 15 := by
      rw [BitVec.toNat_and]
      exact Nat.and_le_right
    rw [IntKind.wrap_i64]
    omega

theorem bits15 (a : Int) : ∃ c : Nat, c ≤ 15 ∧ bits .and .i64 a 15 = (c : Int) := by
  obtain ⟨c, h, e⟩ := and15 a
  refine ⟨c, h, ?_⟩
  rw [← e]
  rfl

set_option maxRecDepth 20000 in
set_option maxHeartbeats 4000000 in
theorem round_good (room a b : Int) (w : World) (h1 : 1 ≤ room) (h2 : room ≤ 65536) :
    Calls Try.prog 7 #[.int .i64 room, .int .i64 a, .int .i64 b] w fun e w' => e = .returned (.bool true) ∧ Below w.heap.size w w' := by
  obtain ⟨ca, hca, ea⟩ := bits15 a
  obtain ⟨cb, hcb, eb⟩ := bits15 b
  go_enter Try.func7, Try.ntmps7
  go_wp2_with fail
  refine (new_B room _ h1 h2).mono ?_
  rintro e w1 ⟨rfl, hP⟩
  have HP0 := hid hP
  clear hP
  go_wp2_with fail
  go_loopg [9, 10, 11] 40 (fun g nx fi rd wr => ∃ (r f m d N : Nat), r ≤ 40 ∧ 40 - r ≤ g ∧ nx = .int .i64 N ∧ fi = .int .i64 f ∧ rd = .int .i64 r ∧ N = f + m ∧ N + d ≤ 15 * r ∧ QB w wr w.heap.size room d (seqL f m))
  case atStart => exact ⟨0, 0, 0, 0, 0, by omega, by omega, rfl, rfl, rfl, rfl, by omega, HP0.out⟩
  case round =>
    clear HP0
    obtain ⟨r, f, m, d, N, hr, hg, rfl, rfl, rfl, hN, hsum, hP⟩ := hrel
    by_cases hlt : r < 40
    · have HP := hid hP
      have HN := hid hN
      clear hP hN
      go_wp2_with fail
      rw [decide_eq_true (show (r : Int) < 40 by omega)]
      go_loopg [9, 12] ca (fun g nx i wq => ∃ (j m d N : Nat), j ≤ ca ∧ ca - j ≤ g ∧ nx = .int .i64 N ∧ i = .int .i64 j ∧ N = f + m ∧ N + d ≤ 15 * r + j ∧ QB w wq w.heap.size room d (seqL f m))
      case atStart => exact ⟨0, m, d, N, by omega, by omega, rfl, rfl, HN.out, by omega, HP.out⟩
      case round =>
        clear HP HN hsum
        obtain ⟨j, m, d, N, hj, hgj, rfl, rfl, hN, hsum, hP⟩ := hrel
        have hsl := seqL_length f m
        by_cases hjc : j < ca
        · by_cases hroom : ((seqL f m).length : Int) < room
          · have hpu := push_B _ _ _ _ ((N : Nat) : Int) _ _ hP hroom
            rw [hN, seqL_push, ← hN] at hpu
            have HPU := hid hpu
            clear hpu hP hsl hroom
            have HN := hid hN
            clear hN
            go_wp2_with fail
            refine HPU.out.mono ?_
            clear HPU
            rintro e w2 ⟨rfl, h2⟩
            have H2 := hid h2
            clear h2
            go_wp2
            go_roundg (ca - (j + 1))
            case measure => omega
            case rel => exact ⟨j + 1, m + 1, d, N + 1, by omega, Nat.le_refl _, by go_num, by go_num, by have := HN.out; omega, by omega, H2.out⟩
          · have hpu := full_B _ _ _ _ ((N : Nat) : Int) _ _ hP (by omega) (by omega) (by omega)
            have HPU := hid hpu
            clear hpu hP hsl hroom
            have HN := hid hN
            clear hN
            go_wp2_with fail
            refine HPU.out.mono ?_
            clear HPU
            rintro e w2 ⟨rfl, h2⟩
            have H2 := hid h2
            clear h2
            go_wp2
            go_roundg (ca - (j + 1))
            case measure => omega
            case rel => exact ⟨j + 1, m, d + 1, N, by omega, Nat.le_refl _, rfl, by go_num, HN.out, by omega, H2.out⟩
        · have HP := hid hP
          have HN := hid hN
          have hsm : N + d ≤ 15 * (r + 1) := by omega
          clear hP hN hsl hsum
          go_wp2_with fail
          try rw [decide_eq_false (show ¬ (j : Int) < (ca : Int) by omega)]
          go_loopg [10, 13] cb (fun g fi i wq => ∃ (j f m : Nat), j ≤ cb ∧ cb - j ≤ g ∧ fi = .int .i64 f ∧ i = .int .i64 j ∧ N = f + m ∧ QB w wq w.heap.size room d (seqL f m))
          case atStart => exact ⟨0, f, m, by omega, by omega, rfl, rfl, HN.out, HP.out⟩
          case round =>
            clear HP HN
            obtain ⟨i, f, m, hi, hgi, rfl, rfl, hN, hP⟩ := hrel
            have hsl := seqL_length f m
            by_cases hic : i < cb
            · cases m with
              | zero =>
                have hpo := popno_B _ _ _ _ _ (show QB w _ w.heap.size room d [] from hP)
                have HPO := hid hpo
                have HP := hid hP
                have hfN : ¬ (f : Int) < (N : Int) := by omega
                have HN := hid hN
                clear hN hP hpo hsl
                go_wp2_with fail
                refine HPO.out.mono ?_
                clear HPO
                rintro e w2 ⟨rfl, hw⟩
                subst hw
                go_wp2
                go_roundg (cb - (i + 1))
                case measure => omega
                case rel => exact ⟨i + 1, f, 0, by omega, Nat.le_refl _, rfl, by go_num, HN.out, HP.out⟩
              | succ m =>
                rw [seqL_pop] at hP
                have hpo := pop_B _ _ _ _ _ _ _ hP
                have HPO := hid hpo
                have hfN : (f : Int) < (N : Int) := by omega
                have hff : ((f : Int) != (f : Int)) = false := by simp
                have HN := hid hN
                clear hN hP hpo hsl
                go_wp2_with fail
                refine HPO.out.mono ?_
                clear HPO
                rintro e w2 ⟨rfl, h2⟩
                have H2 := hid h2
                clear h2
                go_wp2
                go_roundg (cb - (i + 1))
                case measure => omega
                case rel => exact ⟨i + 1, f + 1, m, by omega, Nat.le_refl _, by go_num, by go_num, by have := HN.out; omega, H2.out⟩
            · have hle := hP.le
              have hL := len_B _ _ _ _ _ _ hP
              rw [hsl] at hL hle
              have HP := hid hP
              have HL := hid hL
              have HN := hid hN
              have hw1 : IntKind.i64.wrap ((N : Int) - f) = (N : Int) - f := by rw [IntKind.wrap_i64]; omega
              have hb1 : ((m : Int) != (N : Int) - f) = false := by simp; omega
              have hb2 : ¬ room < (m : Int) := by omega
              clear hP hL hN hsl
              go_wp2_with fail
              refine HL.out.mono ?_
              rintro e w2 ⟨rfl, hw⟩
              subst hw
              go_wp2_with fail
              refine HL.out.mono ?_
              rintro e w2 ⟨rfl, hw⟩
              subst hw
              go_wp2
              go_roundg (40 - (r + 1))
              case measure => omega
              case rel => exact ⟨r + 1, f, m, d, N, by omega, Nat.le_refl _, rfl, rfl, by go_num, HN.out, by omega, HP.out⟩
    · have HB := hid hP.bel
      clear hP hN
      go_wp2_with fail
      refine (awake_any _).mono ?_
      rintro e w7 ⟨rfl, hB7⟩
      have hfin := HB.out.trans (hB7.mono HB.out.size)
      clear hB7
      go_wp2
      go_ret
      exact ⟨rfl, hfin⟩

set_option maxRecDepth 20000 in
set_option maxHeartbeats 1000000 in
theorem round_bad (room a b : Int) (w : World) (h : room < 1 ∨ 65536 < room) :
    Calls Try.prog 7 #[.int .i64 room, .int .i64 a, .int .i64 b] w fun e w' => e = .returned (.bool true) ∧ Below w.heap.size w w' := by
  have hN := new_bad room w h
  rcases h with h | h
  · go_enter Try.func7, Try.ntmps7
    go_wp2_with fail
    refine hN.mono ?_
    rintro e w1 ⟨rfl, hw1⟩
    subst hw1
    go_wp2_with fail
    refine (awake_any _).mono ?_
    rintro e w2 ⟨rfl, hB⟩
    go_wp2
    go_ret
    exact ⟨rfl, hB⟩
  · have h' : ¬ room < 1 := by omega
    go_enter Try.func7, Try.ntmps7
    go_wp2_with fail
    refine hN.mono ?_
    rintro e w1 ⟨rfl, hw1⟩
    subst hw1
    go_wp2_with fail
    refine (awake_any _).mono ?_
    rintro e w2 ⟨rfl, hB⟩
    go_wp2
    go_ret
    exact ⟨rfl, hB⟩

theorem round_walk (room a b : Int) (w : World) :
    Calls Try.prog 7 #[.int .i64 room, .int .i64 a, .int .i64 b] w fun e w' => e = .returned (.bool true) ∧ Below w.heap.size w w' := by
  by_cases h : 1 ≤ room ∧ room ≤ 65536
  · exact round_good room a b w h.1 h.2
  · exact round_bad room a b w (by omega)

end Go.Proofs.Ytebjkgibciiocaa
