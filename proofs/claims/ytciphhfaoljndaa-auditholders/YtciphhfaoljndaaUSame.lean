/-
  Same grants.
-/
import Derived.Test.YtciphhfaoljndaaUBase
import Derived.Laws.StructEq
namespace Go.Proofs.Ytciphhfaoljndaa
open Go.RowKit
set_option linter.unusedVariables false
set_option linter.unusedSimpArgs false

theorem Try.fieldsG : (Try.prog.fieldsOf 37).toList.map (fun f => (f.name, f.type, f.offset)) = [("Step", 3, 0), ("From", 3, 1), ("To", 3, 2), ("Cat", 3, 3)] := by kernel_rfl
theorem Try.underG : Try.prog.underlying 37 = some (.struct (Try.prog.fieldsOf 37)) := by kernel_rfl
theorem Try.stoodG : Try.prog.stoodInHeld 37 = false := by kernel_rfl
theorem Try.guardG : Try.prog.eqGuardType Try.prog.depth 37 = false := by kernel_rfl
theorem neqG0 (a b c d e f g h : Int) (w : World) : (binOp .neq 37 (.agg #[.int .i64 a, .int .i64 b, .int .i64 c, .int .i64 d]) (.agg #[.int .i64 e, .int .i64 f, .int .i64 g, .int .i64 h])).run Try.prog w = .ok (.bool (!(a == e && (b == f && (c == g && d == h))))) w := by
  rw [run_neq_struct, run_equalIn_agg w 9999 37 _ _ Try.underG Try.stoodG]
  have hh := Try.fieldsG
  match hfs : (Try.prog.fieldsOf 37).toList with
  | [] => rw [hfs] at hh; simp at hh
  | [_] => rw [hfs] at hh; simp at hh
  | [_, _] => rw [hfs] at hh; simp at hh
  | [_, _, _] => rw [hfs] at hh; simp at hh
  | f1 :: f2 :: f3 :: f4 :: f5 :: r => rw [hfs] at hh; simp at hh
  | [f1, f2, f3, f4] =>
    rw [hfs] at hh
    simp at hh
    obtain ⟨⟨n1, t1, o1⟩, ⟨n2, t2, o2⟩, ⟨n3, t3, o3⟩, n4, t4, o4⟩ := hh
    simp [Op.eqFields, n1, t1, o1, n2, t2, o2, n3, t3, o3, n4, t4, o4, go_sem]
    by_cases h1 : a = e
    · by_cases h2 : b = f
      · by_cases h3 : c = g
        · by_cases h4 : d = h
          · simp [h1, h2, h3, h4]
          · simp [h1, h2, h3, h4]
        · simp [h1, h2, h3]
      · simp [h1, h2]
    · simp [h1]
theorem neqG (x y : GrL) (w : World) : (binOp .neq 37 (.agg #[.int .i64 x.1, .int .i64 x.2.1, .int .i64 x.2.2.1, .int .i64 x.2.2.2]) (.agg #[.int .i64 y.1, .int .i64 y.2.1, .int .i64 y.2.2.1, .int .i64 y.2.2.2])).run Try.prog w = .ok (.bool (!decide (x = y))) w := by
  rw [neqG0]
  obtain ⟨a, b, c, d⟩ := x
  obtain ⟨e, f, g, h⟩ := y
  congr 2
  by_cases h1 : a = e
  · by_cases h2 : b = f
    · by_cases h3 : c = g
      · by_cases h4 : d = h
        · simp [h1, h2, h3, h4]
        · simp [h1, h2, h3, h4]
      · simp [h1, h2, h3]
    · simp [h1, h2]
  · simp [h1]
theorem guardG (x y : Operand) (xs ys : Array Value) (w : World) : (eqGuard .neq 37 x y (.agg xs) (.agg ys)).run Try.prog w = .ok () w := run_eqGuard_agg w .neq 37 x y xs ys Try.guardG
theorem takeG_succ {l1 l2 : List GrL} {k : Nat} (h1 : k < l1.length) (h2 : k < l2.length) (h : l1.take k = l2.take k) (e : l1[k] = l2[k]) : l1.take (k + 1) = l2.take (k + 1) := by
  rw [List.take_succ_eq_append_getElem h1, List.take_succ_eq_append_getElem h2, h, e]
theorem ret_boolG {a b : Bool} (h : a = b) : (Ending.returned (.bool a) : Ending) = .returned (.bool b) := by rw [h]

set_option maxRecDepth 20000 in
set_option maxHeartbeats 2000000 in
theorem sameG_any (v1 v2 : Value) (l1 l2 : List GrL) (w : World) (h1 : SeesG w v1 l1) (h2 : SeesG w v2 l2) (hbig : l1.length ≤ 140737488355328) :
    Calls Try.prog 11 #[v1, v2] w fun e w' => e = .returned (.bool (decide (l1 = l2))) ∧ ∃ n, w' = w.drewN n := by
  obtain ⟨b1, o1, a1, c1, rfl, g1, _, ha1, hc1⟩ := h1
  obtain ⟨b2, o2, a2, c2, rfl, g2, _, ha2, hc2⟩ := h2
  have HC1 := hid hc1
  have HC2 := hid hc2
  clear hc1 hc2
  obtain ⟨T, hT⟩ : ∃ T, T = decide (l1 = l2) := ⟨_, rfl⟩
  rw [← hT]
  have HT := hid hT
  clear hT
  by_cases hlen : l1.length = l2.length
  · have HL := hid hlen
    have hl' : ((l1.length : Int) != (l2.length : Int)) = false := by simp [hlen]
    clear hlen
    go_enter Try.func11, Try.ntmps11
    go_wp2_with fail
    go_loopw [5] (fun i wr => ∃ (k : Nat), k ≤ l1.length ∧ i = .int .i64 (k : Int) ∧ l1.take k = l2.take k ∧ ∃ n, wr = w.drewN n) (fun i _ => l1.length - (intOf i).toNat)
    case atStart => exact ⟨0, Nat.zero_le _, rfl, by simp, 0, rfl⟩
    case round =>
      obtain ⟨k, hk, rfl, hsame, n, rfl⟩ := hrel
      have HS := hid hsame
      clear hsame
      have hlen := HL.out
      by_cases hlt : k < l1.length
      · have hlt' : (k : Int) < (l1.length : Int) := by omega
        have hlt2 : k < l2.length := by omega
        have hlt2' : (k : Int) < (l2.length : Int) := by omega
        obtain rfl := ha1 (by intro h; rw [h] at hlt; simp at hlt)
        obtain rfl := ha2 (by intro h; rw [h] at hlt2; simp at hlt2)
        clear hlen
        obtain ⟨d1, d2, d3, d4⟩ := HC1.out k hlt
        obtain ⟨f1, f2, f3, f4⟩ := HC2.out k hlt2
        have hn := fun w => neqG l1[k] l2[k] w
        have hg := guardG
        have HE := hid (fun e => takeG_succ hlt hlt2 HS.out e)
        have HNE : Hid (l1[k] ≠ l2[k] → T = false) := by
          unfold Hid
          intro hne
          rw [HT.out, decide_eq_false_iff_not]
          intro e
          apply hne
          subst e
          rfl
        obtain ⟨p, hp⟩ : ∃ p, p = l1[k] := ⟨_, rfl⟩
        obtain ⟨q, hq⟩ : ∃ q, q = l2[k] := ⟨_, rfl⟩
        rw [← hp] at d1 d2 d3 d4 hn HE HNE
        rw [← hq] at f1 f2 f3 f4 hn HE HNE
        clear hp hq
        by_cases hpq : p = q
        · rw [decide_eq_true hpq] at hn
          have HN := hid (HE.out hpq)
          clear HE HNE hpq
          go_wp2_with fail
          go_quiet (fail)
          go_wp2
          go_roundw
          case rel => exact ⟨k + 1, by omega, by go_num, HN.out, _, rfl⟩
          case measure => simp [intOf]; omega
        · rw [decide_eq_false hpq] at hn
          have HN := hid (HNE.out hpq)
          clear HE HNE hpq
          go_wp2_with fail
          go_quiet (fail)
          go_wp2
          go_ret
          exact ⟨ret_boolG HN.out.symm, _, World.drewN_drewN _ _ _⟩
      · have hlt' : ¬ (k : Int) < (l1.length : Int) := by omega
        have HN : Hid (T = true) := by
          unfold Hid
          have h := HS.out
          rw [List.take_of_length_le (by omega), List.take_of_length_le (by omega)] at h
          rw [HT.out, decide_eq_true h]
        clear hlen HS
        go_wp2
        go_ret
        exact ⟨ret_boolG HN.out.symm, _, rfl⟩
  · have hl' : ((l1.length : Int) != (l2.length : Int)) = true := by
      rw [bne_iff_ne]; omega
    have HN : Hid (T = false) := by
      unfold Hid
      rw [HT.out, decide_eq_false_iff_not]
      intro e
      exact hlen (by rw [e])
    clear hlen
    go_enter Try.func11, Try.ntmps11
    go_wp2
    go_ret
    exact ⟨ret_boolG HN.out.symm, 0, rfl⟩
end Go.Proofs.Ytciphhfaoljndaa
