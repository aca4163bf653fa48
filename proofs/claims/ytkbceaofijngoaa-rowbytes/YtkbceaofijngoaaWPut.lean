/-
  Writing a row's bytes: appendNumber, appendText; the document's text.
-/
import Derived.Test.YtkbceaofijngoaaWSize
import Derived.Test.YtkbceaofijngoaaLRPut
import Derived.Lib.AppendStr
namespace Go.Proofs.Ytkbceaofijngoaa
open Go.RowKit
set_option linter.unusedVariables false

set_option maxHeartbeats 1000000 in
theorem rowNumber_any (n : Nat) (v : Value) (xs : List Nat) (w : World) (B : Nat) (hO : OwnsN .u8 5 w B v xs) (hB : B ≤ w.heap.size) (hn : n < 9223372036854775808) (hlen : xs.length ≤ 1000000) :
    Calls Try.prog 26 #[v, .int .i64 (n : Int)] w fun e w' => ∃ v', e = .returned v' ∧ OwnsN .u8 5 w' B v' (xs ++ numB n) ∧ Below B w w' := by
  have hnl : (numB n).length ≤ 9 := numB_len 8 n (by simp; omega)
  have HO := hid hO
  have HNL := hid hnl
  clear hO hnl
  go_enter Try.func26, Try.ntmps26
  go_wp2_with fail
  go_loopw [0, 1] (fun u i wr => ∃ (m : Nat) (ys : List Nat), m ≤ n ∧ i = .int .i64 (m : Int) ∧ OwnsN .u8 5 wr B u ys ∧ ys ++ numB m = xs ++ numB n ∧ Below B w wr ∧ B ≤ wr.heap.size) (fun _ i _ => (intOf i).toNat)
  case atStart => exact ⟨n, xs, Nat.le_refl _, rfl, HO.out, rfl, Below.refl _ _, hB⟩
  case round =>
    obtain ⟨m, ys, hm, rfl, hO, hE, hBl, hBs⟩ := hrel
    have hnl := HNL.out
    have hyl : ys.length + (numB m).length = xs.length + (numB n).length := by rw [← List.length_append, hE, List.length_append]
    have hyl2 : ys.length ≤ 1000009 := by omega
    have hm63 : m < 9223372036854775808 := by omega
    clear hyl hnl
    have HE := hid hE
    have HO := hid hO
    have HBl := hid hBl
    clear hE hO hBl
    by_cases hlt : m < 128
    · have hlt' : decide (128 ≤ (m : Int)) = false := by simp; omega
      go_wp2_with (first
        | (at_builtin
           refine wpList_appN rowBytes rfl _ _ rfl B u0 ys rfl (HO.out.below (below_alloc wr _)) _ [m] rfl (sees_b1 _ _ m (by first | rfl | omega)) (by simp; omega) (by simp; omega) ?_
           intro v2 w2 h1 h2
           have HO2 := hid h1
           have HB2 := hid (below_grownBy (HBl.out.trans ((below_alloc wr _).mono hBs)) h2 (OwnsN.block HO.out) (by simp; omega))
           clear h1 h2)
        | fail)
      go_ret
      rw [← numB_small hlt, HE.out] at HO2
      exact ⟨_, rfl, HO2.out, HB2.out⟩
    · have hge : 128 ≤ (m : Int) := by omega
      go_wp2_with (first
        | (at_builtin
           refine wpList_appN rowBytes rfl _ _ rfl B u0 ys rfl (HO.out.below (below_alloc wr _)) _ [m % 128 + 128] rfl (sees_b1 _ _ _ (by rw [show (127 : Int) = ((127 : Nat) : Int) from rfl, i64_and m 127 (by omega) (by omega), and127, show (128 : Int) = ((128 : Nat) : Int) from rfl, i64_or _ 128 (by omega) (by omega), or128 _ (by omega)]; omega)) (by simp; omega) (by simp; omega) ?_
           intro v2 w2 h1 h2
           have HO2 := hid h1
           have HB2 := hid (below_grownBy (HBl.out.trans ((below_alloc wr _).mono hBs)) h2 (OwnsN.block HO.out) (by simp; omega))
           clear h1 h2)
        | fail)
      go_roundw
      case rel =>
        refine ⟨m / 128, ys ++ [m % 128 + 128], by omega, by go_num, HO2.out, ?_, HB2.out, ?_⟩
        · rw [← HE.out, numB_big hlt]
          simp
        · have := HB2.out.size
          omega
      case measure => simp [intOf]; omega

theorem rowNumber_int (z : Int) (v : Value) (xs : List Nat) (w : World) (B : Nat) (hO : OwnsN .u8 5 w B v xs) (hB : B ≤ w.heap.size) (h0 : 0 ≤ z) (hn : z < 9223372036854775808) (hlen : xs.length ≤ 1000000) :
    Calls Try.prog 26 #[v, .int .i64 z] w fun e w' => ∃ v', e = .returned v' ∧ OwnsN .u8 5 w' B v' (xs ++ numB z.toNat) ∧ Below B w w' := by
  have := rowNumber_any z.toNat v xs w B hO hB (by omega) hlen
  rwa [Int.toNat_of_nonneg h0] at this


theorem strCells_bytes (y : ByteArray) : Go.Lib.strCells y = cellsN .u8 (bytesOf y) := by
  simp [Go.Lib.strCells, cellsN, bytesOf]
/-- 'append(v, text...)', v the call's own bytes. -/
theorem wpList_appStr {w : World} {ops : Array Oper} {rest : List Oper} {o : Oper} {a : Act} {Q : Exit → Act → World → Prop} (hgd : o.guard = none) (s x : Operand)
    (ho : o.op = .call { callee := .builtin .append, args := #[s, x], argTypes := #[46, 9] }) (base : Nat) (v : Value) (out : List Nat) (hs : a.eval s = v) (hown : OwnsN .u8 5 w base v out)
    (y : ByteArray) (hx : a.eval x = .string y) (hb : out.length + y.size ≤ 140737488355328) (hbase : base ≤ w.heap.size)
    (h : ∀ v' w', OwnsN .u8 5 w' base v' (out ++ bytesOf y) → w.grownBy w' v.ownBlock → wpList Try.prog ops Q rest (a.put o.dst v') w') : wpList Try.prog ops Q (o :: rest) a w := by
  obtain ⟨i0, hi, hz0, hz1, hz2⟩ := info_parts Try.info5
  refine Go.Lib.wpList_append_own_string w hgd s x 46 9 ho base 5 i0 Try.underlying46 Try.underlying9 hi hz0 hz1 hz2 v _ _ hs hown y hx (by simp only [maxLen]; omega) hb hbase ?_
  intro v' w' h1 h2 _
  refine h v' w' ?_ h2
  unfold OwnsN
  rw [cellsN_app, List.length_append, bytesOf_len, ← strCells_bytes]
  exact h1

set_option maxHeartbeats 1000000 in
theorem appendText_any (y : ByteArray) (v : Value) (xs : List Nat) (w : World) (B : Nat) (hO : OwnsN .u8 5 w B v xs) (hB : B ≤ w.heap.size) (hn : y.size ≤ 1000000) (hlen : xs.length ≤ 900000) :
    Calls Try.prog 25 #[v, .string y] w fun e w' => ∃ v', e = .returned v' ∧ OwnsN .u8 5 w' B v' (xs ++ textB y) ∧ Below B w w' := by
  have hR := rowNumber_int (y.size : Int) v xs w B hO hB (by omega) (by omega) (by omega)
  rw [show ((y.size : Int)).toNat = y.size by omega] at hR
  have HL := hid (numB_len5 (n := y.size) (by omega))
  clear hO
  go_enter Try.func25, Try.ntmps25
  go_wp2_with fail
  refine hR.mono ?_
  clear hR
  rintro e w1 ⟨v1, rfl, hO1, hB1⟩
  have HO1 := hid hO1
  have HB1 := hid hB1
  have hs1 := hB1.size
  have hl1 : (xs ++ numB y.size).length ≤ 1000000 := by have := HL.out; rw [List.length_append]; omega
  clear hO1 hB1
  go_wp2_with (first
    | (at_builtin
       refine wpList_appStr rfl _ _ rfl B v1 (xs ++ numB y.size) rfl HO1.out y rfl (by omega) (by omega) ?_
       intro v2 w2 h1 h2
       have HO2 := hid h1
       have HB2 := hid (below_grownBy HB1.out h2 (OwnsN.block HO1.out) (by omega))
       clear h1 h2)
    | fail)
  go_ret
  exact ⟨_, rfl, by rw [textB, ← List.append_assoc]; exact HO2.out, HB2.out⟩

set_option maxHeartbeats 1000000 in
theorem rtext_any (y : ByteArray) (v : Value) (xs : List Nat) (w : World) (B : Nat) (hO : OwnsN .u8 5 w B v xs) (hB : B ≤ w.heap.size) (hn : y.size ≤ 1000000) (hlen : xs.length ≤ 900000) :
    Calls Try.prog 28 #[v, .string y] w fun e w' => ∃ v', e = .returned v' ∧ OwnsN .u8 5 w' B v' (xs ++ textB y) ∧ Below B w w' := by
  have hR := count_int (y.size : Int) v xs w B hO hB (by omega) (by omega) (by omega)
  rw [show ((y.size : Int)).toNat = y.size by omega] at hR
  have HL := hid (numB_len5 (n := y.size) (by omega))
  clear hO
  go_enter Try.func28, Try.ntmps28
  go_wp2_with fail
  refine hR.mono ?_
  clear hR
  rintro e w1 ⟨v1, rfl, hO1, hB1⟩
  have HO1 := hid hO1
  have HB1 := hid hB1
  have hs1 := hB1.size
  have hl1 : (xs ++ numB y.size).length ≤ 1000000 := by have := HL.out; rw [List.length_append]; omega
  clear hO1 hB1
  go_wp2_with (first
    | (at_builtin
       refine wpList_appStr rfl _ _ rfl B v1 (xs ++ numB y.size) rfl HO1.out y rfl (by omega) (by omega) ?_
       intro v2 w2 h1 h2
       have HO2 := hid h1
       have HB2 := hid (below_grownBy HB1.out h2 (OwnsN.block HO1.out) (by omega))
       clear h1 h2)
    | fail)
  go_ret
  exact ⟨_, rfl, by rw [textB, ← List.append_assoc]; exact HO2.out, HB2.out⟩

end Go.Proofs.Ytkbceaofijngoaa
