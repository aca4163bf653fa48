/-
  The text of a head, as the code writes it: the closure.
-/
import Derived.Test.YtfdjnkjiffdbfaaGreatDoorHAwake
import Derived.Lib.AppendStr
namespace Go.Proofs.YtfdjnkjiffdbfaaGreatDoor
open Go.RowKit
set_option linter.unusedVariables false

theorem cellsN_bytes (l : List UInt8) : cellsN .u8 (l.map UInt8.toNat) = l.map fun b => Value.int .u8 b.toNat := by
  simp [cellsN, Function.comp]
/-- 'append(v, text...)'. -/
theorem wpList_appStr {w : World} {ops : Array Oper} {rest : List Oper} {o : Oper} {a : Act} {Q : Exit → Act → World → Prop} (hgd : o.guard = none) (s x : Operand)
    (ho : o.op = .call { callee := .builtin .append, args := #[s, x], argTypes := #[39, 9] }) (base : Nat) (v : Value) (out : List UInt8) (hs : a.eval s = v) (hown : OwnsB w base v out)
    (y : List UInt8) (hx : a.eval x = .string ⟨y.toArray⟩) (hb : out.length + y.length ≤ 140737488355328) (hbase : base ≤ w.heap.size)
    (h : ∀ v' w', OwnsB w' base v' (out ++ y) → w.grownBy w' v.ownBlock → wpList Tryz.prog ops Q rest (a.put o.dst v') w') : wpList Tryz.prog ops Q (o :: rest) a w := by
  obtain ⟨i0, hi, hz0, hz1, hz2⟩ := info_parts Tryz.info5
  unfold OwnsB OwnsN at hown
  rw [List.length_map, cellsN_bytes] at hown
  have hsz : (⟨y.toArray⟩ : ByteArray).size = y.length := size_list _
  refine Go.Lib.wpList_append_own_string w hgd s x 39 9 ho base 5 i0 Tryz.underlying39 Tryz.underlying9 hi hz0 hz1 hz2 v _ _ hs hown ⟨y.toArray⟩ hx (by rw [hsz]; simp only [maxLen]; omega) (by rw [hsz]; exact hb) hbase ?_
  intro v' w' h1 h2 _
  refine h v' w' ?_ h2
  unfold OwnsB OwnsN
  rw [List.length_map, cellsN_bytes, List.length_append]
  rw [hsz] at h1
  simpa [Go.Lib.strCells] using h1

/-- At b lie texts, whole. -/
def PartsAt (w : World) (b : Nat) (l : List (List UInt8)) : Prop := w.heap[b]? = some (.cells (l.map strV).toArray 9 (0, 0))
theorem PartsAt.lt {w : World} {b : Nat} {l : List (List UInt8)} (h : PartsAt w b l) : b < w.heap.size := (Array.getElem?_eq_some_iff.1 h).1
theorem PartsAt.cell {w : World} {b : Nat} {l : List (List UInt8)} (h : PartsAt w b l) (k : Nat) (hk : k < l.length) : w.cell? ⟨b, k, none⟩ = some (strV l[k]) := by
  unfold PartsAt at h
  simp [World.cell?, h, hk]
theorem PartsAt.apart {w : World} {b : Nat} {l : List (List UInt8)} (h : PartsAt w b l) {base : Nat} {v : Value} {out : List UInt8} (hO : OwnsB w base v out) : some b ≠ v.ownBlock := by
  intro e
  rcases hO.2 with ⟨rfl, _⟩ | ⟨g, cap, cur, rfl, _, hg, _⟩
  · simp [Value.ownBlock] at e
  · simp [Value.ownBlock] at e
    subst e
    unfold PartsAt at h
    rw [h] at hg
    simp at hg
set_option maxRecDepth 20000 in
set_option maxHeartbeats 4000000 in
theorem put_any (l : List (List UInt8)) (b q : Nat) (v : Value) (out : List UInt8) (w : World) (hP : PartsAt w b l) (hV : VarAt 39 w q v) (hO : OwnsB w (q + 1) v out) (hqb : q ≠ b) (hl : l.length ≤ 1000) (hb : out.length + l.flatten.length ≤ 140737488355328) :
    Calls Tryz.prog 30 #[.slice (some ⟨b, 0, none⟩) l.length l.length, .pointer (some ⟨q, 0, none⟩)] w fun e w' => e = .returned (.tuple #[]) ∧ ∃ v', VarAt 39 w' q v' ∧ OwnsB w' (q + 1) v' (out ++ l.flatten) ∧ Below q w w' := by
  have HP := hid hP
  have HV := hid hV
  have HO := hid hO
  clear hP hV hO
  go_enter Tryz.func30, Tryz.ntmps30
  go_wp2_with fail
  go_loopw [7] (fun i wr => ∃ (k : Nat) (u : Value), k ≤ l.length ∧ i = .int .i64 (k : Int) ∧ VarAt 39 wr q u ∧ OwnsB wr (q + 1) u (out ++ (l.take k).flatten) ∧ PartsAt wr b l ∧ Below q w wr) (fun i _ => l.length - (intOf i).toNat)
  case atStart => exact ⟨0, v, Nat.zero_le _, rfl, HV.out, by simpa using HO.out, HP.out, Below.refl _ _⟩
  case round =>
    obtain ⟨k, u, hk, rfl, hV, hO, hP, hB⟩ := hrel
    by_cases hlt : k < l.length
    · have hlt' : (k : Int) < (l.length : Int) := by omega
      have c1 := hP.cell k hlt
      unfold strV at c1
      obtain ⟨k1, k2⟩ := hV.cells
      have hft : (l.take (k + 1)).flatten = (l.take k).flatten ++ l[k] := by
        rw [List.take_succ_eq_append_getElem hlt, List.flatten_append]
        simp
      have hfl : (out ++ (l.take k).flatten).length + l[k].length ≤ 140737488355328 := by
        have : l.flatten.length = ((l.take k).flatten ++ (l[k] ++ (l.drop (k + 1)).flatten)).length := by
          rw [← List.append_assoc, ← hft, ← List.flatten_append, List.take_append_drop]
        rw [this] at hb
        simp only [List.length_append] at hb ⊢
        omega
      have hap := hP.apart hO
      have hqlt := hV.lt
      have hblt := hP.lt
      obtain ⟨x, hx⟩ : ∃ x, x = l[k] := ⟨_, rfl⟩
      rw [← hx] at c1 hft hfl
      obtain ⟨ys, hys⟩ : ∃ ys, ys = out ++ (l.take k).flatten := ⟨_, rfl⟩
      have HF : Hid (ys ++ x = out ++ (l.take (k + 1)).flatten) := by unfold Hid; rw [hft, hys, List.append_assoc]
      rw [← hys] at hO hfl
      have HOk := hid hO
      have HVk := hid hV
      have HPk := hid hP
      have HBk := hid hB
      have HAP := hid hap
      clear hx hys hft hO hV hP hB hap
      go_wp2_with (first
        | (at_builtin
           refine wpList_appStr rfl _ _ rfl (q + 1) u ys rfl HOk.out x rfl hfl (by omega) ?_
           intro v4 w4 h1 h2
           obtain ⟨ao4, n4, cap4, rfl⟩ : ∃ ao n cap, v4 = .slice ao n cap := by obtain ⟨ao, cap, h⟩ := OwnsB.shape h1; exact ⟨ao, _, cap, h⟩
           have hq : VarAt 39 w4 q u := by
             have hq1 := HVk.out
             unfold VarAt at hq1 ⊢
             rw [h2.block q hqlt (fun h => by have := OwnsB.block HOk.out q h.symm; omega)]
             exact hq1
           have hp4 : PartsAt w4 b l := by
             have hp1 := HPk.out
             unfold PartsAt at hp1 ⊢
             rw [h2.block b hblt HAP.out]
             exact hp1
           have HB4 := hid (below_grownBy HBk.out h2 (fun j hj => by have := OwnsB.block HOk.out j hj; omega) (by omega))
           have HO4 := hid h1
           have HV4 := hid hq
           have HP4 := hid hp4
           obtain ⟨k5, k6⟩ := hq.cells
           clear h1 h2 hq hp4)
        | fail)
      have HV5 := hid (HV4.out.store (v' := .slice ao4 n4 cap4))
      have HO5 : Hid (OwnsB (w4.setCell ⟨q, 0, none⟩ (.slice ao4 n4 cap4)) (q + 1) (.slice ao4 n4 cap4) (out ++ (l.take (k + 1)).flatten)) := by
        unfold Hid
        rw [← HF.out]
        exact ownsRow_setCell_below HO4.out (a := ⟨q, 0, none⟩) (by simp) _
      have HP5 : Hid (PartsAt (w4.setCell ⟨q, 0, none⟩ (.slice ao4 n4 cap4)) b l) := by
        have hp1 := HP4.out
        unfold Hid PartsAt at *
        rw [Below.heap_setCell w4 ⟨q, 0, none⟩ (.slice ao4 n4 cap4) b (fun e => hqb e.symm)]
        exact hp1
      have HB5 := hid (HB4.out.setCell (p := ⟨q, 0, none⟩) (by simp) (.slice ao4 n4 cap4))
      (try go_wp2)
      go_roundw
      case rel => exact ⟨k + 1, (.slice ao4 n4 cap4), by omega, by go_num, HV5.out, HO5.out, HP5.out, HB5.out⟩
      case measure => simp [intOf]; omega
    · have hlt' : ¬ (k : Int) < (l.length : Int) := by omega
      rw [List.take_of_length_le (by omega)] at hO
      have HOk := hid hO
      have HVk := hid hV
      have HBk := hid hB
      clear hO hV hB hP
      go_wp2
      go_returns
      exact ⟨rfl, u, HVk.out, HOk.out, HBk.out⟩
end Go.Proofs.YtfdjnkjiffdbfaaGreatDoor
