/-
  Same of the document.
-/
import Derived.Test.YtllhibdjopfcnaaGreatDoorPairs
import Derived.Laws.StructEq
namespace Go.Proofs.YtllhibdjopfcnaaGreatDoor
open Go.RowKit
set_option linter.unusedVariables false

theorem ret_boolS {a b : Bool} (h : a = b) : (Ending.returned (.bool a) : Ending) = .returned (.bool b) := by rw [h]
theorem Tryz.fields46 : (Tryz.prog.fieldsOf 73).toList.map (fun f => (f.name, f.type, f.offset)) = [("Name", 9, 0), ("Value", 9, 1)] := by kernel_rfl
theorem Tryz.under46 : Tryz.prog.underlying 73 = some (.struct (Tryz.prog.fieldsOf 73)) := by kernel_rfl
theorem Tryz.stood46 : Tryz.prog.stoodInHeld 73 = false := by kernel_rfl
theorem Tryz.guard46 : Tryz.prog.eqGuardType Tryz.prog.depth 73 = false := by kernel_rfl
theorem neq46 (a b c d : ByteArray) (w : World) : (binOp .neq 73 (.agg #[.string a, .string b]) (.agg #[.string c, .string d])).run Tryz.prog w = .ok (.bool (!(a.toList == c.toList && b.toList == d.toList))) w := by
  rw [run_neq_struct, run_equalIn_agg w 9999 73 _ _ Tryz.under46 Tryz.stood46]
  have h := Tryz.fields46
  match hfs : (Tryz.prog.fieldsOf 73).toList with
  | [] => rw [hfs] at h; simp at h
  | [_] => rw [hfs] at h; simp at h
  | f1 :: f2 :: f3 :: r => rw [hfs] at h; simp at h
  | [f1, f2] =>
    rw [hfs] at h
    simp at h
    obtain ⟨⟨n1, t1, o1⟩, n2, t2, o2⟩ := h
    simp [Op.eqFields, n1, t1, o1, n2, t2, o2, go_sem]
    by_cases h1 : a.toList = c.toList
    · by_cases h2 : b.toList = d.toList
      · simp [h1, h2]
      · simp [h1, h2]
    · simp [h1]
theorem toList_str (l : List UInt8) : (⟨l.toArray⟩ : ByteArray).toList = l := by
  rw [ByteArray.toList_eq]
theorem neqP (p q : PairL) (w : World) : (binOp .neq 73 (.agg #[.string ⟨p.1.toArray⟩, .string ⟨p.2.toArray⟩]) (.agg #[.string ⟨q.1.toArray⟩, .string ⟨q.2.toArray⟩])).run Tryz.prog w = .ok (.bool (!decide (p = q))) w := by
  rw [neq46, toList_str, toList_str, toList_str, toList_str]
  congr 2
  obtain ⟨p1, p2⟩ := p
  obtain ⟨q1, q2⟩ := q
  by_cases h1 : p1 = q1
  · by_cases h2 : p2 = q2
    · simp [h1, h2]
    · simp [h1, h2]
  · simp [h1]
theorem guardP (x y : Operand) (xs ys : Array Value) (w : World) : (eqGuard .neq 73 x y (.agg xs) (.agg ys)).run Tryz.prog w = .ok () w := run_eqGuard_agg w .neq 73 x y xs ys Tryz.guard46
theorem take_eq_succ {l1 l2 : List PairL} {k : Nat} (h1 : k < l1.length) (h2 : k < l2.length) (h : l1.take k = l2.take k) (e : l1[k] = l2[k]) : l1.take (k + 1) = l2.take (k + 1) := by
  rw [List.take_succ_eq_append_getElem h1, List.take_succ_eq_append_getElem h2, h, e]

set_option maxRecDepth 20000 in
set_option maxHeartbeats 1000000 in
theorem same_any (v1 v2 : Value) (l1 l2 : List PairL) (w : World) (h1 : SeesP w v1 l1) (h2 : SeesP w v2 l2) (hbig : l1.length ≤ 140737488355328) :
    Calls Tryz.prog 31 #[v1, v2] w fun e w' => e = .returned (.bool (decide (l1 = l2))) ∧ ∃ n, w' = w.drewN n := by
  obtain ⟨b1, o1, a1, c1, rfl, g1, _, ha1, hc1⟩ := h1
  obtain ⟨b2, o2, a2, c2, rfl, g2, _, ha2, hc2⟩ := h2
  have HC1 := hid hc1
  have HC2 := hid hc2
  clear hc1 hc2
  obtain ⟨T, hT⟩ : ∃ T, T = decide (l1 = l2) := ⟨_, rfl⟩
  rw [← hT]
  have HT := hid hT
  clear hT
  by_cases hlen : l1.length = l2.length
  · have HL := hid hlen
    have hl' : ((l1.length : Int) != (l2.length : Int)) = false := by simp [hlen]
    clear hlen
    go_enter Tryz.func31, Tryz.ntmps31
    go_wp2_with fail
    go_loopw [5] (fun i wr => ∃ (k : Nat), k ≤ l1.length ∧ i = .int .i64 (k : Int) ∧ l1.take k = l2.take k ∧ ∃ n, wr = w.drewN n) (fun i _ => l1.length - (intOf i).toNat)
    case atStart => exact ⟨0, Nat.zero_le _, rfl, by simp, 0, rfl⟩
    case round =>
      obtain ⟨k, hk, rfl, hsame, n, rfl⟩ := hrel
      have HS := hid hsame
      clear hsame
      have hlen := HL.out
      by_cases hlt : k < l1.length
      · have hlt' : (k : Int) < (l1.length : Int) := by omega
        have hlt2 : k < l2.length := by omega
        have hlt2' : (k : Int) < (l2.length : Int) := by omega
        obtain rfl := ha1 (by intro h; rw [h] at hlt; simp at hlt)
        obtain rfl := ha2 (by intro h; rw [h] at hlt2; simp at hlt2)
        clear hlen
        obtain ⟨d1, d2⟩ := HC1.out k hlt
        obtain ⟨d3, d4⟩ := HC2.out k hlt2
        unfold strV at d1 d2 d3 d4
        have hn := fun w => neqP l1[k] l2[k] w
        have hg := guardP
        have HE := hid (fun e => take_eq_succ hlt hlt2 HS.out e)
        have HNE : Hid (l1[k] ≠ l2[k] → T = false) := by
          unfold Hid
          intro hne
          rw [HT.out, decide_eq_false_iff_not]
          intro e
          apply hne
          subst e
          rfl
        obtain ⟨p, hp⟩ : ∃ p, p = l1[k] := ⟨_, rfl⟩
        obtain ⟨q, hq⟩ : ∃ q, q = l2[k] := ⟨_, rfl⟩
        rw [← hp] at d1 d2 hn HE HNE
        rw [← hq] at d3 d4 hn HE HNE
        clear hp hq
        by_cases hpq : p = q
        · rw [decide_eq_true hpq] at hn
          have HN := hid (HE.out hpq)
          clear HE HNE hpq
          go_wp2_with fail
          go_quiet (fail)
          go_wp2
          go_roundw
          case rel => exact ⟨k + 1, by omega, by go_num, HN.out, _, rfl⟩
          case measure => simp [intOf]; omega
        · rw [decide_eq_false hpq] at hn
          have HN := hid (HNE.out hpq)
          clear HE HNE hpq
          go_wp2_with fail
          go_quiet (fail)
          go_wp2
          go_ret
          exact ⟨ret_bool HN.out.symm, _, World.drewN_drewN _ _ _⟩
      · have hlt' : ¬ (k : Int) < (l1.length : Int) := by omega
        have HN : Hid (T = true) := by
          unfold Hid
          have h := HS.out
          rw [List.take_of_length_le (by omega), List.take_of_length_le (by omega)] at h
          rw [HT.out, decide_eq_true h]
        clear hlen HS
        go_wp2
        go_ret
        exact ⟨ret_bool HN.out.symm, _, rfl⟩
  · have hl' : ((l1.length : Int) != (l2.length : Int)) = true := by
      rw [bne_iff_ne]; omega
    have HN : Hid (T = false) := by
      unfold Hid
      rw [HT.out, decide_eq_false_iff_not]
      intro e
      exact hlen (by rw [e])
    clear hlen
    go_enter Tryz.func31, Tryz.ntmps31
    go_wp2
    go_ret
    exact ⟨ret_bool HN.out.symm, 0, rfl⟩

end Go.Proofs.YtllhibdjopfcnaaGreatDoor
