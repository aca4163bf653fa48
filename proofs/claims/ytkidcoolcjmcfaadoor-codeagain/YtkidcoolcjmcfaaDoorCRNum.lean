/-
  The document's Number of any text.
-/
import Derived.Test.YtkidcoolcjmcfaaDoorRTrim
namespace Go.Proofs.YtkidcoolcjmcfaaDoor
open Go.RowKit
set_option linter.unusedVariables false
set_option linter.unusedSimpArgs false
set_option maxRecDepth 100000

/-- A number, or none. -/
def NumQ (D : Option Int) (w : World) (e : Ending) (w' : World) : Prop :=
  ∃ a, e = .returned (.tuple #[.int .i64 a, .bool D.isSome]) ∧ (∀ v, D = some v → a = v) ∧ w' = w
/-- What is told behind the digits. -/
def numEnd (B : Bool) (N : Option Int) : Option Int :=
  match N with
  | none => none
  | some n => if B = true then some n else if n = -9223372036854775808 then none else some (-n)
theorem numQ_none {D : Option Int} {w : World} (a : Int) (h : D = none) : NumQ D w (.returned (.tuple #[.int .i64 a, .bool false])) w := by
  subst h
  exact ⟨a, rfl, fun v hv => (by cases hv), rfl⟩
theorem numQ_some {D : Option Int} {w : World} {a : Int} (h : D = some a) : NumQ D w (.returned (.tuple #[.int .i64 a, .bool true])) w := by
  subst h
  exact ⟨a, rfl, fun v hv => (by cases hv; rfl), rfl⟩
theorem negL_drop {n : Int} {T : List UInt8} {k : Nat} (h : k < T.length) : negL n (T.drop k) = if isDg T[k] = false ∨ n < -922337203685477580 ∨ (n = -922337203685477580 ∧ 56 < T[k].toNat) then none else negL (10 * n - ((T[k].toNat : Int) - 48)) (T.drop (k + 1)) := by
  rw [List.drop_eq_getElem_cons h, negL]
set_option maxHeartbeats 8000000 in
theorem rnumber_any (l : List UInt8) (w : World) (hs : l.length ≤ 140737488355328) :
    Calls Tryd.prog 40 #[.string ⟨l.toArray⟩] w (NumQ (docNum l) w) := by
  have hsz : (⟨l.toArray⟩ : ByteArray).size = l.length := rfl
  obtain ⟨B, hB⟩ : ∃ B, B = belowB l := ⟨_, rfl⟩
  obtain ⟨T, hT⟩ : ∃ T, T = magT l := ⟨_, rfl⟩
  obtain ⟨X, hX⟩ : ∃ X, X = badT l := ⟨_, rfl⟩
  obtain ⟨N, hN⟩ : ∃ N, N = negL 0 T := ⟨_, rfl⟩
  obtain ⟨D, hD⟩ : ∃ D, D = docNum l := ⟨_, rfl⟩
  have HX : Hid (X = (T.isEmpty || (decide (1 < T.length) && (T.head? == some 48)) || (B && (T.head? == some 48)))) := hid (by rw [hX, badT, ← hT, ← hB])
  have HD : Hid (D = if X = true then none else numEnd B N) := hid (by rw [hD, docNum, ← hX, ← hB, hN, hT]; rfl)
  have HT : Hid (T = if B = true then l.drop 1 else l) := hid (by rw [hT, magT, ← hB])
  have HB : Hid (B = (decide (1 < l.length) && (l.head? == some 45))) := hid (by rw [hB, belowB])
  have HN := hid hN
  have htl : T.length ≤ l.length := by
    rw [HT.out]
    split <;> simp
  rw [← hD]
  clear hB hT hX hN hD
  go_enter Tryd.func40, Tryd.ntmps40
  go_upto_region 2 with fail
  go_cut [5] (fun x5 wx => x5 = .bool B ∧ Hid (w = wx))
  case first =>
    by_cases h1 : 1 < l.length
    · have h1i : (1 : Int) < (l.length : Int) := by omega
      have i1 := index_byte ⟨l.toArray⟩ .i64 0 0 rfl (show 0 < (⟨l.toArray⟩ : ByteArray).size by omega)
      rw [show (⟨l.toArray⟩ : ByteArray)[0]'(show 0 < (⟨l.toArray⟩ : ByteArray).size by omega) = l[0] from rfl] at i1
      have HH : Hid (B = (l[0] == 45)) := hid (by
        rw [HB.out, decide_eq_true h1, List.head?_eq_getElem?, List.getElem?_eq_getElem (by omega)]
        simp)
      obtain ⟨b, hb⟩ : ∃ b, b = l[0] := ⟨_, rfl⟩
      rw [← hb] at i1 HH
      clear hb
      by_cases he : b = 45
      · have f1 : ((b.toNat : Int) == 45) = true := by rw [he]; rfl
        have HE : Hid (B = true) := hid (by rw [HH.out, he]; rfl)
        clear he HH
        go_wp2
        go_meet
        case rel => exact ⟨by rw [HE.out], hid rfl⟩
      · have f1 : ((b.toNat : Int) == 45) = false := by
          rw [beq_eq_false_iff_ne]
          intro e
          exact he (UInt8.toNat_inj.1 (by show b.toNat = 45; omega))
        have HE : Hid (B = false) := hid (by rw [HH.out, beq_eq_false_iff_ne]; exact he)
        clear he HH
        go_wp2
        go_meet
        case rel => exact ⟨by rw [HE.out], hid rfl⟩
    · have h1i : ¬ (1 : Int) < (l.length : Int) := by omega
      have HE : Hid (B = false) := hid (by rw [HB.out, decide_eq_false h1]; rfl)
      clear h1
      go_wp2
      go_meet
      case rel => exact ⟨by rw [HE.out], hid rfl⟩
  case rest =>
    obtain ⟨rfl, HW⟩ := hcut
    have hw := HW.out
    subst hw
    clear HW
    go_upto_if 18 with fail
    go_cut [4] (fun x4 wx => x4 = .string ⟨T.toArray⟩ ∧ Hid (w = wx))
    case first =>
      cases B with
      | true =>
        have h1 : 1 < l.length := by
          have h := HB.out
          by_cases hl : 1 < l.length
          · exact hl
          · rw [decide_eq_false hl] at h; cases h
        have h1i : (1 : Int) ≤ (l.length : Int) := by omega
        have hex := extract_listC l 1 l.length
        have htk : (l.drop 1).take (l.length - 1) = l.drop 1 := List.take_of_length_le (by rw [List.length_drop]; omega)
        rw [htk] at hex
        have HEX := hid hex
        have HTT : Hid (T = l.drop 1) := hid (by rw [HT.out, if_pos rfl])
        clear hex htk h1
        go_wp2
        go_meet
        case rel => exact ⟨by rw [HTT.out]; first | rfl | rw [HEX.out] | simp [HEX.out], hid rfl⟩
      | false =>
        have HTT : Hid (T = l) := hid (by rw [HT.out, if_neg (by simp)])
        go_wp2
        go_meet
        case rel => exact ⟨by rw [HTT.out], hid rfl⟩
    case rest =>
      obtain ⟨rfl, HW⟩ := hcut
      have hw := HW.out
      subst hw
      clear HW
      have hst : (⟨T.toArray⟩ : ByteArray).size = T.length := rfl
      go_upto_region 5 with fail
      go_cut [40] (fun x40 wx => x40 = .bool X ∧ Hid (w = wx))
      case first =>
        by_cases hne : T = []
        · have f1 : T.isEmpty = true := by rw [hne]; rfl
          have HE : Hid (X = true) := hid (by rw [HX.out, f1]; simp)
          clear hne
          go_wp2
          go_meet
          case rel => exact ⟨by rw [HE.out], hid rfl⟩
        · have f1 : T.isEmpty = false := by cases T with | nil => exact absurd rfl hne | cons a b => rfl
          have h0 : 0 < T.length := by cases T with | nil => exact absurd rfl hne | cons a b => simp
          have i1 := index_byte ⟨T.toArray⟩ .i64 0 0 rfl (show 0 < (⟨T.toArray⟩ : ByteArray).size by omega)
          rw [show (⟨T.toArray⟩ : ByteArray)[0]'(show 0 < (⟨T.toArray⟩ : ByteArray).size by omega) = T[0] from rfl] at i1
          have HH : Hid (X = ((decide (1 < T.length) && (T[0] == 48)) || (B && (T[0] == 48)))) := hid (by
            rw [HX.out, f1, List.head?_eq_getElem?, List.getElem?_eq_getElem h0]
            simp)
          obtain ⟨b, hb⟩ : ∃ b, b = T[0] := ⟨_, rfl⟩
          rw [← hb] at i1 HH
          have HF : Hid (((b.toNat : Int) == 48) = (b == 48)) := hid (by
            by_cases he : b = 48
            · subst he; rfl
            · rw [beq_eq_false_iff_ne.2 he, beq_eq_false_iff_ne]
              intro e
              exact he (UInt8.toNat_inj.1 (by show b.toNat = 48; omega)))
          have hf := HF.out
          obtain ⟨z, hz⟩ : ∃ z, z = (b == 48) := ⟨_, rfl⟩
          rw [← hz] at hf HH
          clear hb hz HF hne
          by_cases h1 : 1 < T.length
          · have h1i : (1 : Int) < (T.length : Int) := by omega
            rw [decide_eq_true h1] at HH
            cases z <;> cases B <;>
              (have HE := hid HH.out
               simp only [Bool.and_true, Bool.and_false, Bool.or_true, Bool.or_false, Bool.true_and, Bool.false_and] at HE
               clear HH h1
               go_wp2
               go_meet
               case rel => exact ⟨by rw [HE.out], hid rfl⟩)
          · have h1i : ¬ (1 : Int) < (T.length : Int) := by omega
            rw [decide_eq_false h1] at HH
            cases z <;> cases B <;>
              (have HE := hid HH.out
               simp only [Bool.and_true, Bool.and_false, Bool.or_true, Bool.or_false, Bool.true_and, Bool.false_and] at HE
               clear HH h1
               go_wp2
               go_meet
               case rel => exact ⟨by rw [HE.out], hid rfl⟩)
      case rest =>
        obtain ⟨rfl, HW⟩ := hcut
        have hw := HW.out
        subst hw
        clear HW HB HT HX
        cases X with
        | true =>
          have HE : Hid (D = none) := hid (by rw [HD.out, if_pos rfl])
          clear HD
          go_wp2
          go_ret2
          exact numQ_none _ HE.out
        | false =>
          have HD2 : Hid (D = numEnd B N) := hid (by rw [HD.out, if_neg (by simp)])
          clear HD
          go_wp2_with fail
          go_loop [7, 6] (fun a b => ∃ (k : Nat) (m : Int), k ≤ T.length ∧ a = .int .i64 (k : Int) ∧ b = .int .i64 m ∧ -9223372036854775808 ≤ m ∧ m ≤ 0 ∧ Hid (N = negL m (T.drop k))) (fun a _ => T.length - (intOf a).toNat)
          case atStart => exact ⟨0, 0, Nat.zero_le _, rfl, rfl, by omega, by omega, hid (by rw [HN.out]; rfl)⟩
          case round =>
            obtain ⟨k, m, hk, rfl, rfl, hm1, hm2, HI⟩ := hrel
            by_cases hlt : k < T.length
            · have hlt' : (k : Int) < (T.length : Int) := by omega
              have i1 := index_byte ⟨T.toArray⟩ .i64 (k : Int) k rfl (show k < (⟨T.toArray⟩ : ByteArray).size from hlt)
              rw [show (⟨T.toArray⟩ : ByteArray)[k]'(show k < (⟨T.toArray⟩ : ByteArray).size from hlt) = T[k] from rfl] at i1
              have HS : Hid (N = if isDg T[k] = false ∨ m < -922337203685477580 ∨ (m = -922337203685477580 ∧ 56 < T[k].toNat) then none else negL (10 * m - ((T[k].toNat : Int) - 48)) (T.drop (k + 1))) := hid (by rw [HI.out, negL_drop hlt])
              obtain ⟨c, hc⟩ : ∃ c, c = T[k] := ⟨_, rfl⟩
              rw [← hc] at i1 HS
              have hcl : c.toNat < 256 := UInt8.toNat_lt c
              have hw1 : IntKind.i64.wrap ((c.toNat : Int) - 48) = (c.toNat : Int) - 48 := by rw [IntKind.wrap_i64]; omega
              clear hc HI
              have HNO : Hid (isDg c = false ∨ m < -922337203685477580 ∨ (m = -922337203685477580 ∧ 56 < c.toNat) → D = none) := hid (fun h => by rw [HD2.out, HS.out, if_pos h]; rfl)
              by_cases c1 : (c.toNat : Int) - 48 < 0
              · have HE := hid (HNO.out (Or.inl (by simp [isDg]; omega)))
                clear HNO HS HD2 HN
                go_wp2
                go_ret2
                exact numQ_none _ HE.out
              · by_cases c2 : 9 < (c.toNat : Int) - 48
                · have HE := hid (HNO.out (Or.inl (by simp [isDg]; omega)))
                  clear HNO HS HD2 HN
                  go_wp2
                  go_ret2
                  exact numQ_none _ HE.out
                · by_cases c3 : m < -922337203685477580
                  · have HE := hid (HNO.out (Or.inr (Or.inl c3)))
                    clear HNO HS HD2 HN
                    go_wp2
                    go_ret2
                    exact numQ_none _ HE.out
                  · have hw2 : IntKind.i64.wrap (10 * m) = 10 * m := by rw [IntKind.wrap_i64]; omega
                    have hdg : isDg c = true := by simp [isDg]; omega
                    by_cases c4 : m = -922337203685477580
                    · have f4 : (m == -922337203685477580) = true := by rw [beq_iff_eq]; exact c4
                      by_cases c5 : 8 < (c.toNat : Int) - 48
                      · have HE := hid (HNO.out (Or.inr (Or.inr ⟨c4, by omega⟩)))
                        clear HNO HS HD2 HN c4
                        go_wp2
                        go_ret2
                        exact numQ_none _ HE.out
                      · have hw3 : IntKind.i64.wrap (10 * m - ((c.toNat : Int) - 48)) = 10 * m - ((c.toNat : Int) - 48) := by rw [IntKind.wrap_i64]; omega
                        have HNX : Hid (N = negL (10 * m - ((c.toNat : Int) - 48)) (T.drop (k + 1))) := hid (by rw [HS.out, if_neg (by rw [hdg]; simp; omega)])
                        have hb1 : -9223372036854775808 ≤ 10 * m - ((c.toNat : Int) - 48) := by omega
                        have hb2 : 10 * m - ((c.toNat : Int) - 48) ≤ 0 := by omega
                        clear HNO HS hdg c4
                        go_wp2
                        go_round
                        case rel => exact ⟨k + 1, 10 * m - ((c.toNat : Int) - 48), by omega, by go_num, rfl, hb1, hb2, HNX⟩
                        case measure => simp [intOf]; omega
                    · have f4 : (m == -922337203685477580) = false := by rw [beq_eq_false_iff_ne]; exact c4
                      have hw3 : IntKind.i64.wrap (10 * m - ((c.toNat : Int) - 48)) = 10 * m - ((c.toNat : Int) - 48) := by rw [IntKind.wrap_i64]; omega
                      have HNX : Hid (N = negL (10 * m - ((c.toNat : Int) - 48)) (T.drop (k + 1))) := hid (by rw [HS.out, if_neg (by rw [hdg]; simp; omega)])
                      have hb1 : -9223372036854775808 ≤ 10 * m - ((c.toNat : Int) - 48) := by omega
                      have hb2 : 10 * m - ((c.toNat : Int) - 48) ≤ 0 := by omega
                      clear HNO HS hdg c4
                      go_wp2
                      go_round
                      case rel => exact ⟨k + 1, 10 * m - ((c.toNat : Int) - 48), by omega, by go_num, rfl, hb1, hb2, HNX⟩
                      case measure => simp [intOf]; omega
            · have hlt' : ¬ (k : Int) < (T.length : Int) := by omega
              have HE : Hid (D = if B = true then some m else if m = -9223372036854775808 then none else some (-m)) := hid (by
                rw [HD2.out, HI.out, List.drop_eq_nil_of_le (by omega)]
                rfl)
              clear HI HN HD2 hlt
              cases B with
              | true =>
                have HF := hid (show D = some m by rw [HE.out]; rfl)
                clear HE
                go_wp2
                go_ret2
                exact numQ_some HF.out
              | false =>
                by_cases hx : m = -9223372036854775808
                · have f1 : (m == -9223372036854775808) = true := by rw [beq_iff_eq]; exact hx
                  have HF := hid (show D = none by rw [HE.out, if_neg (by simp), if_pos hx])
                  clear HE hx
                  go_wp2
                  go_ret2
                  exact numQ_none _ HF.out
                · have f1 : (m == -9223372036854775808) = false := by rw [beq_eq_false_iff_ne]; exact hx
                  have HF := hid (show D = some (-m) by rw [HE.out, if_neg (by simp), if_neg hx])
                  have hw : IntKind.i64.wrap (0 - m) = -m := by rw [IntKind.wrap_i64]; omega
                  have hw' : IntKind.i64.wrap (-m) = -m := by rw [IntKind.wrap_i64]; omega
                  clear HE hx
                  go_wp2
                  go_ret2
                  exact numQ_some HF.out
end Go.Proofs.YtkidcoolcjmcfaaDoor
