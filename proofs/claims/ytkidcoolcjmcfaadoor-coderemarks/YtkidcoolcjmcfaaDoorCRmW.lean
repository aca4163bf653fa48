/-
  The walk of the law CodeRemarks.
-/
import Derived.Test.YtkidcoolcjmcfaaDoorCRPrint
import Derived.Test.YtkidcoolcjmcfaaDoorCSame
import Derived.Test.YtkidcoolcjmcfaaDoorCRmMath
namespace Go.Proofs.YtkidcoolcjmcfaaDoor
open Go.RowKit
set_option linter.unusedVariables false
set_option linter.unusedSimpArgs false
set_option maxRecDepth 100000

set_option maxHeartbeats 8000000 in
theorem remarks_walk (v : Value) (l : List InsL) (rem : List UInt8) (w : World) (hS : SeesI w v l) (hM : Met w) (hP : PowA w) (hlen : l.length ≤ 140737488355328) (h64 : ∀ i ∈ l, in64 i.2) (hrl : rem.length ≤ 140737488355328) :
    Calls Tryd.prog 7 #[v, .string ⟨rem.toArray⟩] w fun e w' => e = .returned (.bool true) ∧ Below w.heap.size w w' := by
  have hPr := print_any v l w hS hM hP hlen h64
  have HS := hid hS
  have HM := hid hM
  have HP := hid hP
  have H64 := hid h64
  have HA := hid (fun W (hb : Below w.heap.size w W) => awake_any W (hM.below hb) (hP.below hb))
  obtain ⟨⟨tx, ce⟩, hpr⟩ : ∃ P, P = prnC l := ⟨_, rfl⟩
  rw [← hpr] at hPr
  simp only at hPr
  have hshape : ∃ ao cap, v = .slice ao l.length cap := by
    obtain ⟨b, off, ao, cap, rfl, _⟩ := hS
    exact ⟨ao, cap, rfl⟩
  obtain ⟨vo, vc, rfl⟩ := hshape
  clear hS hM hP h64
  have hrs : (⟨rem.toArray⟩ : ByteArray).size = rem.length := rfl
  by_cases hz : ce = 0
  · subst hz
    have hck : (checkL l).1 = 0 := by
      unfold prnC at hpr
      split at hpr
      · assumption
      · simp only [Prod.mk.injEq] at hpr
        exact hpr.2.symm
    by_cases hlong : 40 < rem.length
    · have hli : (40 : Int) < (rem.length : Int) := by omega
      have hRC := fun W (hb : Below w.heap.size w W) => rcheck_any (.slice vo l.length vc) l W (HS.out.below hb) hlen
      rw [hck] at hRC
      have HRC := hid hRC
      obtain ⟨ci, hci⟩ : ∃ ci, ci = (checkL l).2 := ⟨_, rfl⟩
      rw [← hci] at HRC
      clear hpr hck hRC hci hlong
      go_enter Tryd.func7, Tryd.ntmps7
      go_wp2_with fail
      refine hPr.mono ?_
      clear hPr
      rintro e w1 ⟨rfl, hb1⟩
      have HB1 := hid hb1
      have hR := HRC.out w1 hb1
      clear hb1 HRC
      go_wp2_with fail
      refine hR.mono ?_
      clear hR
      rintro e w2 ⟨rfl, hb2⟩
      have HB2 := hid (HB1.out.trans (hb2.mono HB1.out.size))
      have hAw := HA.out w2 HB2.out
      clear hb2
      go_wp2_with fail
      refine hAw.mono ?_
      clear hAw
      rintro e w4 ⟨rfl, hb4⟩
      have HB4 := hid (HB2.out.trans (hb4.mono HB2.out.size))
      clear hb4
      go_wp2
      go_ret
      exact ⟨rfl, HB4.out⟩
    · have hli : ¬ (40 : Int) < (rem.length : Int) := by omega
      have hr40 : rem.length ≤ 40 := by omega
      have htx : tx = textC l := by
        unfold prnC at hpr
        rw [if_pos hck] at hpr
        exact (Prod.mk.inj hpr).1
      have hlt : l.length ≤ 1024 := by
        rcases check_cases l with h | ⟨h, _⟩ | ⟨_, _, _, h⟩
        · rw [h] at hck; cases hck
        · rw [h] at hck; cases hck
        · exact h
      have hbad : badAt l.length l = l.length := by
        rcases check_cases l with h | ⟨h, _⟩ | ⟨_, h, _⟩
        · rw [h] at hck; cases hck
        · rw [h] at hck; cases hck
        · exact h
      have htl : tx.length ≤ 30000 := by
        have := text_few H64.out hbad l.length (Nat.le_refl _)
        rw [List.take_length] at this
        rw [htx]; omega
      have hsx : (⟨tx.toArray⟩ : ByteArray).size = tx.length := rfl
      have HPa : Hid ((10 : UInt8) ∉ rem → ∀ W, Below w.heap.size w W → Calls Tryd.prog 15 #[.string ⟨(remT rem tx).toArray⟩] W (ParR W (l, 0, 0))) := hid fun h10 W hb => by
        have hok : ∀ i ∈ l, okI l.length i := fun i hi => ⟨badAt_all hbad i hi, H64.out i hi⟩
        have hq := rem_len hr40 hok
        have h := parse_any (remT rem tx) W (HM.out.below hb) (by rw [htx]; simp [remT]; omega)
        rw [htx, par_rem hck H64.out hr40 h10] at h
        rw [htx]
        exact h
      have HREMC : Hid (∀ k (h : k < rem.length), rem[k] = 10 → (10 : UInt8) ∈ rem) := hid fun k h e => by rw [← e]; exact List.getElem_mem h
      have HST : Hid (∀ k, (remT rem (tx.take k)).length ≤ 43 * k + 50 + 3 * k) := hid fun k => by
        have key : ∀ s : List UInt8, (remS rem s).length ≤ 46 * s.length := by
          intro s
          induction s with
          | nil => simp [remS]
          | cons c r ih =>
            rw [remS, List.length_append]
            split <;> simp <;> omega
        have := key (tx.take k)
        have h2 : (tx.take k).length ≤ k := by rw [List.length_take]; omega
        simp [remT]
        omega
      clear hpr hck htx hbad
      go_enter Tryd.func7, Tryd.ntmps7
      go_wp2_with fail
      refine hPr.mono ?_
      clear hPr
      rintro e w1 ⟨rfl, hb1⟩
      have HB1 := hid hb1
      clear hb1
      go_wp2_with fail
      go_loop [9] (fun a => ∃ (k : Nat), k ≤ rem.length ∧ a = .int .i64 (k : Int) ∧ ∀ j (hj : j < rem.length), j < k → rem[j] ≠ 10) (fun a => rem.length - (intOf a).toNat)
      case atStart => exact ⟨0, Nat.zero_le _, rfl, fun j hj h => by omega⟩
      case round =>
        obtain ⟨k, hk, rfl, hno⟩ := hrel
        have HNo := hid hno
        clear hno
        by_cases hltk : k < rem.length
        · have hls : k < (⟨rem.toArray⟩ : ByteArray).size := hltk
          have hlt' : (k : Int) < (rem.length : Int) := by omega
          have i1 := index_byte ⟨rem.toArray⟩ .i64 (k : Int) k rfl hls
          rw [show (⟨rem.toArray⟩ : ByteArray)[k] = rem[k] from rfl] at i1
          have HG : Hid (rem[k] ≠ 10 → ∀ j (hj : j < rem.length), j < k + 1 → rem[j] ≠ 10) := by
            unfold Hid
            intro he j hj hjk
            by_cases h : j = k
            · subst h; exact he
            · exact HNo.out j hj (by omega)
          obtain ⟨b, hb⟩ : ∃ b, b = rem[k] := ⟨_, rfl⟩
          rw [← hb] at i1 HG
          by_cases hten : b = 10
          · have f1 : ((b.toNat : Int) == 10) = true := by rw [hten]; rfl
            have hAw := HA.out w1 HB1.out
            clear HG hb hten
            go_wp2_with fail
            refine hAw.mono ?_
            clear hAw
            rintro e w4 ⟨rfl, hb4⟩
            have HB4 := hid (HB1.out.trans (hb4.mono HB1.out.size))
            clear hb4
            go_wp2
            go_ret
            exact ⟨rfl, HB4.out⟩
          · have f1 : ((b.toNat : Int) == 10) = false := by
              rw [beq_eq_false_iff_ne]
              intro e
              exact hten (UInt8.toNat_inj.1 (by show b.toNat = 10; omega))
            have HN := hid (HG.out hten)
            clear HG hb hten
            go_wp2
            go_round
            case rel => exact ⟨k + 1, by omega, by go_num, HN.out⟩
            case measure => simp [intOf]; omega
        · have hlt' : ¬ (k : Int) < (rem.length : Int) := by omega
          have h10 : (10 : UInt8) ∉ rem := by
            intro hm
            obtain ⟨j, hj, e⟩ := List.getElem_of_mem hm
            exact HNo.out j hj (by omega) e
          have HPb := hid (HPa.out h10)
          clear HPa HNo h10 hltk
          have h0 : ({ data := #[59] } : ByteArray) ++ ⟨rem.toArray⟩ ++ { data := #[10, 10] } = ⟨(remT rem (tx.take 0)).toArray⟩ := by
            rw [show ({ data := #[59] } : ByteArray) = ⟨[59].toArray⟩ from rfl, show ({ data := #[10, 10] } : ByteArray) = ⟨[10, 10].toArray⟩ from rfl, str_app, str_app]
            simp [remT, remS]
          have H0 := hid h0
          clear h0
          go_wp2_with fail
          go_loop [11, 10] (fun a b => ∃ (k : Nat), k ≤ tx.length ∧ a = .int .i64 (k : Int) ∧ b = .string ⟨(remT rem (tx.take k)).toArray⟩) (fun a _ => tx.length - (intOf a).toNat)
          case atStart => exact ⟨0, Nat.zero_le _, rfl, by rw [← H0.out]⟩
          case round =>
            obtain ⟨q, hq, rfl, rfl⟩ := hrel
            have hL := HST.out q
            have hsq : (⟨(remT rem (tx.take q)).toArray⟩ : ByteArray).size = (remT rem (tx.take q)).length := rfl
            by_cases hqt : q < tx.length
            · have hqi : (q : Int) < (tx.length : Int) := by omega
              have hqs : q < (⟨tx.toArray⟩ : ByteArray).size := hqt
              have i1 := index_byte ⟨tx.toArray⟩ .i64 (q : Int) q rfl hqs
              rw [show (⟨tx.toArray⟩ : ByteArray)[q] = tx[q] from rfl] at i1
              have hnx := remS_next rem hqt
              have hnT : remT rem (tx.take (q + 1)) = remT rem (tx.take q) ++ (if tx[q] = 10 then [32, 9, 59] ++ rem ++ [10, 32, 9] else [tx[q]]) := by
                unfold remT
                rw [hnx]
                simp
              have hxt : (⟨tx.toArray⟩ : ByteArray).extract q (q + 1) = ⟨[tx[q]].toArray⟩ := by
                rw [extract_listC]
                congr 2
                rw [show q + 1 - q = 1 by omega, List.drop_eq_getElem_cons hqt]
                rfl
              have hq1 : IntKind.i64.wrap ((q : Int) + 1) = ((q + 1 : Nat) : Int) := by rw [IntKind.wrap_i64]; omega
              have hle1 : (q : Int) ≤ ((q + 1 : Nat) : Int) := by omega
              have hle2 : ((q + 1 : Nat) : Int) ≤ (tx.length : Int) := by omega
              obtain ⟨T, hT⟩ : ∃ T, T = remT rem (tx.take q) := ⟨_, rfl⟩
              rw [← hT] at hnT hsq hL
              rw [← hT]
              obtain ⟨b, hb⟩ : ∃ b, b = tx[q] := ⟨_, rfl⟩
              rw [← hb] at i1 hnT hxt
              have HNT := hid hnT
              have HXT := hid hxt
              clear hnx hnT hxt hT hb
              by_cases hten : b = 10
              · have f1 : ((b.toNat : Int) == 10) = true := by rw [hten]; rfl
                have HN := hid hten
                clear hten
                go_wp2
                go_round
                case rel =>
                  refine ⟨q + 1, by omega, by go_num, ?_⟩
                  rw [HNT.out, if_pos HN.out, show ({ data := #[32, 9, 59] } : ByteArray) = ⟨[32, 9, 59].toArray⟩ from rfl, show ({ data := #[10, 32, 9] } : ByteArray) = ⟨[10, 32, 9].toArray⟩ from rfl, str_app, str_app, str_app]
                  simp
                case measure => simp [intOf]; omega
              · have f1 : ((b.toNat : Int) == 10) = false := by
                  rw [beq_eq_false_iff_ne]
                  intro e
                  exact hten (UInt8.toNat_inj.1 (by show b.toNat = 10; omega))
                have HN := hid hten
                clear hten
                go_wp2
                go_round
                case rel =>
                  refine ⟨q + 1, by omega, by go_num, ?_⟩
                  rw [HNT.out, if_neg HN.out]
                  first | rw [HXT.out, str_app] | (simp only [HXT.out]; rw [str_app])
                case measure => simp [intOf]; omega
            · have hqi : ¬ (q : Int) < (tx.length : Int) := by omega
              have hqe : tx.take q = tx := List.take_of_length_le (by omega)
              rw [hqe]
              have hPa := HPb.out w1 HB1.out
              clear HPb hqe hL hsq HST
              go_wp2_with fail
              refine hPa.mono ?_
              clear hPa
              rintro e w2 ⟨v2, rfl, hO2, hb2⟩
              obtain ⟨ao2, cap2, rfl⟩ := hO2.shape
              have HB2 := hid (HB1.out.trans (hb2.mono HB1.out.size))
              have hSm := same_any (.slice ao2 l.length cap2) (.slice vo l.length vc) l l w2 hO2.sees (HS.out.below HB2.out) hlen hlen
              rw [decide_eq_true (rfl : l = l)] at hSm
              clear hO2 hb2
              go_wp2_with fail
              refine hSm.mono ?_
              clear hSm
              rintro e w3 ⟨rfl, hb3⟩
              have HB3 := hid (HB2.out.trans (hb3.mono HB2.out.size))
              have hAw := HA.out w3 HB3.out
              clear hb3
              go_wp2_with fail
              refine hAw.mono ?_
              clear hAw
              rintro e w4 ⟨rfl, hb4⟩
              have HB4 := hid (HB3.out.trans (hb4.mono HB3.out.size))
              clear hb4
              go_wp2
              go_ret
              exact ⟨rfl, HB4.out⟩
  · have hck : ce = (checkL l).1 := by
      unfold prnC at hpr
      split at hpr
      · exact absurd (Prod.mk.inj hpr).2 hz
      · exact (Prod.mk.inj hpr).2
    have hz' : (ce != 0) = true := by simpa using hz
    have hRC := fun W (hb : Below w.heap.size w W) => rcheck_any (.slice vo l.length vc) l W (HS.out.below hb) hlen
    rw [← hck] at hRC
    have HRC := hid hRC
    obtain ⟨ci, hci⟩ : ∃ ci, ci = (checkL l).2 := ⟨_, rfl⟩
    rw [← hci] at HRC
    clear hpr hck hRC hz hci
    go_enter Tryd.func7, Tryd.ntmps7
    go_wp2_with fail
    refine hPr.mono ?_
    clear hPr
    rintro e w1 ⟨rfl, hb1⟩
    have HB1 := hid hb1
    have hR := HRC.out w1 hb1
    clear hb1 HRC
    go_wp2_with fail
    refine hR.mono ?_
    clear hR
    rintro e w2 ⟨rfl, hb2⟩
    have HB2 := hid (HB1.out.trans (hb2.mono HB1.out.size))
    have hAw := HA.out w2 HB2.out
    clear hb2
    go_wp2_with fail
    refine hAw.mono ?_
    clear hAw
    rintro e w4 ⟨rfl, hb4⟩
    have HB4 := hid (HB2.out.trans (hb4.mono HB2.out.size))
    clear hb4
    go_wp2
    go_ret
    exact ⟨rfl, HB4.out⟩
end Go.Proofs.YtkidcoolcjmcfaaDoor
