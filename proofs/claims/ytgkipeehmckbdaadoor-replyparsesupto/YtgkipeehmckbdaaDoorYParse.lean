/-
  Parse of the code.
-/
import Derived.Test.YtgkipeehmckbdaaDoorYParseC
namespace Go.Proofs.YtgkipeehmckbdaaDoor
open Go.RowKit
set_option linter.unusedVariables false

theorem par_if (L : List UInt8) : parY L = if mayY (guessY L) = true ∧ (textY (guessY L)).isPrefixOf L = true then (guessY L, (textY (guessY L)).length, 0) else (rzY, 0, 90) := rfl
theorem hasPrefix_any (l p : List UInt8) (w : World) : Calls Tryd.prog 26 #[.string ⟨l.toArray⟩, .string ⟨p.toArray⟩] w fun e w' => e = .returned (.bool (p.isPrefixOf l)) ∧ w = w' := by
  refine (Tryd.strings_HasPrefix ⟨l.toArray⟩ ⟨p.toArray⟩ w).mono ?_
  rintro e w' ⟨rfl, rfl⟩
  exact ⟨by simp [Lib.hasPrefix], rfl⟩
set_option maxRecDepth 20000 in
set_option maxHeartbeats 4000000 in
theorem parse_any (L : List UInt8) (w : World) (hM : Met w) (hs : L.length ≤ 1000000000) :
    Calls Tryd.prog 15 #[.string ⟨L.toArray⟩] w fun e w' => ∃ v, e = .returned (.tuple #[rspV (parY L).1 v, .int .i64 ((parY L).2.1 : Int), .int .i64 (parY L).2.2]) ∧ OwnsP w' w.heap.size v (parY L).1.2.1 ∧ Below w.heap.size w w' := by
  have hpi := par_if L
  have hB0 := below_alloc w (.cells #[.int .i64 0, .slice none 0 0, .string ⟨#[]⟩, .bool false] 24)
  have hH0 := RspAt.new w (.int .i64 0) (.slice none 0 0) (.string ⟨#[]⟩) (.bool false)
  obtain ⟨w0, hw0⟩ : ∃ w0, w0 = w.alloc (.cells #[.int .i64 0, .slice none 0 0, .string ⟨#[]⟩, .bool false] 24) := ⟨_, rfl⟩
  rw [← hw0] at hB0 hH0
  have hM0 := hM.below hB0
  have hG := guess_any L w0 hM0.ml hM0.errs hs
  obtain ⟨n1, n2, n3⟩ := guessY_few L
  have hPr := fun v W (hb : Below w.heap.size w W) (hS : SeesP W v (guessY L).2.1) => print_any (guessY L) v W (hM.below hb).itoa (hM.below hb).tab hS (fun p hp => by have := n2 p hp; omega) (by omega)
  have hpd : prnY (guessY L) = if mayY (guessY L) = true then some (textY (guessY L)) else none := rfl
  have hHp := fun W => hasPrefix_any L (textY (guessY L)) W
  obtain ⟨G, hGe⟩ : ∃ G, G = guessY L := ⟨_, rfl⟩
  rw [← hGe] at hG hPr hpi hpd hHp
  obtain ⟨TX, hTX⟩ : ∃ TX, TX = textY G := ⟨_, rfl⟩
  rw [← hTX] at hpi hpd hHp
  obtain ⟨PP, hPP⟩ : ∃ PP, PP = parY L := ⟨_, rfl⟩
  rw [← hPP] at hpi ⊢
  have hml : mayY G = true → TX.length ≤ 9223372036854775807 := by
    intro h
    obtain ⟨⟨_, _, k3, k4⟩, _⟩ := mayY_ok h
    have e : textY G = lineY G.1 ++ 13 :: 10 :: (joinE (G.2.1.map rawOf) ++ tailY G) := rfl
    have j := join_take_le (fs := G.2.1) (c := 2000000004) (fun p hp => by rw [hGe] at hp; have := n2 p hp; omega) 32
    rw [List.take_of_length_le k3] at j
    have l1 := reason_len G.1
    have l2 : (Lib.itoa G.1).length ≤ 7 := itoa_len9 (by have := (mayY_ok h).1; omega) (by have := (mayY_ok h).1; omega)
    have l3 : (Lib.itoa (G.2.2.1.length : Int)).length ≤ 7 := itoa_len9 (by omega) (by omega)
    have l4 : (wordY G.2.2.2).length ≤ 10 := by cases G.2.2.2 <;> decide
    rw [hTX, e]
    simp [lineY, tailY, clY, cnY, v11, clS, cnS]
    omega
  have HW0 := hid hw0
  have HB0 := hid hB0
  have HH0 := hid hH0
  have HPr := hid hPr
  obtain ⟨ms, hms⟩ : ∃ m, m = mayY G := ⟨_, rfl⟩
  rw [← hms] at hpi hpd hml
  clear hM hM0 hw0 hB0 hH0 hPP n1 n2 n3 hPr hTX hGe hms
  obtain ⟨st, F1, BD, cc⟩ := G
  simp only [rspV] at hG HPr hpi
  go_enter Tryd.func15, Tryd.ntmps15
  go_wp2_with (first | rw [← HW0.out] | fail)
  refine hG.mono ?_
  clear hG
  rintro e w1 ⟨v, rfl, hO1, hB1⟩
  obtain ⟨ao, cap, rfl⟩ := hO1.shape
  have hB01 := HB0.out.trans (hB1.mono HB0.out.size)
  have hH1 := HH0.out.below hB1 HH0.out.lt
  have hb2 := below_alloc w1 (.cells #[.int .i64 st, .slice ao F1.length cap, .string ⟨BD.toArray⟩, .bool cc] 24)
  have hHr := RspAt.new w1 (.int .i64 st) (.slice ao F1.length cap) (.string ⟨BD.toArray⟩) (.bool cc)
  have hH2 := hH1.below hb2 hH1.lt
  have hO2 := hO1.below hb2
  have hB02 := hB01.trans (hb2.mono hB01.size)
  have hp0 : w.heap.size < w0.heap.size := HH0.out.lt
  have hp1 : w.heap.size < w1.heap.size := hH1.lt
  obtain ⟨w2, hw2⟩ : ∃ w2, w2 = w1.alloc (.cells #[.int .i64 st, .slice ao F1.length cap, .string ⟨BD.toArray⟩, .bool cc] 24) := ⟨_, rfl⟩
  rw [← hw2] at hb2 hHr hH2 hO2 hB02
  have HW2 := hid hw2
  have hPr := HPr.out (.slice ao F1.length cap) w2 hB02 hO2.sees
  have HB2 := hid hB02
  have HH2 := hid hH2
  have HHr := hid hHr
  have HO2 := hid hO2
  obtain ⟨z0, z1, z2, z3, y0, y1, y2, y3⟩ := hHr.cells
  clear hB1 hB01 hH1 hb2 hHr hH2 hO1 hO2 hB02 hw2 HPr HB0 HH0 HW0
  cases ms with
  | false =>
    rw [if_neg (by simp)] at hpd
    rw [if_neg (by simp)] at hpi
    rw [hpd] at hPr
    simp only [Option.getD_none, Option.isSome_none] at hPr
    have HE := hid hpi
    clear hpi hpd hHp hml
    go_wp2_with (first | rw [← HW2.out] | fail)
    refine hPr.mono ?_
    clear hPr
    rintro e w4 ⟨rfl, hB4⟩
    have hB04 := HB2.out.trans (hB4.mono HB2.out.size)
    have hH4 := HH2.out.below hB4 HH2.out.lt
    have hO4 := HO2.out.below hB4
    obtain ⟨s0, s1, s2, s3, t0, t1, t2, t3⟩ := hH4.cells
    clear hB4 z0 z1 z2 z3 y0 y1 y2 y3
    have HF0 := hH4.store0 (x := .int .i64 0)
    have HF1 := HF0.store1 (x := .slice none 0 0)
    have HF2 := HF1.store2 (x := .string ⟨#[]⟩)
    have HF := hid (HF2.store3 (x := .bool false))
    have HKF := hid ((((hB04.setCell (p := ⟨w.heap.size, 0, none⟩) (by simp) (.int .i64 0)).setCell (p := ⟨w.heap.size, 1, none⟩) (by simp) (.slice none 0 0)).setCell (p := ⟨w.heap.size, 2, none⟩) (by simp) (.string ⟨#[]⟩)).setCell (p := ⟨w.heap.size, 3, none⟩) (by simp) (.bool false))
    clear HF0 HF1 HF2 hH4 hB04 hO4
    go_wp2
    obtain ⟨u0, u1, u2, u3, _, _, _, _⟩ := HF.out.cells
    refine bodyPost_ret (v := .tuple #[.agg #[.int .i64 0, .slice none 0 0, .string ⟨#[]⟩, .bool false], .int .i64 0, .int .i64 90]) (by simp [results, Tryd.results15, go_sem, u0, u1, u2, u3]) rfl ?_
    rw [HE.out]
    exact ⟨_, rfl, OwnsP.nil _ _, HKF.out⟩
  | true =>
    rw [if_pos rfl] at hpd
    rw [hpd] at hPr
    simp only [Option.getD_some, Option.isSome_some] at hPr
    have hTXl := hml rfl
    have hTsz : (⟨TX.toArray⟩ : ByteArray).size = TX.length := size_list TX
    obtain ⟨pf, hpf⟩ : ∃ pf, pf = TX.isPrefixOf L := ⟨_, rfl⟩
    simp only [← hpf] at hHp
    rw [← hpf] at hpi
    have HHp := hid hHp
    clear hpd hml hpf hHp
    go_wp2_with (first | rw [← HW2.out] | fail)
    refine hPr.mono ?_
    clear hPr
    rintro e w4 ⟨rfl, hB4⟩
    have hB04 := HB2.out.trans (hB4.mono HB2.out.size)
    have hH4 := HH2.out.below hB4 HH2.out.lt
    have hHr4 := HHr.out.below hB4 HHr.out.lt
    have hO4 := HO2.out.below hB4
    obtain ⟨s0, s1, s2, s3, t0, t1, t2, t3⟩ := hH4.cells
    obtain ⟨r0, r1, r2, r3, _, _, _, _⟩ := hHr4.cells
    have hHp := HHp.out w4
    clear hB4 z0 z1 z2 z3 y0 y1 y2 y3 hHr4 HHp
    cases pf with
    | false =>
      rw [if_neg (by simp)] at hpi
      have HE := hid hpi
      clear hpi
      go_wp2_with fail
      refine hHp.mono ?_
      clear hHp
      rintro e w4x ⟨rfl, hw4x⟩
      subst hw4x
      have HF0 := hH4.store0 (x := .int .i64 0)
      have HF1 := HF0.store1 (x := .slice none 0 0)
      have HF2 := HF1.store2 (x := .string ⟨#[]⟩)
      have HF := hid (HF2.store3 (x := .bool false))
      have HKF := hid ((((hB04.setCell (p := ⟨w.heap.size, 0, none⟩) (by simp) (.int .i64 0)).setCell (p := ⟨w.heap.size, 1, none⟩) (by simp) (.slice none 0 0)).setCell (p := ⟨w.heap.size, 2, none⟩) (by simp) (.string ⟨#[]⟩)).setCell (p := ⟨w.heap.size, 3, none⟩) (by simp) (.bool false))
      clear HF0 HF1 HF2 hH4 hB04 hO4
      go_wp2
      obtain ⟨u0, u1, u2, u3, _, _, _, _⟩ := HF.out.cells
      refine bodyPost_ret (v := .tuple #[.agg #[.int .i64 0, .slice none 0 0, .string ⟨#[]⟩, .bool false], .int .i64 0, .int .i64 90]) (by simp [results, Tryd.results15, go_sem, u0, u1, u2, u3]) rfl ?_
      rw [HE.out]
      exact ⟨_, rfl, OwnsP.nil _ _, HKF.out⟩
    | true =>
      rw [if_pos (by simp)] at hpi
      have HE := hid hpi
      clear hpi
      go_wp2_with fail
      refine hHp.mono ?_
      clear hHp
      rintro e w4x ⟨rfl, hw4x⟩
      subst hw4x
      have HF0 := hH4.store0 (x := .int .i64 st)
      have HF1 := HF0.store1 (x := .slice ao F1.length cap)
      have HF2 := HF1.store2 (x := .string ⟨BD.toArray⟩)
      have HF := hid (HF2.store3 (x := .bool cc))
      have HKF := hid ((((hB04.setCell (p := ⟨w.heap.size, 0, none⟩) (by simp) (.int .i64 st)).setCell (p := ⟨w.heap.size, 1, none⟩) (by simp) (.slice ao F1.length cap)).setCell (p := ⟨w.heap.size, 2, none⟩) (by simp) (.string ⟨BD.toArray⟩)).setCell (p := ⟨w.heap.size, 3, none⟩) (by simp) (.bool cc))
      have HOF := hid ((((hO4.store (p := w.heap.size) (i := 0) hp0 (.int .i64 st)).store (p := w.heap.size) (i := 1) hp0 (.slice ao F1.length cap)).store (p := w.heap.size) (i := 2) hp0 (.string ⟨BD.toArray⟩)).store (p := w.heap.size) (i := 3) hp0 (.bool cc))
      clear HF0 HF1 HF2 hH4 hB04 hO4
      go_wp2
      obtain ⟨u0, u1, u2, u3, _, _, _, _⟩ := HF.out.cells
      refine bodyPost_ret (v := .tuple #[.agg #[.int .i64 st, .slice ao F1.length cap, .string ⟨BD.toArray⟩, .bool cc], .int .i64 (TX.length : Int), .int .i64 0]) (by simp [results, Tryd.results15, go_sem, u0, u1, u2, u3]) rfl ?_
      rw [HE.out]
      exact ⟨_, rfl, HOF.out.le (Nat.le_of_lt hp0), HKF.out⟩
end Go.Proofs.YtgkipeehmckbdaaDoor
