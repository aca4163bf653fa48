/-
  The walk of ReplyLine.
-/
import Derived.Test.YtgkipeehmckbdaaDoorYRows
namespace Go.Proofs.YtgkipeehmckbdaaDoor
open Go.RowKit
set_option linter.unusedVariables false

def flatY (l : List ResE) : List UInt8 := (l.map fun e => textY e.1).flatten
theorem flatY_app (a b : List ResE) : flatY (a ++ b) = flatY a ++ flatY b := by simp [flatY]
theorem flatY_one (e : ResE) : flatY [e] = textY e.1 := by simp [flatY]
theorem flatY_drop {l : List ResE} {k : Nat} (h : k < l.length) : flatY (l.drop k) = textY l[k].1 ++ flatY (l.drop (k + 1)) := by
  unfold flatY
  rw [List.drop_eq_getElem_cons h, List.map_cons, List.flatten_cons]
def mayE (e : ResE) : Bool := mayY e.1
def lineB (l : List ResE) : Nat := (l.map fun e => bulkL e.1.2.1 + e.1.2.2.1.length + 4).sum
theorem join_bulk : ∀ ps : List PairL, (joinE (ps.map rawOf)).length ≤ 2 * bulkL ps
  | [] => by simp [joinE]
  | p :: ps => by
    have ih := join_bulk ps
    have e : bulkL (p :: ps) = p.1.length + p.2.length + 2 + bulkL ps := by simp [bulkL]
    rw [List.map_cons, joinE_cons, e]
    simp only [List.length_append, List.length_cons, rawOf_len]
    omega
theorem text_bulk {r : RespL} (h : mayY r = true) : (textY r).length ≤ 300 + 2 * (bulkL r.2.1 + r.2.2.1.length) := by
  obtain ⟨⟨k1, k2, k3, k4⟩, _⟩ := mayY_ok h
  have e : textY r = lineY r.1 ++ 13 :: 10 :: (joinE (r.2.1.map rawOf) ++ tailY r) := rfl
  have j := join_bulk r.2.1
  have l1 := reason_len r.1
  have l2 : (Lib.itoa r.1).length ≤ 7 := itoa_len9 (by omega) (by omega)
  have l3 : (Lib.itoa (r.2.2.1.length : Int)).length ≤ 7 := itoa_len9 (by omega) (by omega)
  have l4 : (wordY r.2.2.2).length ≤ 10 := by cases r.2.2.2 <;> decide
  rw [e]
  simp [lineY, tailY, clY, cnY, v11, clS, cnS]
  omega
theorem flat_bulk : ∀ l : List ResE, (flatY (l.filter mayE)).length ≤ 300 * lineB l
  | [] => by simp [flatY]
  | e :: l => by
    have ih := flat_bulk l
    have e1 : lineB (e :: l) = bulkL e.1.2.1 + e.1.2.2.1.length + 4 + lineB l := by simp [lineB]
    rw [e1]
    by_cases h : mayE e = true
    · have := text_bulk (r := e.1) h
      rw [List.filter_cons_of_pos h, show flatY (e :: l.filter mayE) = textY e.1 ++ flatY (l.filter mayE) by simp [flatY], List.length_append]
      omega
    · rw [List.filter_cons_of_neg h]
      omega
theorem line_one {l : List ResE} {e : ResE} (h : e ∈ l) : bulkL e.1.2.1 + e.1.2.2.1.length + 4 ≤ lineB l := by
  induction l with
  | nil => cases h
  | cons x r ih =>
    have e1 : lineB (x :: r) = bulkL x.1.2.1 + x.1.2.2.1.length + 4 + lineB r := by simp [lineB]
    rw [e1]
    rcases List.mem_cons.1 h with rfl | h
    · omega
    · have := ih h; omega
theorem line_len (l : List ResE) : l.length * 4 ≤ lineB l := by
  induction l with
  | nil => simp [lineB]
  | cons x r ih =>
    have e1 : lineB (x :: r) = bulkL x.1.2.1 + x.1.2.2.1.length + 4 + lineB r := by simp [lineB]
    rw [e1, List.length_cons]
    omega
theorem bulk_few : ∀ l : List PairL, l.length ≤ bulkL l ∧ ∀ p ∈ l, p.1.length + p.2.length ≤ bulkL l := by
  intro l
  induction l with
  | nil => simp [bulkL]
  | cons x r ih =>
    have e : bulkL (x :: r) = x.1.length + x.2.length + 2 + bulkL r := by simp [bulkL]
    refine ⟨by rw [e, List.length_cons]; omega, ?_⟩
    intro p hp
    rcases List.mem_cons.1 hp with rfl | hp
    · omega
    · have := ih.2 p hp; omega
theorem flat_part (l : List ResE) (k : Nat) : (flatY ((l.take k).filter mayE)).length ≤ (flatY (l.filter mayE)).length := by
  have h : l.filter mayE = (l.take k).filter mayE ++ (l.drop k).filter mayE := by rw [← List.filter_append, List.take_append_drop]
  rw [h, flatY_app, List.length_append]
  omega
theorem filter_next {l : List ResE} {k : Nat} (h : k < l.length) : (l.take (k + 1)).filter mayE = (l.take k).filter mayE ++ (if mayE l[k] = true then [l[k]] else []) := by
  rw [List.take_succ_eq_append_getElem h, List.filter_append]
  congr 1
  by_cases hm : mayE l[k] = true
  · rw [if_pos hm]; simp [hm]
  · rw [if_neg hm]; simp [hm]
set_option maxRecDepth 20000 in
set_option maxHeartbeats 16000000 in
theorem line_walk (ls : List ResE) (v : Value) (w : World) (hM : Met w) (hS : SeesR w v ls) (hbk : lineB ls ≤ 1048576) :
    Calls Tryd.prog 6 #[v] w fun e w' => e = .returned (.bool true) ∧ Below w.heap.size w w' := by
  obtain ⟨b, off, ao, cap, rfl, hcap, hao, hrow, hsee⟩ := hS
  have hfb := flat_bulk ls
  have hll := line_len ls
  have HPr := hid (fun e (he : e ∈ ls) W (hb : Below w.heap.size w W) => print_any e.1 (ResE.v e) W (hM.below hb).itoa (hM.below hb).tab ((hsee e he).below hb) (fun p hp => by have h1 := line_one he; have h2 := (bulk_few e.1.2.1).2 p hp; omega) (by have h1 := line_one he; have h2 := (bulk_few e.1.2.1).1; omega))
  have HPa := hid (fun L W (hb : Below w.heap.size w W) (h : L.length ≤ 1000000000) => parse_any L W (hM.below hb) h)
  have HA := hid (fun W (hb1 : Below w.heap.size w W) => awake_any W (hM.below hb1).itoa (hM.below hb1).tab)
  have HSm := hid (fun e (he : e ∈ ls) v1 W (hb1 : Below w.heap.size w W) (hs1 : SeesP W v1 e.1.2.1) => rysame_any e.1 e.1 v1 (ResE.v e) W hs1 ((hsee e he).below hb1) (by have h1 := line_one he; have h2 := (bulk_few e.1.2.1).1; omega))
  simp only [sameY_self] at HSm
  have HRow := hid hrow
  have hln : ls.length ≤ 1048576 := by omega
  have hfl : (flatY (ls.filter mayE)).length ≤ 400000000 := by omega
  clear hM hsee hrow hbk hfb hll
  go_enter Tryd.func6, Tryd.ntmps6
  go_wp2_with fail
  go_loopw [3, 4, 5] (fun s u i wr => ∃ (k : Nat), k ≤ ls.length ∧ i = .int .i64 (k : Int) ∧ s = .string ⟨(flatY ((ls.take k).filter mayE)).toArray⟩ ∧ OwnsR wr w.heap.size u ((ls.take k).filter mayE) ∧ Below w.heap.size w wr) (fun _ _ i _ => ls.length - (intOf i).toNat)
  case atStart => exact ⟨0, Nat.zero_le _, rfl, rfl, OwnsR.nil _ _, Below.refl _ _⟩
  case round =>
    obtain ⟨k, hk, rfl, rfl, hO, hB⟩ := hrel
    have hfp := flat_part ls k
    have hgl : ((ls.take k).filter mayE).length ≤ ls.length := Nat.le_trans (List.length_filter_le _ _) (by rw [List.length_take]; omega)
    have hsw := hB.size
    by_cases hlt : k < ls.length
    · have hlt' : (k : Int) < (ls.length : Int) := by omega
      obtain rfl := hao (by intro h; rw [h] at hlt; simp at hlt)
      have hr0 := HRow.out k hlt
      have hr := hr0.below hB
      have hfn := filter_next hlt
      have hmem := List.getElem_mem hlt
      have HPe := hid (fun W hb => HPr.out _ hmem W hb)
      obtain ⟨e, he⟩ : ∃ e, e = ls[k] := ⟨_, rfl⟩
      rw [← he] at hr hr0 hfn HPe
      obtain ⟨G, hG⟩ : ∃ G, G = (ls.take k).filter mayE := ⟨_, rfl⟩
      rw [← hG] at hO hfn hfp hgl ⊢
      have hpd : prnY e.1 = if mayY e.1 = true then some (textY e.1) else none := rfl
      have hme : mayE e = mayY e.1 := rfl
      rw [hme] at hfn
      obtain ⟨m, hm⟩ : ∃ m, m = mayY e.1 := ⟨_, rfl⟩
      rw [← hm] at hpd hfn
      obtain ⟨AL, hAL⟩ : ∃ AL, AL = flatY G := ⟨_, rfl⟩
      rw [← hAL] at hfp ⊢
      have hPe := HPe.out wr hB
      have HB := hid hB
      have HO := hid hO
      obtain ⟨uo, uc, rfl⟩ := hO.shape
      have HR0 := hid hr
      obtain ⟨c0, c1, c2, c3⟩ := hr.cells
      have HFN := hid hfn
      have HAL := hid hAL
      have htb := fun h => text_bulk (r := e.1) h
      have hnext : (flatY ((ls.take (k + 1)).filter mayE)).length ≤ (flatY (ls.filter mayE)).length := flat_part ls (k + 1)
      clear hr hr0 hO hB hfn hAL hG he hmem HPe hme
      cases m with
      | false =>
        rw [if_neg (by simp)] at hpd
        rw [hpd] at hPe
        simp only [Option.getD_none, Option.isSome_none, rspV, ResE.v] at hPe
        have HN : Hid ((ls.take (k + 1)).filter mayE = G) := by unfold Hid; rw [HFN.out]; simp
        clear hpd hm htb HFN hnext
        go_wp2_with fail
        refine hPe.mono ?_
        clear hPe
        rintro e' w1 ⟨rfl, hB1⟩
        have HB1 := hid (HB.out.trans (hB1.mono hsw))
        have HO1 := hid (HO.out.below hB1)
        clear hB1
        go_wp2
        go_roundw
        case rel => exact ⟨k + 1, by omega, by go_num, by rw [HN.out, ← HAL.out], by rw [HN.out]; exact HO1.out, HB1.out⟩
        case measure => simp [intOf]; omega
      | true =>
        rw [if_pos rfl] at hpd
        rw [hpd] at hPe
        simp only [Option.getD_some, Option.isSome_some, if_true, rspV, ResE.v] at hPe
        have HN : Hid ((ls.take (k + 1)).filter mayE = G ++ [e]) := by unfold Hid; rw [HFN.out]; simp
        have hTl := htb hm.symm
        have hsum : AL.length + (textY e.1).length ≤ 400000000 := by
          rw [HN.out, flatY_app, flatY_one, ← HAL.out, List.length_append] at hnext
          omega
        obtain ⟨TX, hTX⟩ : ∃ TX, TX = textY e.1 := ⟨_, rfl⟩
        rw [← hTX] at hPe hsum
        have a1 : ¬ 9223372036854775807 < AL.length + TX.length := by omega
        have HTX := hid hTX
        have hg56 : (G.length + 1) * 56 ≤ 140737488355328 := by omega
        clear hpd hm htb HFN hnext hTX hTl
        go_wp2_with fail
        refine hPe.mono ?_
        clear hPe
        rintro e' w1 ⟨rfl, hB1⟩
        have hB01 := HB.out.trans (hB1.mono hsw)
        have HO1 := hid (HO.out.below hB1)
        obtain ⟨d0, d1, d2, d3⟩ := (HR0.out.below hB1).cells
        have HB1 := hid hB01
        have hs1 := hB01.size
        clear hB1 hB01 c0 c1 c2 c3
        go_wp2_with (first
          | (at_builtin
             refine wpList_appR rfl _ _ rfl w.heap.size (.slice uo G.length uc) G rfl (HO1.out.below (below_alloc w1 _)) w1.heap.size e rfl (news_resp w1 e _) hg56 (by simp; omega) ?_
             intro v5 w5 hO5 hG5
             have HO5 := hid hO5
             have HB5 := hid (below_grownBy (HB1.out.trans ((below_alloc w1 (.cells #[.int .i64 e.1.1, .slice e.2.1 e.1.2.1.length e.2.2, .string ⟨e.1.2.2.1.toArray⟩, .bool e.1.2.2.2] 24)).mono hs1)) hG5 (OwnsR.block HO1.out) (by simp; omega))
             clear hO5 hG5)
          | fail)
        go_roundw
        case rel =>
          refine ⟨k + 1, by omega, by go_num, ?_, by rw [HN.out]; exact HO5.out, HB5.out⟩
          rw [HN.out, flatY_app, flatY_one, ← HAL.out, ← HTX.out]
          simp only [str_appY]
        case measure => simp [intOf]; omega
    · have hlt' : ¬ (k : Int) < (ls.length : Int) := by omega
      rw [List.take_of_length_le (by omega)] at hO hgl ⊢
      clear hfp
      have hsub : ∀ e ∈ ls.filter mayE, e ∈ ls ∧ mayY e.1 = true := fun e he => by
        have := List.mem_filter.1 he
        exact ⟨this.1, this.2⟩
      obtain ⟨G, hG⟩ : ∃ G, G = ls.filter mayE := ⟨_, rfl⟩
      rw [← hG] at hO hgl hsub hfl ⊢
      have HSub := hid hsub
      obtain ⟨g, uo, uc, rfl, huo, hrows⟩ := hO.rows
      have HO := hid hO
      have HB := hid hB
      obtain ⟨wz, hwz⟩ : ∃ wz, wz = wr := ⟨_, rfl⟩
      rw [← hwz] at HO HB ⊢
      clear hO hB hG hsub hrows hwz HPr HRow
      go_wp2_with fail
      go_loopw [3, 8] (fun s i wx => ∃ (j : Nat), j ≤ G.length ∧ i = .int .i64 (j : Int) ∧ s = .string ⟨(flatY (G.drop j)).toArray⟩ ∧ OwnsR wx w.heap.size (.slice uo G.length uc) G ∧ Below w.heap.size w wx) (fun _ i _ => G.length - (intOf i).toNat)
      case atStart => exact ⟨0, Nat.zero_le _, rfl, by rw [List.drop_zero], HO.out, HB.out⟩
      case round =>
        obtain ⟨j, hj, rfl, rfl, hO2, hB2⟩ := hrel
        have HO2 := hid hO2
        have HB2 := hid hB2
        by_cases hlj : j < G.length
        · have hlj' : (j : Int) < (G.length : Int) := by omega
          have hfd := flatY_drop hlj
          have hmem := List.getElem_mem hlj
          obtain ⟨g2, uo2, uc2, hv2, huo2, hrows2⟩ := hO2.rows
          have hrj := hrows2 j hlj
          have hne : G ≠ [] := by intro h; rw [h] at hlj; simp at hlj
          have ho2 := huo2 hne
          simp only [Value.slice.injEq] at hv2
          obtain ⟨e1, e4, e3⟩ := hv2
          clear e3 e4
          have e2 : uo = some ⟨g2, 0, none⟩ := e1.trans ho2
          obtain ⟨e, he⟩ : ∃ e, e = G[j] := ⟨_, rfl⟩
          rw [← he] at hfd hmem hrj
          obtain ⟨hel, hem⟩ := HSub.out e hmem
          have hlen : (flatY (G.drop j)).length ≤ 400000000 := by
            have : flatY G = flatY (G.take j) ++ flatY (G.drop j) := by rw [← flatY_app, List.take_append_drop]
            rw [this, List.length_append] at hfl
            omega
          have hPa := HPa.out (flatY (G.drop j)) wr hB2 (by omega)
          rw [hfd, par_back _ hem] at hPa
          rw [hfd] at hlen ⊢
          have htx0 : 1 ≤ (textY e.1).length := by
            have : textY e.1 = lineY e.1.1 ++ 13 :: 10 :: (joinE (e.1.2.1.map rawOf) ++ tailY e.1) := rfl
            rw [this]; simp; omega
          obtain ⟨TX, hTX⟩ : ∃ TX, TX = textY e.1 := ⟨_, rfl⟩
          obtain ⟨RS, hRS⟩ : ∃ RS, RS = flatY (G.drop (j + 1)) := ⟨_, rfl⟩
          rw [← hTX, ← hRS] at hPa hlen ⊢
          rw [← hTX] at htx0
          rw [List.length_append] at hlen
          have HRS := hid hRS
          have HSe := hid (fun v1 W hb1 hs1 => HSm.out e hel v1 W hb1 hs1)
          have HRJ := hid hrj
          simp only [rspV, ResE.v] at hPa HSe
          obtain ⟨AS, hAS⟩ : ∃ AS : ByteArray, AS = ⟨(TX ++ RS).toArray⟩ := ⟨_, rfl⟩
          have hASz : AS.size = TX.length + RS.length := by rw [hAS, size_list, List.length_append]
          have hxs : AS.extract TX.length AS.size = ⟨RS.toArray⟩ := by
            rw [hASz, hAS, extract_list]
            simp
          rw [← hAS] at hPa ⊢
          have t1 : ¬ (TX.length : Int) < 1 := by omega
          have t2 : ¬ (AS.size : Int) < (TX.length : Int) := by omega
          have t3 : (TX.length : Int) ≤ (AS.size : Int) := by omega
          have t1d : decide ((TX.length : Int) < 1) = false := decide_eq_false t1
          have t2d : decide ((AS.size : Int) < (TX.length : Int)) = false := decide_eq_false t2
          have t2e : decide (AS.size < TX.length) = false := decide_eq_false (by omega)
          have t2f : ¬ AS.size < TX.length := by omega
          have t1n : TX ≠ [] := by intro h; rw [h] at t1; simp at t1
          clear t1 t2
          subst e2
          clear hfd hmem hrj hO2 hB2 he hTX hRS hel hem hne ho2 huo2 hrows2 e1 hASz hlen hAS htx0
          go_wp2_with fail
          refine hPa.mono ?_
          clear hPa
          rintro e' w3 ⟨v3, rfl, hO3, hB3⟩
          obtain ⟨ao3, cap3, rfl⟩ := hO3.shape
          have hb4 := below_alloc w3 (.cells #[.int .i64 e.1.1, .slice ao3 e.1.2.1.length cap3, .string ⟨e.1.2.2.1.toArray⟩, .bool e.1.2.2.2] 24)
          have hH4 := RspAt.new w3 (.int .i64 e.1.1) (.slice ao3 e.1.2.1.length cap3) (.string ⟨e.1.2.2.1.toArray⟩) (.bool e.1.2.2.2)
          have hO4 := hO3.below hb4
          have hQ4 := (HO2.out.below hB3).below hb4
          have hJ4 := (HRJ.out.below hB3).below hb4
          have hB03 := HB2.out.trans (hB3.mono HB2.out.size)
          have hB04 := hB03.trans (hb4.mono hB03.size)
          obtain ⟨w4, hw4⟩ : ∃ w4, w4 = w3.alloc (.cells #[.int .i64 e.1.1, .slice ao3 e.1.2.1.length cap3, .string ⟨e.1.2.2.1.toArray⟩, .bool e.1.2.2.2] 24) := ⟨_, rfl⟩
          rw [← hw4] at hH4 hO4 hQ4 hJ4 hB04
          have HW4 := hid hw4
          have hd4 := HSe.out (.slice ao3 e.1.2.1.length cap3) w4.drew (hB04.trans (Below.drew (Below.refl _ _))) (hO4.below (Below.drew (Below.refl _ _))).sees
          have HQ4 := hid hQ4
          have HB4 := hid hB04
          obtain ⟨p0, p1, p2, p3, _, _, _, _⟩ := hH4.cells
          obtain ⟨q0, q1, q2, q3⟩ := hJ4.cells
          have HK : Hid (∀ W W' : World, Below W.heap.size W W' → (Below w4.heap.size w4 W ∧ W.cell? ⟨w3.heap.size, 0, none⟩ = some (.int .i64 e.1.1) ∧ W.cell? ⟨w3.heap.size, 1, none⟩ = some (.slice ao3 e.1.2.1.length cap3) ∧ W.cell? ⟨w3.heap.size, 2, none⟩ = some (.string ⟨e.1.2.2.1.toArray⟩) ∧ W.cell? ⟨w3.heap.size, 3, none⟩ = some (.bool e.1.2.2.2) ∧ W.cell? ⟨g2, j * 4, none⟩ = some (.int .i64 e.1.1) ∧ W.cell? ⟨g2, j * 4 + 1, none⟩ = some (.slice e.2.1 e.1.2.1.length e.2.2) ∧ W.cell? ⟨g2, j * 4 + 2, none⟩ = some (.string ⟨e.1.2.2.1.toArray⟩) ∧ W.cell? ⟨g2, j * 4 + 3, none⟩ = some (.bool e.1.2.2.2)) → (Below w4.heap.size w4 W' ∧ W'.cell? ⟨w3.heap.size, 0, none⟩ = some (.int .i64 e.1.1) ∧ W'.cell? ⟨w3.heap.size, 1, none⟩ = some (.slice ao3 e.1.2.1.length cap3) ∧ W'.cell? ⟨w3.heap.size, 2, none⟩ = some (.string ⟨e.1.2.2.1.toArray⟩) ∧ W'.cell? ⟨w3.heap.size, 3, none⟩ = some (.bool e.1.2.2.2) ∧ W'.cell? ⟨g2, j * 4, none⟩ = some (.int .i64 e.1.1) ∧ W'.cell? ⟨g2, j * 4 + 1, none⟩ = some (.slice e.2.1 e.1.2.1.length e.2.2) ∧ W'.cell? ⟨g2, j * 4 + 2, none⟩ = some (.string ⟨e.1.2.2.1.toArray⟩) ∧ W'.cell? ⟨g2, j * 4 + 3, none⟩ = some (.bool e.1.2.2.2))) := by
            intro W W' hb hs
            obtain ⟨s0, s1, s2, s3, s4, s5, s6, s7, s8⟩ := hs
            exact ⟨s0.trans (hb.mono s0.size), (hb.cell (World.block_lt_of_cell? W _ s1)).trans s1, (hb.cell (World.block_lt_of_cell? W _ s2)).trans s2, (hb.cell (World.block_lt_of_cell? W _ s3)).trans s3, (hb.cell (World.block_lt_of_cell? W _ s4)).trans s4, (hb.cell (World.block_lt_of_cell? W _ s5)).trans s5, (hb.cell (World.block_lt_of_cell? W _ s6)).trans s6, (hb.cell (World.block_lt_of_cell? W _ s7)).trans s7, (hb.cell (World.block_lt_of_cell? W _ s8)).trans s8⟩
          clear hb4 hH4 hO3 hO4 hQ4 hJ4 hB03 hB04 hw4 hB3 HO2 HB2 HRJ HSe
          go_wp2_with fail
          rw [← HW4.out]
          go_region_held3 (fun W => (Below w4.heap.size w4 W ∧ W.cell? ⟨w3.heap.size, 0, none⟩ = some (.int .i64 e.1.1) ∧ W.cell? ⟨w3.heap.size, 1, none⟩ = some (.slice ao3 e.1.2.1.length cap3) ∧ W.cell? ⟨w3.heap.size, 2, none⟩ = some (.string ⟨e.1.2.2.1.toArray⟩) ∧ W.cell? ⟨w3.heap.size, 3, none⟩ = some (.bool e.1.2.2.2) ∧ W.cell? ⟨g2, j * 4, none⟩ = some (.int .i64 e.1.1) ∧ W.cell? ⟨g2, j * 4 + 1, none⟩ = some (.slice e.2.1 e.1.2.1.length e.2.2) ∧ W.cell? ⟨g2, j * 4 + 2, none⟩ = some (.string ⟨e.1.2.2.1.toArray⟩) ∧ W.cell? ⟨g2, j * 4 + 3, none⟩ = some (.bool e.1.2.2.2))) (first | (exact ⟨Below.drew (Below.refl _ _), p0, p1, p2, p3, q0, q1, q2, q3⟩) | (exact HK.out _ _ (by assumption) (by assumption)))
            (first
              | (go_at_call 11
                 refine hd4.mono ?_
                 rintro e'' w6 ⟨rfl, hB6⟩))
          all_goals
            obtain ⟨hS6, _, _, _, _, _, _, _, _⟩ : (fun W => (Below w4.heap.size w4 W ∧ W.cell? ⟨w3.heap.size, 0, none⟩ = some (.int .i64 e.1.1) ∧ W.cell? ⟨w3.heap.size, 1, none⟩ = some (.slice ao3 e.1.2.1.length cap3) ∧ W.cell? ⟨w3.heap.size, 2, none⟩ = some (.string ⟨e.1.2.2.1.toArray⟩) ∧ W.cell? ⟨w3.heap.size, 3, none⟩ = some (.bool e.1.2.2.2) ∧ W.cell? ⟨g2, j * 4, none⟩ = some (.int .i64 e.1.1) ∧ W.cell? ⟨g2, j * 4 + 1, none⟩ = some (.slice e.2.1 e.1.2.1.length e.2.2) ∧ W.cell? ⟨g2, j * 4 + 2, none⟩ = some (.string ⟨e.1.2.2.1.toArray⟩) ∧ W.cell? ⟨g2, j * 4 + 3, none⟩ = some (.bool e.1.2.2.2))) w6 := by assumption
            have HQ6 := hid (HQ4.out.below hS6)
            have HB6 := hid (HB4.out.trans (hS6.mono HB4.out.size))
            clear hS6 HK HQ4 HB4 HW4
            go_wp2
            go_roundw
            case rel => first | exact ⟨j + 1, by omega, by go_num, by rw [← HRS.out], HQ6.out, HB6.out⟩ | ((repeat apply Exists.intro); exact ⟨⟨j + 1, by omega, by go_num, by rw [← HRS.out], HQ6.out, HB6.out⟩, rfl⟩)
            case measure => simp [intOf]; omega
        · have hlj' : ¬ (j : Int) < (G.length : Int) := by omega
          rw [List.drop_eq_nil_of_le (by omega)]
          have hA := HA.out wr hB2
          clear hO2 hB2 HA HPa HSm HSub HO HB
          rw [show flatY ([] : List ResE) = [] from rfl]
          go_wp2_with fail
          refine hA.mono ?_
          clear hA
          rintro e' w6 ⟨rfl, hB6⟩
          have HB6 := hid (HB2.out.trans (hB6.mono HB2.out.size))
          clear hB6
          go_wp2
          go_ret
          exact ⟨rfl, HB6.out⟩
end Go.Proofs.YtgkipeehmckbdaaDoor
