/-
  The code's Parse of any text.
-/
import Derived.Test.YtkidcoolcjmcfaaDoorCLines
namespace Go.Proofs.YtkidcoolcjmcfaaDoor
open Go.RowKit
set_option linter.unusedVariables false
set_option linter.unusedSimpArgs false
set_option maxRecDepth 100000

/-- What Parse tells. -/
def ParR (w : World) (R : List InsL × Int × Nat) (e : Ending) (w' : World) : Prop :=
  ∃ v, e = .returned (.tuple #[v, .int .i64 R.2.1, .int .i64 (R.2.2 : Int)]) ∧ OwnsI w' w.heap.size v R.1 ∧ Below w.heap.size w w'
set_option maxHeartbeats 8000000 in
theorem parse_any (s : List UInt8) (w : World) (hM : Met w) (hsl : s.length ≤ 140737488355328) :
    Calls Tryd.prog 15 #[.string ⟨s.toArray⟩] w (ParR w (parC s)) := by
  have HM := hid hM
  have hsz : (⟨s.toArray⟩ : ByteArray).size = s.length := rfl
  obtain ⟨R, hR⟩ : ∃ R, R = parC s := ⟨_, rfl⟩
  rw [← hR]
  by_cases hlong : 262144 < s.length
  · have h1 : (262144 : Int) < (s.length : Int) := by omega
    have HRR : Hid (R = ([], 4, 0)) := by unfold Hid; rw [hR, parC, if_pos hlong]
    clear hM hR hlong
    go_enter Tryd.func15, Tryd.ntmps15
    go_wp2
    go_ret3
    rw [HRR.out]
    exact ⟨_, rfl, World.ownsRow_nil _ _ _ _, Below.refl _ _⟩
  · have h1 : ¬ (262144 : Int) < (s.length : Int) := by omega
    obtain ⟨T, hT⟩ : ∃ T, T = readL 0 (splitC 10 s) := ⟨_, rfl⟩
    have HRR : Hid (R = tellC T) := by unfold Hid; rw [hR, parC, if_neg hlong, hT]
    have H0 : Hid (PrS w w s T 0 true [] (.slice none 0 0) (.slice none 0 0)) := by
      refine hid ⟨Below.refl _ _, World.ownsRow_nil _ _ _ _, World.ownsRow_nil _ _ _ _, ?_, fun _ => Nat.zero_le _, Nat.zero_le _, Nat.zero_le _⟩
      rw [hT]
      simp only [if_true, List.drop_zero]
      cases readL 0 (splitC 10 s) with
      | error q => rfl
      | ok l => simp [addA]
    have hsl2 : s.length ≤ 262144 := by omega
    obtain ⟨ml, hml⟩ := hM.ml
    have HML := hid hml
    clear hM hR hT hlong hml
    go_enter Tryd.func15, Tryd.ntmps15
    go_wp2_with fail
    go_loopw [7, 8, 5, 6] (fun at_ mo v5 v6 wr => ∃ (p : Nat) (more : Bool) (acc : List (InsL × Nat)), at_ = .int .i64 (p : Int) ∧ mo = .bool more ∧ Hid (PrS w wr s T p more acc v5 v6)) (fun at_ mo _ _ _ => match mo with | .bool true => s.length + 2 - (intOf at_).toNat | _ => 0)
    case atStart => exact ⟨0, true, [], rfl, rfl, H0⟩
    case round =>
      obtain ⟨p, more, acc, rfl, rfl, HS⟩ := hrel
      clear H0
      cases more with
      | false =>
        obtain ⟨a5, k5, hv5⟩ := row_shape HS.out.out
        obtain ⟨a6, k6, hv6⟩ := row_shape HS.out.pl
        subst hv5 hv6
        obtain ⟨ls, hls⟩ : ∃ ls, ls = acc.map (·.1) := ⟨_, rfl⟩
        obtain ⟨ps, hps⟩ : ∃ ps, ps = acc.map (·.2) := ⟨_, rfl⟩
        have hll : ls.length = acc.length := by rw [hls, List.length_map]
        have hpl : ps.length = acc.length := by rw [hps, List.length_map]
        have HRE : Hid (R = endC ls ps) := by
          have h := HS.out.tell
          simp only [Bool.false_eq_true, if_false, readL, addA, List.append_nil] at h
          unfold Hid
          rw [HRR.out, h, hls, hps]
          rfl
        have hO : OwnsI wr w.heap.size (.slice a5 acc.length k5) ls := by
          have h := HS.out.out
          unfold inC at h
          rw [← hls] at h
          unfold OwnsI
          rw [hll]
          exact h
        have hnb : acc.length ≤ 262145 := by have := HS.out.few; have := HS.out.big; omega
        have hCk := check_any (.slice a5 acc.length k5) ls wr hO.sees (HM.out.below HS.out.bel).tabs (by omega)
        have HCk := hid hCk
        have HO := hid hO
        have HPL := hid hpl
        have hcs := check_cases ls
        have HPS := hid hps
        have HLL := hid hll
        clear hCk hO hll hpl hls hps
        obtain ⟨n, hn⟩ : ∃ n, acc.length = n := ⟨_, rfl⟩
        have HN := hid hn
        rw [hn] at HCk HO hnb
        rw [hn]
        clear hn
        obtain ⟨⟨ce, ck⟩, hcc⟩ : ∃ C, C = checkL ls := ⟨_, rfl⟩
        rw [← hcc] at HCk hcs
        have HCC := hid hcc
        simp only at HCk
        clear hcc
        rcases hcs with hc | ⟨hc, hc2, hc3⟩ | ⟨hc, _⟩
        · simp only [Prod.mk.injEq] at hc
          obtain ⟨rfl, rfl⟩ := hc
          have HX : Hid (R = ([], 2, 0)) := by
            unfold Hid
            rw [HRE.out, endC, ← HCC.out]
            rfl
          go_wp2_with fail
          refine HCk.out.mono ?_
          rintro e w2 ⟨rfl, hb2⟩
          have HB := hid (HS.out.bel.trans (hb2.mono HS.out.bel.size))
          clear hb2
          go_wp2
          go_ret3
          unfold ParR
          rw [HX.out]
          exact ⟨.slice none 0 0, rfl, World.ownsRow_nil _ _ _ _, HB.out⟩
        · simp only [Prod.mk.injEq] at hc
          obtain ⟨rfl, hck⟩ := hc
          rw [← hck] at hc2
          have HX : Hid (R = ([], 130, ps.getD ck 0)) := by
            unfold Hid
            rw [HRE.out, endC, ← HCC.out]
            rfl
          have hkn : ck < n := by have := HLL.out; have := HN.out; omega
          have hki : (ck : Int) < (n : Int) := by omega
          have HKN := hid hkn
          have hbl : ∃ g, a6 = some ⟨g, 0, none⟩ ∧ n ≤ k6 ∧ wr.cell? ⟨g, ck, none⟩ = some (.int .i64 ((ps.getD ck 0 : Nat) : Int)) := by
            have h := HS.out.pl
            rw [HN.out] at h
            rcases h.2 with ⟨_, h0⟩ | ⟨g, cap', cur, hv, _, _, hc, _⟩
            · omega
            · simp at hv
              obtain ⟨rfl, rfl⟩ := hv
              have hx := h.cells (g := g) rfl ck (.int .i64 ((ps.getD ck 0 : Nat) : Int)) (by
                have := HN.out
                rw [HPS.out]
                simp [plC, List.getD, show ck < acc.length by omega])
              rw [addr_add, Nat.zero_add] at hx
              exact ⟨g, rfl, hc, hx⟩
          obtain ⟨g, rfl, hcap6, hcl⟩ := hbl
          have hkk : ck < k6 := by omega
          obtain ⟨pp, hpp⟩ : ∃ pp, pp = ps.getD ck 0 := ⟨_, rfl⟩
          rw [← hpp] at hcl HX
          have HCL := hid hcl
          clear hck hc2 hc3 hkn hpp hcl
          go_wp2_with fail
          refine HCk.out.mono ?_
          rintro e w2 ⟨rfl, hb2⟩
          have hcl2 := (hb2.cell (p := ⟨g, ck, none⟩) (World.block_lt_of_cell? wr _ HCL.out)).trans HCL.out
          have HB := hid (HS.out.bel.trans (hb2.mono HS.out.bel.size))
          have HBD : Hid (Below w.heap.size w w2.drew) := hid (HB.out.trans ((show Below w2.heap.size w2 w2.drew from Below.drew (Below.refl _ _)).mono HB.out.size))
          clear hb2
          go_wp2_with fail
          first
            | (go_region_held3 (fun X => X.cell? ⟨g, ck, none⟩ = some (.int .i64 (pp : Int))) (exact hcl2) (fail))
            | skip
          go_wp2
          go_ret3
          unfold ParR
          rw [HX.out]
          exact ⟨.slice none 0 0, rfl, World.ownsRow_nil _ _ _ _, HBD.out⟩
        · simp only [Prod.mk.injEq] at hc
          obtain ⟨rfl, rfl⟩ := hc
          have HX : Hid (R = (ls, 0, 0)) := by
            unfold Hid
            rw [HRE.out, endC, ← HCC.out]
            rfl
          go_wp2_with fail
          refine HCk.out.mono ?_
          rintro e w2 ⟨rfl, hb2⟩
          have HB := hid (HS.out.bel.trans (hb2.mono HS.out.bel.size))
          have HO2 : Hid (OwnsI w2 w.heap.size (.slice a5 n k5) ls) := hid (ownsRow_below HO.out hb2)
          clear hb2
          go_wp2
          go_ret3
          unfold ParR
          rw [HX.out]
          exact ⟨.slice a5 n k5, rfl, HO2.out, HB.out⟩
      | true =>
        have hp := HS.out.le rfl
        obtain ⟨c1, c2, c3⟩ := cut_next s p hp
        obtain ⟨⟨line, C2, more'⟩, hCC⟩ : ∃ C, C = cutC 10 (s.drop p) := ⟨_, rfl⟩
        rw [← hCC] at c1 c2 c3
        simp only at c1 c2 c3
        obtain ⟨a5, k5, hv5⟩ := row_shape HS.out.out
        obtain ⟨a6, k6, hv6⟩ := row_shape HS.out.pl
        subst hv5 hv6
        obtain ⟨n, hn⟩ : ∃ n, acc.length = n := ⟨_, rfl⟩
        rw [hn]
        have HN := hid hn
        have hnb : n ≤ 262145 := by have := HS.out.few; have := HS.out.big; omega
        have hpi : (p : Int) ≤ (s.length : Int) := by omega
        have hex := extract_listC s p s.length
        have htk : (s.drop p).take (s.length - p) = s.drop p := List.take_of_length_le (by rw [List.length_drop]; omega)
        have hC := Tryd.strings_Cut ⟨(s.drop p).toArray⟩ ⟨#[10]⟩ ml wr (by rw [size_list, List.length_drop]; omega) ((HS.out.bel.cell (World.block_lt_of_cell? w _ HML.out)).trans HML.out)
        rw [show (⟨(s.drop p).toArray⟩ : ByteArray).data.toList = s.drop p by simp, show (⟨#[10]⟩ : ByteArray).data.toList = [10] from rfl, cutC_lib, ← hCC] at hC
        simp only at hC
        have HC := hid hC
        have hll : line.length ≤ 262144 := by omega
        have HC2 := hid c2
        have HC3 := hid c3
        have hlsz : (⟨line.toArray⟩ : ByteArray).size = line.length := rfl
        obtain ⟨hle1, hle2⟩ := lead_len line
        have hWo := fun W (hb : Below w.heap.size w W) => wordsOf_any line W (HM.out.below hb) (by omega)
        have HWo := hid hWo
        have HEXT : Hid ((⟨s.toArray⟩ : ByteArray).extract p s.length = ⟨(s.drop p).toArray⟩) := by unfold Hid; rw [hex, htk]
        obtain ⟨TL, hTL⟩ : ∃ TL, TL = (Lib.trimLeftS line [32, 9]).length := ⟨_, rfl⟩
        rw [← hTL] at hle1 hle2
        have HTL := hid hTL
        have HLE1 := hid hle1
        have hwA : IntKind.i64.wrap ((p : Int) + (line.length : Int)) = (p : Int) + (line.length : Int) := by rw [IntKind.wrap_i64]; omega
        have hwB : IntKind.i64.wrap ((p : Int) + (line.length : Int) - (TL : Int)) = (p : Int) + (line.length : Int) - (TL : Int) := by rw [IntKind.wrap_i64]; omega
        have hwC : IntKind.i64.wrap ((line.length : Int) + 1) = (line.length : Int) + 1 := by rw [IntKind.wrap_i64]; omega
        have hwD : IntKind.i64.wrap ((p : Int) + ((line.length : Int) + 1)) = (p : Int) + ((line.length : Int) + 1) := by rw [IntKind.wrap_i64]; omega
        clear hex hC hCC c2 c3 hn hWo htk hTL hle1
        go_wp2_with fail
        rw [HEXT.out]
        refine HC.out.mono ?_
        clear HC HEXT
        rintro e wq ⟨rfl, dn, hwq⟩
        have HS1 := hid (HS.out.below (w' := wq) (by rw [hwq]; exact ⟨rfl, rfl, rfl, Nat.le_refl _, fun _ _ => rfl⟩))
        have hW := HWo.out wq HS1.out.bel
        clear HWo HS hwq
        go_wp2_with fail
        refine hW.mono ?_
        clear hW
        rintro e w2 ⟨rfl, hb2⟩
        have HS2 := hid (HS1.out.below hb2)
        clear HS1 hb2
        obtain ⟨wds, hwds⟩ : ∃ wds, wds = wordsL line := ⟨_, rfl⟩
        rw [← hwds]
        have HWD := hid hwds
        by_cases hwe : wds = []
        · have f1 : wds.isEmpty = true := by rw [hwe]; rfl
          have HNX : Hid (PrS w w2 s T (p + line.length + 1) more' acc (.slice a5 n k5) (.slice a6 n k6)) := by
            have h := HS2.out
            rw [HN.out] at h
            refine hid ⟨h.bel, h.out, h.pl, ?_, HC3.out, by have := h.few; omega, by have := h.le rfl; omega⟩
            have ht := h.tell
            simp only [if_true] at ht
            rw [HC2.out, read_skip (by rw [← HWD.out]; exact hwe)] at ht
            exact ht
          clear hwds HS2 hwe
          go_wp2
          go_roundw
          case rel => exact ⟨p + line.length + 1, more', acc, by go_num, rfl, HNX⟩
          case measure =>
            have := HC3.out
            cases more' <;> simp [intOf] <;> omega
        · have f1 : wds.isEmpty = false := by cases wds with | nil => exact absurd rfl hwe | cons a b => rfl
          have hwl : wds.length ≤ 1000000 := by
            rw [hwds]
            unfold wordsL
            refine Nat.le_trans (trimS_len _) ?_
            have : (cutC 59 line).1.length ≤ line.length := by
              rcases cutC_spec 59 line with ⟨_, h⟩ | ⟨a, b, h1, _, h2⟩
              · rw [h]; exact Nat.le_refl _
              · rw [h2, h1]; simp
            omega
          have HTLC := hid (fun W => Tryd.strings_TrimLeft_blanks ⟨line.toArray⟩ W)
          rw [show (⟨line.toArray⟩ : ByteArray).data.toList = line by simp] at HTLC
          have HINS := hid (fun W (hb : Below w.heap.size w W) => instruction_any wds W (HM.out.below hb) hwl)
          have HWE := hid hwe
          clear hwds hwl hwe
          go_wp2_with fail
          refine (HTLC.out _).mono ?_
          clear HTLC
          rintro e w3 ⟨rfl, hb3⟩
          have HS3 := hid (HS2.out.below hb3)
          have hlt3 : (⟨(Lib.trimLeftS line [32, 9]).toArray⟩ : ByteArray).size = TL := HTL.out.symm
          have hIn := HINS.out w3 HS3.out.bel
          clear hb3 HS2 HINS
          go_wp2_with fail
          refine hIn.mono ?_
          clear hIn
          rintro e w4 ⟨op, a, rfl, hia, hb4⟩
          have HS4 := hid (HS3.out.below hb4)
          have HIA := hid hia
          clear hia hb4 HS3
          obtain ⟨il, hil⟩ : ∃ il, il = insL wds := ⟨_, rfl⟩
          rw [← hil]
          have HIL := hid hil
          clear hil
          cases il with
          | none =>
            have HRE : Hid (R = ([], 130, p + leadL line)) := by
              have h := HS4.out.tell
              simp only [if_true] at h
              rw [HC2.out, read_bad (by rw [← HWD.out]; exact HWE.out) (by rw [← HWD.out]; exact HIL.out.symm)] at h
              unfold Hid
              rw [HRR.out, h]
              rfl
            have HBX := hid (HS4.out.bel.trans ((below_alloc w4 (.cells #[.int .i64 op, .int .i64 a] 38)).mono HS4.out.bel.size))
            go_wp2
            go_ret3
            unfold ParR
            rw [HRE.out]
            refine ⟨.slice none 0 0, ?_, World.ownsRow_nil _ _ _ _, HBX.out⟩
            have e1 : (p : Int) + (line.length : Int) - (TL : Int) = ((p + leadL line : Nat) : Int) := by have := HLE1.out; omega
            first | (rw [← e1]; rfl) | (show Ending.returned (.tuple #[.slice none 0 0, .int .i64 130, .int .i64 ((p : Int) + (line.length : Int) - (TL : Int))]) = _; rw [e1])
          | some i =>
            have hii := HIA.out i HIL.out.symm
            subst hii
            have HSI : Hid (SeesK 2 ((w4.alloc (.cells #[.int .i64 op, .int .i64 a] 38)).alloc (.cells #[.int .i64 op, .int .i64 a] 38)) (.slice (some ⟨w4.heap.size + 1, 0, none⟩) 1 1) 1 [.int .i64 op, .int .i64 a]) := by
              have h := seesK_ins op a (w4.alloc (.cells #[.int .i64 op, .int .i64 a] 38))
              rw [show (w4.alloc (.cells #[.int .i64 op, .int .i64 a] 38)).heap.size = w4.heap.size + 1 by simp] at h
              exact hid h
            have HRO : Hid (((w4.alloc (.cells #[.int .i64 op, .int .i64 a] 38)).alloc (.cells #[.int .i64 op, .int .i64 a] 38)).ownsRow w.heap.size 38 2 (.slice a5 n k5) n (inC acc)) := by
              have h := HS4.out.out
              rw [HN.out] at h
              exact hid (ownsRow_below (ownsRow_below h (below_alloc w4 _)) (below_alloc _ _))
            have HRP : Hid (w4.ownsRow w.heap.size 3 1 (.slice a6 n k6) n (plC acc)) := by
              have h := HS4.out.pl
              rw [HN.out] at h
              exact hid h
            have hs4 : w.heap.size ≤ w4.heap.size := HS4.out.bel.size
            go_wp2_with
              (at_builtin
               first
                 | (refine wpList_appK Tryd.underlying22 Tryd.infoI rfl (by decide) rfl _ _ rfl w.heap.size (.slice a5 n k5) n (inC acc) rfl HRO.out (.slice (some ⟨w4.heap.size + 1, 0, none⟩) 1 1) 1 [.int .i64 op, .int .i64 a] rfl HSI.out (fun y hy => by simp at hy; rcases hy with rfl | rfl <;> rfl) (by omega) (by simp only [maxLen]; omega) (by simp; omega) ?_
                    intro v5' w7 h7 g7
                    obtain ⟨a5', k5', hv5⟩ := row_shape h7
                    subst hv5
                    have z7 : w4.heap.size + 1 < w7.heap.size := by have := g7.size; simp at this; omega
                    have HRP7 : Hid (w7.ownsRow w.heap.size 3 1 (.slice a6 n k6) n (plC acc)) := hid (ownsRow_same HRP.out fun j hj => by
                      have lj := (HRP.out.lt j hj).2
                      rw [g7.block j (by simp; omega) (fun e => by
                        obtain ⟨c1, e1⟩ := ownsRow_tyC HRP.out hj
                        obtain ⟨c2, e2⟩ := ownsRow_tyC HRO.out e.symm
                        rw [heap_alloc_old (w4.alloc _) _ (by simp; omega), heap_alloc_old w4 _ lj, e1] at e2
                        simp at e2), heap_alloc_old (w4.alloc _) _ (by simp; omega), heap_alloc_old w4 _ lj])
                    have H7 := hid h7
                    have G7 := hid g7
                    have hs7 : w.heap.size ≤ w7.heap.size := by omega
                    clear h7 g7 HSI)
                 | (refine wpList_appK Tryd.underlying49 infoInt rfl (by decide) rfl _ _ rfl w.heap.size (.slice a6 n k6) n (plC acc) rfl (ownsRow_below HRP7.out (below_alloc w7 _)) (.slice (some ⟨w7.heap.size, 0, none⟩) 1 1) 1 [.int .i64 ((p : Int) + (line.length : Int) - (TL : Int))] rfl (seesK_int _ w7) (fun y hy => by simp at hy; subst hy; rfl) (by omega) (by simp only [maxLen]; omega) (by simp; omega) ?_
                    intro v6' w8 h8 g8
                    obtain ⟨a6', k6', hv6⟩ := row_shape h8
                    subst hv6
                    have HNX : Hid (PrS w w8 s T (p + line.length + 1) more' (acc ++ [((op, a), p + leadL line)]) (.slice a5' (n + 1) k5') (.slice a6' (n + 1) k6')) := by
                      have e1 : (p : Int) + (line.length : Int) - (TL : Int) = ((p + leadL line : Nat) : Int) := by have := HLE1.out; omega
                      rw [e1] at h8
                      have h := HS4.out
                      rw [HN.out] at h
                      exact hid (h.app (i := (op, a)) HN.out H7.out G7.out h8 g8 rfl HC2.out HC3.out (by rw [← HWD.out]; exact HWE.out) (by rw [← HWD.out]; exact HIL.out.symm) c1)
                    clear h8 g8 H7 G7 HRO HRP HRP7))
            go_roundw
            case rel => exact ⟨p + line.length + 1, more', acc ++ [((op, a), p + leadL line)], by go_num, rfl, HNX⟩
            case measure =>
              have := HC3.out
              cases more' <;> simp [intOf] <;> omega
end Go.Proofs.YtkidcoolcjmcfaaDoor
