/-
  The document's Parse of any text.
-/
import Derived.Test.YtkidcoolcjmcfaaDoorCROne
namespace Go.Proofs.YtkidcoolcjmcfaaDoor
open Go.RowKit
set_option linter.unusedVariables false
set_option linter.unusedSimpArgs false
set_option maxRecDepth 100000

theorem cut_take {L : List UInt8} {k : Nat} (hk : k < L.length) (hno : ∀ j (hj : j < L.length), j < k → L[j] ≠ 59) (he : L[k] = 59) : (cutC 59 (L.take k)).1 = (cutC 59 L).1 := by
  have hn : (59 : UInt8) ∉ L.take k := by
    intro hm
    obtain ⟨j, hj, e⟩ := List.getElem_of_mem hm
    rw [List.length_take] at hj
    rw [List.getElem_take] at e
    exact hno j (by omega) (by omega) e
  have e : L = L.take k ++ 59 :: L.drop (k + 1) := by
    conv => lhs; rw [← List.take_append_drop k L, List.drop_eq_getElem_cons hk, he]
  rw [cutC_none hn]
  conv => rhs; rw [e, cutC_app _ hn]
theorem cut_whole {L : List UInt8} {k : Nat} (hk : L.length ≤ k) (hno : ∀ j (hj : j < L.length), j < k → L[j] ≠ 59) : (cutC 59 L).1 = L := by
  have hn : (59 : UInt8) ∉ L := by
    intro hm
    obtain ⟨j, hj, e⟩ := List.getElem_of_mem hm
    exact hno j hj (by omega) e
  rw [cutC_none hn]
theorem cut_pre (c : UInt8) (L : List UInt8) : (cutC c L).1 = L.take (cutC c L).1.length ∧ (cutC c L).1.length ≤ L.length := by
  rcases cutC_spec c L with ⟨_, h⟩ | ⟨a, b, h1, _, h2⟩
  · rw [h]; simp
  · rw [h2, h1]; simp
theorem lead_at {L : List UInt8} {q : Nat} (hq : q ≤ L.length) (hall : ∀ j (hj : j < L.length), j < q → blB L[j] = true) (hend : q = L.length ∨ ∃ h : q < L.length, blB L[q] = false) : leadL L = q := by
  have key : ∀ (L : List UInt8) (q : Nat), q ≤ L.length → (∀ j (hj : j < L.length), j < q → blB L[j] = true) → (q = L.length ∨ ∃ h : q < L.length, blB L[q] = false) → leadL L = q := by
    intro L
    induction L with
    | nil => intro q hq _ _; simp at hq; subst hq; rfl
    | cons b r ih =>
      intro q hq hall hend
      cases q with
      | zero =>
        rcases hend with h | ⟨h, hb⟩
        · simp at h
        · simp at hb
          simp [leadL, List.takeWhile_cons, hb]
      | succ q =>
        have hb := hall 0 (by simp) (by omega)
        simp at hb
        have h2 := ih q (by simpa using hq) (fun j hj hjq => by have := hall (j + 1) (by simp; omega) (by omega); simpa using this) (by
          rcases hend with h | ⟨h, hb⟩
          · exact Or.inl (by simpa using h)
          · exact Or.inr ⟨by simpa using h, by simpa using hb⟩)
        unfold leadL at h2 ⊢
        rw [List.takeWhile_cons, if_pos hb]
        simp [h2]
  exact key L q hq hall hend

set_option maxHeartbeats 16000000 in
theorem rparse_any (s : List UInt8) (w : World) (hM : Met w) (hsl : s.length ≤ 140737488355328) :
    Calls Tryd.prog 16 #[.string ⟨s.toArray⟩] w (ParR w (parC s)) := by
  have HM := hid hM
  have hsz : (⟨s.toArray⟩ : ByteArray).size = s.length := rfl
  obtain ⟨R, hR⟩ : ∃ R, R = parC s := ⟨_, rfl⟩
  rw [← hR]
  by_cases hlong : 262144 < s.length
  · have h1 : (262144 : Int) < (s.length : Int) := by omega
    have HRR : Hid (R = ([], 4, 0)) := by unfold Hid; rw [hR, parC, if_pos hlong]
    clear hM hR hlong
    go_enter Tryd.func16, Tryd.ntmps16
    go_wp2
    go_ret3
    rw [HRR.out]
    exact ⟨_, rfl, World.ownsRow_nil _ _ _ _, Below.refl _ _⟩
  · have h1 : ¬ (262144 : Int) < (s.length : Int) := by omega
    obtain ⟨T, hT⟩ : ∃ T, T = readL 0 (splitC 10 s) := ⟨_, rfl⟩
    have HRR : Hid (R = tellC T) := by unfold Hid; rw [hR, parC, if_neg hlong, hT]
    have H0 : Hid (PrS w w s T 0 (decide (0 ≤ s.length)) [] (.slice none 0 0) (.slice none 0 0)) := by
      refine hid ⟨Below.refl _ _, World.ownsRow_nil _ _ _ _, World.ownsRow_nil _ _ _ _, ?_, fun _ => Nat.zero_le _, Nat.zero_le _, Nat.zero_le _⟩
      rw [hT]
      simp only [Nat.zero_le, decide_true, if_true, List.drop_zero]
      cases readL 0 (splitC 10 s) with
      | error q => rfl
      | ok l => simp [addA]
    have hsl2 : s.length ≤ 262144 := by omega
    clear hM hR hT hlong
    go_enter Tryd.func16, Tryd.ntmps16
    go_wp2_with fail
    go_loopw [8, 7, 5, 6] (fun i fr v5 v6 wr => ∃ (j p : Nat) (acc : List (InsL × Nat)), i = .int .i64 (j : Int) ∧ fr = .int .i64 (p : Int) ∧ j ≤ s.length + 1 ∧ p ≤ j ∧ (j = s.length + 1 → p = s.length + 1) ∧ Hid (∀ q (hq : q < s.length), p ≤ q → q < j → s[q] ≠ 10) ∧ Hid (PrS w wr s T p (decide (p ≤ s.length)) acc v5 v6)) (fun i _ _ _ _ => s.length + 2 - (intOf i).toNat)
    case atStart => exact ⟨0, 0, [], rfl, rfl, by omega, by omega, by omega, hid (fun q hq h1 h2 => by omega), H0⟩
    case round =>
      obtain ⟨j, p, acc, rfl, rfl, hj1, hpj, hend, HNT, HS⟩ := hrel
      clear H0
      by_cases hjl : j ≤ s.length
      case neg =>
        have hjl' : ¬ (j : Int) ≤ (s.length : Int) := by omega
        have hpe : p = s.length + 1 := hend (by omega)
        subst hpe
        clear HNT hend hpj hj1
        rw [decide_eq_false (show ¬ s.length + 1 ≤ s.length by omega)] at HS
        obtain ⟨a5, k5, hv5⟩ := row_shape HS.out.out
        obtain ⟨a6, k6, hv6⟩ := row_shape HS.out.pl
        subst hv5 hv6
        obtain ⟨ls, hls⟩ : ∃ ls, ls = acc.map (·.1) := ⟨_, rfl⟩
        obtain ⟨ps, hps⟩ : ∃ ps, ps = acc.map (·.2) := ⟨_, rfl⟩
        have hll : ls.length = acc.length := by rw [hls, List.length_map]
        have hpl : ps.length = acc.length := by rw [hps, List.length_map]
        have HRE : Hid (R = endC ls ps) := by
          have h := HS.out.tell
          simp only [Bool.false_eq_true, if_false, readL, addA, List.append_nil] at h
          unfold Hid
          rw [HRR.out, h, hls, hps]
          rfl
        have hO : OwnsI wr w.heap.size (.slice a5 acc.length k5) ls := by
          have h := HS.out.out
          unfold inC at h
          rw [← hls] at h
          unfold OwnsI
          rw [hll]
          exact h
        have hnb : acc.length ≤ 262145 := by have := HS.out.few; have := HS.out.big; omega
        have hCk := rcheck_any (.slice a5 acc.length k5) ls wr hO.sees (by omega)
        have HCk := hid hCk
        have HO := hid hO
        have HPL := hid hpl
        have hcs := check_cases ls
        have HPS := hid hps
        have HLL := hid hll
        clear hCk hO hll hpl hls hps
        obtain ⟨n, hn⟩ : ∃ n, acc.length = n := ⟨_, rfl⟩
        have HN := hid hn
        rw [hn] at HCk HO hnb
        rw [hn]
        clear hn
        obtain ⟨⟨ce, ck⟩, hcc⟩ : ∃ C, C = checkL ls := ⟨_, rfl⟩
        rw [← hcc] at HCk hcs
        have HCC := hid hcc
        simp only at HCk
        clear hcc
        rcases hcs with hc | ⟨hc, hc2, hc3⟩ | ⟨hc, _⟩
        · simp only [Prod.mk.injEq] at hc
          obtain ⟨rfl, rfl⟩ := hc
          have HX : Hid (R = ([], 2, 0)) := by
            unfold Hid
            rw [HRE.out, endC, ← HCC.out]
            rfl
          go_wp2_with fail
          refine HCk.out.mono ?_
          rintro e w2 ⟨rfl, hb2⟩
          have HB := hid (HS.out.bel.trans (hb2.mono HS.out.bel.size))
          clear hb2
          go_wp2
          go_ret3
          unfold ParR
          rw [HX.out]
          exact ⟨.slice none 0 0, rfl, World.ownsRow_nil _ _ _ _, HB.out⟩
        · simp only [Prod.mk.injEq] at hc
          obtain ⟨rfl, hck⟩ := hc
          rw [← hck] at hc2
          have HX : Hid (R = ([], 130, ps.getD ck 0)) := by
            unfold Hid
            rw [HRE.out, endC, ← HCC.out]
            rfl
          have hkn : ck < n := by have := HLL.out; have := HN.out; omega
          have hki : (ck : Int) < (n : Int) := by omega
          have HKN := hid hkn
          have hbl : ∃ g, a6 = some ⟨g, 0, none⟩ ∧ n ≤ k6 ∧ wr.cell? ⟨g, ck, none⟩ = some (.int .i64 ((ps.getD ck 0 : Nat) : Int)) := by
            have h := HS.out.pl
            rw [HN.out] at h
            rcases h.2 with ⟨_, h0⟩ | ⟨g, cap', cur, hv, _, _, hc, _⟩
            · omega
            · simp at hv
              obtain ⟨rfl, rfl⟩ := hv
              have hx := h.cells (g := g) rfl ck (.int .i64 ((ps.getD ck 0 : Nat) : Int)) (by
                have := HN.out
                rw [HPS.out]
                simp [plC, List.getD, show ck < acc.length by omega])
              rw [addr_add, Nat.zero_add] at hx
              exact ⟨g, rfl, hc, hx⟩
          obtain ⟨g, rfl, hcap6, hcl⟩ := hbl
          have hkk : ck < k6 := by omega
          obtain ⟨pp, hpp⟩ : ∃ pp, pp = ps.getD ck 0 := ⟨_, rfl⟩
          rw [← hpp] at hcl HX
          have HCL := hid hcl
          clear hck hc2 hc3 hkn hpp hcl
          go_wp2_with fail
          refine HCk.out.mono ?_
          rintro e w2 ⟨rfl, hb2⟩
          have hcl2 := (hb2.cell (p := ⟨g, ck, none⟩) (World.block_lt_of_cell? wr _ HCL.out)).trans HCL.out
          have HB := hid (HS.out.bel.trans (hb2.mono HS.out.bel.size))
          have HBD : Hid (Below w.heap.size w w2.drew) := hid (HB.out.trans ((show Below w2.heap.size w2 w2.drew from Below.drew (Below.refl _ _)).mono HB.out.size))
          clear hb2
          go_wp2_with fail
          first
            | (go_region_held3 (fun X => X.cell? ⟨g, ck, none⟩ = some (.int .i64 (pp : Int))) (exact hcl2) (fail))
            | skip
          go_wp2
          go_ret3
          unfold ParR
          rw [HX.out]
          exact ⟨.slice none 0 0, rfl, World.ownsRow_nil _ _ _ _, HBD.out⟩
        · simp only [Prod.mk.injEq] at hc
          obtain ⟨rfl, rfl⟩ := hc
          have HX : Hid (R = (ls, 0, 0)) := by
            unfold Hid
            rw [HRE.out, endC, ← HCC.out]
            rfl
          go_wp2_with fail
          refine HCk.out.mono ?_
          rintro e w2 ⟨rfl, hb2⟩
          have HB := hid (HS.out.bel.trans (hb2.mono HS.out.bel.size))
          have HO2 : Hid (OwnsI w2 w.heap.size (.slice a5 n k5) ls) := hid (ownsRow_below HO.out hb2)
          clear hb2
          go_wp2
          go_ret3
          unfold ParR
          rw [HX.out]
          exact ⟨.slice a5 n k5, rfl, HO2.out, HB.out⟩
      case pos =>
        have hjl' : (j : Int) ≤ (s.length : Int) := by omega
        have hw0 : IntKind.i64.wrap ((j : Int) + 1) = ((j + 1 : Nat) : Int) := by rw [IntKind.wrap_i64]; omega
        have HEND : Hid (¬ (j < s.length ∧ s.getD j 0 ≠ 10) → (j = s.length ∨ ∃ h : j < s.length, s[j] = 10)) := hid (fun hn => by
          by_cases h : j < s.length
          · refine Or.inr ⟨h, ?_⟩
            by_cases e : s[j] = 10
            · exact e
            · exfalso
              apply hn
              refine ⟨h, ?_⟩
              rw [List.getD_eq_getElem?_getD, List.getElem?_eq_getElem h]
              exact e
          · exact Or.inl (by omega))
        have HGO : Hid (j < s.length ∧ s.getD j 0 ≠ 10 → ∀ q (hq : q < s.length), p ≤ q → q < j + 1 → s[q] ≠ 10) := hid (fun hc q hq h1 h2 => by
          by_cases h : q = j
          · subst h
            have := hc.2
            rw [List.getD_eq_getElem?_getD, List.getElem?_eq_getElem hq] at this
            exact this
          · exact HNT.out q hq h1 (by omega))
        obtain ⟨Z, hZ⟩ : ∃ Z, Z = decide (j < s.length ∧ s.getD j 0 ≠ 10) := ⟨_, rfl⟩
        have HZ := hid hZ
        clear hZ
        go_upto_region 9 with fail
        go_cut [34] (fun x34 wx => x34 = .bool Z ∧ Hid (wr = wx))
        case first =>
          by_cases hjs : j < s.length
          · have hjs' : (j : Int) < (s.length : Int) := by omega
            have i1 := index_byte ⟨s.toArray⟩ .i64 (j : Int) j rfl (show j < (⟨s.toArray⟩ : ByteArray).size from hjs)
            rw [show (⟨s.toArray⟩ : ByteArray)[j]'(show j < (⟨s.toArray⟩ : ByteArray).size from hjs) = s[j] from rfl] at i1
            have hg : s.getD j 0 = s[j] := by rw [List.getD_eq_getElem?_getD, List.getElem?_eq_getElem hjs]; rfl
            obtain ⟨b, hb⟩ : ∃ b, b = s[j] := ⟨_, rfl⟩
            rw [← hb] at i1 hg
            by_cases he : b = 10
            · have f1 : ((b.toNat : Int) == 10) = true := by rw [he]; rfl
              have f2 : ((b.toNat : Int) != 10) = false := by simp [bne, f1]
              have HE : Hid (Z = false) := hid (by rw [HZ.out, hg, he]; simp)
              clear he hb hg
              go_wp2
              go_meet
              case rel => exact ⟨by rw [HE.out], hid rfl⟩
            · have f1 : ((b.toNat : Int) == 10) = false := by
                rw [beq_eq_false_iff_ne]
                intro e
                exact he (UInt8.toNat_inj.1 (by show b.toNat = 10; omega))
              have f2 : ((b.toNat : Int) != 10) = true := by simp [bne, f1]
              have HE : Hid (Z = true) := hid (by rw [HZ.out, hg]; simp [hjs, he])
              clear he hb hg
              go_wp2
              go_meet
              case rel => exact ⟨by rw [HE.out], hid rfl⟩
          · have hjs' : ¬ (j : Int) < (s.length : Int) := by omega
            have HE : Hid (Z = false) := hid (by rw [HZ.out]; simp [hjs])
            clear hjs
            go_wp2
            go_meet
            case rel => exact ⟨by rw [HE.out], hid rfl⟩
        case rest =>
          obtain ⟨rfl, HW⟩ := hcut
          have hw := HW.out
          subst hw
          clear HW
          cases Z with
          | true =>
            have hc := of_decide_eq_true HZ.out.symm
            have HG2 := hid (HGO.out hc)
            have hjs := hc.1
            clear HGO HEND HZ hc
            go_wp2
            go_roundw
            case rel => exact ⟨j + 1, p, acc, by go_num, rfl, by omega, by omega, fun h => by omega, HG2, HS⟩
            case measure => simp [intOf]; omega
          | false =>
            have hce := HEND.out (of_decide_eq_false HZ.out.symm)
            have hcl := cut_at hpj hjl HNT.out hce
            have hll := line_len2 hpj hjl (s := s)
            have hex := extract_listC s p j
            have hps : p ≤ s.length := by omega
            rw [decide_eq_true hps] at HS
            obtain ⟨line, hline⟩ : ∃ line, line = (s.drop p).take (j - p) := ⟨_, rfl⟩
            have hseg : ∀ q, q < line.length → ∃ h1 : q < line.length, ∃ h2 : p + q < s.length, line[q] = s[p + q] := fun q hq => by
              have h2 : p + q < s.length := by rw [hline] at hq; rw [hll] at hq; omega
              exact ⟨hq, h2, by subst hline; rw [List.getElem_take, List.getElem_drop]⟩
            rw [← hline] at hcl hll hex
            obtain ⟨cl, hcld⟩ : ∃ cl, cl = (cutC 59 line).1 := ⟨_, rfl⟩
            have hcp := cut_pre 59 line
            rw [← hcld] at hcp
            have hpl : p + line.length + 1 = j + 1 := by omega
            obtain ⟨more', hmo⟩ : ∃ m, m = decide (p + line.length + 1 ≤ s.length) := ⟨_, rfl⟩
            have HC2 : Hid (splitC 10 (s.drop p) = line :: (if more' = true then splitC 10 (s.drop (p + line.length + 1)) else [])) := hid (by rw [hcl, hmo, hpl])
            have HC3 : Hid (more' = true → p + line.length + 1 ≤ s.length) := hid (fun h => by rw [hmo] at h; exact of_decide_eq_true h)
            have HMO := hid hmo
            have HCL := hid hcld
            have HSEG := hid hseg
            have HCP := hid hcp
            have hcle : cl.length ≤ line.length := hcp.2
            have hls : line.length ≤ s.length := by omega
            have c1 : line.length ≤ s.length - p := by omega
            have hpjI : (p : Int) ≤ (j : Int) := by omega
            have HLEAD : Hid (leadL cl = leadL line) := hid (by rw [hcld]; exact lead_cut line)
            have hszl : (⟨line.toArray⟩ : ByteArray).size = line.length := rfl
            have hszc : (⟨cl.toArray⟩ : ByteArray).size = cl.length := rfl
            have HEX := hid hex
            clear HEND HGO HZ HNT hce hcl hline hseg hcp hcld hmo
            go_upto_block 2 with fail
            go_cut [9] (fun x9 wx => x9 = .string ⟨cl.toArray⟩ ∧ Hid (wr = wx))
            case first =>
              go_wp2_with fail
              go_loop [10, 9] (fun k x => ∃ (q : Nat) (L : List UInt8), q ≤ line.length ∧ k = .int .i64 (q : Int) ∧ x = .string ⟨L.toArray⟩ ∧ L.length ≤ line.length ∧ Hid ((cutC 59 L).1 = cl ∧ ∀ r (hr : r < L.length), r < q → L[r] ≠ 59)) (fun k _ => line.length - (intOf k).toNat)
              case atStart => exact ⟨0, line, Nat.zero_le _, rfl, (by first | rfl | rw [HEX.out] | simp [HEX.out]), Nat.le_refl _, hid ⟨HCL.out.symm, fun r hr h => by omega⟩⟩
              case round =>
                obtain ⟨q, L, hq, rfl, rfl, hLl, HL⟩ := hrel
                have hszL : (⟨L.toArray⟩ : ByteArray).size = L.length := rfl
                by_cases hlt : q < L.length
                · have hlt' : (q : Int) < (L.length : Int) := by omega
                  have hle' : (q : Int) ≤ (L.length : Int) := by omega
                  have i1 := index_byte ⟨L.toArray⟩ .i64 (q : Int) q rfl (show q < (⟨L.toArray⟩ : ByteArray).size from hlt)
                  rw [show (⟨L.toArray⟩ : ByteArray)[q]'(show q < (⟨L.toArray⟩ : ByteArray).size from hlt) = L[q] from rfl] at i1
                  have HY : Hid (L[q] = 59 → (cutC 59 (L.take q)).1 = cl ∧ ∀ r (hr : r < (L.take q).length), r < q + 1 → (L.take q)[r] ≠ 59) := hid (fun he => ⟨(cut_take hlt HL.out.2 he).trans HL.out.1, fun r hr _ => by
                    rw [List.getElem_take]
                    rw [List.length_take] at hr
                    exact HL.out.2 r (by omega) (by omega)⟩)
                  have HX : Hid (L[q] ≠ 59 → ∀ r (hr : r < L.length), r < q + 1 → L[r] ≠ 59) := hid (fun he r hr h => by
                    by_cases e : r = q
                    · subst e; exact he
                    · exact HL.out.2 r hr (by omega))
                  have hext := extract_listC L 0 q
                  rw [List.drop_zero, Nat.sub_zero] at hext
                  have HEXT := hid hext
                  have htl : (L.take q).length ≤ line.length := by rw [List.length_take]; omega
                  obtain ⟨L2, hL2⟩ : ∃ L2, L2 = L.take q := ⟨_, rfl⟩
                  rw [← hL2] at hext htl HEXT HY
                  obtain ⟨b, hb⟩ : ∃ b, b = L[q] := ⟨_, rfl⟩
                  rw [← hb] at i1 HX HY
                  have HCUT := hid HL.out.1
                  have HTL := hid htl
                  clear hb hL2 HL htl
                  by_cases he : b = 59
                  · have f1 : ((b.toNat : Int) == 59) = true := by rw [he]; rfl
                    have HN := hid (HY.out he)
                    clear he HX HY
                    go_wp2
                    go_round
                    case rel => exact ⟨q + 1, L2, by omega, by go_num, (by first | rfl | rw [HEXT.out] | simp [HEXT.out]), HTL.out, HN⟩
                    case measure => simp [intOf]; omega
                  · have f1 : ((b.toNat : Int) == 59) = false := by
                      rw [beq_eq_false_iff_ne]
                      intro e
                      exact he (UInt8.toNat_inj.1 (by show b.toNat = 59; omega))
                    have HN := hid (HX.out he)
                    clear he HX HY
                    go_wp2
                    go_round
                    case rel => exact ⟨q + 1, L, by omega, by go_num, rfl, hLl, hid ⟨HCUT.out, HN.out⟩⟩
                    case measure => simp [intOf]; omega
                · have hlt' : ¬ (q : Int) < (L.length : Int) := by omega
                  have HE : Hid (L = cl) := hid (by rw [← HL.out.1]; exact (cut_whole (by omega) HL.out.2).symm)
                  clear HL hlt
                  go_wp2
                  go_meet
                  case rel => exact ⟨by rw [HE.out], hid rfl⟩
            case rest =>
              obtain ⟨rfl, HW⟩ := hcut
              have hw := HW.out
              subst hw
              clear HW
              have hwA : IntKind.i64.wrap ((p : Int) + (cl.length : Int)) = (p : Int) + (cl.length : Int) := by rw [IntKind.wrap_i64]; omega
              go_upto_block 4 with fail
              go_cut [11] (fun x11 wx => x11 = .int .i64 ((p : Int) + (leadL line : Int)) ∧ Hid (wr = wx))
              case first =>
                go_wp2_with fail
                go_loop [11] (fun a => ∃ (q : Nat), q ≤ cl.length ∧ a = .int .i64 ((p : Int) + (q : Int)) ∧ Hid (∀ r (hr : r < cl.length), r < q → blB cl[r] = true)) (fun a => p + cl.length - (intOf a).toNat)
                case atStart => exact ⟨0, Nat.zero_le _, by simp, hid (fun r hr h => by omega)⟩
                case round =>
                  obtain ⟨q, hq, rfl, HL⟩ := hrel
                  by_cases hlt : q < cl.length
                  · have hlt' : (p : Int) + (q : Int) < (p : Int) + (cl.length : Int) := by omega
                    have hlt2 : (q : Int) < (cl.length : Int) := by omega
                    obtain ⟨g1, g2, g3⟩ := HSEG.out q (by omega)
                    have i1 := index_byte ⟨s.toArray⟩ .i64 ((p : Int) + (q : Int)) (p + q) (by omega) (show p + q < (⟨s.toArray⟩ : ByteArray).size from g2)
                    rw [show (⟨s.toArray⟩ : ByteArray)[p + q]'(show p + q < (⟨s.toArray⟩ : ByteArray).size from g2) = s[p + q] from rfl, ← g3] at i1
                    have hce : cl[q] = line[q] := by
                      have h := HCP.out.1
                      have : cl[q]? = (line.take cl.length)[q]? := by rw [← h]
                      rw [List.getElem?_take, if_pos hlt] at this
                      rw [List.getElem?_eq_getElem hlt, List.getElem?_eq_getElem g1] at this
                      exact Option.some.inj this
                    rw [← hce] at i1
                    have HE : Hid (blB cl[q] = false → q = leadL line) := hid (fun h => by rw [← HLEAD.out]; exact (lead_at hq HL.out (Or.inr ⟨hlt, h⟩)).symm)
                    have HG : Hid (blB cl[q] = true → ∀ r (hr : r < cl.length), r < q + 1 → blB cl[r] = true) := hid (fun he r hr h => by
                      by_cases e : r = q
                      · subst e; exact he
                      · exact HL.out r hr (by omega))
                    have hwB : IntKind.i64.wrap ((p : Int) + (q : Int) + 1) = (p : Int) + ((q + 1 : Nat) : Int) := by rw [IntKind.wrap_i64]; omega
                    obtain ⟨b, hb⟩ : ∃ b, b = cl[q] := ⟨_, rfl⟩
                    rw [← hb] at i1 HE HG
                    clear hb hce g1 g2 g3
                    refine blank_cases b _ (fun z1 zb => ?_) (fun z1 z2 zb => ?_) (fun z1 z2 zb => ?_)
                    · have HN := hid (HG.out zb)
                      clear HG HE zb
                      go_wp2
                      go_round
                      case rel => exact ⟨q + 1, by omega, (by first | rfl | (simp; omega) | go_num), HN⟩
                      case measure => simp [intOf]; omega
                    · have HN := hid (HG.out zb)
                      clear HG HE zb
                      go_wp2
                      go_round
                      case rel => exact ⟨q + 1, by omega, (by first | rfl | (simp; omega) | go_num), HN⟩
                      case measure => simp [intOf]; omega
                    · have HN := hid (HE.out zb)
                      clear HG HE zb
                      go_wp2
                      go_meet
                      case rel => exact ⟨by rw [HN.out], hid rfl⟩
                  · have hlt' : ¬ (p : Int) + (q : Int) < (p : Int) + (cl.length : Int) := by omega
                    have hlt2 : ¬ (q : Int) < (cl.length : Int) := by omega
                    have HN : Hid (q = leadL line) := hid (by rw [← HLEAD.out]; exact (lead_at hq HL.out (Or.inl (by omega))).symm)
                    clear HL hlt
                    go_wp2
                    go_meet
                    case rel => exact ⟨by rw [HN.out], hid rfl⟩
              case rest =>
                obtain ⟨rfl, HW⟩ := hcut
                have hw := HW.out
                subst hw
                clear HW
                have HTr := hid (fun W => rtrim_any cl W (by omega))
                obtain ⟨wds, hwds⟩ : ∃ wds, wds = wordsL line := ⟨_, rfl⟩
                have hwt : Lib.trimS cl [32, 9] = wds := by rw [hwds, wordsL, HCL.out]
                rw [hwt] at HTr
                have hwl : wds.length ≤ 1000000 := by
                  rw [← hwt]
                  refine Nat.le_trans (trimS_len _) ?_
                  omega
                have hwe2 : EndB wds := by rw [hwds]; exact words_end line
                have HWD := hid hwds
                obtain ⟨F, hF⟩ : ∃ F, F = p + leadL line := ⟨_, rfl⟩
                have HFF := hid hF
                have hFi : (p : Int) + (leadL line : Int) = (F : Int) := by omega
                rw [hFi]
                obtain ⟨a5, k5, hv5⟩ := row_shape HS.out.out
                obtain ⟨a6, k6, hv6⟩ := row_shape HS.out.pl
                subst hv5 hv6
                obtain ⟨n, hn⟩ : ∃ n, acc.length = n := ⟨_, rfl⟩
                rw [hn]
                have HN := hid hn
                have hnb : n ≤ 262145 := by have := HS.out.few; have := HS.out.big; omega
                clear hwt hwds hF hFi hn
                go_wp2_with fail
                refine (HTr.out _).mono ?_
                clear HTr
                rintro e w3 ⟨rfl, rfl⟩
                by_cases hwe : wds = []
                · have f1 : wds.isEmpty = true := by rw [hwe]; rfl
                  have HNX : Hid (PrS w w3 s T (p + line.length + 1) more' acc (.slice a5 n k5) (.slice a6 n k6)) := by
                    have h := HS.out
                    rw [HN.out] at h
                    refine hid ⟨h.bel, h.out, h.pl, ?_, HC3.out, by have := h.few; omega, by have := h.le rfl; omega⟩
                    have ht := h.tell
                    simp only [if_true] at ht
                    rw [HC2.out, read_skip (by rw [← HWD.out]; exact hwe)] at ht
                    exact ht
                  clear HS hwe hwe2
                  go_wp2
                  go_roundw
                  case rel =>
                    refine ⟨j + 1, j + 1, acc, by go_num, by go_num, by omega, by omega, by omega, hid (fun q hq h1 h2 => by omega), ?_⟩
                    have h := HNX.out
                    rw [HMO.out, hpl] at h
                    exact hid h
                  case measure => simp [intOf]; omega
                · have f1 : wds.isEmpty = false := by cases wds with | nil => exact absurd rfl hwe | cons a b => rfl
                  have hIn := rone_any wds w3 hwl hwe2
                  have HWE := hid hwe
                  clear hwe hwe2 hwl
                  go_wp2_with fail
                  refine hIn.mono ?_
                  clear hIn
                  rintro e w4 ⟨op, a, rfl, hia, hb4⟩
                  have HS4 := hid (HS.out.below hb4)
                  have HIA := hid hia
                  clear hia hb4 HS
                  obtain ⟨il, hil⟩ : ∃ il, il = insL wds := ⟨_, rfl⟩
                  rw [← hil]
                  have HIL := hid hil
                  clear hil
                  cases il with
                  | none =>
                    have HRE : Hid (R = ([], 130, F)) := by
                      have h := HS4.out.tell
                      simp only [if_true] at h
                      rw [HC2.out, read_bad (by rw [← HWD.out]; exact HWE.out) (by rw [← HWD.out]; exact HIL.out.symm)] at h
                      unfold Hid
                      rw [HRR.out, h, HFF.out]
                      rfl
                    have HBX := hid (HS4.out.bel.trans ((below_alloc w4 (.cells #[.int .i64 op, .int .i64 a] 38)).mono HS4.out.bel.size))
                    go_wp2
                    go_ret3
                    unfold ParR
                    rw [HRE.out]
                    exact ⟨.slice none 0 0, rfl, World.ownsRow_nil _ _ _ _, HBX.out⟩
                  | some i =>
                    have hii := HIA.out i HIL.out.symm
                    subst hii
                    have HSI : Hid (SeesK 2 ((w4.alloc (.cells #[.int .i64 op, .int .i64 a] 38)).alloc (.cells #[.int .i64 op, .int .i64 a] 38)) (.slice (some ⟨w4.heap.size + 1, 0, none⟩) 1 1) 1 [.int .i64 op, .int .i64 a]) := by
                      have h := seesK_ins op a (w4.alloc (.cells #[.int .i64 op, .int .i64 a] 38))
                      rw [show (w4.alloc (.cells #[.int .i64 op, .int .i64 a] 38)).heap.size = w4.heap.size + 1 by simp] at h
                      exact hid h
                    have HRO : Hid (((w4.alloc (.cells #[.int .i64 op, .int .i64 a] 38)).alloc (.cells #[.int .i64 op, .int .i64 a] 38)).ownsRow w.heap.size 38 2 (.slice a5 n k5) n (inC acc)) := by
                      have h := HS4.out.out
                      rw [HN.out] at h
                      exact hid (ownsRow_below (ownsRow_below h (below_alloc w4 _)) (below_alloc _ _))
                    have HRP : Hid (w4.ownsRow w.heap.size 3 1 (.slice a6 n k6) n (plC acc)) := by
                      have h := HS4.out.pl
                      rw [HN.out] at h
                      exact hid h
                    have hs4 : w.heap.size ≤ w4.heap.size := HS4.out.bel.size
                    go_wp2_with
                      (at_builtin
                       first
                         | (refine wpList_appK Tryd.underlying22 Tryd.infoI rfl (by decide) rfl _ _ rfl w.heap.size (.slice a5 n k5) n (inC acc) rfl HRO.out (.slice (some ⟨w4.heap.size + 1, 0, none⟩) 1 1) 1 [.int .i64 op, .int .i64 a] rfl HSI.out (fun y hy => by simp at hy; rcases hy with rfl | rfl <;> rfl) (by omega) (by simp only [maxLen]; omega) (by simp; omega) ?_
                            intro v5' w7 h7 g7
                            obtain ⟨a5', k5', hv5⟩ := row_shape h7
                            subst hv5
                            have z7 : w4.heap.size + 1 < w7.heap.size := by have := g7.size; simp at this; omega
                            have HRP7 : Hid (w7.ownsRow w.heap.size 3 1 (.slice a6 n k6) n (plC acc)) := hid (ownsRow_same HRP.out fun j hj => by
                              have lj := (HRP.out.lt j hj).2
                              rw [g7.block j (by simp; omega) (fun e => by
                                obtain ⟨c1, e1⟩ := ownsRow_tyC HRP.out hj
                                obtain ⟨c2, e2⟩ := ownsRow_tyC HRO.out e.symm
                                rw [heap_alloc_old (w4.alloc _) _ (by simp; omega), heap_alloc_old w4 _ lj, e1] at e2
                                simp at e2), heap_alloc_old (w4.alloc _) _ (by simp; omega), heap_alloc_old w4 _ lj])
                            have H7 := hid h7
                            have G7 := hid g7
                            have hs7 : w.heap.size ≤ w7.heap.size := by omega
                            clear h7 g7 HSI)
                         | (refine wpList_appK Tryd.underlying49 infoInt rfl (by decide) rfl _ _ rfl w.heap.size (.slice a6 n k6) n (plC acc) rfl (ownsRow_below HRP7.out (below_alloc w7 _)) (.slice (some ⟨w7.heap.size, 0, none⟩) 1 1) 1 [.int .i64 (F : Int)] rfl (seesK_int _ w7) (fun y hy => by simp at hy; subst hy; rfl) (by omega) (by simp only [maxLen]; omega) (by simp; omega) ?_
                            intro v6' w8 h8 g8
                            obtain ⟨a6', k6', hv6⟩ := row_shape h8
                            subst hv6
                            have HNX : Hid (PrS w w8 s T (p + line.length + 1) more' (acc ++ [((op, a), F)]) (.slice a5' (n + 1) k5') (.slice a6' (n + 1) k6')) := by
                              have h := HS4.out
                              rw [HN.out] at h
                              exact hid (h.app (i := (op, a)) HN.out H7.out G7.out h8 g8 HFF.out HC2.out HC3.out (by rw [← HWD.out]; exact HWE.out) (by rw [← HWD.out]; exact HIL.out.symm) c1)
                            clear h8 g8 H7 G7 HRO HRP HRP7))
                    go_roundw
                    case rel =>
                      refine ⟨j + 1, j + 1, acc ++ [((op, a), F)], by go_num, by go_num, by omega, by omega, by omega, hid (fun q hq h1 h2 => by omega), ?_⟩
                      have h := HNX.out
                      rw [HMO.out, hpl] at h
                      exact hid h
                    case measure => simp [intOf]; omega
end Go.Proofs.YtkidcoolcjmcfaaDoor
