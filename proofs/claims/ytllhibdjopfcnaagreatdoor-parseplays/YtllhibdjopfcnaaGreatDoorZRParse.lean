/-
  Parse: the document's.
-/
import Derived.Test.YtllhibdjopfcnaaGreatDoorZRReq
import Derived.Test.YtllhibdjopfcnaaGreatDoorZRSame7
namespace Go.Proofs.YtllhibdjopfcnaaGreatDoor
open Go.RowKit
set_option linter.unusedVariables false

def endOf (R : HeadL × Int × Nat) : HeadL × Int × Nat := if R.2.1 ≠ 0 then (hz, R.2.1, R.2.2) else if hostOk R.1 = true then (R.1, 0, 0) else (hz, 400, 0)
theorem endOf_bad {h : HeadL} {st : Int} {k : Nat} (h0 : st ≠ 0) : endOf (h, st, k) = (hz, st, k) := by
  unfold endOf
  rw [if_pos h0]
theorem endOf_ok {h : HeadL} {k : Nat} : endOf (h, 0, k) = if hostOk h = true then (h, 0, 0) else (hz, 400, 0) := by
  unfold endOf
  rw [if_neg (by simp)]
theorem parseL_end {L : List UInt8} (h : ¬ 4096 < L.length) : parseL L = endOf (lines L.length (L.length + 1) none 0 L) := by
  unfold parseL endOf
  rw [if_neg h]
theorem HeadAt.far {w : World} {p q i : Nat} {a b c d x : Value} (h : HeadAt w p a b c d) (hq : p ≠ q) : HeadAt (w.setCell ⟨q, i, none⟩ x) p a b c d :=
  h.same (Below.heap_setCell w ⟨q, i, none⟩ x p hq)
/-- Where the document's lines stand. -/
structure RAt7 (w0 : World) (L : List UInt8) (R : HeadL × Int × Nat) (k nn : Nat) (oh : Option HeadL) (w : World) : Prop where
  le : k ≤ L.length
  nle : nn ≤ k
  zero : nn = 0 ↔ oh = none
  fuel : ∃ f, lines L.length (f + 1) oh k (L.drop k) = R ∧ L.length - k ≤ f
  few : (headOf oh).2.2.2.length ≤ 32
  below : Below w0.heap.size w0 w
  res : HeadAt w w0.heap.size (.string ⟨#[]⟩) (.string ⟨#[]⟩) (.int .i64 0) (.slice none 0 0)
  head : ∃ v, HeadAt w (w0.heap.size + 1) (strV (headOf oh).1) (strV (headOf oh).2.1) (.int .i64 (headOf oh).2.2.1) v ∧ OwnsP w (w0.heap.size + 2) v (headOf oh).2.2.2

set_option maxRecDepth 20000 in
set_option maxHeartbeats 16000000 in
theorem rparse_any (L : List UInt8) (w : World) (hs : L.length ≤ 9223372036854775807) :
    Calls Tryz.prog 27 #[.string ⟨L.toArray⟩] w fun e w' => ∃ v, e = .returned (.tuple #[.agg #[strV (parseL L).1.1, strV (parseL L).1.2.1, .int .i64 (parseL L).1.2.2.1, v], .int .i64 (parseL L).2.1, .int .i64 ((parseL L).2.2 : Int)]) ∧ OwnsP w' w.heap.size v (parseL L).1.2.2.2 ∧ Below w.heap.size w w' := by
  obtain ⟨T, hT⟩ : ∃ T, T = parseL L := ⟨_, rfl⟩
  rw [← hT]
  obtain ⟨s, hse⟩ : ∃ s : ByteArray, s = ⟨L.toArray⟩ := ⟨_, rfl⟩
  have hsz : s.size = L.length := by rw [hse, size_list]
  have hH0 : HeadAt (w.alloc (.cells #[.string ⟨#[]⟩, .string ⟨#[]⟩, .int .i64 0, .slice none 0 0] 34)) w.heap.size (.string ⟨#[]⟩) (.string ⟨#[]⟩) (.int .i64 0) (.slice none 0 0) := HeadAt.new w _ _ _ _
  have hB0 := below_alloc w (.cells #[.string ⟨#[]⟩, .string ⟨#[]⟩, .int .i64 0, .slice none 0 0] 34)
  by_cases hlong : 4096 < L.length
  · have hl' : (4096 : Int) < (s.size : Int) := by omega
    rw [parse_long hlong] at hT
    have HE := hid hT
    rw [← hse]
    have HB := hid hB0
    obtain ⟨y0, y1, y2, y3, _, _, _, _⟩ := hH0.cells
    clear hT hse hsz hH0 hB0
    go_enter Tryz.func27, Tryz.ntmps27
    go_wp2
    refine bodyPost_ret (v := .tuple #[.agg #[.string ⟨#[]⟩, .string ⟨#[]⟩, .int .i64 0, .slice none 0 0], .int .i64 431, .int .i64 0]) (by simp [results, Tryz.results27, go_sem, y0, y1, y2, y3]) rfl ?_
    rw [HE.out]
    exact ⟨_, rfl, OwnsP.nil _ _, HB.out⟩
  have hl' : ¬ (4096 : Int) < (s.size : Int) := by omega
  rw [parseL_end hlong] at hT
  have hx2 : ∀ k, s.extract k s.size = ⟨(L.drop k).toArray⟩ := by intro k; rw [hsz, hse, extract_from _ _ _ rfl]
  have hx3 : ∀ a b, s.extract a b = ⟨((L.drop a).take (b - a)).toArray⟩ := by intro a b; rw [hse, extract_list]
  have hEnd0 := fun k w => fun hk => rend_any L k w (by omega) hk
  obtain ⟨R, hR⟩ : ∃ R, R = lines L.length (L.length + 1) none 0 L := ⟨_, rfl⟩
  rw [← hR] at hT
  rw [← hse] at hEnd0 ⊢
  obtain ⟨w0, hw0⟩ : ∃ w0, w0 = w.alloc (.cells #[.string ⟨#[]⟩, .string ⟨#[]⟩, .int .i64 0, .slice none 0 0] 34) := ⟨_, rfl⟩
  have hz0 : w0.heap.size = w.heap.size + 1 := by rw [hw0]; simp
  have HWW : Hid (w0 = w.alloc (.cells #[.string ⟨#[]⟩, .string ⟨#[]⟩, .int .i64 0, .slice none 0 0] 34)) := hid hw0
  rw [← hw0] at hH0 hB0
  have hH1 := HeadAt.new w0 (.string ⟨#[]⟩) (.string ⟨#[]⟩) (.int .i64 0) (.slice none 0 0)
  have hB1 := below_alloc w0 (.cells #[.string ⟨#[]⟩, .string ⟨#[]⟩, .int .i64 0, .slice none 0 0] 34)
  obtain ⟨w1, hw1⟩ : ∃ w1, w1 = w0.alloc (.cells #[.string ⟨#[]⟩, .string ⟨#[]⟩, .int .i64 0, .slice none 0 0] 34) := ⟨_, rfl⟩
  rw [← hw1] at hH1 hB1
  have HW1 := hid hw1
  rw [hz0] at hH1
  have hHr := hH0.below hB1 hH0.lt
  have HAt0 : Hid (RAt7 w L R 0 0 none w1) := by
    refine hid ⟨Nat.zero_le _, Nat.le_refl _, ⟨fun _ => rfl, fun _ => rfl⟩, ⟨L.length, by rw [List.drop_zero]; exact hR.symm, by omega⟩, Nat.zero_le _, hB0.trans (hB1.mono (by omega)), hHr, _, hH1, OwnsP.nil _ _⟩
  have HT := hid hT
  have HZ := hid hsz
  have HX2 := hid hx2
  have HX3 := hid hx3
  have HEnd0 := hid hEnd0
  clear hT hR hse hx2 hx3 hH0 hB0 hH1 hB1 hw0 hw1 hHr hz0 hEnd0
  go_enter Tryz.func27, Tryz.ntmps27
  go_wp2_with fail
  rw [← HWW.out]
  rw [← HW1.out]
  clear hsz
  go_loopw [6, 7] (fun at' n wr => ∃ (k nn : Nat) (oh : Option HeadL), at' = .int .i64 (k : Int) ∧ n = .int .i64 (nn : Int) ∧ RAt7 w L R k nn oh wr) (fun at' _ _ => L.length - (intOf at').toNat)
  case atStart => exact ⟨0, 0, none, rfl, rfl, HAt0.out⟩
  clear HAt0
  case round =>
    obtain ⟨k, nn, oh, rfl, rfl, hle, hnle, hzero, ⟨f, hfl, hfu⟩, hfew, hbel, hres, v, hhd, hown⟩ := hrel
    have hsz := HZ.out
    have hkz : (k : Int) ≤ (s.size : Int) := by omega
    have hk4 : k ≤ 4096 := by omega
    have hDl : (L.drop k).length = L.length - k := List.length_drop
    have hEnd := HEnd0.out k wr hle
    have hcl := cutE_len (L.drop k)
    have hcf := fun h => cutE_false (l := L.drop k) h
    have hlb := fun h => lines_bad (n := L.length) (f := f) (k := k) (oh := oh) (D := L.drop k) h
    have hla := fun h => lines_at (n := L.length) (f := f) (k := k) (oh := oh) (D := L.drop k) h
    have hlf := fun hd h1 h2 => lines_fld (n := L.length) (f := f) (k := k) (h := hd) (D := L.drop k) h1 h2
    have hdn := fun h => drop_next (L := L) (k := k) h hle
    have hev : endV L k = if (cutE (L.drop k)).2.2 = true then ((k + (cutE (L.drop k)).1.length : Nat) : Int) else -1 := rfl
    rw [hfl] at hlb hla
    have hct := fun h => cutE_true (l := L.drop k) h
    obtain ⟨D, hD⟩ : ∃ D, D = L.drop k := ⟨_, rfl⟩
    rw [← hD] at hcl hcf hlb hla hlf hdn hev hDl hfl hct
    have HXk : Hid (s.extract k s.size = ⟨D.toArray⟩) := by unfold Hid; rw [hD]; exact HX2.out k
    have HXe : Hid (∀ e, s.extract k e = ⟨(D.take (e - k)).toArray⟩) := by unfold Hid; intro e; rw [hD]; exact HX3.out k e
    obtain ⟨c1, hc1⟩ : ∃ x, x = (cutE D).1 := ⟨_, rfl⟩
    obtain ⟨c2, hc2⟩ : ∃ x, x = (cutE D).2.1 := ⟨_, rfl⟩
    obtain ⟨c3, hc3⟩ : ∃ x, x = (cutE D).2.2 := ⟨_, rfl⟩
    rw [← hc1, ← hc2, ← hc3] at hcl hcf hdn hla hlf hct
    rw [← hc1, ← hc3] at hlb hev
    obtain ⟨C1, hC1⟩ : ∃ C : ByteArray, C = ⟨c1.toArray⟩ := ⟨_, rfl⟩
    have hCs : C1.size = c1.length := by rw [hC1, size_list]
    have hCe : C1.toList.isEmpty = c1.isEmpty := by rw [hC1, toList_str]
    have hBro := rbroken_any c1 wr (by omega)
    have hRq := rrequest_any c1 wr (by omega)
    have hFd := rfield_any c1 wr (by omega)
    rw [← hC1] at hBro hRq hFd
    have HH := hid hres
    have HB := hid hbel
    have HHd := hid hhd
    have HOwn := hid hown
    have HFew := hid hfew
    have HLB := hid hlb
    have HLA := hid hla
    have HLF := hid hlf
    have HDN := hid hdn
    have HFL := hid hfl
    have HZero := hid hzero
    have hpw := hres.lt
    have hp2 := hhd.lt
    clear hlb hla hlf hdn hfl hfew hres hbel hhd hown hzero hD hc1 hc2 hc3
    cases c3 with
    | false =>
      have hev' : endV L k = -1 := by rw [hev]; rfl
      rw [hev'] at hEnd
      have hXl : s.extract k s.size = C1 := by rw [HXk.out, hC1, (hcf rfl).1]
      by_cases hlg : 1024 < c1.length
      · have hlg' : (1024 : Int) < (C1.size : Int) := by omega
        have ho : outL c1 false = 431 := by unfold outL; rw [if_pos hlg]
        have HE : Hid (T = (hz, 431, k)) := by unfold Hid; rw [HT.out, HLB.out (by rw [ho]; decide), ho, endOf_bad (by decide)]
        clear hev hev' hcl hcf hct HLB HLA HLF HDN HFL hBro hRq hFd hCe ho hsz hDl hCs hC1
        go_wp2_with fail
        refine hEnd.mono ?_
        clear hEnd
        rintro e wa ⟨rfl, hwa⟩
        subst hwa
        obtain ⟨q0, q1, q2, q3, z0, z1, z2, z3⟩ := HH.out.cells
        have HF := hid ((((HH.out.store0 (x := .string ⟨#[]⟩)).store1 (x := .string ⟨#[]⟩)).store2 (x := .int .i64 0)).store3 (x := .slice none 0 0))
        have HKF := hid ((((HB.out.setCell (p := ⟨w.heap.size, 0, none⟩) (by simp) (.string ⟨#[]⟩)).setCell (p := ⟨w.heap.size, 1, none⟩) (by simp) (.string ⟨#[]⟩)).setCell (p := ⟨w.heap.size, 2, none⟩) (by simp) (.int .i64 0)).setCell (p := ⟨w.heap.size, 3, none⟩) (by simp) (.slice none 0 0))
        go_wp2
        obtain ⟨y0, y1, y2, y3, _, _, _, _⟩ := HF.out.cells
        refine bodyPost_ret (v := .tuple #[.agg #[.string ⟨#[]⟩, .string ⟨#[]⟩, .int .i64 0, .slice none 0 0], .int .i64 431, .int .i64 (k : Int)]) (by simp [results, Tryz.results27, go_sem, y0, y1, y2, y3]) rfl ?_
        rw [HE.out]
        exact ⟨_, rfl, OwnsP.nil _ _, HKF.out⟩
      · have hlg' : ¬ (1024 : Int) < (C1.size : Int) := by omega
        have ho : outL c1 false = 400 := by unfold outL; rw [if_neg hlg, if_pos (Or.inl rfl)]
        have HE : Hid (T = (hz, 400, k)) := by unfold Hid; rw [HT.out, HLB.out (by rw [ho]; decide), ho, endOf_bad (by decide)]
        clear hev hev' hcl hcf hct HLB HLA HLF HDN HFL hBro hRq hFd hCe ho hsz hDl hCs hC1
        go_wp2_with fail
        refine hEnd.mono ?_
        clear hEnd
        rintro e wa ⟨rfl, hwa⟩
        subst hwa
        obtain ⟨q0, q1, q2, q3, z0, z1, z2, z3⟩ := HH.out.cells
        have HF := hid ((((HH.out.store0 (x := .string ⟨#[]⟩)).store1 (x := .string ⟨#[]⟩)).store2 (x := .int .i64 0)).store3 (x := .slice none 0 0))
        have HKF := hid ((((HB.out.setCell (p := ⟨w.heap.size, 0, none⟩) (by simp) (.string ⟨#[]⟩)).setCell (p := ⟨w.heap.size, 1, none⟩) (by simp) (.string ⟨#[]⟩)).setCell (p := ⟨w.heap.size, 2, none⟩) (by simp) (.int .i64 0)).setCell (p := ⟨w.heap.size, 3, none⟩) (by simp) (.slice none 0 0))
        go_wp2
        obtain ⟨y0, y1, y2, y3, _, _, _, _⟩ := HF.out.cells
        refine bodyPost_ret (v := .tuple #[.agg #[.string ⟨#[]⟩, .string ⟨#[]⟩, .int .i64 0, .slice none 0 0], .int .i64 400, .int .i64 (k : Int)]) (by simp [results, Tryz.results27, go_sem, y0, y1, y2, y3]) rfl ?_
        rw [HE.out]
        exact ⟨_, rfl, OwnsP.nil _ _, HKF.out⟩
    | true =>
      obtain ⟨en, hen⟩ : ∃ en : Nat, en = k + c1.length := ⟨_, rfl⟩
      have hev' : endV L k = (en : Int) := by rw [hev, hen]; rfl
      rw [hev'] at hEnd
      obtain ⟨hdr, hk2⟩ := HDN.out rfl
      have hke : (k : Int) ≤ (en : Int) := by omega
      have hes : (en : Int) ≤ (s.size : Int) := by omega
      have hen4 : en + 2 ≤ 4096 := by omega
      have henL : en + 2 ≤ L.length := by omega
      have hXl : s.extract k en = C1 := by
        rw [HXe.out en, hC1, hct rfl, show en - k = c1.length by omega, List.take_left]
      have HDR : Hid (L.drop (en + 2) = c2) := by unfold Hid; rw [hen]; exact hdr
      have HEN := hid hen
      have hc2l : c2.length = L.length - (en + 2) := by rw [← HDR.out, List.length_drop]
      clear hev hev' hcl hcf hct HDN hdr hC1 hDl
      by_cases hlg : 1024 < c1.length
      · have hlg' : (1024 : Int) < (C1.size : Int) := by omega
        have ho : outL c1 true = 431 := by unfold outL; rw [if_pos hlg]
        have HE : Hid (T = (hz, 431, k)) := by unfold Hid; rw [HT.out, HLB.out (by rw [ho]; decide), ho, endOf_bad (by decide)]
        clear HLB HLA HLF HFL hBro hRq hFd hCe ho hsz hCs hen hc2l hk2
        go_wp2_with fail
        refine hEnd.mono ?_
        clear hEnd
        rintro e wa ⟨rfl, hwa⟩
        subst hwa
        obtain ⟨q0, q1, q2, q3, z0, z1, z2, z3⟩ := HH.out.cells
        have HF := hid ((((HH.out.store0 (x := .string ⟨#[]⟩)).store1 (x := .string ⟨#[]⟩)).store2 (x := .int .i64 0)).store3 (x := .slice none 0 0))
        have HKF := hid ((((HB.out.setCell (p := ⟨w.heap.size, 0, none⟩) (by simp) (.string ⟨#[]⟩)).setCell (p := ⟨w.heap.size, 1, none⟩) (by simp) (.string ⟨#[]⟩)).setCell (p := ⟨w.heap.size, 2, none⟩) (by simp) (.int .i64 0)).setCell (p := ⟨w.heap.size, 3, none⟩) (by simp) (.slice none 0 0))
        go_wp2
        obtain ⟨y0, y1, y2, y3, _, _, _, _⟩ := HF.out.cells
        refine bodyPost_ret (v := .tuple #[.agg #[.string ⟨#[]⟩, .string ⟨#[]⟩, .int .i64 0, .slice none 0 0], .int .i64 431, .int .i64 (k : Int)]) (by simp [results, Tryz.results27, go_sem, y0, y1, y2, y3]) rfl ?_
        rw [HE.out]
        exact ⟨_, rfl, OwnsP.nil _ _, HKF.out⟩
      have hlg' : ¬ (1024 : Int) < (C1.size : Int) := by omega
      cases hbr : brk c1 with
      | true =>
        rw [hbr] at hBro
        have ho : outL c1 true = 400 := by unfold outL; rw [if_neg hlg, if_pos (Or.inr hbr)]
        have HE : Hid (T = (hz, 400, k)) := by unfold Hid; rw [HT.out, HLB.out (by rw [ho]; decide), ho, endOf_bad (by decide)]
        clear HLB HLA HLF HFL hRq hFd hCe ho hsz hCs hen hc2l hk2
        go_wp2_with fail
        refine hEnd.mono ?_
        clear hEnd
        rintro e wa ⟨rfl, hwa⟩
        subst hwa
        go_wp2_with fail
        refine hBro.mono ?_
        clear hBro
        rintro e wb ⟨rfl, hwb⟩
        subst hwb
        obtain ⟨q0, q1, q2, q3, z0, z1, z2, z3⟩ := HH.out.cells
        have HF := hid ((((HH.out.store0 (x := .string ⟨#[]⟩)).store1 (x := .string ⟨#[]⟩)).store2 (x := .int .i64 0)).store3 (x := .slice none 0 0))
        have HKF := hid ((((HB.out.setCell (p := ⟨w.heap.size, 0, none⟩) (by simp) (.string ⟨#[]⟩)).setCell (p := ⟨w.heap.size, 1, none⟩) (by simp) (.string ⟨#[]⟩)).setCell (p := ⟨w.heap.size, 2, none⟩) (by simp) (.int .i64 0)).setCell (p := ⟨w.heap.size, 3, none⟩) (by simp) (.slice none 0 0))
        go_wp2
        obtain ⟨y0, y1, y2, y3, _, _, _, _⟩ := HF.out.cells
        refine bodyPost_ret (v := .tuple #[.agg #[.string ⟨#[]⟩, .string ⟨#[]⟩, .int .i64 0, .slice none 0 0], .int .i64 400, .int .i64 (k : Int)]) (by simp [results, Tryz.results27, go_sem, y0, y1, y2, y3]) rfl ?_
        rw [HE.out]
        exact ⟨_, rfl, OwnsP.nil _ _, HKF.out⟩
      | false =>
        rw [hbr] at hBro
        have ho : outL c1 true = 0 := by unfold outL; rw [if_neg hlg, if_neg (by rw [hbr]; simp)]
        have hla2 := HLA.out ho
        have HLF2 := hid (fun hd h2 => HLF.out hd ho h2)
        rw [← hen] at hla2
        rw [← hen] at HLF2
        have HEN2 := hid hen
        clear HLB HLA HLF ho hbr hen hk2
        cases oh with
        | none =>
          have hn0 : ((nn : Int) == 0) = true := by rw [beq_iff_eq]; have := HZero.out.2 rfl; omega
          simp only at hla2
          have HQ0 := hid (reqL_fields c1)
          obtain ⟨Q, hQ⟩ : ∃ Q, Q = reqL c1 := ⟨_, rfl⟩
          rw [← hQ] at hla2 hRq HQ0
          obtain ⟨QH, QS⟩ := Q
          simp only at hla2 hRq HQ0
          unfold strV at hRq
          clear hQ hFd HLF2 HFL HFew HZero hCe hCs hc2l hsz
          by_cases hq0 : QS = 0
          · subst hq0
            rw [if_neg (by simp)] at hla2
            have HE := hid hla2
            clear hla2
            go_wp2_with fail
            refine hEnd.mono ?_
            clear hEnd
            rintro e wa ⟨rfl, hwa⟩
            subst hwa
            go_wp2_with fail
            refine hBro.mono ?_
            clear hBro
            rintro e wb ⟨rfl, hwb⟩
            subst hwb
            go_wp2_with fail
            refine hRq.mono ?_
            clear hRq
            rintro e wc ⟨rfl, hBc⟩
            have HBc := hid (HB.out.trans ((hBc.trans ((below_alloc wc (.cells #[.string ⟨QH.1.toArray⟩, .string ⟨QH.2.1.toArray⟩, .int .i64 QH.2.2.1, .slice none 0 0] 34)).mono hBc.size)).mono HB.out.size))
            have HHc := hid ((HH.out.below hBc hpw).below (below_alloc wc (.cells #[.string ⟨QH.1.toArray⟩, .string ⟨QH.2.1.toArray⟩, .int .i64 QH.2.2.1, .slice none 0 0] 34)) (Nat.lt_of_lt_of_le hpw hBc.size))
            have HHdc := hid ((HHd.out.below hBc hp2).below (below_alloc wc (.cells #[.string ⟨QH.1.toArray⟩, .string ⟨QH.2.1.toArray⟩, .int .i64 QH.2.2.1, .slice none 0 0] 34)) (Nat.lt_of_lt_of_le hp2 hBc.size))
            clear hBc
            obtain ⟨q0, q1, q2, q3, z0, z1, z2, z3⟩ := HHdc.out.cells
            have HF := hid ((((HHdc.out.store0 (x := .string ⟨QH.1.toArray⟩)).store1 (x := .string ⟨QH.2.1.toArray⟩)).store2 (x := .int .i64 QH.2.2.1)).store3 (x := .slice none 0 0))
            have HR2 := hid ((((HHc.out.far (q := w.heap.size + 1) (i := 0) (x := .string ⟨QH.1.toArray⟩) (by omega)).far (q := w.heap.size + 1) (i := 1) (x := .string ⟨QH.2.1.toArray⟩) (by omega)).far (q := w.heap.size + 1) (i := 2) (x := .int .i64 QH.2.2.1) (by omega)).far (q := w.heap.size + 1) (i := 3) (x := .slice none 0 0) (by omega))
            have HBF := hid ((((HBc.out.setCell (p := ⟨w.heap.size + 1, 0, none⟩) (by simp) (.string ⟨QH.1.toArray⟩)).setCell (p := ⟨w.heap.size + 1, 1, none⟩) (by simp) (.string ⟨QH.2.1.toArray⟩)).setCell (p := ⟨w.heap.size + 1, 2, none⟩) (by simp) (.int .i64 QH.2.2.1)).setCell (p := ⟨w.heap.size + 1, 3, none⟩) (by simp) (.slice none 0 0))
            clear HHc HBc HHdc HHd HOwn
            go_wp2
            go_roundw
            case rel =>
              refine ⟨en + 2, nn + 1, some QH, by go_num, by go_num, henL, by have := HEN2.out; omega, by simp, ⟨f - 1, ?_, by have := HEN2.out; omega⟩, ?_, HBF.out, HR2.out, _, HF.out, ?_⟩
              · rw [show f - 1 + 1 = f by have := HEN2.out; omega, HDR.out]; exact HE.out.symm
              · rw [show headOf (some QH) = QH from rfl, HQ0.out]; exact Nat.zero_le _
              · rw [show headOf (some QH) = QH from rfl, HQ0.out]; exact OwnsP.nil _ _
            case measure => have := HEN2.out; simp [intOf]; omega
          · rw [if_pos hq0] at hla2
            have hq0' : (QS == 0) = false := by rw [beq_eq_false_iff_ne]; exact hq0
            have HE : Hid (T = (hz, QS, k)) := by unfold Hid; rw [HT.out, hla2, endOf_bad hq0]
            clear hla2 hq0
            go_wp2_with fail
            refine hEnd.mono ?_
            clear hEnd
            rintro e wa ⟨rfl, hwa⟩
            subst hwa
            go_wp2_with fail
            refine hBro.mono ?_
            clear hBro
            rintro e wb ⟨rfl, hwb⟩
            subst hwb
            go_wp2_with fail
            refine hRq.mono ?_
            clear hRq
            rintro e wc ⟨rfl, hBc⟩
            have HBc := hid (HB.out.trans ((hBc.trans ((below_alloc wc (.cells #[.string ⟨QH.1.toArray⟩, .string ⟨QH.2.1.toArray⟩, .int .i64 QH.2.2.1, .slice none 0 0] 34)).mono hBc.size)).mono HB.out.size))
            have HHc := hid ((HH.out.below hBc hpw).below (below_alloc wc (.cells #[.string ⟨QH.1.toArray⟩, .string ⟨QH.2.1.toArray⟩, .int .i64 QH.2.2.1, .slice none 0 0] 34)) (Nat.lt_of_lt_of_le hpw hBc.size))
            have HHdc := hid ((HHd.out.below hBc hp2).below (below_alloc wc (.cells #[.string ⟨QH.1.toArray⟩, .string ⟨QH.2.1.toArray⟩, .int .i64 QH.2.2.1, .slice none 0 0] 34)) (Nat.lt_of_lt_of_le hp2 hBc.size))
            clear hBc
            obtain ⟨q0, q1, q2, q3, z0, z1, z2, z3⟩ := HHc.out.cells
            have HF := hid ((((HHc.out.store0 (x := .string ⟨#[]⟩)).store1 (x := .string ⟨#[]⟩)).store2 (x := .int .i64 0)).store3 (x := .slice none 0 0))
            have HKF := hid ((((HBc.out.setCell (p := ⟨w.heap.size, 0, none⟩) (by simp) (.string ⟨#[]⟩)).setCell (p := ⟨w.heap.size, 1, none⟩) (by simp) (.string ⟨#[]⟩)).setCell (p := ⟨w.heap.size, 2, none⟩) (by simp) (.int .i64 0)).setCell (p := ⟨w.heap.size, 3, none⟩) (by simp) (.slice none 0 0))
            go_wp2
            obtain ⟨y0, y1, y2, y3, _, _, _, _⟩ := HF.out.cells
            refine bodyPost_ret (v := .tuple #[.agg #[.string ⟨#[]⟩, .string ⟨#[]⟩, .int .i64 0, .slice none 0 0], .int .i64 QS, .int .i64 (k : Int)]) (by simp [results, Tryz.results27, go_sem, y0, y1, y2, y3]) rfl ?_
            rw [HE.out]
            exact ⟨_, rfl, OwnsP.nil _ _, HKF.out⟩
        | some h =>
          have hn0 : ((nn : Int) == 0) = false := by rw [beq_eq_false_iff_ne]; intro e; have := HZero.out.1 (by omega); cases this
          simp only at hla2
          rw [show headOf (some h) = h from rfl] at HFew HHd HOwn
          obtain ⟨fs, hfs⟩ : ∃ fs, fs = h.2.2.2 := ⟨_, rfl⟩
          obtain ⟨ao, cap, hsh⟩ := HOwn.out.shape
          subst hsh
          rw [← hfs] at HFew HHd HOwn
          have hHo := rhosts_any (strV h.1) (strV h.2.1) (.slice ao fs.length cap) h.2.2.1 fs wr HOwn.out.sees (by have := HFew.out; omega)
          have hho : hostsF fs h.2.2.1 = hostOk h := by rw [hfs]; exact hostsF_eq h
          rw [hho] at hHo
          unfold strV at hHo
          have hfew := HFew.out
          clear hRq HZero hho
          cases he : c1.isEmpty with
          | true =>
            rw [he] at hCe
            have hnil : c1 = [] := by
              cases c1 with
              | nil => rfl
              | cons x r => simp at he
            rw [if_pos hnil] at hla2
            by_cases hc20 : c2 = []
            · rw [if_pos hc20] at hla2
              have hes2 : ((en : Int) + 2 != (s.size : Int)) = false := by
                rw [bne_eq_false_iff_eq]
                rw [hc20] at hc2l
                simp at hc2l
                omega
              have hT2 := HT.out
              rw [hla2, endOf_ok] at hT2
              obtain ⟨hk', hhk⟩ : ∃ b, b = hostOk h := ⟨_, rfl⟩
              rw [← hhk] at hT2 hHo
              clear hla2 hnil hc20 hFd HLF2 HFL hCs hc2l hsz hhk he
              cases hk' with
              | true =>
                rw [if_pos rfl] at hT2
                have HE : Hid (T = ((h.1, h.2.1, h.2.2.1, fs), 0, 0)) := by unfold Hid; rw [hT2, hfs]
                clear hT2 hfs
                go_wp2_with fail
                refine hEnd.mono ?_
                clear hEnd
                rintro e wa ⟨rfl, hwa⟩
                subst hwa
                go_wp2_with fail
                refine hBro.mono ?_
                clear hBro
                rintro e wb ⟨rfl, hwb⟩
                subst hwb
                obtain ⟨_, _, _, _, _, _, _, _⟩ := HHd.out.cells
                obtain ⟨x0, x1, x2, x3, _, _, _, _⟩ := HHd.out.cells
                unfold strV at x0 x1
                go_wp2_with fail
                refine hHo.mono ?_
                clear hHo
                rintro e wc ⟨rfl, hBc⟩
                have HBc := hid (HB.out.trans (hBc.mono HB.out.size))
                have HHc := hid (HH.out.below hBc hpw)
                have HHdc := hid (HHd.out.below hBc hp2)
                have HOc := hid (HOwn.out.below hBc)
                clear hBc HH HHd HOwn
                obtain ⟨x0', x1', x2', x3', _, _, _, _⟩ := HHdc.out.cells
                unfold strV at x0' x1'
                obtain ⟨q0, q1, q2, q3, z0, z1, z2, z3⟩ := HHc.out.cells
                have HF := hid ((((HHc.out.store0 (x := strV h.1)).store1 (x := strV h.2.1)).store2 (x := .int .i64 h.2.2.1)).store3 (x := .slice ao fs.length cap))
                have HKF := hid ((((HBc.out.setCell (p := ⟨w.heap.size, 0, none⟩) (by simp) (strV h.1)).setCell (p := ⟨w.heap.size, 1, none⟩) (by simp) (strV h.2.1)).setCell (p := ⟨w.heap.size, 2, none⟩) (by simp) (.int .i64 h.2.2.1)).setCell (p := ⟨w.heap.size, 3, none⟩) (by simp) (.slice ao fs.length cap))
                have HWF : Hid (OwnsP ((((wc.setCell ⟨w.heap.size, 0, none⟩ (strV h.1)).setCell ⟨w.heap.size, 1, none⟩ (strV h.2.1)).setCell ⟨w.heap.size, 2, none⟩ (.int .i64 h.2.2.1)).setCell ⟨w.heap.size, 3, none⟩ (.slice ao fs.length cap)) w.heap.size (.slice ao fs.length cap) fs) := by
                  unfold Hid
                  refine OwnsP.le (base := w.heap.size + 2) ?_ (by omega)
                  have hb : w.heap.size < w.heap.size + 2 := by omega
                  exact ownsRow_setCell_below (ownsRow_setCell_below (ownsRow_setCell_below (ownsRow_setCell_below (a := ⟨w.heap.size, 0, none⟩) HOc.out hb _) (a := ⟨w.heap.size, 1, none⟩) hb _) (a := ⟨w.heap.size, 2, none⟩) hb _) (a := ⟨w.heap.size, 3, none⟩) hb _
                go_wp2
                obtain ⟨y0, y1, y2, y3, _, _, _, _⟩ := HF.out.cells
                unfold strV at y0 y1 y2 y3
                refine bodyPost_ret (v := .tuple #[.agg #[strV h.1, strV h.2.1, .int .i64 h.2.2.1, .slice ao fs.length cap], .int .i64 0, .int .i64 0]) (by simp [results, Tryz.results27, go_sem, y0, y1, y2, y3, strV]) rfl ?_
                rw [HE.out]
                exact ⟨_, rfl, HWF.out, HKF.out⟩
              | false =>
                rw [if_neg (by simp)] at hT2
                have HE := hid hT2
                clear hT2 hfs
                go_wp2_with fail
                refine hEnd.mono ?_
                clear hEnd
                rintro e wa ⟨rfl, hwa⟩
                subst hwa
                go_wp2_with fail
                refine hBro.mono ?_
                clear hBro
                rintro e wb ⟨rfl, hwb⟩
                subst hwb
                obtain ⟨_, _, _, _, _, _, _, _⟩ := HHd.out.cells
                obtain ⟨x0, x1, x2, x3, _, _, _, _⟩ := HHd.out.cells
                unfold strV at x0 x1
                go_wp2_with fail
                refine hHo.mono ?_
                clear hHo
                rintro e wc ⟨rfl, hBc⟩
                have HBc := hid (HB.out.trans (hBc.mono HB.out.size))
                have HHc := hid (HH.out.below hBc hpw)
                have HHdc := hid (HHd.out.below hBc hp2)
                have HOc := hid (HOwn.out.below hBc)
                clear hBc HH HHd HOwn
                obtain ⟨q0, q1, q2, q3, z0, z1, z2, z3⟩ := HHc.out.cells
                have HF := hid ((((HHc.out.store0 (x := .string ⟨#[]⟩)).store1 (x := .string ⟨#[]⟩)).store2 (x := .int .i64 0)).store3 (x := .slice none 0 0))
                have HKF := hid ((((HBc.out.setCell (p := ⟨w.heap.size, 0, none⟩) (by simp) (.string ⟨#[]⟩)).setCell (p := ⟨w.heap.size, 1, none⟩) (by simp) (.string ⟨#[]⟩)).setCell (p := ⟨w.heap.size, 2, none⟩) (by simp) (.int .i64 0)).setCell (p := ⟨w.heap.size, 3, none⟩) (by simp) (.slice none 0 0))
                go_wp2
                obtain ⟨y0, y1, y2, y3, _, _, _, _⟩ := HF.out.cells
                refine bodyPost_ret (v := .tuple #[.agg #[.string ⟨#[]⟩, .string ⟨#[]⟩, .int .i64 0, .slice none 0 0], .int .i64 400, .int .i64 0]) (by simp [results, Tryz.results27, go_sem, y0, y1, y2, y3]) rfl ?_
                rw [HE.out]
                exact ⟨_, rfl, OwnsP.nil _ _, HKF.out⟩
            · rw [if_neg hc20] at hla2
              have hes2 : ((en : Int) + 2 != (s.size : Int)) = true := by
                rw [bne_iff_ne]
                intro e
                apply hc20
                apply List.eq_nil_of_length_eq_zero
                omega
              have HE : Hid (T = (hz, 400, s.size)) := by unfold Hid; rw [HT.out, hla2, endOf_bad (by decide), hsz]
              clear hla2 hnil hc20 hFd HLF2 HFL hCs hc2l hsz he hHo hfs
              go_wp2_with fail
              refine hEnd.mono ?_
              clear hEnd
              rintro e wa ⟨rfl, hwa⟩
              subst hwa
              go_wp2_with fail
              refine hBro.mono ?_
              clear hBro
              rintro e wb ⟨rfl, hwb⟩
              subst hwb
              obtain ⟨q0, q1, q2, q3, z0, z1, z2, z3⟩ := HH.out.cells
              have HF := hid ((((HH.out.store0 (x := .string ⟨#[]⟩)).store1 (x := .string ⟨#[]⟩)).store2 (x := .int .i64 0)).store3 (x := .slice none 0 0))
              have HKF := hid ((((HB.out.setCell (p := ⟨w.heap.size, 0, none⟩) (by simp) (.string ⟨#[]⟩)).setCell (p := ⟨w.heap.size, 1, none⟩) (by simp) (.string ⟨#[]⟩)).setCell (p := ⟨w.heap.size, 2, none⟩) (by simp) (.int .i64 0)).setCell (p := ⟨w.heap.size, 3, none⟩) (by simp) (.slice none 0 0))
              go_wp2
              obtain ⟨y0, y1, y2, y3, _, _, _, _⟩ := HF.out.cells
              refine bodyPost_ret (v := .tuple #[.agg #[.string ⟨#[]⟩, .string ⟨#[]⟩, .int .i64 0, .slice none 0 0], .int .i64 400, .int .i64 (s.size : Int)]) (by simp [results, Tryz.results27, go_sem, y0, y1, y2, y3]) rfl ?_
              rw [HE.out]
              exact ⟨_, rfl, OwnsP.nil _ _, HKF.out⟩
          | false =>
            rw [he] at hCe
            have hne : c1 ≠ [] := by
              intro e
              rw [e] at he
              simp at he
            have hlf2 := HLF2.out h hne
            rw [HFL.out, ← hfs] at hlf2
            clear hla2 hHo HLF2 HFL hne hCs hc2l hsz he
            obtain ⟨_, _, _, q3h, _, _, _, _⟩ := HHd.out.cells
            by_cases h32 : fs.length = 32
            · have h32' : ((fs.length : Int) == 32) = true := by rw [beq_iff_eq]; omega
              have HE : Hid (T = (hz, 431, k)) := by
                unfold Hid
                rw [HT.out, hlf2, fldL_full (by omega), if_pos (show (431 : Int) ≠ 0 by decide), endOf_bad (show (431 : Int) ≠ 0 by decide)]
              clear hlf2 hFd hfs h32
              go_wp2_with fail
              refine hEnd.mono ?_
              clear hEnd
              rintro e wa ⟨rfl, hwa⟩
              subst hwa
              go_wp2_with fail
              refine hBro.mono ?_
              clear hBro
              rintro e wb ⟨rfl, hwb⟩
              subst hwb
              obtain ⟨q0, q1, q2, q3, z0, z1, z2, z3⟩ := HH.out.cells
              have HF := hid ((((HH.out.store0 (x := .string ⟨#[]⟩)).store1 (x := .string ⟨#[]⟩)).store2 (x := .int .i64 0)).store3 (x := .slice none 0 0))
              have HKF := hid ((((HB.out.setCell (p := ⟨w.heap.size, 0, none⟩) (by simp) (.string ⟨#[]⟩)).setCell (p := ⟨w.heap.size, 1, none⟩) (by simp) (.string ⟨#[]⟩)).setCell (p := ⟨w.heap.size, 2, none⟩) (by simp) (.int .i64 0)).setCell (p := ⟨w.heap.size, 3, none⟩) (by simp) (.slice none 0 0))
              go_wp2
              obtain ⟨y0, y1, y2, y3, _, _, _, _⟩ := HF.out.cells
              refine bodyPost_ret (v := .tuple #[.agg #[.string ⟨#[]⟩, .string ⟨#[]⟩, .int .i64 0, .slice none 0 0], .int .i64 431, .int .i64 (k : Int)]) (by simp [results, Tryz.results27, go_sem, y0, y1, y2, y3]) rfl ?_
              rw [HE.out]
              exact ⟨_, rfl, OwnsP.nil _ _, HKF.out⟩
            have h32' : ((fs.length : Int) == 32) = false := by rw [beq_eq_false_iff_ne]; omega
            cases hfl : fieldL c1 with
            | none =>
              rw [hfl, Option.isSome_none] at hFd
              unfold strV at hFd
              have HE : Hid (T = (hz, 400, k)) := by
                unfold Hid
                rw [HT.out, hlf2, fldL_bad (by omega) hfl, if_pos (show (400 : Int) ≠ 0 by decide), endOf_bad (show (400 : Int) ≠ 0 by decide)]
              clear hlf2 hfs h32 hfl
              go_wp2_with fail
              refine hEnd.mono ?_
              clear hEnd
              rintro e wa ⟨rfl, hwa⟩
              subst hwa
              go_wp2_with fail
              refine hBro.mono ?_
              clear hBro
              rintro e wb ⟨rfl, hwb⟩
              subst hwb
              go_wp2_with fail
              refine hFd.mono ?_
              clear hFd
              rintro e wc ⟨a, b, rfl, hab, hBc⟩
              have hszc := hBc.size
              have HBc := hid (HB.out.trans ((hBc.trans ((below_alloc wc (.cells #[.string ⟨a.toArray⟩, .string ⟨b.toArray⟩] 73)).mono hBc.size)).mono HB.out.size))
              have HHc := hid ((HH.out.below hBc hpw).below (below_alloc wc (.cells #[.string ⟨a.toArray⟩, .string ⟨b.toArray⟩] 73)) (Nat.lt_of_lt_of_le hpw hBc.size))
              have HHdc := hid ((HHd.out.below hBc hp2).below (below_alloc wc (.cells #[.string ⟨a.toArray⟩, .string ⟨b.toArray⟩] 73)) (Nat.lt_of_lt_of_le hp2 hBc.size))
              have HHd1 := hid (HHd.out.below hBc hp2)
              have HOc := hid ((HOwn.out.below hBc).below (below_alloc wc (.cells #[.string ⟨a.toArray⟩, .string ⟨b.toArray⟩] 73)))
              clear hBc
              clear hab HHd1
              obtain ⟨q0, q1, q2, q3, z0, z1, z2, z3⟩ := HHc.out.cells
              have HF := hid ((((HHc.out.store0 (x := .string ⟨#[]⟩)).store1 (x := .string ⟨#[]⟩)).store2 (x := .int .i64 0)).store3 (x := .slice none 0 0))
              have HKF := hid ((((HBc.out.setCell (p := ⟨w.heap.size, 0, none⟩) (by simp) (.string ⟨#[]⟩)).setCell (p := ⟨w.heap.size, 1, none⟩) (by simp) (.string ⟨#[]⟩)).setCell (p := ⟨w.heap.size, 2, none⟩) (by simp) (.int .i64 0)).setCell (p := ⟨w.heap.size, 3, none⟩) (by simp) (.slice none 0 0))
              go_wp2
              obtain ⟨y0, y1, y2, y3, _, _, _, _⟩ := HF.out.cells
              refine bodyPost_ret (v := .tuple #[.agg #[.string ⟨#[]⟩, .string ⟨#[]⟩, .int .i64 0, .slice none 0 0], .int .i64 400, .int .i64 (k : Int)]) (by simp [results, Tryz.results27, go_sem, y0, y1, y2, y3]) rfl ?_
              rw [HE.out]
              exact ⟨_, rfl, OwnsP.nil _ _, HKF.out⟩
            | some q =>
              rw [hfl, Option.isSome_some] at hFd
              unfold strV at hFd
              have HE : Hid (R = lines L.length f (some (h.1, h.2.1, h.2.2.1, fs ++ [q])) (en + 2) c2) := by
                unfold Hid
                rw [hlf2, fldL_ok (by omega) hfl, if_neg (by simp)]
              clear hlf2 hfs hfl
              go_wp2_with fail
              refine hEnd.mono ?_
              clear hEnd
              rintro e wa ⟨rfl, hwa⟩
              subst hwa
              go_wp2_with fail
              refine hBro.mono ?_
              clear hBro
              rintro e wb ⟨rfl, hwb⟩
              subst hwb
              go_wp2_with fail
              refine hFd.mono ?_
              clear hFd
              rintro e wc ⟨a, b, rfl, hab, hBc⟩
              have hszc := hBc.size
              have HBc := hid (HB.out.trans ((hBc.trans ((below_alloc wc (.cells #[.string ⟨a.toArray⟩, .string ⟨b.toArray⟩] 73)).mono hBc.size)).mono HB.out.size))
              have HHc := hid ((HH.out.below hBc hpw).below (below_alloc wc (.cells #[.string ⟨a.toArray⟩, .string ⟨b.toArray⟩] 73)) (Nat.lt_of_lt_of_le hpw hBc.size))
              have HHdc := hid ((HHd.out.below hBc hp2).below (below_alloc wc (.cells #[.string ⟨a.toArray⟩, .string ⟨b.toArray⟩] 73)) (Nat.lt_of_lt_of_le hp2 hBc.size))
              have HHd1 := hid (HHd.out.below hBc hp2)
              have HOc := hid ((HOwn.out.below hBc).below (below_alloc wc (.cells #[.string ⟨a.toArray⟩, .string ⟨b.toArray⟩] 73)))
              clear hBc
              obtain rfl := hab _ rfl
              clear hab
              obtain ⟨wd, hwd⟩ : ∃ wd, wd = (wc.alloc (.cells #[.string ⟨a.toArray⟩, .string ⟨b.toArray⟩] 73)) := ⟨_, rfl⟩
              have hszd : wd.heap.size = wc.heap.size + 1 := by rw [hwd]; simp
              have hpd := PairAt.new wc (.string ⟨a.toArray⟩) (.string ⟨b.toArray⟩)
              rw [← hwd] at HBc HHc HHdc HOc hpd
              have HWD := hid hwd
              obtain ⟨x1, x2, _, _⟩ := hpd.cells
              obtain ⟨_, _, _, q3, _, _, _, _⟩ := HHd1.out.cells
              have hltc : w.heap.size + 1 < wc.heap.size := by omega
              clear hwd hpd HHd HOwn HHd1 x1 x2
              go_wp2_with (first
                | (at_builtin
                   try rw [← HWD.out]
                   refine wpList_appP rfl _ _ rfl (w.heap.size + 2) (.slice ao fs.length cap) fs rfl (HOc.out.below (below_alloc wd _)) _ (a, b) rfl (by rw [← hszd]; exact news_pair wd a b 73) (by omega) (by simp; omega) ?_
                   intro v4 w4 h1 h2
                   have HB4 : Hid (Below w.heap.size w w4) := by
                     refine hid (HBc.out.trans (Below.grown ((below_alloc wd (.cells #[strV a, strV b] 73)).mono (by omega)) h2 (by simp; omega) (fun k hk => ?_)))
                     have := OwnsP.block HOc.out k hk
                     omega
                   have hq : HeadAt w4 (w.heap.size + 1) (strV h.1) (strV h.2.1) (.int .i64 h.2.2.1) (.slice ao fs.length cap) := by
                     refine (HHdc.out.below (below_alloc wd (.cells #[strV a, strV b] 73)) HHdc.out.lt).same ?_
                     exact h2.block _ (by have := HHdc.out.lt; simp; omega) (fun e => by have := OwnsP.block HOc.out _ e.symm; omega)
                   have hr4 : HeadAt w4 w.heap.size (.string ⟨#[]⟩) (.string ⟨#[]⟩) (.int .i64 0) (.slice none 0 0) := by
                     refine (HHc.out.below (below_alloc wd (.cells #[strV a, strV b] 73)) HHc.out.lt).same ?_
                     exact h2.block _ (by have := HHc.out.lt; simp; omega) (fun e => by have := OwnsP.block HOc.out _ e.symm; omega)
                   obtain ⟨ao4, cap4, rfl⟩ : ∃ ao4 cap4, v4 = .slice ao4 (fs.length + 1) cap4 := by
                     obtain ⟨ao4, cap4, h⟩ := OwnsP.shape h1
                     exact ⟨ao4, cap4, by rw [h]; simp⟩
                   have HO4 := hid h1
                   have HQ := hid hq
                   have HR4 := hid hr4
                   obtain ⟨_, _, _, k5, _, _, _, k6⟩ := hq.cells
                   clear h1 h2 hq hr4)
                | fail)
              have HO5 := hid (show OwnsP (w4.setCell ⟨w.heap.size + 1, 3, none⟩ (.slice ao4 (fs.length + 1) cap4)) (w.heap.size + 2) (.slice ao4 (fs.length + 1) cap4) (fs ++ [(a, b)]) from ownsRow_setCell_below HO4.out (a := ⟨w.heap.size + 1, 3, none⟩) (by simp) _)
              have HH5 := hid (HQ.out.store3 (x := .slice ao4 (fs.length + 1) cap4))
              have HR5 := hid (HR4.out.far (q := w.heap.size + 1) (i := 3) (x := .slice ao4 (fs.length + 1) cap4) (by omega))
              have HB5 := hid (HB4.out.setCell (p := ⟨w.heap.size + 1, 3, none⟩) (by simp) (.slice ao4 (fs.length + 1) cap4))
              (try go_wp2)
              go_roundw
              case rel =>
                refine ⟨en + 2, nn + 1, some (h.1, h.2.1, h.2.2.1, fs ++ [(a, b)]), by go_num, by go_num, henL, by have := HEN2.out; omega, by simp, ⟨f - 1, ?_, by have := HEN2.out; omega⟩, ?_, HB5.out, HR5.out, _, HH5.out, HO5.out⟩
                · rw [show f - 1 + 1 = f by have := HEN2.out; omega, HDR.out]; exact HE.out.symm
                · show (fs ++ [(a, b)]).length ≤ 32
                  simp
                  omega
              case measure => have := HEN2.out; simp [intOf]; omega
end Go.Proofs.YtllhibdjopfcnaaGreatDoor
