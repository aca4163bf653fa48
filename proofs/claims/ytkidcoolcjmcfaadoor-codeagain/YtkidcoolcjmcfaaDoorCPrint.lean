/-
  The code's Print of any instructions: the walk.
-/
import Derived.Test.YtkidcoolcjmcfaaDoorCPrB
import Derived.Deep.DeepHandedRow
namespace Go.Proofs.YtkidcoolcjmcfaaDoor
open Go.RowKit
set_option linter.unusedVariables false
set_option linter.unusedSimpArgs false
set_option maxRecDepth 100000

theorem line_len {l : List InsL} (h64 : ∀ i ∈ l, in64 i.2) {q : Nat} (hq : q < 25) {k : Nat} (hk : k < l.length) : ((opT.getD q ([], 0)).1 ++ (if (opT.getD q ([], 0)).2 = 0 then [] else 32 :: Lib.itoa l[k].2)).length ≤ 26 := by
  have h1 : ∀ q, q < 25 → (opT.getD q ([], 0)).1.length ≤ 5 := by decide
  have h2 := h64 _ (List.getElem_mem hk)
  have h3 := itoa_len h2.1 h2.2
  have h4 := h1 q hq
  rw [List.length_append]
  generalize (opT.getD q ([], 0)).1.length = c at *
  split
  · simp only [List.length_nil]; omega
  · simp only [List.length_cons]; omega
theorem text_few {l : List InsL} (h64 : ∀ i ∈ l, in64 i.2) (hb : badAt l.length l = l.length) : ∀ k, k ≤ l.length → (textC (l.take k)).length ≤ 27 * k
  | 0, _ => by simp [textC]
  | k + 1, hk => by
    have ih := text_few h64 hb k (by omega)
    obtain ⟨q, hq, _, e⟩ := line_at hb k (by omega)
    rw [textC_next (by omega), List.length_append, List.length_append, e]
    have := line_len h64 hq (show k < l.length by omega)
    simp only [List.length_cons, List.length_nil]
    omega
theorem pr_below {w w2 w3 : World} {v : Value} {l : List UInt8} {X : Obj} (hb : Below w.heap.size w w2) (hO : RowB w2 w.heap.size v l) (g : (w2.alloc X).grownBy w3 v.ownBlock) : Below w.heap.size w w3 := by
  have hz := hb.size
  have z := g.size
  simp at z
  refine ⟨g.os.trans hb.os, g.tape.trans hb.tape, g.output.trans hb.output, by omega, fun k hk => ?_⟩
  rw [g.block k (by simp; omega) (fun e => by have := (hO.lt k e.symm).1; omega), heap_alloc_old w2 _ (by omega)]
  exact hb.block k hk
theorem pr_below' {w w2 w3 : World} {v : Value} {n : Nat} {xs : List Value} {X : Obj} (hb : Below w.heap.size w w2) (hO : w2.ownsRow w.heap.size 5 1 v n xs) (g : (w2.alloc X).grownBy w3 v.ownBlock) : Below w.heap.size w w3 := by
  have hz := hb.size
  have z := g.size
  simp at z
  refine ⟨g.os.trans hb.os, g.tape.trans hb.tape, g.output.trans hb.output, by omega, fun k hk => ?_⟩
  rw [g.block k (by simp; omega) (fun e => by have := (hO.lt k e.symm).1; omega), heap_alloc_old w2 _ (by omega)]
  exact hb.block k hk
theorem row_m {w : World} {B m : Nat} {v : Value} {l : List UInt8} (h : RowB w B v l) (hm : l.length = m) : w.ownsRow B 5 1 v m (byC l) := by
  unfold RowB at h
  rw [hm] at h
  exact h
set_option maxHeartbeats 8000000 in
theorem print_any (v : Value) (l : List InsL) (w : World) (hS : SeesI w v l) (hM : Met w) (hP : PowA w) (hlen : l.length ≤ 140737488355328) (h64 : ∀ i ∈ l, in64 i.2) :
    Calls Tryd.prog 10 #[v] w fun e w' => e = .returned (.tuple #[.string ⟨(prnC l).1.toArray⟩, .int .i64 (prnC l).2]) ∧ Below w.heap.size w w' := by
  have hCk := check_any v l w hS hM.tabs hlen
  have hcs := check_cases l
  obtain ⟨b, off, ao, cap, rfl, hcap, hnil, hao, hcell⟩ := hS
  obtain ⟨⟨ce, ck⟩, hcc⟩ : ∃ C, C = checkL l := ⟨_, rfl⟩
  rw [← hcc] at hCk hcs
  simp only at hCk
  have HPR : Hid (prnC l = if ce = 0 then (textC l, 0) else ([], ce)) := by
    unfold Hid prnC
    rw [← hcc]
  have HCK := hid hCk
  have HM := hid hM
  have HP := hid hP
  have H64 := hid h64
  have HCELL := hid hcell
  have HAO := hid hao
  clear hCk hM hP h64 hcell hao hcc
  by_cases hz : ce = 0
  · subst hz
    have HB : Hid (badAt l.length l = l.length) := by
      rcases hcs with h | ⟨h, _⟩ | ⟨_, h, _⟩
      · simp at h
      · simp at h
      · exact h
    have HL : Hid (1 ≤ l.length ∧ l.length ≤ 1024) := by
      rcases hcs with h | ⟨h, _⟩ | ⟨_, _, h⟩
      · simp at h
      · simp at h
      · exact h
    obtain rfl := HAO.out (by intro h; have := HL.out.1; rw [h] at this; simp at this)
    have hpr : prnC l = (textC l, 0) := by rw [HPR.out]; rfl
    rw [hpr]
    clear hcs hpr HPR HAO
    go_enter Tryd.func10, Tryd.ntmps10
    go_wp2_with fail
    refine HCK.out.mono ?_
    clear HCK
    rintro e w1 ⟨rfl, hb1⟩
    have HB1 := hid hb1
    clear hb1
    obtain ⟨n, hn⟩ : ∃ n, l.length = n := ⟨_, rfl⟩
    rw [hn] at hcap HL
    rw [hn]
    have HN := hid hn
    clear hn hlen
    have hn1 := HL.out.2
    go_wp2_with fail
    go_loopw [21, 6] (fun ix v6 wr => ∃ k : Nat, ix = .int .i64 (k : Int) ∧ Hid (k ≤ n ∧ Below w.heap.size w wr ∧ RowB wr w.heap.size v6 (textC (l.take k)))) (fun ix _ _ => n - (intOf ix).toNat)
    case atStart => exact ⟨0, rfl, hid ⟨Nat.zero_le _, HB1.out, World.ownsRow_nil _ _ _ _⟩⟩
    case round =>
      obtain ⟨k, rfl, HI⟩ := hrel
      obtain ⟨hk, hbr, hO⟩ := HI.out
      obtain ⟨a6, k6, hv6⟩ := row_shape hO
      subst hv6
      by_cases hlt : k < n
      · have hkI : (k : Int) < (n : Int) := by omega
        have hkl : k < l.length := by have := HN.out; omega
        have hkc : k < cap := by omega
        obtain ⟨q, hq, e1, e2⟩ := line_at HB.out k hkl
        obtain ⟨c0, c1⟩ := HCELL.out k hkl
        have hc0 := (hbr.cell (World.block_lt_of_cell? w _ c0)).trans c0
        have hc1 := (hbr.cell (World.block_lt_of_cell? w _ c1)).trans c1
        have hi64 := H64.out _ (List.getElem_mem hkl)
        have hll := line_len H64.out hq hkl
        have htf := text_few H64.out HB.out k (by omega)
        have htn := textC_next hkl
        rw [e2] at htn
        rw [e1] at hc0
        obtain ⟨ar, har⟩ : ∃ ar, ar = l[k].2 := ⟨_, rfl⟩
        rw [← har] at hc1 hi64 hll htn
        have hOf := fun W (hb : Below w.heap.size w W) => of_yes q hq W (HM.out.below hb).tabs
        obtain ⟨o, ho⟩ : ∃ o, o = opT.getD q ([], 0) := ⟨_, rfl⟩
        obtain ⟨nm, wi⟩ := o
        rw [← ho] at hOf hll htn
        simp only at hOf hll htn
        obtain ⟨tx, htx⟩ : ∃ tx, tx = textC (l.take k) := ⟨_, rfl⟩
        rw [← htx] at hO htf htn
        obtain ⟨m, hm⟩ : ∃ m, tx.length = m := ⟨_, rfl⟩
        have HTN := hid htn
        have HOF := hid hOf
        have HO := hid hO
        have HBR := hid hbr
        have HTX := hid htx
        have HMM := hid hm
        have HI64 := hid hi64
        have HLL := hid hll
        rw [hm] at htf
        rw [← htx, hm]
        clear hbr hO htn hOf ho htx hm hi64 hll e1 e2 c0 c1 har HI
        go_wp2_with fail
        refine (HOF.out _ (HBR.out.trans ((below_alloc wr _).mono HBR.out.size))).mono ?_
        clear HOF
        rintro e w2 ⟨rfl, hb2⟩
        have z12 : wr.heap.size + 1 ≤ w2.heap.size := by have := hb2.size; simpa using this
        have HB2 := hid ((HBR.out.trans ((below_alloc wr (.cells #[.int .i64 ((q : Int) + 1), .int .i64 ar] 38)).mono HBR.out.size)).trans (hb2.mono (by have := HBR.out.size; simp; omega)))
        have hbx : w2.heap[wr.heap.size]? = some (.cells #[.int .i64 ((q : Int) + 1), .int .i64 ar] 38 (0, 0)) := (hb2.block _ (by simp)).trans (heap_alloc_new wr _)
        have HBX := hid hbx
        have HO2 : Hid (RowB w2 w.heap.size (.slice a6 m k6) tx) := by
          have h := HO.out
          rw [HMM.out] at h
          exact hid (ownsRow_below (ownsRow_below h (below_alloc wr _)) hb2)
        have hwz : w.heap.size ≤ w2.heap.size := HB2.out.size
        have hll2 := HLL.out
        clear hb2 hbx hc0 hc1
        by_cases hw : wi = 0
        · have hw1 : (wi == 0) = true := by rw [beq_iff_eq]; exact hw
          have hw2 : (wi != 0) = false := by simp [hw]
          rw [if_pos hw] at hll2
          rw [List.append_nil] at hll2
          have HW := hid hw
          clear hw
          go_wp2_with
            (at_builtin
             first
               | (refine wpList_appStr rfl _ _ rfl w.heap.size (.slice a6 m k6) tx rfl (rowB_iff.2 (ownsRow_below HO2.out (below_alloc w2 _))) nm rfl (by have := HMM.out; omega) (by simp; omega) ?_
                  intro v3 w3 h3 g3
                  obtain ⟨a3, c3, hv3'⟩ := row_shape (rowB_iff.1 h3)
                  obtain ⟨m3, hm3⟩ : ∃ m3, (tx ++ nm).length = m3 := ⟨_, rfl⟩
                  have hv3 : v3 = .slice a3 m3 c3 := by rw [hv3', hm3]
                  clear hv3'
                  subst hv3
                  have z3 : w2.heap.size < w3.heap.size := by have := g3.size; simp at this; omega
                  have HB3 := hid (pr_below HB2.out HO2.out g3)
                  have k3 : ∀ j, j < w2.heap.size + 1 → (Value.slice a6 m k6).ownBlock ≠ some j → w3.heap[j]? = (w2.alloc (.cells #[.string ⟨nm.toArray⟩, .int .i64 wi] 42)).heap[j]? := fun j hj hne => g3.block j (by simp; omega) (fun e => hne e.symm)
                  have hb9 : w3.heap[w2.heap.size]? = some (.cells #[.string ⟨nm.toArray⟩, .int .i64 wi] 42 (0, 0)) := by rw [k3 _ (by omega) (fun e => by have := (HO2.out.lt _ e).2; omega)]; exact heap_alloc_new w2 _
                  have hb8 : w3.heap[wr.heap.size]? = some (.cells #[.int .i64 ((q : Int) + 1), .int .i64 ar] 38 (0, 0)) := by
                    rw [k3 _ (by omega) (fun e => by
                      obtain ⟨c1, e1⟩ := ownsRow_tyC HO2.out e
                      rw [HBX.out] at e1
                      simp at e1), heap_alloc_old w2 _ (by omega)]
                    exact HBX.out
                  have y1 : w3.cell? ⟨w2.heap.size, 1, none⟩ = some (.int .i64 wi) := by simp [World.cell?, hb9]
                  have H3 : Hid (RowB w3 w.heap.size (.slice a3 m3 c3) (tx ++ nm)) := hid (rowB_iff.1 h3)
                  have HM3 := hid hm3
                  have hm3b : m3 ≤ 100000 := by rw [← hm3, List.length_append, HMM.out]; omega
                  have HB8 := hid hb8
                  clear h3 g3 k3 hb9 hb8 hm3)
               | (refine wpList_appK Tryd.underlying40 Tryd.info5 rfl (by decide) rfl _ _ rfl w.heap.size (.slice a3 m3 c3) m3 (byC (tx ++ nm)) rfl (ownsRow_below (row_m H3.out HM3.out) (below_alloc w3 _)) (.slice (some ⟨w3.heap.size, 0, none⟩) 1 1) 1 [.int .u8 10] rfl (seesK_byte 10 w3) (fun y hy => by simp at hy; subst hy; rfl) (by omega) (by simp only [maxLen]; omega) (by simp; omega) ?_
                  intro v9 w9 h9 g9
                  have HB9 := hid (pr_below' HB3.out (row_m H3.out HM3.out) g9)
                  have HO9 : Hid (RowB w9 w.heap.size v9 (textC (l.take (k + 1)))) := by
                    unfold Hid
                    rw [HTN.out]
                    have e0 : (nm ++ (if wi = 0 then [] else 32 :: Lib.itoa ar) ++ [10]) = nm ++ [10] := by rw [if_pos HW.out, List.append_nil]
                    rw [e0, ← List.append_assoc]
                    exact rowB_one HM3.out h9
                  clear h9 g9))
          go_roundw
          case rel => exact ⟨k + 1, by go_num, hid ⟨by omega, HB9.out, HO9.out⟩⟩
          case measure => simp [intOf]; omega
        · have hw1 : (wi == 0) = false := by rw [beq_eq_false_iff_ne]; exact hw
          have hw2 : (wi != 0) = true := by simp [hw]
          rw [if_neg hw] at hll2
          rw [List.length_append, List.length_cons] at hll2
          have HW := hid hw
          clear hw
          go_wp2_with
            (at_builtin
             first
               | (refine wpList_appStr rfl _ _ rfl w.heap.size (.slice a6 m k6) tx rfl (rowB_iff.2 (ownsRow_below HO2.out (below_alloc w2 _))) nm rfl (by have := HMM.out; omega) (by simp; omega) ?_
                  intro v3 w3 h3 g3
                  obtain ⟨a3, c3, hv3'⟩ := row_shape (rowB_iff.1 h3)
                  obtain ⟨m3, hm3⟩ : ∃ m3, (tx ++ nm).length = m3 := ⟨_, rfl⟩
                  have hv3 : v3 = .slice a3 m3 c3 := by rw [hv3', hm3]
                  clear hv3'
                  subst hv3
                  have z3 : w2.heap.size < w3.heap.size := by have := g3.size; simp at this; omega
                  have HB3 := hid (pr_below HB2.out HO2.out g3)
                  have k3 : ∀ j, j < w2.heap.size + 1 → (Value.slice a6 m k6).ownBlock ≠ some j → w3.heap[j]? = (w2.alloc (.cells #[.string ⟨nm.toArray⟩, .int .i64 wi] 42)).heap[j]? := fun j hj hne => g3.block j (by simp; omega) (fun e => hne e.symm)
                  have hb9 : w3.heap[w2.heap.size]? = some (.cells #[.string ⟨nm.toArray⟩, .int .i64 wi] 42 (0, 0)) := by rw [k3 _ (by omega) (fun e => by have := (HO2.out.lt _ e).2; omega)]; exact heap_alloc_new w2 _
                  have hb8 : w3.heap[wr.heap.size]? = some (.cells #[.int .i64 ((q : Int) + 1), .int .i64 ar] 38 (0, 0)) := by
                    rw [k3 _ (by omega) (fun e => by
                      obtain ⟨c1, e1⟩ := ownsRow_tyC HO2.out e
                      rw [HBX.out] at e1
                      simp at e1), heap_alloc_old w2 _ (by omega)]
                    exact HBX.out
                  have y1 : w3.cell? ⟨w2.heap.size, 1, none⟩ = some (.int .i64 wi) := by simp [World.cell?, hb9]
                  have H3 : Hid (RowB w3 w.heap.size (.slice a3 m3 c3) (tx ++ nm)) := hid (rowB_iff.1 h3)
                  have HM3 := hid hm3
                  have hm3b : m3 ≤ 100000 := by rw [← hm3, List.length_append, HMM.out]; omega
                  have HB8 := hid hb8
                  clear h3 g3 k3 hb9 hb8 hm3)
               | (refine wpList_appK Tryd.underlying40 Tryd.info5 rfl (by decide) rfl _ _ rfl w.heap.size (.slice a3 m3 c3) m3 (byC (tx ++ nm)) rfl (ownsRow_below (row_m H3.out HM3.out) (below_alloc w3 _)) (.slice (some ⟨w3.heap.size, 0, none⟩) 1 1) 1 [.int .u8 32] rfl (seesK_byte 32 w3) (fun y hy => by simp at hy; subst hy; rfl) (by omega) (by simp only [maxLen]; omega) (by simp; omega) ?_
                  intro v4 w4 h4 g4
                  obtain ⟨a4, c4, hv4⟩ := row_shape h4
                  subst hv4
                  have z4 : w3.heap.size < w4.heap.size := by have := g4.size; simp at this; omega
                  have HB4 := hid (pr_below' HB3.out (row_m H3.out HM3.out) g4)
                  have H4 : Hid (RowB w4 w.heap.size (.slice a4 (m3 + 1) c4) ((tx ++ nm) ++ [32])) := hid (rowB_one HM3.out h4)
                  have hb8 : w4.heap[wr.heap.size]? = some (.cells #[.int .i64 ((q : Int) + 1), .int .i64 ar] 38 (0, 0)) := by
                    rw [g4.block _ (by simp; omega) (fun e => by
                      obtain ⟨c1, e1⟩ := ownsRow_tyC (row_m H3.out HM3.out) e.symm
                      rw [HB8.out] at e1
                      simp at e1), heap_alloc_old w3 _ (by omega)]
                    exact HB8.out
                  have y8 : w4.cell? ⟨wr.heap.size, 1, none⟩ = some (.int .i64 ar) := by simp [World.cell?, hb8]
                  have z8 : wr.heap.size < w4.heap.size := by omega
                  have HAI := hid (appendInt_any w.heap.size ar (.slice a4 (m3 + 1) c4) ((tx ++ nm) ++ [32]) w w4 HP.out (Nat.le_refl _) HB4.out HI64.out H4.out HB4.out.size (by have := HM3.out; rw [List.length_append]; simp only [List.length_cons, List.length_nil]; omega))
                  clear h4 g4 hb8)
               | fail)
          refine HAI.out.mono ?_
          clear HAI y8
          rintro e w5 ⟨v5, rfl, h5, hb5⟩
          obtain ⟨a5, c5, hv5'⟩ := row_shape h5
          obtain ⟨m5, hm5⟩ : ∃ m5, (((tx ++ nm) ++ [32]) ++ Lib.itoa ar).length = m5 := ⟨_, rfl⟩
          have hv5 : v5 = .slice a5 m5 c5 := by rw [hv5', hm5]
          clear hv5'
          subst hv5
          have HM5 := hid hm5
          have H5 := hid h5
          have HB5 := hid (HB4.out.trans hb5)
          have hm5b : m5 ≤ 100000 := by
            have := HMM.out
            rw [← hm5]
            simp only [List.length_append, List.length_cons, List.length_nil]
            omega
          have z5 : w.heap.size ≤ w5.heap.size := HB5.out.size
          clear h5 hb5 hm5
          go_wp2_with
            (at_builtin
             first
               | (refine wpList_appK Tryd.underlying40 Tryd.info5 rfl (by decide) rfl _ _ rfl w.heap.size (.slice a5 m5 c5) m5 (byC (((tx ++ nm) ++ [32]) ++ Lib.itoa ar)) rfl (ownsRow_below (row_m H5.out HM5.out) (below_alloc w5 _)) (.slice (some ⟨w5.heap.size, 0, none⟩) 1 1) 1 [.int .u8 10] rfl (seesK_byte 10 w5) (fun y hy => by simp at hy; subst hy; rfl) (by omega) (by simp only [maxLen]; omega) (by simp; omega) ?_
                  intro v9 w9 h9 g9
                  have HB9 := hid (pr_below' HB5.out (row_m H5.out HM5.out) g9)
                  have HO9 : Hid (RowB w9 w.heap.size v9 (textC (l.take (k + 1)))) := by
                    unfold Hid
                    rw [HTN.out]
                    have e0 : (nm ++ (if wi = 0 then [] else 32 :: Lib.itoa ar) ++ [10]) = nm ++ (32 :: Lib.itoa ar) ++ [10] := by rw [if_neg HW.out]
                    rw [e0, show tx ++ (nm ++ (32 :: Lib.itoa ar) ++ [10]) = (((tx ++ nm) ++ [32]) ++ Lib.itoa ar) ++ [10] by simp]
                    exact rowB_one HM5.out h9
                  clear h9 g9))
          go_roundw
          case rel => exact ⟨k + 1, by go_num, hid ⟨by omega, HB9.out, HO9.out⟩⟩
          case measure => simp [intOf]; omega
      · have hkI : ¬ (k : Int) < (n : Int) := by omega
        have hkn : k = n := by omega
        have htk : l.take k = l := List.take_of_length_le (by have := HN.out; omega)
        rw [htk] at hO
        have HO := hid hO
        have hcv := (rowB_iff.2 hO).conv
        have HBR := hid hbr
        rw [htk]
        clear hO hbr htk hkn HI
        go_wp2
        go_ret2
        exact ⟨rfl, HBR.out⟩
  · have hpr : prnC l = ([], ce) := by rw [HPR.out, if_neg hz]
    have hzz : (ce == 0) = false := by simpa using hz
    rw [hpr]
    clear hcs hpr HPR hz
    go_enter Tryd.func10, Tryd.ntmps10
    go_wp2_with fail
    refine HCK.out.mono ?_
    clear HCK
    rintro e w1 ⟨rfl, hb1⟩
    have HB1 := hid hb1
    clear hb1
    go_wp2
    go_ret2
    exact ⟨rfl, HB1.out⟩
end Go.Proofs.YtkidcoolcjmcfaaDoor
