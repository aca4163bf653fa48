/-
  Readers of a row's cells: as many as a number says, made one by one.
-/
import Derived.Test.YtkbceaofijngoaaWMk
namespace Go.Proofs.Ytkbceaofijngoaa
open Go.RowKit
set_option linter.unusedVariables false

/-- rd is what readText makes: where its variables lie. -/
structure TextRd (R : Nat) (g : Option Nat) (w : World) (lo hi : Nat) (vt rd : Value) (a t : Nat) : Prop where
  val : rd = .func (.func 65) #[] #[.pointer (some ⟨a, 0, none⟩), .pointer (some ⟨a + 1, 0, none⟩), .pointer (some ⟨a + 1 + 1, 0, none⟩)]
  c1 : CellAt 3 w a (.int .i64 (lo : Int))
  c2 : CellAt 3 w (a + 1) (.int .i64 (hi : Int))
  c3 : CellAt 76 w (a + 1 + 1) (.func (.func 56) #[] #[.pointer (some ⟨t, 0, none⟩)])
  c4 : CellAt 55 w t vt
  ra : a ≠ R ∧ a + 1 ≠ R ∧ a + 1 + 1 ≠ R ∧ t ≠ R
  ga : some a ≠ g ∧ some (a + 1) ≠ g ∧ some (a + 1 + 1) ≠ g ∧ some t ≠ g
theorem TextRd.keep {R : Nat} {g : Option Nat} {w w' : World} {lo hi : Nat} {vt rd : Value} {a t : Nat} (h : TextRd R g w lo hi vt rd a t) (hk : ∀ k ty v, ty ≠ 52 → CellAt ty w k v → CellAt ty w' k v) : TextRd R g w' lo hi vt rd a t :=
  ⟨h.val, hk _ _ _ (by decide) h.c1, hk _ _ _ (by decide) h.c2, hk _ _ _ (by decide) h.c3, hk _ _ _ (by decide) h.c4, h.ra, h.ga⟩
theorem TextRd.below {R : Nat} {g : Option Nat} {w w' : World} {lo hi : Nat} {vt rd : Value} {a t : Nat} (h : TextRd R g w lo hi vt rd a t) (hb : Below w.heap.size w w') : TextRd R g w' lo hi vt rd a t :=
  h.keep (fun k ty v _ hc => by unfold CellAt; rw [hb.block k hc.lt]; exact hc)
theorem TextRd.reads {R c : Nat} {g : Option Nat} {w : World} {lo hi : Nat} {vt rd : Value} {a t : Nat} {tk : ByteArray → RowV → RowV} (h : TextRd R g w lo hi vt rd a t) (hT : Takes R c vt tk) : Reads R c g w rd (textP lo hi tk) := by
  refine ⟨_, _, h.val, enters_of Try.func65 (by kernel_rfl) rfl, fun s st g' w' vc vs vi hs hk hst hc => ?_⟩
  have hM := (text2_any R c lo hi t vt tk g w h.c4 h.ra.2.2.2 h.ga.2.2.2 hT).step hk
  exact counted1_any R c lo hi a (a + 1) (a + 1 + 1) _ _ s st g' w' vc vs vi (h.c1.step hk h.ra.1 h.ga.1) (h.c2.step hk h.ra.2.1 h.ga.2.1) (h.c3.step hk h.ra.2.2.1 h.ga.2.2.1) h.ra.2.2.1 (hk.far h.c3.lt h.ga.2.2.1) hM hs hst hc

set_option maxRecDepth 20000 in
set_option maxHeartbeats 1000000 in
theorem counted_conc (lo hi k : Nat) (caps : Array Value) (w : World) :
    Calls Try.prog 55 #[.int .i64 (lo : Int), .int .i64 (hi : Int), .func (.func k) #[] caps] w (fun e w' => e = .returned (.func (.func 65) #[] #[.pointer (some ⟨w.heap.size, 0, none⟩), .pointer (some ⟨w.heap.size + 1, 0, none⟩), .pointer (some ⟨w.heap.size + 1 + 1, 0, none⟩)]) ∧
      Below w.heap.size w w' ∧ CellAt 3 w' w.heap.size (.int .i64 (lo : Int)) ∧ CellAt 3 w' (w.heap.size + 1) (.int .i64 (hi : Int)) ∧ CellAt 76 w' (w.heap.size + 1 + 1) (.func (.func k) #[] caps)) := by
  obtain ⟨W, hW⟩ : ∃ W, W = (((w.alloc (.cells #[.int .i64 (lo : Int)] 3)).alloc (.cells #[.int .i64 (hi : Int)] 3)).alloc (.cells #[.func (.func k) #[] caps] 76)) := ⟨_, rfl⟩
  have h1 : CellAt 3 W w.heap.size (.int .i64 (lo : Int)) := by rw [hW]; exact ((CellAt.new w _).box _).box _
  have h2 : CellAt 3 W (w.heap.size + 1) (.int .i64 (hi : Int)) := by
    rw [hW]
    have h := (CellAt.new (ty := 3) (w.alloc (.cells #[.int .i64 (lo : Int)] 3)) (.int .i64 (hi : Int))).box (.cells #[.func (.func k) #[] caps] 76)
    simpa using h
  have h3 : CellAt 76 W (w.heap.size + 1 + 1) (.func (.func k) #[] caps) := by
    rw [hW]
    have h := CellAt.new (ty := 76) ((w.alloc (.cells #[.int .i64 (lo : Int)] 3)).alloc (.cells #[.int .i64 (hi : Int)] 3)) (.func (.func k) #[] caps)
    simpa using h
  have hB : Below w.heap.size w W := by rw [hW]; exact ((below_alloc w _).alloc (by simp) _).alloc (by simp; omega) _
  have HB := hid hB
  have H1 := hid h1
  have H2 := hid h2
  have H3 := hid h3
  have HW := hid hW
  clear h1 h2 h3 hB hW
  go_enter Try.func55, Try.ntmps55
  go_wp2
  rw [← HW.out]
  go_ret
  exact ⟨rfl, HB.out, H1.out, H2.out, H3.out⟩

set_option maxRecDepth 20000 in
set_option maxHeartbeats 1000000 in
theorem readText_conc (R lo hi k : Nat) (caps : Array Value) (g : Option Nat) (w : World) (hR : R < w.heap.size) (hg : ∀ j, g = some j → j < w.heap.size) :
    Calls Try.prog 32 #[.int .i64 (lo : Int), .int .i64 (hi : Int), .func (.func k) #[] caps] w (fun e w' => ∃ rd a t, e = .returned rd ∧ Below w.heap.size w w' ∧ TextRd R g w' lo hi (.func (.func k) #[] caps) rd a t) := by
  obtain ⟨W, hW⟩ : ∃ W, W = w.alloc (.cells #[.func (.func k) #[] caps] 55) := ⟨_, rfl⟩
  have h1 : CellAt 55 W w.heap.size (.func (.func k) #[] caps) := by rw [hW]; exact CellAt.new w _
  have hB : Below w.heap.size w W := by rw [hW]; exact below_alloc w _
  have hsz := h1.lt
  have hC := counted_conc lo hi 56 #[.pointer (some ⟨w.heap.size, 0, none⟩)] W
  have HB := hid hB
  have H1 := hid h1
  have HW := hid hW
  clear h1 hB hW
  go_enter Try.func32, Try.ntmps32
  go_wp2_with fail
  rw [← HW.out]
  refine hC.mono ?_
  clear hC
  rintro e w1 ⟨rfl, hB1, q1, q2, q3⟩
  have HB1 := hid hB1
  have HQ : Hid (TextRd R g w1 lo hi (.func (.func k) #[] caps) (.func (.func 65) #[] #[.pointer (some ⟨W.heap.size, 0, none⟩), .pointer (some ⟨W.heap.size + 1, 0, none⟩), .pointer (some ⟨W.heap.size + 1 + 1, 0, none⟩)]) W.heap.size w.heap.size) := by
    refine hid ⟨rfl, q1, q2, q3, ?_, ⟨by omega, by omega, by omega, by omega⟩, ?_⟩
    · have h := H1.out
      unfold CellAt at h ⊢
      rw [hB1.block _ hsz]
      exact h
    · refine ⟨fun e => ?_, fun e => ?_, fun e => ?_, fun e => ?_⟩
      · have := hg _ e.symm; omega
      · have := hg _ e.symm; omega
      · have := hg _ e.symm; omega
      · have := hg _ e.symm; omega
  clear hB1 q1 q2 q3
  go_wp2
  go_ret
  exact ⟨_, _, _, rfl, HB.out.trans (HB1.out.mono (by omega)), HQ.out⟩

/-- What is own and no reader's row stays where an own row of readers grows. -/
theorem keep_grown {w w' : World} {base n : Nat} {v : Value} {xs : List Value} (hO : w.ownsRow base 52 1 v n xs) (hG : w.grownBy w' v.ownBlock) : ∀ k ty u, ty ≠ 52 → CellAt ty w k u → CellAt ty w' k u := by
  intro k ty u hty hc
  unfold CellAt
  rw [hG.block k hc.lt ?_]
  · exact hc
  · intro e
    rcases hO.2 with ⟨rfl, _⟩ | ⟨g, cap, cur, rfl, _, hg, _⟩
    · simp [Value.ownBlock] at e
    · simp [Value.ownBlock] at e
      subst e
      unfold CellAt at hc
      rw [hg] at hc
      simp at hc
      exact hty hc.2.symm

theorem csum_rep (n : Nat) (f : Rd) : csum (List.replicate n (f, 1)) = n := by
  induction n with
  | zero => rfl
  | succ n ih => rw [List.replicate_succ, csum, ih]; simp only; omega
theorem chain_rep (n : Nat) (f : Rd) (c : Nat) : chainC (List.replicate n (f, c)) = chainP (List.replicate n f) := by rw [chainC, List.map_replicate]

set_option maxRecDepth 20000 in
set_option maxHeartbeats 2000000 in
theorem cells2_any (R pt : Nat) (g : Option Nat) (w : World) (h2 : CellAt 55 w pt (.func (.func 35) #[] #[.pointer (some ⟨R, 0, none⟩)])) (h2R : pt ≠ R) (h2g : some pt ≠ g) :
    Makes R 8 0 8 g w (.func (.func 58) #[] #[.pointer (some ⟨pt, 0, none⟩)]) (fun n st => (st, chainP (List.replicate n (textP 0 256 addCell)))) := by
  refine ⟨_, _, rfl, enters_of Try.func58 (by kernel_rfl) rfl, fun n st g' w' vc vs vi _ hn hk hst => ?_⟩
  show Calls Try.prog 58 #[.int .i64 (n : Int), .pointer (some ⟨pt, 0, none⟩)] w' _
  have h2' := h2.step hk h2R h2g
  have H2 := hid h2'
  have h2lt := h2'.lt
  have hRl := hst.row.lt
  have hgl := hst.glt
  have HST := hid hst
  clear hk h2 h2' hst h2R h2g
  go_enter Try.func58, Try.ntmps58
  go_wp2_with fail
  go_loopw [4, 6] (fun ls i wr => ∃ (j : Nat) (rds : List Value), j ≤ n ∧ i = .int .i64 (j : Int) ∧ rds.length = j ∧ wr.ownsRow w'.heap.size 52 1 ls j rds ∧ (∀ q, (hq : q < rds.length) → ∃ a t, TextRd R g' wr 0 256 (.func (.func 35) #[] #[.pointer (some ⟨R, 0, none⟩)]) rds[q] a t) ∧ Below w'.heap.size w' wr) (fun _ i _ => n - (intOf i).toNat)
  case atStart => exact ⟨0, [], Nat.zero_le _, rfl, rfl, World.ownsRow_nil _ _ _ _, fun q hq => by simp at hq, Below.refl _ _⟩
  case round =>
    obtain ⟨j, rds, hj, rfl, hjl, hO, hT, hB⟩ := hrel
    have hsr := hB.size
    have HJL := hid hjl
    have HO := hid hO
    have HT := hid hT
    have HB := hid hB
    clear hO hT hB hjl
    by_cases hlt : j < n
    · have hlt' : (j : Int) < (n : Int) := by omega
      have hcp : CellAt 55 wr pt (.func (.func 35) #[] #[.pointer (some ⟨R, 0, none⟩)]) := by
        have h := H2.out
        unfold CellAt at h ⊢
        rw [HB.out.block pt h2lt]
        exact h
      obtain ⟨c1, _⟩ := hcp.cells
      have hcall := readText_conc R 0 256 35 #[.pointer (some ⟨R, 0, none⟩)] g' wr (by omega) (fun q hq => by have := hgl q hq; omega)
      clear hcp
      go_wp2_with fail
      refine hcall.mono ?_
      clear hcall
      rintro e w1 ⟨rd, a, t, rfl, hB1, hTR⟩
      have hs1 := hB1.size
      have HO1 := hid (ownsRow_below HO.out hB1)
      have HB1 := hid (HB.out.trans (hB1.mono hsr))
      have HT1 : Hid (∀ q, (hq : q < rds.length) → ∃ a t, TextRd R g' w1 0 256 (.func (.func 35) #[] #[.pointer (some ⟨R, 0, none⟩)]) rds[q] a t) := by
        unfold Hid
        intro q hq
        obtain ⟨a, t, h⟩ := HT.out q hq
        exact ⟨a, t, h.below hB1⟩
      have hval := hTR.val
      have HTR := hid hTR
      obtain ⟨aoL, capL, hLs⟩ : ∃ aoL capL, u4 = .slice aoL j capL := by
        rcases HO.out.2 with ⟨h, h0⟩ | ⟨gg, cc, cur, h, _⟩
        · exact ⟨none, 0, by rw [h, h0]⟩
        · exact ⟨_, cc, h⟩
      subst hLs
      subst hval
      clear hB1 hTR HO HT HB
      go_wp2_with (first
        | (at_builtin
           refine wpList_appOne Try.underlying74 Try.infoRd (by decide) rfl _ _ rfl w'.heap.size (.slice aoL j capL) j rds rfl (ownsRow_below HO1.out (below_alloc _ _)) _ _ rfl (see1 rfl) rfl (by omega) (by decide) (by rw [size_box]; omega) ?_
           intro g2 cap2 w2 hO2 hG2 hg2 hl2
           have HK := hid (keep_grown (ownsRow_below HO1.out (below_alloc _ _)) hG2)
           have HB2 := hid (below_grownBy (HB1.out.trans ((below_alloc w1 _).mono (by omega))) hG2 (fun q hq => by
             rcases HO1.out.2 with ⟨h, _⟩ | ⟨gg, cc, cur, h, hb, _⟩
             · rw [h] at hq; simp [Value.ownBlock] at hq
             · rw [h] at hq; simp [Value.ownBlock] at hq; omega) (by rw [size_box]; omega))
           have HO2 := hid hO2
           clear hO2 hG2 hg2)
        | fail)
      go_roundw
      case rel =>
        refine ⟨j + 1, rds ++ [_], by omega, by go_num, by rw [List.length_append, HJL.out]; rfl, HO2.out, fun q hq => ?_, HB2.out⟩
        have hjl := HJL.out
        by_cases hq1 : q < rds.length
        · rw [List.getElem_append_left hq1]
          obtain ⟨a2, t2, h⟩ := HT1.out q hq1
          exact ⟨a2, t2, (h.below (below_alloc w1 _)).keep HK.out⟩
        · have hq2 : q = rds.length := by rw [List.length_append, List.length_singleton] at hq; omega
          subst hq2
          rw [List.getElem_append_right (Nat.le_refl _)]
          simp only [Nat.sub_self, List.getElem_cons_zero]
          exact ⟨a, t, (HTR.out.below (below_alloc w1 _)).keep HK.out⟩
      case measure => simp [intOf]; omega
    · have hlt' : ¬ (j : Int) < (n : Int) := by omega
      have hjn : j = n := by omega
      have hjl := HJL.out
      have hSF : SeesF R g' wr u4 rds := by
        rcases HO.out.2 with ⟨h, h0⟩ | ⟨gg, cc, cur, h, hb, hg, hcap, rest⟩
        · have : rds = [] := List.eq_nil_of_length_eq_zero (by omega)
          subst this
          refine ⟨0, 0, none, 0, by rw [h]; rfl, Nat.le_refl _, fun h => absurd rfl h, fun q hq => by simp at hq⟩
        · refine ⟨gg, 0, some ⟨gg, 0, none⟩, cc, by rw [h, hjl], by omega, fun _ => ⟨rfl, by omega, fun e => by have := hgl gg e.symm; omega⟩, fun q hq => ?_⟩
          have h1 := HO.out.cells (g := gg) (by rw [h]; rfl) q rds[q] (by simp)
          rw [addr_add] at h1
          exact h1
      have hC := chain_row R u4 rds (List.replicate n (textP 0 256 addCell, 1)) g' wr hSF (by rw [List.length_replicate]; omega) (by omega) (fun q q1 q2 => by
        obtain ⟨a, t, h⟩ := HT.out q q1
        rw [List.getElem_replicate]
        exact h.reads (of2_any R)) (by omega) (fun q hq => by have := hgl q hq; omega)
      rw [csum_rep, chain_rep] at hC
      obtain ⟨ao, cap, hu4⟩ : ∃ ao cap, u4 = .slice ao j cap := by
        rcases HO.out.2 with ⟨h, h0⟩ | ⟨gg, cc, cur, h, _⟩
        · exact ⟨none, 0, by rw [h, h0]⟩
        · exact ⟨_, cc, h⟩
      subst hu4
      clear HO HT hSF hjl HJL hjn
      go_wp2_with fail
      refine hC.mono ?_
      clear hC
      unfold Made
      rintro e w1 ⟨rd, rfl, hB1, hR1⟩
      have HB1 := hid (HB.out.trans (hB1.mono hsr))
      have HR1 := hid (hR1.weaken hn)
      clear hB1 hR1
      go_wp2
      go_ret
      unfold MakePost
      exact ⟨_, g', vc, vs, vi, rfl, Step.of_below HB1.out, HST.out.below HB1.out, rfl, HR1.out⟩

set_option maxRecDepth 20000 in
set_option maxHeartbeats 1000000 in
theorem readCells_any (R : Nat) (g : Option Nat) (w : World) (hR : R < w.heap.size) (hg : ∀ j, g = some j → j < w.heap.size) :
    Calls Try.prog 34 #[.func (.func 35) #[] #[.pointer (some ⟨R, 0, none⟩)]] w (Made R 8 g cellsP w) := by
  obtain ⟨W, hW⟩ : ∃ W, W = w.alloc (.cells #[.func (.func 35) #[] #[.pointer (some ⟨R, 0, none⟩)]] 55) := ⟨_, rfl⟩
  have h1 : CellAt 55 W w.heap.size (.func (.func 35) #[] #[.pointer (some ⟨R, 0, none⟩)]) := by rw [hW]; exact CellAt.new w _
  have hB : Below w.heap.size w W := by rw [hW]; exact below_alloc w _
  have hsz := h1.lt
  have f1 : some w.heap.size ≠ g := fun e => by have := hg _ e.symm; omega
  have hM := cells2_any R w.heap.size g W h1 (by omega) f1
  have hC := counted_row R 8 0 8 g _ _ W hM (by omega) (fun j hj => by have := hg j hj; omega)
  have HB := hid hB
  have HW := hid hW
  clear h1 hB hW hM
  go_enter Try.func34, Try.ntmps34
  go_wp2_with fail
  rw [← HW.out]
  refine hC.mono ?_
  clear hC
  unfold Made
  rintro e w1 ⟨rd, rfl, hB1, hR1⟩
  have HB1 := hid hB1
  have HR1 := hid hR1
  clear hB1 hR1
  go_wp2
  go_ret
  exact ⟨_, rfl, HB.out.trans (HB1.out.mono (by omega)), HR1.out⟩

end Go.Proofs.Ytkbceaofijngoaa
