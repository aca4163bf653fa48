/-
  The lines of a head: the code's.
-/
import Derived.Test.YtllhibdjopfcnaaGreatDoorZHField
import Derived.Laws.EntriesVeiled
namespace Go.Proofs.YtllhibdjopfcnaaGreatDoor
open Go.RowKit
set_option linter.unusedVariables false

theorem ownsP_kept {w w' : World} {p B : Nat} {v : Value} {l : List PairL} (h : OwnsP w B v l) (hk : Kept p w.heap.size w w') (hp : p < B) : OwnsP w' B v l := by
  refine ⟨h.1, ?_⟩
  rcases h.2 with hn | ⟨g, cap, cur, rfl, hbase, hg, rest⟩
  · exact Or.inl hn
  · exact Or.inr ⟨g, cap, cur, rfl, hbase, by rw [hk.block g (Array.getElem?_eq_some_iff.1 hg).1 (by omega)]; exact hg, rest⟩
theorem ML.kept {w w' : World} {p B : Nat} (h : ML w) (hk : Kept p B w w') (hp : 0 < p) (hB : 0 < B) : ML w' := by
  obtain ⟨m, hm⟩ := h
  exact ⟨m, (hk.cell (a := ⟨0, 0, none⟩) hB (by simp only; omega)).trans hm⟩
/-- The table of looks. -/
def fReq : Value := .func (.func 103) #[] #[]
def fFld : Value := .func (.func 104) #[] #[]
def TabAt (w : World) (q : Nat) : Prop := w.heap[q]? = some (.cells #[fReq, fFld] 114 (0, 0))
theorem TabAt.lt {w : World} {q : Nat} (h : TabAt w q) : q < w.heap.size := (Array.getElem?_eq_some_iff.1 h).1
theorem TabAt.below {w w' : World} {q B : Nat} (h : TabAt w q) (hb : Below B w w') (hq : q < B) : TabAt w' q := by
  unfold TabAt
  rw [hb.block q hq]
  exact h
theorem TabAt.kept {w w' : World} {p q B : Nat} (h : TabAt w q) (hk : Kept p B w w') (hq : q < B) (hne : q ≠ p) : TabAt w' q := by
  unfold TabAt
  rw [hk.block q hq hne]
  exact h
theorem TabAt.cells {w : World} {q : Nat} (h : TabAt w q) : w.cell? ⟨q, 0, none⟩ = some (.func (.func 103) #[] #[]) ∧ w.cell? ⟨q, 1, none⟩ = some (.func (.func 104) #[] #[]) := by
  unfold TabAt at h
  refine ⟨?_, ?_⟩ <;> simp [World.cell?, h, fReq, fFld]
set_option maxHeartbeats 1000000 in
theorem looks_any (w : World) : Calls Tryz.prog 79 #[] w fun e w' => e = .returned (.agg #[.func (.func 103) #[] #[], .func (.func 104) #[] #[]]) ∧ Below w.heap.size w w' := by
  have ht : TabAt (w.alloc (.cells #[.func (.func 103) #[] #[], .func (.func 104) #[] #[]] 114)) w.heap.size := heap_alloc_new w _
  obtain ⟨y1, y2⟩ := ht.cells
  have HB := hid (below_alloc w (.cells #[.func (.func 103) #[] #[], .func (.func 104) #[] #[]] 114))
  clear ht
  go_enter Tryz.func79, Tryz.ntmps79
  go_wp2
  refine bodyPost_ret (v := .agg #[.func (.func 103) #[] #[], .func (.func 104) #[] #[]]) (by simp [results, Tryz.results79, go_sem, y1, y2]) rfl ?_
  exact ⟨rfl, HB.out⟩

/-! ### Steps of the lines -/
theorem outL_zero {c : List UInt8} {e : Bool} (h : outL c e = 0) : c.length ≤ 1024 ∧ e = true ∧ brk c = false := by
  unfold outL at h
  split at h
  · cases h
  · split at h
    · cases h
    · rename_i h1 h2
      simp only [not_or, Bool.not_eq_false, Bool.not_eq_true] at h2
      exact ⟨by omega, h2.1, h2.2⟩
theorem lines_bad {n f k : Nat} {oh : Option HeadL} {D : List UInt8} (h : outL (cutE D).1 (cutE D).2.2 ≠ 0) : lines n (f + 1) oh k D = (hz, outL (cutE D).1 (cutE D).2.2, k) := by
  have key : ∀ X : HeadL × Int × Nat, (if 1024 < (cutE D).1.length then (hz, 431, k) else if (cutE D).2.2 = false ∨ brk (cutE D).1 = true then (hz, 400, k) else X) = (hz, outL (cutE D).1 (cutE D).2.2, k) := by
    intro X
    unfold outL at h ⊢
    split
    · rfl
    · rename_i h1
      rw [if_neg h1] at h
      split
      · rfl
      · rename_i h2
        rw [if_neg h2] at h
        exact absurd rfl h
  cases oh <;> (rw [lines]; exact key _)
theorem lines_at {n f k : Nat} {oh : Option HeadL} {D : List UInt8} (h : outL (cutE D).1 (cutE D).2.2 = 0) : lines n (f + 1) oh k D = match oh with
      | none => if (reqL (cutE D).1).2 ≠ 0 then (hz, (reqL (cutE D).1).2, k) else lines n f (some (reqL (cutE D).1).1) (k + (cutE D).1.length + 2) (cutE D).2.1
      | some h =>
        if (cutE D).1 = [] then (if (cutE D).2.1 = [] then (h, 0, 0) else (hz, 400, n))
        else if 32 ≤ h.2.2.2.length then (hz, 431, k)
        else match fieldL (cutE D).1 with
          | none => (hz, 400, k)
          | some p => lines n f (some (h.1, h.2.1, h.2.2.1, h.2.2.2 ++ [p])) (k + (cutE D).1.length + 2) (cutE D).2.1 := by
  obtain ⟨h1, h2, h3⟩ := outL_zero h
  cases oh <;> (rw [lines, if_neg (by omega), if_neg (by rw [h2, h3]; simp)]; try rfl)
theorem reqL_fields (l : List UInt8) : (reqL l).1.2.2.2 = [] := by
  unfold reqL
  repeat' split
  all_goals rfl
theorem lines_fld {n f k : Nat} {h : HeadL} {D : List UInt8} (ho : outL (cutE D).1 (cutE D).2.2 = 0) (hne : (cutE D).1 ≠ []) :
    lines n (f + 1) (some h) k D = if (fldL h.2.2.2 (cutE D).1).2 ≠ 0 then (hz, (fldL h.2.2.2 (cutE D).1).2, k) else lines n f (some (h.1, h.2.1, h.2.2.1, (fldL h.2.2.2 (cutE D).1).1)) (k + (cutE D).1.length + 2) (cutE D).2.1 := by
  rw [lines_at ho]
  simp only
  rw [if_neg hne]
  unfold fldL
  split
  · simp
  · cases fieldL (cutE D).1 with
    | none => simp
    | some p => simp
theorem fldL_le {fs : List PairL} {l : List UInt8} (h : fs.length ≤ 32) : (fldL fs l).1.length ≤ 32 := by
  unfold fldL
  split
  · exact h
  · cases fieldL l with
    | none => exact h
    | some p => simp; omega
theorem drop_next {L : List UInt8} {k : Nat} (hc : (cutE (L.drop k)).2.2 = true) (hk : k ≤ L.length) : L.drop (k + (cutE (L.drop k)).1.length + 2) = (cutE (L.drop k)).2.1 ∧ k + (cutE (L.drop k)).1.length + 2 ≤ L.length := by
  have e := cutE_true hc
  have hl := (cutE_len (L.drop k)).2 hc
  rw [List.length_drop] at hl
  refine ⟨?_, by omega⟩
  obtain ⟨c1, h1⟩ : ∃ c1, c1 = (cutE (L.drop k)).1 := ⟨_, rfl⟩
  obtain ⟨c2, h2⟩ : ∃ c2, c2 = (cutE (L.drop k)).2.1 := ⟨_, rfl⟩
  rw [← h1, ← h2] at e ⊢
  rw [Nat.add_assoc, ← List.drop_drop, e, ← List.drop_drop, List.drop_left]
  rfl

def kindOf (oh : Option HeadL) : Int := if oh.isSome then 1 else 0
def headOf (oh : Option HeadL) : HeadL := oh.getD hz
/-- Where the lines stand. -/
structure At (w0 : World) (p q : Nat) (L : List UInt8) (R : HeadL × Int × Nat) (k : Nat) (oh : Option HeadL) (w : World) : Prop where
  le : k ≤ L.length
  fuel : ∃ f, lines L.length (f + 1) oh k (L.drop k) = R ∧ L.length - k ≤ f
  few : (headOf oh).2.2.2.length ≤ 32
  tab : TabAt w q
  kept : Kept p w0.heap.size w0 w
  ml : ML w
  head : ∃ v, HeadAt w p (strV (headOf oh).1) (strV (headOf oh).2.1) (.int .i64 (headOf oh).2.2.1) v ∧ OwnsP w (q + 1) v (headOf oh).2.2.2


set_option maxRecDepth 20000 in
set_option maxHeartbeats 8000000 in
theorem takeLines_any (L : List UInt8) (p : Nat) (w : World) (hH : HeadAt w p (strV []) (strV []) (.int .i64 0) (.slice none 0 0)) (hM : ML w) (hgp : 0 < p) (hs : L.length ≤ 4096) :
    Calls Tryz.prog 51 #[.pointer (some ⟨p, 0, none⟩), .string ⟨L.toArray⟩] w fun e w' => ∃ R, R = lines L.length (L.length + 1) none 0 L ∧ e = .returned (.tuple #[.int .i64 R.2.1, .int .i64 (R.2.2 : Int)]) ∧ Kept p w.heap.size w w' ∧
      ∃ a b c v, HeadAt w' p a b c v ∧ (R.2.1 = 0 → a = strV R.1.1 ∧ b = strV R.1.2.1 ∧ c = .int .i64 R.1.2.2.1 ∧ OwnsP w' w.heap.size v R.1.2.2.2) := by
  obtain ⟨R, hR⟩ : ∃ R, R = lines L.length (L.length + 1) none 0 L := ⟨_, rfl⟩
  obtain ⟨s, hse⟩ : ∃ s : ByteArray, s = ⟨L.toArray⟩ := ⟨_, rfl⟩
  have hsz : s.size = L.length := by rw [hse, size_list]
  have hext : ∀ k, s.extract k s.size = ⟨(L.drop k).toArray⟩ := by
    intro k
    rw [hsz, hse, extract_list, List.take_of_length_le (by simp)]
  rw [← hR, ← hse]
  have hpl := hH.lt
  have HH := hid hH
  have HM := hid hM
  have HR := hid hR
  have HX := hid hext
  have hLk := looks_any w
  clear hR hH hM hse hext
  go_enter Tryz.func51, Tryz.ntmps51
  go_wp2_with fail
  refine hLk.mono ?_
  clear hLk
  rintro e w1 ⟨rfl, hB1⟩
  have HB1 := hid hB1
  have hsz1 := hB1.size
  clear hB1
  go_wp2_with fail
  go_loopw [5, 7] (fun at' kd wr => ∃ (k : Nat) (oh : Option HeadL), at' = .int .i64 (k : Int) ∧ kd = .int .i64 (kindOf oh) ∧ At w p w1.heap.size L R k oh wr) (fun at' _ _ => L.length - (intOf at').toNat)
  case atStart =>
    have hM1 := HM.out.below HB1.out HM.out.lt
    refine ⟨0, none, rfl, rfl, Nat.zero_le _, ⟨L.length, by rw [List.drop_zero]; exact HR.out.symm, by omega⟩, Nat.zero_le _, heap_alloc_new w1 _, Kept.of_below (HB1.out.trans ((below_alloc w1 _).mono hsz1)), hM1.below (below_alloc w1 _) hM1.lt, _, (HH.out.below HB1.out hpl).below (below_alloc w1 _) (Nat.lt_of_lt_of_le hpl hsz1), OwnsP.nil _ _⟩
  clear HH HM HR HB1
  case round =>
    obtain ⟨k, oh, rfl, rfl, hle, ⟨f, hfl, hfu⟩, hfew, htab, hkept, hml, v, hhd, hown⟩ := hrel
    have hkz : (k : Int) ≤ (s.size : Int) := by omega
    have HSZ := hid hsz
    clear hsz
    have hDl : (L.drop k).length ≤ 4096 := by rw [List.length_drop]; omega
    have hX := HX.out k
    have hC := cutE_any (L.drop k) wr hml hDl
    have hcl := (cutE_len (L.drop k)).1
    have hO := fun w => outline_any (cutE (L.drop k)).1 (cutE (L.drop k)).2.2 w (by omega)
    have hRq := fun a b c d w h => takeRequest_any (cutE (L.drop k)).1 p a b c d w h (by omega)
    have hFd := fun a b c v fs w h1 h2 h3 h4 => takeField_any (cutE (L.drop k)).1 p (w1.heap.size + 1) a b c v fs w h1 h2 (by omega) h3 (by omega) h4
    have hlb := fun h => lines_bad (n := L.length) (f := f) (k := k) (oh := oh) (D := L.drop k) h
    have hla := fun h => lines_at (n := L.length) (f := f) (k := k) (oh := oh) (D := L.drop k) h
    have hlf := fun hd h1 h2 => lines_fld (n := L.length) (f := f) (k := k) (h := hd) (D := L.drop k) h1 h2
    have hdn := fun h => drop_next (L := L) (k := k) h hle
    have hdl : (L.drop k).length = L.length - k := List.length_drop
    rw [hfl] at hlb hla
    obtain ⟨D, hD⟩ : ∃ D, D = L.drop k := ⟨_, rfl⟩
    rw [← hD] at hX hC hcl hO hRq hFd hlb hla hlf hdn hdl hfl
    obtain ⟨c1, hc1⟩ : ∃ x, x = (cutE D).1 := ⟨_, rfl⟩
    obtain ⟨c2, hc2⟩ : ∃ x, x = (cutE D).2.1 := ⟨_, rfl⟩
    obtain ⟨c3, hc3⟩ : ∃ x, x = (cutE D).2.2 := ⟨_, rfl⟩
    rw [← hc1, ← hc2, ← hc3] at hC hdn
    rw [← hc1, ← hc3] at hO hlb
    rw [← hc1, ← hc2, ← hc3] at hla hlf
    rw [← hc1] at hRq hFd hcl
    have hcs : (⟨c1.toArray⟩ : ByteArray).size = c1.length := size_list c1
    have HX := hid hX
    have HTab := hid htab
    have HKept := hid hkept
    have HML := hid hml
    have HHd := hid hhd
    have HOwn := hid hown
    have HO := hid hO
    have HRq := hid hRq
    have HFd := hid hFd
    have HLB := hid hlb
    have HLA := hid hla
    have HLF := hid hlf
    have HDN := hid hdn
    have HFL := hid hfl
    have HFew := hid hfew
    have htl := htab.lt
    have hq1 : w1.heap.size + 1 ≤ wr.heap.size := htl
    have hpw : p < wr.heap.size := hhd.lt
    have hgw := hml.lt
    clear hX hO hRq hFd hlb hla hlf hdn hfl hfew hD hc1 hc2 hc3 htab hkept hml hhd hown hDl
    by_cases ho : outL c1 c3 = 0
    · obtain ⟨_, rfl, _⟩ := outL_zero ho
      rw [ho] at HO
      obtain ⟨hdr, hk2⟩ := HDN.out rfl
      have HDR := hid hdr
      have hla2 := HLA.out ho
      have HLF2 := hid (fun hd h2 => HLF.out hd ho h2)
      clear hdr HDN HLB HLA HLF ho
      cases oh with
      | none =>
        rw [show kindOf none = 0 from rfl]
        simp only at hla2
        have HQ0 := hid (reqL_fields c1)
        obtain ⟨Q, hQ⟩ : ∃ Q, Q = reqL c1 := ⟨_, rfl⟩
        rw [← hQ] at hla2 HRq HQ0
        obtain ⟨QH, QS⟩ := Q
        simp only at hla2 HRq HQ0
        clear hQ HFd HLF2 HFL HFew
        by_cases hq0 : QS = 0
        · subst hq0
          rw [if_neg (by simp)] at hla2
          have HE := hid hla2
          clear hla2
          cases he : c1.isEmpty
          all_goals (
            go_wp2_with fail
            rw [HX.out]
            refine hC.mono ?_
            clear hC
            rintro e wa ⟨rfl, n1, hwa⟩
            have HBa : Hid (Below wr.heap.size wr wa) := by unfold Hid; rw [hwa]; exact below_drewN' _ _ _
            clear hwa
            go_wp2_with fail
            refine (HO.out _).mono ?_
            clear HO
            rintro e wb ⟨rfl, hBb⟩
            have HBb := hid (HBa.out.trans (hBb.mono HBa.out.size))
            clear hBb HBa
            have HTb := hid (HTab.out.below HBb.out htl)
            obtain ⟨y1, y2⟩ := HTb.out.cells
            have HHb := hid (HHd.out.below HBb.out hpw)
            have HOb := hid (HOwn.out.below HBb.out)
            have HKb := hid (HKept.out.trans (Kept.of_below (HBb.out.mono HKept.out.size)))
            have HMb := hid (HML.out.below HBb.out hgw)
            have hszb := HBb.out.size
            clear HHd HOwn HKept HML HTab HBb
            go_wp2_with fail
            refine (HRq.out _ _ _ _ wb HHb.out).mono ?_
            clear HRq
            rintro e wc ⟨rfl, hK, hok, hbad⟩
            have HKc := hid hK
            clear hK
            have HHc := hid (hok (by simp))
            clear hok hbad
            have hgz : wb.heap.size ≤ wc.heap.size := HKc.out.size
            go_wp2
            go_roundw
            case rel =>
              refine ⟨k + c1.length + 2, some QH, by go_num, rfl, hk2, ⟨f - 1, ?_, by omega⟩, ?_, HTb.out.kept HKc.out (by omega) (by omega), HKb.out.trans (HKc.out.le (Nat.le_trans HKb.out.size (Nat.le_refl _))), HMb.out.kept HKc.out hgp (by omega), _, HHc.out, ?_⟩
              · rw [show f - 1 + 1 = f by omega, HDR.out]; exact HE.out.symm
              · rw [show headOf (some QH) = QH from rfl, HQ0.out]; exact Nat.zero_le _
              · rw [show headOf (some QH) = QH from rfl, HQ0.out]; exact ownsP_kept HOb.out HKc.out (by omega)
            case measure => simp [intOf]; omega)
        · rw [if_pos hq0] at hla2
          have hq0' : (QS == 0) = false := by rw [beq_eq_false_iff_ne]; exact hq0
          have HE := hid hla2
          have HN := hid hq0
          clear hla2 hq0
          cases he : c1.isEmpty
          all_goals (
            go_wp2_with fail
            rw [HX.out]
            refine hC.mono ?_
            clear hC
            rintro e wa ⟨rfl, n1, hwa⟩
            have HBa : Hid (Below wr.heap.size wr wa) := by unfold Hid; rw [hwa]; exact below_drewN' _ _ _
            clear hwa
            go_wp2_with fail
            refine (HO.out _).mono ?_
            clear HO
            rintro e wb ⟨rfl, hBb⟩
            have HBb := hid (HBa.out.trans (hBb.mono HBa.out.size))
            clear hBb HBa
            have HTb := hid (HTab.out.below HBb.out htl)
            obtain ⟨y1, y2⟩ := HTb.out.cells
            have HHb := hid (HHd.out.below HBb.out hpw)
            have HOb := hid (HOwn.out.below HBb.out)
            have HKb := hid (HKept.out.trans (Kept.of_below (HBb.out.mono HKept.out.size)))
            have HMb := hid (HML.out.below HBb.out hgw)
            have hszb := HBb.out.size
            clear HHd HOwn HKept HML HTab HBb
            go_wp2_with fail
            refine (HRq.out _ _ _ _ wb HHb.out).mono ?_
            clear HRq
            rintro e wc ⟨rfl, hK, hok, hbad⟩
            have HKc := hid hK
            clear hK
            have HHc := hid (hbad HN.out)
            clear hok hbad
            go_wp2
            go_ret2
            exact ⟨_, HE.out.symm, rfl, HKb.out.trans (HKc.out.le HKb.out.size), _, _, _, _, HHc.out, fun h => absurd h HN.out⟩)
      | some h =>
        rw [show kindOf (some h) = 1 from rfl]
        simp only at hla2
        cases he : c1.isEmpty with
        | true =>
          have hnil : c1 = [] := by
            cases c1 with
            | nil => rfl
            | cons x r => simp at he
          rw [if_pos hnil] at hla2
          cases he2 : c2.isEmpty with
          | true =>
            have hnil2 : c2 = [] := by
              cases c2 with
              | nil => rfl
              | cons x r => simp at he2
            rw [if_pos hnil2] at hla2
            have HE := hid hla2
            clear hla2 hnil hnil2 HO HRq HFd HLF2 HFL
            go_wp2_with fail
            rw [HX.out]
            refine hC.mono ?_
            clear hC
            rintro e wa ⟨rfl, n1, hwa⟩
            have HBa : Hid (Below wr.heap.size wr wa) := by unfold Hid; rw [hwa]; exact below_drewN' _ _ _
            clear hwa
            go_wp2
            go_ret2
            exact ⟨_, HE.out.symm, rfl, HKept.out.trans (Kept.of_below (HBa.out.mono HKept.out.size)), _, _, _, _, HHd.out.below HBa.out hpw, fun _ => ⟨rfl, rfl, rfl, (HOwn.out.below HBa.out).le (by omega)⟩⟩
          | false =>
            have hnil2 : ¬ c2 = [] := by
              intro e
              rw [e] at he2
              simp at he2
            rw [if_neg hnil2] at hla2
            have HE := hid hla2
            clear hla2 hnil hnil2 HO HRq HFd HLF2 HFL
            go_wp2_with fail
            rw [HX.out]
            refine hC.mono ?_
            clear hC
            rintro e wa ⟨rfl, n1, hwa⟩
            have HBa : Hid (Below wr.heap.size wr wa) := by unfold Hid; rw [hwa]; exact below_drewN' _ _ _
            clear hwa
            go_wp2
            go_ret2
            refine ⟨_, HE.out.symm, ?_, HKept.out.trans (Kept.of_below (HBa.out.mono HKept.out.size)), _, _, _, _, HHd.out.below HBa.out hpw, fun h => absurd h (show ¬ (400 : Int) = 0 by decide)⟩
            rw [← HSZ.out]
            rfl
        | false =>
          have hne : c1 ≠ [] := by
            intro e
            rw [e] at he
            simp at he
          have hlf2 := HLF2.out h hne
          rw [HFL.out] at hlf2
          have HFl := hid (fldL_le (l := c1) HFew.out)
          rw [show headOf (some h) = h from rfl] at HFl HFew HHd HOwn
          have HFd2 := hid (fun a b c v w h1 h2 h3 => HFd.out a b c v h.2.2.2 w h1 h2 h3 HFew.out)
          obtain ⟨F, hF⟩ : ∃ F, F = fldL h.2.2.2 c1 := ⟨_, rfl⟩
          rw [← hF] at hlf2 HFl HFd2
          obtain ⟨Fs, FSt⟩ := F
          simp only at hlf2 HFl HFd2
          clear hF HRq HLF2 HFL HFd hla2 hne
          by_cases hq0 : FSt = 0
          · subst hq0
            rw [if_neg (by simp)] at hlf2
            have HE := hid hlf2
            clear hlf2
            go_wp2_with fail
            rw [HX.out]
            refine hC.mono ?_
            clear hC
            rintro e wa ⟨rfl, n1, hwa⟩
            have HBa : Hid (Below wr.heap.size wr wa) := by unfold Hid; rw [hwa]; exact below_drewN' _ _ _
            clear hwa
            go_wp2_with fail
            refine (HO.out _).mono ?_
            clear HO
            rintro e wb ⟨rfl, hBb⟩
            have HBb := hid (HBa.out.trans (hBb.mono HBa.out.size))
            clear hBb HBa
            have HTb := hid (HTab.out.below HBb.out htl)
            obtain ⟨y1, y2⟩ := HTb.out.cells
            have HHb := hid (HHd.out.below HBb.out hpw)
            have HOb := hid (HOwn.out.below HBb.out)
            have HKb := hid (HKept.out.trans (Kept.of_below (HBb.out.mono HKept.out.size)))
            have HMb := hid (HML.out.below HBb.out hgw)
            have hszb := HBb.out.size
            clear HHd HOwn HKept HML HTab HBb
            go_wp2_with fail
            refine (HFd2.out _ _ _ _ wb HHb.out HOb.out (by omega)).mono ?_
            clear HFd2
            rintro e wc ⟨rfl, hK, v2, hh2, ho2⟩
            have HKc := hid hK
            have HHc := hid hh2
            have HOc := hid ho2
            have hgz : wb.heap.size ≤ wc.heap.size := hK.size
            clear hK hh2 ho2
            go_wp2
            go_roundw
            case rel =>
              refine ⟨k + c1.length + 2, some (h.1, h.2.1, h.2.2.1, Fs), by go_num, rfl, hk2, ⟨f - 1, ?_, by omega⟩, HFl.out, HTb.out.kept HKc.out (by omega) (by omega), HKb.out.trans (HKc.out.le (by omega)), HMb.out.kept HKc.out hgp (by omega), _, HHc.out, HOc.out⟩
              rw [show f - 1 + 1 = f by omega, HDR.out]; exact HE.out.symm
            case measure => simp [intOf]; omega
          · rw [if_pos hq0] at hlf2
            have hq0' : (FSt == 0) = false := by rw [beq_eq_false_iff_ne]; exact hq0
            have HE := hid hlf2
            have HN := hid hq0
            clear hlf2 hq0
            go_wp2_with fail
            rw [HX.out]
            refine hC.mono ?_
            clear hC
            rintro e wa ⟨rfl, n1, hwa⟩
            have HBa : Hid (Below wr.heap.size wr wa) := by unfold Hid; rw [hwa]; exact below_drewN' _ _ _
            clear hwa
            go_wp2_with fail
            refine (HO.out _).mono ?_
            clear HO
            rintro e wb ⟨rfl, hBb⟩
            have HBb := hid (HBa.out.trans (hBb.mono HBa.out.size))
            clear hBb HBa
            have HTb := hid (HTab.out.below HBb.out htl)
            obtain ⟨y1, y2⟩ := HTb.out.cells
            have HHb := hid (HHd.out.below HBb.out hpw)
            have HOb := hid (HOwn.out.below HBb.out)
            have HKb := hid (HKept.out.trans (Kept.of_below (HBb.out.mono HKept.out.size)))
            have HMb := hid (HML.out.below HBb.out hgw)
            have hszb := HBb.out.size
            clear HHd HOwn HKept HML HTab HBb
            go_wp2_with fail
            refine (HFd2.out _ _ _ _ wb HHb.out HOb.out (by omega)).mono ?_
            clear HFd2
            rintro e wc ⟨rfl, hK, v2, hh2, ho2⟩
            have HKc := hid hK
            have HHc := hid hh2
            have HOc := hid ho2
            have hgz : wb.heap.size ≤ wc.heap.size := hK.size
            clear hK hh2 ho2
            go_wp2
            go_ret2
            exact ⟨_, HE.out.symm, rfl, HKb.out.trans (HKc.out.le (by omega)), _, _, _, _, HHc.out, fun h => absurd h HN.out⟩
    · have HE := hid (HLB.out ho)
      obtain ⟨O, hOe⟩ : ∃ O, O = outL c1 c3 := ⟨_, rfl⟩
      have hne : ¬ (c1.isEmpty = true ∧ c3 = true) := by
        intro ⟨h1, h2⟩
        apply ho
        have : c1 = [] := by
          cases c1 with
          | nil => rfl
          | cons x r => simp at h1
        rw [this, h2]
        decide
      rw [← hOe] at HE HO ho
      have ho' : (O == 0) = false := by rw [beq_eq_false_iff_ne]; exact ho
      have HN := hid ho
      clear hOe ho HLB HLA HLF HRq HFd HDN HFL
      cases oh with
      | none =>
        rw [show kindOf none = 0 from rfl]
        clear hne
        cases he : c1.isEmpty
        all_goals cases c3
        all_goals (
          go_wp2_with fail
          rw [HX.out]
          refine hC.mono ?_
          clear hC
          rintro e wa ⟨rfl, n1, hwa⟩
          have HBa : Hid (Below wr.heap.size wr wa) := by unfold Hid; rw [hwa]; exact below_drewN' _ _ _
          clear hwa
          go_wp2_with fail
          refine (HO.out _).mono ?_
          clear HO
          rintro e wb ⟨rfl, hBb⟩
          have HBb := hid (HBa.out.trans (hBb.mono HBa.out.size))
          clear hBb HBa
          go_wp2
          go_ret2
          exact ⟨_, HE.out.symm, rfl, HKept.out.trans (Kept.of_below (HBb.out.mono HKept.out.size)), _, _, _, _, HHd.out.below HBb.out hpw, fun h => absurd h HN.out⟩)
      | some h =>
        rw [show kindOf (some h) = 1 from rfl]
        cases he : c1.isEmpty with
        | true =>
          rw [he] at hne
          obtain rfl : c3 = false := by
            cases c3 with
            | false => rfl
            | true => exact absurd ⟨rfl, rfl⟩ hne
          clear hne
          go_wp2_with fail
          rw [HX.out]
          refine hC.mono ?_
          clear hC
          rintro e wa ⟨rfl, n1, hwa⟩
          have HBa : Hid (Below wr.heap.size wr wa) := by unfold Hid; rw [hwa]; exact below_drewN' _ _ _
          clear hwa
          go_wp2_with fail
          refine (HO.out _).mono ?_
          clear HO
          rintro e wb ⟨rfl, hBb⟩
          have HBb := hid (HBa.out.trans (hBb.mono HBa.out.size))
          clear hBb HBa
          go_wp2
          go_ret2
          exact ⟨_, HE.out.symm, rfl, HKept.out.trans (Kept.of_below (HBb.out.mono HKept.out.size)), _, _, _, _, HHd.out.below HBb.out hpw, fun h => absurd h HN.out⟩
        | false =>
          clear hne
          cases c3
          all_goals (
            go_wp2_with fail
            rw [HX.out]
            refine hC.mono ?_
            clear hC
            rintro e wa ⟨rfl, n1, hwa⟩
            have HBa : Hid (Below wr.heap.size wr wa) := by unfold Hid; rw [hwa]; exact below_drewN' _ _ _
            clear hwa
            go_wp2_with fail
            refine (HO.out _).mono ?_
            clear HO
            rintro e wb ⟨rfl, hBb⟩
            have HBb := hid (HBa.out.trans (hBb.mono HBa.out.size))
            clear hBb HBa
            go_wp2
            go_ret2
            exact ⟨_, HE.out.symm, rfl, HKept.out.trans (Kept.of_below (HBb.out.mono HKept.out.size)), _, _, _, _, HHd.out.below HBb.out hpw, fun h => absurd h HN.out⟩)
end Go.Proofs.YtllhibdjopfcnaaGreatDoor
