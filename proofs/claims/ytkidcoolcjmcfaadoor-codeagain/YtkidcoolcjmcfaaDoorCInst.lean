/-
  How the code reads an instruction.
-/
import Derived.Test.YtkidcoolcjmcfaaDoorCRead
import Derived.Deep.MidRow
import Derived.Deep.RegionHeld3
import Derived.Deep.CutBlock
import Derived.Deep.DeepCutAuto
namespace Go.Proofs.YtkidcoolcjmcfaaDoor
open Go.RowKit
set_option linter.unusedVariables false
set_option linter.unusedSimpArgs false
set_option maxRecDepth 100000

theorem extract_listC (l : List UInt8) (a b : Nat) : (⟨l.toArray⟩ : ByteArray).extract a b = ⟨((l.drop a).take (b - a)).toArray⟩ := by
  rw [ByteArray.extract_mk]
theorem trimS_len (l : List UInt8) : (Lib.trimS l [32, 9]).length ≤ l.length := by
  have h1 : ∀ (p : UInt8 → Bool) (l : List UInt8), (l.dropWhile p).length ≤ l.length := fun p l => (List.dropWhile_sublist p).length_le
  unfold Lib.trimS Lib.trimRightS Lib.trimLeftS
  refine Nat.le_trans (h1 _ _) ?_
  rw [List.length_reverse]
  refine Nat.le_trans (h1 _ _) ?_
  rw [List.length_reverse]
  exact Nat.le_refl _
theorem takeW_all : ∀ {l : List UInt8}, (∀ b ∈ l, blB b = false) → l.takeWhile (fun c => !blB c) = l
  | [], _ => rfl
  | b :: r, h => by
    have hb := h b (by simp)
    simp [List.takeWhile, hb, takeW_all (l := r) fun x hx => h x (by simp [hx])]
theorem dropW_all : ∀ {l : List UInt8}, (∀ b ∈ l, blB b = false) → l.dropWhile (fun c => !blB c) = []
  | [], _ => rfl
  | b :: r, h => by
    have hb := h b (by simp)
    simp [List.dropWhile, hb, dropW_all (l := r) fun x hx => h x (by simp [hx])]
/-- An index of a blank parts the words. -/
theorem any_part (l : List UInt8) : (Lib.indexAny l [32, 9] = -1 ∧ headW l = l ∧ restW l = []) ∨ ∃ k : Nat, k < l.length ∧ Lib.indexAny l [32, 9] = k ∧ headW l = l.take k ∧ restW l = Lib.trimS (l.drop k) [32, 9] := by
  by_cases h : ∀ b ∈ l, blB b = false
  · refine Or.inl ⟨any_no h, ?_, ?_⟩
    · unfold headW
      exact takeW_all h
    · unfold restW
      have : l.dropWhile (fun c => !blB c) = [] := dropW_all h
      rw [this]
      rfl
  · right
    have key : ∀ l : List UInt8, (¬ ∀ b ∈ l, blB b = false) → ∃ k : Nat, ∃ hk : k < l.length, blB l[k] = true ∧ (∀ j (hj : j < l.length), j < k → blB l[j] = false) ∧ l.takeWhile (fun c => !blB c) = l.take k ∧ l.dropWhile (fun c => !blB c) = l.drop k := by
      intro l
      induction l with
      | nil => intro h; exact absurd (fun b hb => by simp at hb) h
      | cons b r ih =>
        intro h
        cases hb : blB b with
        | true => exact ⟨0, by simp, hb, fun j hj h => by omega, by simp [List.takeWhile, hb], by simp [List.dropWhile, hb]⟩
        | false =>
          obtain ⟨k, hk, h1, h2, h3, h4⟩ := ih (fun hr => h fun x hx => by
            rcases List.mem_cons.1 hx with rfl | hx
            · exact hb
            · exact hr x hx)
          refine ⟨k + 1, by simp; omega, by simpa using h1, fun j hj hjk => ?_, by simp [List.takeWhile, hb, h3], by simp [List.dropWhile, hb, h4]⟩
          cases j with
          | zero => exact hb
          | succ j => simpa using h2 j (by simpa using hj) (by omega)
    obtain ⟨k, hk, h1, h2, h3, h4⟩ := key l h
    exact ⟨k, hk, any_yes hk h1 h2, h3, by unfold restW; rw [h4]⟩
/-- The table, row by row. -/
theorem findO_drop {nm : List UInt8} {k : Nat} (h : k < 25) : findO nm (opT.drop k) k = if (opT.getD k ([], 0)).1 = nm then some (k, (opT.getD k ([], 0)).2) else findO nm (opT.drop (k + 1)) (k + 1) := by
  have h' : k < opT.length := h
  rw [List.drop_eq_getElem_cons h']
  have e : opT.getD k ([], 0) = opT[k] := by simp [List.getD, h']
  rw [e]
  rfl
theorem op_small : ∀ k, k < 25 → (opT.getD k ([], 0)).1.length ≤ 5 := by decide
theorem Tabs.range {w : World} (hT : Tabs w) : w.rangeAt 0 0 opC := by
  intro j v hv
  have hj : j < 50 := (List.getElem?_eq_some_iff.1 hv).1
  have hc : ∀ k, k < 25 → opC[k * 2]? = some (.string ⟨(opT.getD k ([], 0)).1.toArray⟩) ∧ opC[k * 2 + 1]? = some (.int .i64 (opT.getD k ([], 0)).2) := by
    intro k hk
    have : k = 0 ∨ k = 1 ∨ k = 2 ∨ k = 3 ∨ k = 4 ∨ k = 5 ∨ k = 6 ∨ k = 7 ∨ k = 8 ∨ k = 9 ∨ k = 10 ∨ k = 11 ∨ k = 12 ∨ k = 13 ∨ k = 14 ∨ k = 15 ∨ k = 16 ∨ k = 17 ∨ k = 18 ∨ k = 19 ∨ k = 20 ∨ k = 21 ∨ k = 22 ∨ k = 23 ∨ k = 24 := by omega
    rcases this with rfl | rfl | rfl | rfl | rfl | rfl | rfl | rfl | rfl | rfl | rfl | rfl | rfl | rfl | rfl | rfl | rfl | rfl | rfl | rfl | rfl | rfl | rfl | rfl | rfl <;> exact ⟨rfl, rfl⟩
  obtain ⟨h1, h2⟩ := hT.o (j / 2) (by omega)
  obtain ⟨c1, c2⟩ := hc (j / 2) (by omega)
  rw [Nat.zero_add]
  by_cases he : j % 2 = 0
  · have e : j / 2 * 2 = j := by omega
    rw [e] at h1 c1
    rw [h1, ← hv, c1]
  · have e : j / 2 * 2 + 1 = j := by omega
    rw [e] at h2 c2
    rw [h2, ← hv, c2]
theorem opC_two (k : Nat) (h : k < 25) : opC.toArray.extract (k * 2) (k * 2 + 2) = #[.string ⟨(opT.getD k ([], 0)).1.toArray⟩, .int .i64 (opT.getD k ([], 0)).2] := by
  have : k = 0 ∨ k = 1 ∨ k = 2 ∨ k = 3 ∨ k = 4 ∨ k = 5 ∨ k = 6 ∨ k = 7 ∨ k = 8 ∨ k = 9 ∨ k = 10 ∨ k = 11 ∨ k = 12 ∨ k = 13 ∨ k = 14 ∨ k = 15 ∨ k = 16 ∨ k = 17 ∨ k = 18 ∨ k = 19 ∨ k = 20 ∨ k = 21 ∨ k = 22 ∨ k = 23 ∨ k = 24 := by omega
  rcases this with rfl | rfl | rfl | rfl | rfl | rfl | rfl | rfl | rfl | rfl | rfl | rfl | rfl | rfl | rfl | rfl | rfl | rfl | rfl | rfl | rfl | rfl | rfl | rfl | rfl <;> simp [opC, opT]
theorem opV_index (k : Nat) (h : k < 25) (w : World) : (Instr.index 56 (.agg opC.toArray) (.int .i64 (k : Int))).run Tryd.prog w = .ok (.agg #[.string ⟨(opT.getD k ([], 0)).1.toArray⟩, .int .i64 (opT.getD k ([], 0)).2]) w := by
  have h2 := opC_two k h
  obtain ⟨X, hX⟩ : ∃ X, X = opC.toArray := ⟨_, rfl⟩
  obtain ⟨P, hP⟩ : ∃ P, P = opT.getD k ([], 0) := ⟨_, rfl⟩
  rw [← hX, ← hP] at h2
  rw [← hX, ← hP]
  simp [Instr.index, go_sem, part]
  rw [if_pos h, h2]
theorem ins_fin {w X : World} {p : Nat} {a b : Value} {t : TypeId} (h : X.heap[p]? = some (.cells #[a, b] t (0, 0))) (hb : Below w.heap.size w X) (hp : w.heap.size ≤ p) (x y : Value) : ((X.setCell ⟨p, 0, none⟩ x).setCell ⟨p, 1, none⟩ y).heap[p]? = some (.cells #[x, y] t (0, 0)) ∧ Below w.heap.size w ((X.setCell ⟨p, 0, none⟩ x).setCell ⟨p, 1, none⟩ y) := by
  have e1 := heap_setCell_same X p 0 _ _ x h
  have e2 := heap_setCell_same (X.setCell ⟨p, 0, none⟩ x) p 1 _ _ y e1
  refine ⟨by simpa using e2, hb.os, hb.tape, hb.output, by simpa using hb.size, fun k hk => ?_⟩
  rw [heap_setCell_other _ ⟨p, 1, none⟩ k _ (by simp; omega), heap_setCell_other _ ⟨p, 0, none⟩ k _ (by simp; omega)]
  exact hb.block k hk
def InsQ (IL : Option InsL) (w : World) (e : Ending) (w' : World) : Prop :=
  ∃ op a, e = .returned (.tuple #[.agg #[.int .i64 op, .int .i64 a], .bool IL.isSome]) ∧ (∀ i, IL = some i → i = (op, a)) ∧ Below w.heap.size w w'
/-- What instruction tells. -/
def InsR (l : List UInt8) (w : World) (e : Ending) (w' : World) : Prop :=
  ∃ op a, e = .returned (.tuple #[.agg #[.int .i64 op, .int .i64 a], .bool (insL l).isSome]) ∧ (∀ i, insL l = some i → i = (op, a)) ∧ Below w.heap.size w w'
set_option maxHeartbeats 4000000 in
theorem instruction_any (l : List UInt8) (w : World) (hM : Met w) (hs : l.length ≤ 1000000) :
    Calls Tryd.prog 27 #[.string ⟨l.toArray⟩] w (InsR l w) := by
  have HM := hid hM
  have hIx := fun W => indexAny_any ⟨l.toArray⟩ W (by rw [size_list]; omega)
  have HX' := hid opV_index
  have HR : Hid (∀ W, Below w.heap.size w W → W.rangeAt 0 0 opC) := hid fun W hb => (hM.tabs.below hb).range
  have hpl : opC.length = 50 := rfl
  obtain ⟨TC, hTC⟩ : ∃ TC, TC = opC := ⟨_, rfl⟩
  rw [← hTC] at HR HX' hpl
  have hpart := any_part l
  rw [show (⟨l.toArray⟩ : ByteArray).data.toList = l by simp] at hIx
  have hrl : (restW l).length ≤ 1000000 := by
    unfold restW
    refine Nat.le_trans (trimS_len _) ?_
    exact Nat.le_trans (List.dropWhile_sublist _).length_le hs
  have HNum : Hid (∀ W, Below w.heap.size w W → Calls Tryd.prog 39 #[.string ⟨(restW l).toArray⟩] W fun e w' => ∃ a, e = .returned (.tuple #[.int .i64 a, .bool (codeNum (restW l)).isSome]) ∧ (∀ v, codeNum (restW l) = some v → a = v) ∧ Below W.heap.size W w') := hid fun W hb => number_any _ W (hM.below hb) hrl
  have HIN : Hid (insL l = match findO (headW l) opT 0 with | none => none | some o => if o.2 = 0 then (if restW l = [] then some (1 + (o.1 : Int), 0) else none) else (codeNum (restW l)).map fun a => (1 + (o.1 : Int), a)) := hid rfl
  obtain ⟨IL, hIL⟩ : ∃ IL, IL = insL l := ⟨_, rfl⟩
  obtain ⟨nm, hnm⟩ : ∃ nm, nm = headW l := ⟨_, rfl⟩
  obtain ⟨rs, hrs⟩ : ∃ rs, rs = restW l := ⟨_, rfl⟩
  have hgoal : InsR l w = InsQ IL w := by rw [hIL]; rfl
  rw [hgoal]
  rw [← hIL, ← hnm, ← hrs] at HIN
  rw [← hrs] at HNum
  rw [← hnm, ← hrs] at hpart
  clear hgoal hIL hnm hrs hTC hM hrl
  unfold crlf at hIx
  go_enter Tryd.func27, Tryd.ntmps27
  obtain ⟨W0, hW0⟩ : ∃ W0, W0 = w.alloc (.cells #[.int .i64 0, .int .i64 0] 38) := ⟨_, rfl⟩
  have q0 : W0.heap[w.heap.size]? = some (.cells #[.int .i64 0, .int .i64 0] 38 (0, 0)) := by rw [hW0]; exact heap_alloc_new w _
  have b0 : Below w.heap.size w W0 := by rw [hW0]; exact below_alloc w _
  have HW0 := hid hW0
  have HQ0 := hid q0
  have HB0 := hid b0
  clear hW0 q0 b0
  iterate 12 (first | go_values | go_skip | go_guarded | go_step | go_upon | go_back | go_simp)
  rw [← HW0.out]
  clear HW0
  go_cut [4, 5] (fun x4 x5 wx => x4 = .string ⟨l.toArray⟩ ∧ x5 = .string ⟨#[]⟩ ∧ Hid (wx = W0))
  case first =>
    go_wp2
    go_meet
    case rel => exact ⟨rfl, rfl, hid rfl⟩
  case rest =>
    obtain ⟨rfl, rfl, HE0⟩ := hcut
    have hE0 := HE0.out
    subst hE0
    clear HE0
    iterate 2 (first | go_values | go_skip | go_guarded | go_step | go_upon | go_back | go_simp)
    go_cut [4, 5] (fun x4 x5 wx => x4 = .string ⟨nm.toArray⟩ ∧ x5 = .string ⟨rs.toArray⟩ ∧ Hid (wx.heap[w.heap.size]? = some (.cells #[.int .i64 0, .int .i64 0] 38 (0, 0)) ∧ Below w.heap.size w wx))
    case first =>
      rcases hpart with ⟨hi, h1, h2⟩ | ⟨k, hk, hi, h1, h2⟩
      · have HIx := hIx wc
        rw [hi] at HIx
        have HI := hid HIx
        have H1 := hid h1
        have H2 := hid h2
        clear hIx HIx hi h1 h2
        go_wp2_with fail
        refine HI.out.mono ?_
        clear HI
        rintro e w1 ⟨rfl, hb⟩
        have HF : Hid (w1.heap[w.heap.size]? = some (.cells #[.int .i64 0, .int .i64 0] 38 (0, 0)) ∧ Below w.heap.size w w1) := hid ⟨(hb.block _ (Array.getElem?_eq_some_iff.1 HQ0.out).1).trans HQ0.out, HB0.out.trans (hb.mono HB0.out.size)⟩
        clear hb
        go_wp2
        go_meet
        case rel => exact ⟨by rw [H1.out], by rw [H2.out], HF⟩
      · have HIx := hIx wc
        rw [hi] at HIx
        have HI := hid HIx
        have H1 := hid h1
        have H2 := hid h2
        have hki : (k : Int) ≤ (l.length : Int) := by omega
        have hk0 : (0 : Int) ≤ (k : Int) := by omega
        have HT := hid (fun (s : ByteArray) (W : World) (h : s.size ≤ 9223372036854775807) => Tryd.strings_Trim_blanks s W h)
        have hex := extract_listC l k l.length
        have hex0 := extract_listC l 0 k
        have HEX := hid hex
        have HEX0 := hid hex0
        have hsz : (⟨l.toArray⟩ : ByteArray).size = l.length := rfl
        clear hIx HIx hi h1 h2 hex hex0
        go_wp2_with fail
        refine HI.out.mono ?_
        clear HI
        rintro e w1 ⟨rfl, hb⟩
        have HF : Hid (w1.heap[w.heap.size]? = some (.cells #[.int .i64 0, .int .i64 0] 38 (0, 0)) ∧ Below w.heap.size w w1) := hid ⟨(hb.block _ (Array.getElem?_eq_some_iff.1 HQ0.out).1).trans HQ0.out, HB0.out.trans (hb.mono HB0.out.size)⟩
        clear hb
        go_wp2_with fail
        go_region_held3 (fun _ => True) (exact trivial)
          (first
            | (go_at_call 33
               refine (HT.out _ _ (by rw [HEX.out, size_list]; simp; omega)).mono ?_
               rintro e' w2 ⟨rfl, hb2⟩
               have hz2 : w.heap.size < w1.heap.size := (Array.getElem?_eq_some_iff.1 HF.out.1).1
               have HF2 : Hid (w2.heap[w.heap.size]? = some (.cells #[.int .i64 0, .int .i64 0] 38 (0, 0)) ∧ Below w.heap.size w w2) := hid ⟨(hb2.block _ hz2).trans HF.out.1, HF.out.2.trans ((show Below w1.heap.size w1 w2 from (show Below w1.heap.size w1 w1.drew from Below.drew (Below.refl _ _)).trans hb2).mono HF.out.2.size)⟩
               clear hb2))
        all_goals
          go_wp2
          go_meet
          case rel =>
            refine ⟨?_, ?_, HF2⟩
            · rw [H1.out]
              first | rfl | (simp only [HEX0.out]; simp) | simp
            · rw [H2.out]
              have ht : (l.drop k).take (l.length - k) = l.drop k := List.take_of_length_le (by rw [List.length_drop]; omega)
              first | rw [ht] | (rw [HEX.out, ht]) | (simp [HEX.out, ht]) | (simp [ht])
    case rest =>
      obtain ⟨rfl, rfl, HX⟩ := hcut
      have hrg := HR.out wc HX.out.2
      have HRG := hid hrg
      obtain ⟨FO, hFO⟩ : ∃ FO, FO = findO nm opT 0 := ⟨_, rfl⟩
      rw [← hFO] at HIN
      have HFO := hid hFO
      have hM2 := HX
      clear hIx hpart hrg hFO HR
      go_wp2_with (first
        | (refine wpList_load_mid rfl 56 _ rfl 0 0 rfl TC _ HRG.out Tryd.underlying56 rfl (by rw [hpl]; kernel_rfl) ?_)
        | fail)
      go_loopw [24] (fun i wr => ∃ k : Nat, k ≤ 25 ∧ i = .int .i64 (k : Int) ∧ Hid (findO nm (opT.drop k) k = FO ∧ wr.heap[w.heap.size]? = some (.cells #[.int .i64 0, .int .i64 0] 38 (0, 0)) ∧ Below w.heap.size w wr)) (fun i _ => 25 - (intOf i).toNat)
      case atStart => exact ⟨0, by decide, rfl, hid ⟨HFO.out.symm, HX.out.1, HX.out.2⟩⟩
      case round =>
        obtain ⟨k, hk, rfl, HI⟩ := hrel
        obtain ⟨hfd, hq, hB⟩ := HI.out
        clear HI
        have hlw : w.heap.size < wr.heap.size := (Array.getElem?_eq_some_iff.1 hq).1
        by_cases hlt : k < 25
        · have hlt' : (k : Int) < 25 := by omega
          have hfd1 := findO_drop (nm := nm) (k := k) hlt
          rw [hfd] at hfd1
          have i1 := fun W => HX'.out k hlt W
          obtain ⟨P, hP⟩ : ∃ P, P = opT.getD k ([], 0) := ⟨_, rfl⟩
          rw [← hP] at hfd1
          rw [← hP] at i1
          obtain ⟨c, wi⟩ := P
          simp only at i1 hfd1
          have hw1 : IntKind.i64.wrap (1 + (k : Int)) = 1 + (k : Int) := by rw [IntKind.wrap_i64]; omega
          have hbx := below_alloc wr (.cells #[.string ⟨c.toArray⟩, .int .i64 wi] 42)
          have HBX := hid (hB.trans (hbx.mono hB.size))
          have hq2 := (hbx.block _ hlw).trans hq
          have HQ2 := hid hq2
          iterate 17 (first | go_values | go_skip | go_guarded | go_step | go_upon | go_back | go_simp)
          go_cut [7, 8] (fun x7 x8 wx => x7 = .int .i64 (k : Int) ∧ x8 = .pointer (some ⟨wr.heap.size, 0, none⟩) ∧ Hid (wx = wr.alloc (.cells #[.string ⟨c.toArray⟩, .int .i64 wi] 42)))
          case first =>
            clear hfd1 hq hq2 hbx hB
            go_wp2
            go_meet
            case rel => exact ⟨rfl, rfl, hid rfl⟩
          case rest =>
            obtain ⟨rfl, rfl, HE⟩ := hcut
            have hE := HE.out
            have hbw : wc.heap[wr.heap.size]? = some (.cells #[.string ⟨c.toArray⟩, .int .i64 wi] 42 (0, 0)) := by rw [hE]; exact heap_alloc_new wr _
            have hq3 : wc.heap[w.heap.size]? = some (.cells #[.int .i64 0, .int .i64 0] 38 (0, 0)) := by rw [hE]; exact hq2
            have HBX2 : Hid (Below w.heap.size w wc) := by rw [hE]; exact HBX
            have HQ3 := hid hq3
            have b0 : wc.cell? ⟨wr.heap.size, 0, none⟩ = some (.string ⟨c.toArray⟩) := by simp [World.cell?, hbw]
            have b1 : wc.cell? ⟨wr.heap.size, 1, none⟩ = some (.int .i64 wi) := by simp [World.cell?, hbw]
            clear HE hE hbw hq2 hbx hB hq HBX HQ2 HRG
            by_cases he : c = nm
            · rw [if_pos he] at hfd1
              have f1 : (c == nm) = true := by rw [beq_iff_eq]; exact he
              have f2 : (c != nm) = false := by simp [he]
              have x0 : wc.cell? ⟨w.heap.size, 0, none⟩ = some (.int .i64 0) := by simp [World.cell?, hq3]
              have x1 : wc.cell? ⟨w.heap.size, 1, none⟩ = some (.int .i64 0) := by simp [World.cell?, hq3]
              have y0 : wc.frozen? ⟨w.heap.size, 0, none⟩ = false := by simp [World.frozen?, hq3]
              have y1 : wc.frozen? ⟨w.heap.size, 1, none⟩ = false := by simp [World.frozen?, hq3]
              by_cases hz : wi = 0
              · have fz : (wi == 0) = true := by rw [beq_iff_eq]; exact hz
                have HN : Hid (IL = if rs = [] then some (1 + (k : Int), 0) else none) := by
                  unfold Hid
                  rw [HIN.out, hfd1]
                  simp [hz]
                obtain ⟨hg, hbf⟩ := ins_fin HQ3.out HBX2.out (Nat.le_refl _) (.int .i64 (1 + (k : Int))) (.int .i64 0)
                have HG := hid hg
                have HBF := hid hbf
                clear hfd hfd1 he hP hq3 hg hbf hz
                go_wp2
                refine bodyPost_ret (v := .tuple #[.agg #[.int .i64 (1 + (k : Int)), .int .i64 0], .bool rs.isEmpty]) (results_ct (fn := Tryd.f27) (p := 2) (u := 3) rfl _ _ w.heap.size 38 #[.int .i64 (1 + (k : Int)), .int .i64 0] (0, 0) _ _ rfl rfl HG.out Tryd.underlying38 rfl) rfl ?_
                unfold InsQ
                refine ⟨1 + (k : Int), 0, ?_, fun i hi => ?_, HBF.out⟩
                · rw [HN.out]
                  cases rs with
                  | nil => rfl
                  | cons a b => rfl
                · rw [HN.out] at hi
                  split at hi
                  · exact (Option.some.inj hi).symm
                  · cases hi
              · have fz : (wi == 0) = false := by rw [beq_eq_false_iff_ne]; exact hz
                have HN : Hid (IL = (codeNum rs).map fun a => (1 + (k : Int), a)) := by
                  unfold Hid
                  rw [HIN.out, hfd1]
                  simp [hz]
                have hnu := HNum.out wc HBX2.out
                have hlw3 : w.heap.size < wc.heap.size := (Array.getElem?_eq_some_iff.1 hq3).1
                have HLW := hid hlw3
                clear hfd hfd1 he hP hq3 x0 x1 y0 y1 hz hlw3 hlw
                go_wp2_with fail
                refine hnu.mono ?_
                clear hnu b0 b1
                rintro e w4 ⟨a, rfl, ha, hb4⟩
                have hq4 : w4.heap[w.heap.size]? = some (.cells #[.int .i64 0, .int .i64 0] 38 (0, 0)) := (hb4.block _ HLW.out).trans HQ3.out
                have x0 : w4.cell? ⟨w.heap.size, 0, none⟩ = some (.int .i64 0) := by simp [World.cell?, hq4]
                have x1 : w4.cell? ⟨w.heap.size, 1, none⟩ = some (.int .i64 0) := by simp [World.cell?, hq4]
                have y0 : w4.frozen? ⟨w.heap.size, 0, none⟩ = false := by simp [World.frozen?, hq4]
                have y1 : w4.frozen? ⟨w.heap.size, 1, none⟩ = false := by simp [World.frozen?, hq4]
                obtain ⟨hg, hbf⟩ := ins_fin hq4 (HBX2.out.trans (hb4.mono HBX2.out.size)) (Nat.le_refl _) (.int .i64 (1 + (k : Int))) (.int .i64 a)
                have HG := hid hg
                have HBF := hid hbf
                have HA := hid ha
                obtain ⟨cn, hcn⟩ : ∃ cn, cn = (codeNum rs).isSome := ⟨_, rfl⟩
                have HCN := hid hcn
                rw [← hcn]
                clear hg hbf ha hcn hq4 hb4
                go_wp2
                refine bodyPost_ret (v := .tuple #[.agg #[.int .i64 (1 + (k : Int)), .int .i64 a], .bool cn]) (results_ct (fn := Tryd.f27) (p := 2) (u := 3) rfl _ _ w.heap.size 38 #[.int .i64 (1 + (k : Int)), .int .i64 a] (0, 0) _ _ rfl rfl HG.out Tryd.underlying38 rfl) rfl ?_
                unfold InsQ
                refine ⟨1 + (k : Int), a, ?_, fun i hi => ?_, HBF.out⟩
                · rw [HN.out, HCN.out]
                  cases codeNum rs <;> rfl
                · rw [HN.out] at hi
                  obtain ⟨v, hv, rfl⟩ := Option.map_eq_some_iff.1 hi
                  rw [HA.out v hv]
            · rw [if_neg he] at hfd1
              have f1 : (c == nm) = false := by rw [beq_eq_false_iff_ne]; exact he
              have f2 : (c != nm) = true := by simp [he]
              have HF := hid hfd1
              clear hfd hfd1 he hP hq3
              go_wp2
              go_roundw
              case rel => exact ⟨k + 1, by omega, by go_num, hid ⟨HF.out.symm, HQ3.out, HBX2.out⟩⟩
              case measure => simp [intOf]; omega
        · have hlt' : ¬ (k : Int) < 25 := by omega
          have HN : Hid (IL = none) := by
            unfold Hid
            have : FO = none := by
              rw [← hfd, List.drop_eq_nil_of_le (by show 25 ≤ k; omega)]
              rfl
            rw [HIN.out, this]
          have HB := hid hB
          have HQ := hid hq
          have hx0 : wr.cell? ⟨w.heap.size, 0, none⟩ = some (.int .i64 0) := by simp [World.cell?, hq]
          have hx1 : wr.cell? ⟨w.heap.size, 1, none⟩ = some (.int .i64 0) := by simp [World.cell?, hq]
          have hy0 : wr.frozen? ⟨w.heap.size, 0, none⟩ = false := by simp [World.frozen?, hq]
          have hy1 : wr.frozen? ⟨w.heap.size, 1, none⟩ = false := by simp [World.frozen?, hq]
          obtain ⟨hg, hbf⟩ := ins_fin HQ.out HB.out (Nat.le_refl _) (.int .i64 0) (.int .i64 0)
          have HG := hid hg
          have HBF := hid hbf
          clear hfd hB hlt hq hg hbf
          go_wp2
          refine bodyPost_ret (v := .tuple #[.agg #[.int .i64 0, .int .i64 0], .bool false]) (results_ct (fn := Tryd.f27) (p := 2) (u := 3) rfl _ _ w.heap.size 38 #[.int .i64 0, .int .i64 0] (0, 0) _ _ rfl rfl HG.out Tryd.underlying38 rfl) rfl ?_
          unfold InsQ
          exact ⟨0, 0, by rw [HN.out]; rfl, fun i hi => (by rw [HN.out] at hi; cases hi), HBF.out⟩
end Go.Proofs.YtkidcoolcjmcfaaDoor
