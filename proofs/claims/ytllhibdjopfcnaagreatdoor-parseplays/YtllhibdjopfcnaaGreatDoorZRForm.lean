/-
  Form of the document, whole.
-/
import Derived.Test.YtllhibdjopfcnaaGreatDoorZForm
import Derived.Test.YtllhibdjopfcnaaGreatDoorZRDec
import Derived.Test.YtllhibdjopfcnaaGreatDoorZHParse
namespace Go.Proofs.YtllhibdjopfcnaaGreatDoor
open Go.RowKit
set_option linter.unusedVariables false

theorem rdecode_list (l : List UInt8) (plus : Bool) (w : World) (hs : l.length + 1 ≤ 140737488355328) :
    Calls Tryz.prog 46 #[.string ⟨l.toArray⟩, .bool plus] w fun e w' => e = .returned (.tuple #[.string ⟨(decOut plus l).toArray⟩, .int .i64 (decErr l), .int .i64 (decPl l : Int)]) ∧ Below w.heap.size w w' :=
  rdecode_any ⟨l.toArray⟩ plus w (by rw [size_list]; exact hs)

/-- What the document's pair answers. -/
def pairE (l : List UInt8) : PairL := if (dec true l).2 = none then pairP l else ([], [])
theorem decErr_none {L : List UInt8} (h : (dec true L).2 = none) : decErr L = 0 ∧ decPl L = 0 := by
  rw [decErr, decPl, h]; simp
theorem decErr_some {L : List UInt8} {p : Nat} (h : (dec true L).2 = some p) : decErr L = 60 ∧ decPl L = p := by
  rw [decErr, decPl, h]; simp

set_option maxRecDepth 20000 in
set_option maxHeartbeats 2000000 in
theorem rpair_any (l : List UInt8) (at' : Nat) (w : World) (hs : at' + l.length + 1 ≤ 140737488355328) :
    Calls Tryz.prog 68 #[.string ⟨l.toArray⟩, .int .i64 (at' : Int)] w fun e w' => e = .returned (.tuple #[.agg #[strV (pairE l).1, strV (pairE l).2], .int .i64 (decErr l), .int .i64 (if (dec true l).2 = none then 0 else ((at' + decPl l : Nat) : Int))]) ∧ Below w.heap.size w w' := by
  obtain ⟨s, hse⟩ : ∃ s : ByteArray, s = ⟨l.toArray⟩ := ⟨_, rfl⟩
  have hsz : s.size = l.length := by rw [hse, size_list]
  have hsl : s.data.toList = l := by rw [hse]
  rw [← hse]
  have HSE := hid hse
  have HSL := hid hsl
  have HL0 := hid (PairAt.new w (.string ⟨#[]⟩) (.string ⟨#[]⟩))
  have HB0 := hid (below_alloc w (.cells #[.string ⟨#[]⟩, .string ⟨#[]⟩] 73))
  clear hse hsl
  obtain ⟨T, hT⟩ : ∃ T, T = (if (dec true l).2 = none then (0 : Int) else ((at' + decPl l : Nat) : Int)) := ⟨_, rfl⟩
  obtain ⟨A, hA⟩ : ∃ x, x = pairE l := ⟨_, rfl⟩
  obtain ⟨E, hE⟩ : ∃ x, x = decErr l := ⟨_, rfl⟩
  rw [← hT, ← hA, ← hE]
  have HT := hid hT
  have HPA := hid hA
  have HER := hid hE
  clear hT hA hE
  have HSZ := hid hsz
  clear hsz
  unfold strV
  go_enter Tryz.func68, Tryz.ntmps68
  go_wp2_with fail
  go_loop [7] (fun i => ∃ (k : Nat), k ≤ l.length ∧ i = .int .i64 (k : Int) ∧ ∀ j, j < k → l.getD j 0 ≠ 61) (fun i => l.length - (intOf i).toNat)
  case atStart => exact ⟨0, Nat.zero_le _, rfl, fun j hj => by omega⟩
  case round =>
    obtain ⟨k, hk, rfl, hno⟩ := hrel
    have HNo := hid hno
    clear hno
    have hsz := HSZ.out
    by_cases hgo : k < l.length ∧ l.getD k 0 ≠ 61
    · obtain ⟨hlt, hne⟩ := hgo
      have hlt' : (k : Int) < (s.size : Int) := by omega
      have hls : k < s.size := by omega
      have hb : ((((s[k]'hls).toNat : Nat) : Int) != 61) = true := by
        rw [bne_iff_ne]
        intro e
        apply hne
        rw [← HSL.out, getD_str s k hls]
        have := byte_eq (b := s[k]'hls) (n := 61) (by omega)
        simpa using this
      have HNE := hid hne
      clear hne hsz
      go_wp2
      go_round
      case rel =>
        refine ⟨k + 1, by omega, by go_num, fun j hj => ?_⟩
        by_cases hjk : j = k
        · subst hjk; exact HNE.out
        · exact HNo.out j (by omega)
      case measure => simp [intOf]; omega
    · have hna : (61 : UInt8) ∉ l.take k := take_cut hk HNo.out
      have hk2 : (k : Int) ≤ (s.size : Int) := by omega
      by_cases hlt : k < l.length
      · have h61 : l.getD k 0 = 61 := by
          by_cases h : l.getD k 0 = 61
          · exact h
          · exact absurd ⟨hlt, h⟩ hgo
        have hlt' : (k : Int) < (s.size : Int) := by omega
        have hls : k < s.size := by omega
        have hb : ((((s[k]'hls).toNat : Nat) : Int) != 61) = false := by
          have : s[k]'hls = 61 := by rw [← getD_str s k hls, HSL.out]; exact h61
          rw [this]; rfl
        have hsplit : l = l.take k ++ 61 :: l.drop (k + 1) := by
          have h := List.take_append_drop k l
          rw [List.drop_eq_getElem_cons hlt] at h
          have : l[k] = 61 := by
            have := h61
            simp only [List.getD, List.getElem?_eq_getElem hlt, Option.getD_some] at this
            exact this
          rw [this] at h
          exact h.symm
        have hcut : cutC 61 l = (l.take k, l.drop (k + 1), true) := by
          have := cutC_app (c := 61) (l := l.take k) (l.drop (k + 1)) hna
          rw [← hsplit] at this
          exact this
        have happ := dec_app true 61 (by decide) hexD_eq (l.drop (k + 1)) (l.take k)
        rw [← hsplit] at happ
        have htl : (l.take k).length = k := by rw [List.length_take]; omega
        rw [htl] at happ
        have hD1 := fun w1 => rdecode_list (l.take k) true w1 (by rw [htl]; omega)
        have hD2 := fun w1 => rdecode_list (l.drop (k + 1)) true w1 (by rw [List.length_drop]; omega)
        have hkk : ((k : Int) == (s.size : Int)) = false := by rw [beq_eq_false_iff_ne]; omega
        have hk3 : (k : Int) + 1 ≤ (s.size : Int) := by omega
        have e1 : s.extract 0 k = ⟨(l.take k).toArray⟩ := by rw [HSE.out, extract_take]
        have e2 : s.extract (k + 1) s.size = ⟨(l.drop (k + 1)).toArray⟩ := by rw [hsz, HSE.out, extract_from _ _ _ rfl]
        have HD1 := hid hD1
        have HD2 := hid hD2
        have HE1 := hid e1
        have HE2 := hid e2
        have HA := hid happ
        have HC := hid hcut
        clear hD1 hD2 e1 e2 happ hcut hsplit hna HNo h61 hgo htl hsz
        cases ha : (dec true (l.take k)).2 with
        | some p =>
          obtain ⟨x1, x2⟩ := decErr_some ha
          have hr := HA.out.2 p ha
          obtain ⟨y1, y2⟩ := decErr_some hr
          have hpl : p < l.length := dec_place true l p hr
          have HF : Hid (pairE l = ([], []) ∧ decErr l = 60 ∧ (if (dec true l).2 = none then (0 : Int) else ((at' + decPl l : Nat) : Int)) = (at' : Int) + (p : Int)) := by
            unfold Hid
            refine ⟨by rw [pairE, hr]; simp, y1, ?_⟩
            rw [hr, y2]
            simp
          rw [x1, x2] at HD1
          obtain ⟨q1, q2, q3, q4⟩ := HL0.out.cells
          clear HA HC HD2 x1 x2 y1 y2 hr ha
          go_wp2_with fail
          rw [HE1.out]
          refine (HD1.out _).mono ?_
          clear HD1
          rintro e w1 ⟨rfl, hB⟩
          have HL := hid (HL0.out.below hB HL0.out.lt)
          have HB := hid (HB0.out.trans (hB.mono HB0.out.size))
          clear hB HL0 HB0 q1 q2 q3 q4
          obtain ⟨q1, q2, q3, q4⟩ := HL.out.cells
          have HLF := hid ((HL.out.store0 (u' := .string ⟨#[]⟩)).store1 (v' := .string ⟨#[]⟩))
          have HBF := hid ((HB.out.setCell (p := ⟨w.heap.size, 0, none⟩) (by simp) (.string ⟨#[]⟩)).setCell (p := ⟨w.heap.size, 1, none⟩) (by simp) (.string ⟨#[]⟩))
          go_wp2
          obtain ⟨y1, y2, _, _⟩ := HLF.out.cells
          refine bodyPost_ret (v := .tuple #[.agg #[.string ⟨#[]⟩, .string ⟨#[]⟩], .int .i64 60, .int .i64 ((at' : Int) + (p : Int))]) (by simp [results, Tryz.results68, go_sem, y1, y2]) rfl ?_
          refine ⟨?_, HBF.out⟩
          rw [HT.out, HPA.out, HER.out, HF.out.1, HF.out.2.1, HF.out.2.2]
        | none =>
          obtain ⟨x1, x2⟩ := decErr_none ha
          have hr := HA.out.1 ha
          cases hb2 : (dec true (l.drop (k + 1))).2 with
          | some p =>
            obtain ⟨x3, x4⟩ := decErr_some hb2
            have hr2 : (dec true l).2 = some (p + (k + 1)) := by rw [hr]; simp [hb2]
            obtain ⟨y1, y2⟩ := decErr_some hr2
            have hpl := dec_place true l _ hr2
            have HF : Hid (pairE l = ([], []) ∧ decErr l = 60 ∧ (if (dec true l).2 = none then (0 : Int) else ((at' + decPl l : Nat) : Int)) = (at' : Int) + (k : Int) + 1 + (p : Int)) := by
              unfold Hid
              refine ⟨by rw [pairE, hr2]; simp, y1, ?_⟩
              rw [hr2, y2]
              simp
              omega
            rw [x1, x2] at HD1
            rw [x3, x4] at HD2
            clear HA HC x1 x2 x3 x4 y1 y2 hr hr2 ha hb2
            go_wp2_with fail
            rw [HE1.out]
            refine (HD1.out _).mono ?_
            clear HD1
            rintro e w1 ⟨rfl, hB⟩
            have HL1 := hid (HL0.out.below hB HL0.out.lt)
            have HB1 := hid (HB0.out.trans (hB.mono HB0.out.size))
            clear hB HL0 HB0
            go_wp2_with fail
            rw [HE2.out]
            refine (HD2.out _).mono ?_
            clear HD2
            rintro e w2 ⟨rfl, hB⟩
            have HL := hid (HL1.out.below hB HL1.out.lt)
            have HB := hid (HB1.out.trans (hB.mono HB1.out.size))
            clear hB HL1 HB1
            obtain ⟨q1, q2, q3, q4⟩ := HL.out.cells
            have HLF := hid ((HL.out.store0 (u' := .string ⟨#[]⟩)).store1 (v' := .string ⟨#[]⟩))
            have HBF := hid ((HB.out.setCell (p := ⟨w.heap.size, 0, none⟩) (by simp) (.string ⟨#[]⟩)).setCell (p := ⟨w.heap.size, 1, none⟩) (by simp) (.string ⟨#[]⟩))
            go_wp2
            obtain ⟨y1, y2, _, _⟩ := HLF.out.cells
            refine bodyPost_ret (v := .tuple #[.agg #[.string ⟨#[]⟩, .string ⟨#[]⟩], .int .i64 60, .int .i64 ((at' : Int) + (k : Int) + 1 + (p : Int))]) (by simp [results, Tryz.results68, go_sem, y1, y2]) rfl ?_
            refine ⟨?_, HBF.out⟩
            rw [HT.out, HPA.out, HER.out, HF.out.1, HF.out.2.1, HF.out.2.2]
          | none =>
            obtain ⟨x3, x4⟩ := decErr_none hb2
            have hr2 : (dec true l).2 = none := by rw [hr]; simp [hb2]
            obtain ⟨y1, y2⟩ := decErr_none hr2
            obtain ⟨P1, hP1⟩ : ∃ x, x = decOut true (l.take k) := ⟨_, rfl⟩
            obtain ⟨P2, hP2⟩ : ∃ x, x = decOut true (l.drop (k + 1)) := ⟨_, rfl⟩
            have HF : Hid (pairE l = (P1, P2) ∧ decErr l = 0 ∧ (if (dec true l).2 = none then (0 : Int) else ((at' + decPl l : Nat) : Int)) = 0) := by
              unfold Hid
              refine ⟨?_, y1, by rw [if_pos hr2]⟩
              rw [pairE, if_pos hr2, ← pairR_right hr2, pairR, HC.out, hP1, hP2]
            rw [x1, x2, ← hP1] at HD1
            rw [x3, x4, ← hP2] at HD2
            clear HA HC x1 x2 x3 x4 y1 y2 hr hr2 ha hb2 hP1 hP2
            go_wp2_with fail
            rw [HE1.out]
            refine (HD1.out _).mono ?_
            clear HD1
            rintro e w1 ⟨rfl, hB⟩
            have HL1 := hid (HL0.out.below hB HL0.out.lt)
            have HB1 := hid (HB0.out.trans (hB.mono HB0.out.size))
            clear hB HL0 HB0
            go_wp2_with fail
            rw [HE2.out]
            refine (HD2.out _).mono ?_
            clear HD2
            rintro e w2 ⟨rfl, hB⟩
            have HL := hid (HL1.out.below hB HL1.out.lt)
            have HB := hid (HB1.out.trans (hB.mono HB1.out.size))
            clear hB HL1 HB1
            obtain ⟨q1, q2, q3, q4⟩ := HL.out.cells
            have HLF := hid ((HL.out.store0 (u' := .string ⟨P1.toArray⟩)).store1 (v' := .string ⟨P2.toArray⟩))
            have HBF := hid ((HB.out.setCell (p := ⟨w.heap.size, 0, none⟩) (by simp) (.string ⟨P1.toArray⟩)).setCell (p := ⟨w.heap.size, 1, none⟩) (by simp) (.string ⟨P2.toArray⟩))
            go_wp2
            obtain ⟨y1, y2, _, _⟩ := HLF.out.cells
            refine bodyPost_ret (v := .tuple #[.agg #[.string ⟨P1.toArray⟩, .string ⟨P2.toArray⟩], .int .i64 0, .int .i64 0]) (by simp [results, Tryz.results68, go_sem, y1, y2]) rfl ?_
            refine ⟨?_, HBF.out⟩
            rw [HT.out, HPA.out, HER.out, HF.out.1, HF.out.2.1, HF.out.2.2]
      · have hkl : k = l.length := by omega
        subst hkl
        rw [List.take_of_length_le (Nat.le_refl _)] at hna
        have hlt' : ¬ ((l.length : Int)) < (s.size : Int) := by omega
        have hcut := cutC_none hna
        have hD1 := fun w1 => rdecode_list l true w1 (by omega)
        have hkk : (((l.length : Int)) == (s.size : Int)) = true := by rw [beq_iff_eq]; omega
        have e1 : s.extract 0 l.length = ⟨l.toArray⟩ := by rw [HSE.out, extract_take, List.take_of_length_le (Nat.le_refl _)]
        have HD1 := hid hD1
        have HE1 := hid e1
        have HC := hid hcut
        clear hD1 e1 hcut hna HNo hgo hlt hsz
        cases ha : (dec true l).2 with
        | some p =>
          obtain ⟨x1, x2⟩ := decErr_some ha
          have hpl := dec_place true l p ha
          have HF : Hid (pairE l = ([], []) ∧ decErr l = 60 ∧ (if (dec true l).2 = none then (0 : Int) else ((at' + decPl l : Nat) : Int)) = (at' : Int) + (p : Int)) := by
            unfold Hid
            refine ⟨by rw [pairE, ha]; simp, x1, ?_⟩
            rw [ha, x2]
            simp
          rw [x1, x2] at HD1
          clear HC x1 x2 ha
          go_wp2_with fail
          rw [HE1.out]
          refine (HD1.out _).mono ?_
          clear HD1
          rintro e w1 ⟨rfl, hB⟩
          have HL := hid (HL0.out.below hB HL0.out.lt)
          have HB := hid (HB0.out.trans (hB.mono HB0.out.size))
          clear hB HL0 HB0
          obtain ⟨q1, q2, q3, q4⟩ := HL.out.cells
          have HLF := hid ((HL.out.store0 (u' := .string ⟨#[]⟩)).store1 (v' := .string ⟨#[]⟩))
          have HBF := hid ((HB.out.setCell (p := ⟨w.heap.size, 0, none⟩) (by simp) (.string ⟨#[]⟩)).setCell (p := ⟨w.heap.size, 1, none⟩) (by simp) (.string ⟨#[]⟩))
          go_wp2
          obtain ⟨y1, y2, _, _⟩ := HLF.out.cells
          refine bodyPost_ret (v := .tuple #[.agg #[.string ⟨#[]⟩, .string ⟨#[]⟩], .int .i64 60, .int .i64 ((at' : Int) + (p : Int))]) (by simp [results, Tryz.results68, go_sem, y1, y2]) rfl ?_
          refine ⟨?_, HBF.out⟩
          rw [HT.out, HPA.out, HER.out, HF.out.1, HF.out.2.1, HF.out.2.2]
        | none =>
          obtain ⟨x1, x2⟩ := decErr_none ha
          obtain ⟨P1, hP1⟩ : ∃ x, x = decOut true l := ⟨_, rfl⟩
          have HF : Hid (pairE l = (P1, []) ∧ decErr l = 0 ∧ (if (dec true l).2 = none then (0 : Int) else ((at' + decPl l : Nat) : Int)) = 0) := by
            unfold Hid
            refine ⟨?_, x1, by rw [if_pos ha]⟩
            rw [pairE, if_pos ha, ← pairR_right ha, pairR, HC.out, hP1]
            simp [decOut, dec_nil]
          rw [x1, x2, ← hP1] at HD1
          clear HC x1 x2 hP1
          go_wp2_with fail
          rw [HE1.out]
          refine (HD1.out _).mono ?_
          clear HD1
          rintro e w1 ⟨rfl, hB⟩
          have HL := hid (HL0.out.below hB HL0.out.lt)
          have HB := hid (HB0.out.trans (hB.mono HB0.out.size))
          clear hB HL0 HB0
          obtain ⟨q1, q2, q3, q4⟩ := HL.out.cells
          have HLF := hid ((HL.out.store0 (u' := .string ⟨P1.toArray⟩)).store1 (v' := .string ⟨#[]⟩))
          have HBF := hid ((HB.out.setCell (p := ⟨w.heap.size, 0, none⟩) (by simp) (.string ⟨P1.toArray⟩)).setCell (p := ⟨w.heap.size, 1, none⟩) (by simp) (.string ⟨#[]⟩))
          go_wp2
          obtain ⟨y1, y2, _, _⟩ := HLF.out.cells
          refine bodyPost_ret (v := .tuple #[.agg #[.string ⟨P1.toArray⟩, .string ⟨#[]⟩], .int .i64 0, .int .i64 0]) (by simp [results, Tryz.results68, go_sem, y1, y2]) rfl ?_
          refine ⟨?_, HBF.out⟩
          rw [HT.out, HPA.out, HER.out, HF.out.1, HF.out.2.1, HF.out.2.2]

end Go.Proofs.YtllhibdjopfcnaaGreatDoor

namespace Go.Proofs.YtllhibdjopfcnaaGreatDoor
open Go.RowKit
set_option linter.unusedVariables false

/-- How far the document has read a form: out are the pairs of what stands ahead of 'from', the part from there to i has no '&'. -/
structure RAt (L : List UInt8) (from' i : Nat) (out : List PairL) : Prop where
  le : from' ≤ i
  no : ∀ j, from' ≤ j → j < i → L.getD j 0 ≠ 38
  pairs : formL L = out ++ formL (L.drop from')
  wrong : (dec true L).2 = (dec true (L.drop from')).2.map (· + from')
  len : out.length ≤ from'
theorem RAt.start (L : List UInt8) : RAt L 0 0 [] := ⟨Nat.le_refl _, fun j h1 h2 => by omega, by simp, by simp, Nat.le_refl _⟩
theorem RAt.next {L : List UInt8} {f i : Nat} {out : List PairL} (h : RAt L f i out) (hi : L.getD i 0 ≠ 38) : RAt L f (i + 1) out := by
  obtain ⟨h1, h2, h3, h4, h5⟩ := h
  refine ⟨by omega, fun j g1 g2 => ?_, h3, h4, h5⟩
  by_cases hj : j = i
  · subst hj; exact hi
  · exact h2 j g1 (by omega)
theorem part_no {L : List UInt8} {f i : Nat} {out : List PairL} (h : RAt L f i out) (hi : i ≤ L.length) : (38 : UInt8) ∉ (L.drop f).take (i - f) := by
  refine take_cut (by rw [List.length_drop]; omega) (fun j hj => ?_)
  have := h.no (f + j) (by omega) (by have := h.le; omega)
  rw [List.getD, List.getElem?_drop]
  exact this
/-- The part that ends at i. -/
def partOf (L : List UInt8) (f i : Nat) : List UInt8 := (L.drop f).take (i - f)
theorem partOf_len {L : List UInt8} {f i : Nat} (h : f ≤ i) (hi : i ≤ L.length) : (partOf L f i).length = i - f := by
  rw [partOf, List.length_take, List.length_drop]; omega
/-- At a '&', or at the end. -/
theorem RAt.part {L : List UInt8} {f i : Nat} {out : List PairL} (h : RAt L f i out) (hi : i ≤ L.length) (he : i = L.length ∨ L.getD i 0 = 38) :
    (∀ p, (dec true (partOf L f i)).2 = some p → (dec true L).2 = some (p + f)) ∧
    ((dec true (partOf L f i)).2 = none → RAt L (i + 1) (i + 1) (out ++ if i = f then [] else [pairP (partOf L f i)])) := by
  have hno : (38 : UInt8) ∉ partOf L f i := part_no h hi
  have hnil : (partOf L f i = []) ↔ i = f := by
    have hl := partOf_len h.le hi
    have := h.le
    constructor
    · intro e; rw [e] at hl; simp at hl; omega
    · intro e; exact List.eq_nil_of_length_eq_zero (by omega)
  have hif : (if i = f then ([] : List PairL) else [pairP (partOf L f i)]) = if partOf L f i = [] then [] else [pairP (partOf L f i)] := by
    by_cases hx : i = f
    · rw [if_pos hx, if_pos (hnil.2 hx)]
    · rw [if_neg hx, if_neg (fun e => hx (hnil.1 e))]
  rw [hif]
  have hol : ∀ x : List PairL, x = (if partOf L f i = [] then [] else [pairP (partOf L f i)]) → out.length + x.length ≤ i + 1 := by
    intro x hx
    have h1 := h.len
    have h2 := h.le
    rw [hx]
    split <;> simp <;> omega
  rcases he with he | he
  · have hd : L.drop f = partOf L f i := by
      rw [partOf, List.take_of_length_le (by rw [List.length_drop]; omega)]
    have hz : L.drop (i + 1) = [] := List.drop_eq_nil_of_le (by omega)
    refine ⟨fun p hp => ?_, fun hn => ?_⟩
    · rw [h.wrong, hd, hp]; rfl
    · refine ⟨Nat.le_refl _, fun j g1 g2 => by omega, ?_, ?_, ?_⟩
      · rw [hz, formL_nil, List.append_nil, h.pairs, hd]
        congr 1
        exact formL_one hno
      · rw [hz, dec_nil, h.wrong, hd, hn]; rfl
      · rw [List.length_append]; exact hol _ rfl
  · by_cases hlt : i < L.length
    · have hle := h.le
      have hsplit : L.drop f = partOf L f i ++ 38 :: L.drop (i + 1) := by
        have e := List.take_append_drop (i - f) (L.drop f)
        rw [List.drop_drop, show f + (i - f) = i by omega, List.drop_eq_getElem_cons hlt] at e
        have h38 : L[i] = 38 := by
          simp only [List.getD, List.getElem?_eq_getElem hlt, Option.getD_some] at he
          exact he
        rw [h38] at e
        exact e.symm
      have happ := dec_app true 38 (by decide) hexD_amp (L.drop (i + 1)) (partOf L f i)
      rw [← hsplit] at happ
      have hpl := partOf_len h.le hi
      refine ⟨fun p hp => ?_, fun hn => ?_⟩
      · rw [h.wrong, happ.2 p hp]; rfl
      · refine ⟨Nat.le_refl _, fun j g1 g2 => by omega, ?_, ?_, ?_⟩
        · rw [h.pairs, hsplit, formL_app _ hno, List.append_assoc]
        · rw [h.wrong, happ.1 hn, hpl]
          simp only [Option.map_map]
          congr 1
          funext x
          simp only [Function.comp]
          omega
        · rw [List.length_append]; exact hol _ rfl
    · have : i = L.length := by omega
      subst this
      rw [List.getD, List.getElem?_eq_none (Nat.le_refl _)] at he
      exact absurd he (by decide)
theorem formE_some {L : List UInt8} {p : Nat} (h : (dec true L).2 = some p) : formE L = 60 ∧ formO L = [] ∧ decPl L = p := by
  rw [formE, formO, decPl, h]; simp
theorem formE_none {L : List UInt8} (h : (dec true L).2 = none) : formE L = (if 32 < (formL L).length then 2 else 0) ∧ formO L = (if 32 < (formL L).length then [] else formL L) ∧ decPl L = 0 := by
  rw [formE, formO, decPl, h]; simp
theorem RAt.done {L : List UInt8} {f i : Nat} {out : List PairL} (h : RAt L f i out) (hf : L.length < f) : formL L = out ∧ (dec true L).2 = none := by
  have hz : L.drop f = [] := List.drop_eq_nil_of_le (by omega)
  refine ⟨?_, ?_⟩
  · rw [h.pairs, hz, formL_nil, List.append_nil]
  · rw [h.wrong, hz, dec_nil]; rfl

theorem news_at (w : World) (b : Nat) (hb : b = w.heap.size) (p : PairL) (t : TypeId) : ∀ j u, (cellsP [p])[j]? = some u → (w.alloc (.cells #[.string ⟨p.1.toArray⟩, .string ⟨p.2.toArray⟩] t)).cell? ((⟨b, 0, none⟩ : Addr).add j) = some u := by
  subst hb
  exact news_pair w p.1 p.2 t

set_option maxRecDepth 20000 in
set_option maxHeartbeats 2000000 in
theorem rform_any (l : List UInt8) (w : World) (hs : (l.length + 2) * 32 ≤ 140737488355328) :
    Calls Tryz.prog 47 #[.string ⟨l.toArray⟩] w fun e w' => ∃ v', e = .returned (.tuple #[v', .int .i64 (formE l), .int .i64 (decPl l : Int)]) ∧ OwnsP w' w.heap.size v' (formO l) ∧ Below w.heap.size w w' := by
  obtain ⟨s, hse⟩ : ∃ s : ByteArray, s = ⟨l.toArray⟩ := ⟨_, rfl⟩
  have hsz : s.size = l.length := by rw [hse, size_list]
  have hsl : s.data.toList = l := by rw [hse]
  rw [← hse]
  have HSE := hid hse
  have HSL := hid hsl
  have HSZ := hid hsz
  obtain ⟨E, hE⟩ : ∃ x, x = formE l := ⟨_, rfl⟩
  obtain ⟨O, hO⟩ : ∃ x, x = formO l := ⟨_, rfl⟩
  obtain ⟨D, hD⟩ : ∃ x, x = decPl l := ⟨_, rfl⟩
  rw [← hE, ← hO, ← hD]
  have HE := hid hE
  have HOO := hid hO
  have HD := hid hD
  obtain ⟨B, hBe⟩ : ∃ B, B = w.heap.size := ⟨_, rfl⟩
  have hB0 : B ≤ w.heap.size := by omega
  rw [← hBe]
  clear hse hsl hsz hE hO hD hBe
  go_enter Tryz.func47, Tryz.ntmps47
  go_wp2_with fail
  go_loopw [5, 6, 7] (fun u f i wr => ∃ (k m : Nat) (out : List PairL), k ≤ l.length + 1 ∧ i = .int .i64 (k : Int) ∧ f = .int .i64 (m : Int) ∧ RAt l m k out ∧ (k = l.length + 1 → m = l.length + 1) ∧ OwnsP wr B u out ∧ Below B w wr) (fun _ _ i _ => l.length + 1 - (intOf i).toNat)
  case atStart => exact ⟨0, 0, [], Nat.zero_le _, rfl, rfl, RAt.start l, fun h => by omega, OwnsP.nil _ _, Below.refl _ _⟩
  case round =>
    obtain ⟨k, m, out, hk, rfl, rfl, hR, hkm, hO, hB⟩ := hrel
    have hsw : B ≤ wr.heap.size := Nat.le_trans hB0 hB.size
    have hsz := HSZ.out
    have hmk := hR.le
    have hol := hR.len
    obtain ⟨ao, cap, rfl⟩ := hO.shape
    have HO := hid hO
    have HB := hid hB
    have HR := hid hR
    clear hO hB hR
    by_cases hkl : k ≤ l.length
    · have hkl' : (k : Int) ≤ (s.size : Int) := by omega
      clear hkm
      by_cases hgo : k < l.length ∧ l.getD k 0 ≠ 38
      · obtain ⟨hlt, hne⟩ := hgo
        have hlt' : (k : Int) < (s.size : Int) := by omega
        have hls : k < s.size := by omega
        have hb : ((((s[k]'hls).toNat : Nat) : Int) != 38) = true := by
          rw [bne_iff_ne]
          intro e
          apply hne
          rw [← HSL.out, getD_str s k hls]
          have := byte_eq (b := s[k]'hls) (n := 38) (by omega)
          simpa using this
        have HN := hid (HR.out.next hne)
        clear hne hsz HR
        go_wp2
        go_roundw
        case rel => exact ⟨k + 1, m, out, by omega, by go_num, rfl, HN.out, fun h => by omega, HO.out, HB.out⟩
        case measure => simp [intOf]; omega
      · have hend : k = l.length ∨ l.getD k 0 = 38 := by
          by_cases h : k = l.length
          · exact Or.inl h
          · refine Or.inr ?_
            by_cases h2 : l.getD k 0 = 38
            · exact h2
            · exact absurd ⟨by omega, h2⟩ hgo
        obtain ⟨hP1, hP2⟩ := HR.out.part hkl hend
        have hcond : ∀ (Z : Prop), (¬ (k : Int) < (s.size : Int) → Z) → ((h : k < s.size) → (k : Int) < (s.size : Int) → ((((s[k]'h).toNat : Nat) : Int) != 38) = false → Z) → Z := by
          intro Z z1 z2
          rcases hend with h | h
          · exact z1 (by omega)
          · by_cases hlt : k < s.size
            · refine z2 hlt (by omega) ?_
              have : s[k]'hlt = 38 := by rw [← getD_str s k hlt, HSL.out]; exact h
              rw [this]; rfl
            · exact z1 (by omega)
        have HP1 := hid hP1
        have HP2 := hid hP2
        have hmk' : (m : Int) ≤ (k : Int) := by omega
        have he : s.extract m k = ⟨(partOf l m k).toArray⟩ := by rw [HSE.out, extract_list]; rfl
        have HX := hid he
        have hRP := fun w1 => rpair_any (partOf l m k) m w1 (by rw [partOf_len hmk hkl]; omega)
        unfold strV at hRP
        have HRP := hid hRP
        clear hP1 hP2 he hRP hgo hend hsz HR
        by_cases hkm : k = m
        · have hkm' : ¬ (m : Int) < (k : Int) := by omega
          have HN := hid (HP2.out (by rw [partOf, hkm]; simp [dec_nil]))
          rw [if_pos hkm, List.append_nil] at HN
          clear HP1 HP2 HX HRP hkm
          refine hcond _ (fun c1 => ?_) (fun c0 c1 c2 => ?_)
          all_goals
            clear hcond
            go_wp2
            go_roundw
            case rel => exact ⟨k + 1, k + 1, out, by omega, by go_num, by go_num, HN.out, fun h => by omega, HO.out, HB.out⟩
            case measure => simp [intOf]; omega
        · have hkm' : (m : Int) < (k : Int) := by omega
          rw [if_neg hkm] at HP2
          cases hd : (dec true (partOf l m k)).2 with
          | some p =>
            obtain ⟨x1, x2⟩ := decErr_some hd
            obtain ⟨y1, y2, y3⟩ := formE_some (HP1.out p hd)
            rw [hd, x1, x2] at HRP
            have HF : Hid (E = 60 ∧ O = [] ∧ (D : Int) = ((m + p : Nat) : Int)) := by
              unfold Hid
              refine ⟨by rw [HE.out, y1], by rw [HOO.out, y2], by rw [HD.out, y3]; omega⟩
            obtain ⟨PA, hPA⟩ : ∃ x, x = pairE (partOf l m k) := ⟨_, rfl⟩
            rw [← hPA, show (if (some p : Option Nat) = none then (0 : Int) else ((m + p : Nat) : Int)) = ((m + p : Nat) : Int) from rfl] at HRP
            clear HP1 HP2 hkm hd x1 x2 y1 y2 y3 hPA
            refine hcond _ (fun c1 => ?_) (fun c0 c1 c2 => ?_)
            all_goals
              clear hcond
              go_wp2_with fail
              rw [HX.out]
              refine (HRP.out _).mono ?_
              clear HRP
              rintro e w1 ⟨rfl, hB1⟩
              have HB1 := hid (HB.out.trans ((hB1.mono hsw).trans ((below_alloc w1 (.cells #[.string ⟨PA.1.toArray⟩, .string ⟨PA.2.toArray⟩] 73)).mono (Nat.le_trans hsw hB1.size))))
              clear hB1
              go_wp2
              go_ret3
              obtain ⟨z1, z2, z3⟩ := HF.out
              exact ⟨_, by rw [z1, z3]; rfl, by rw [z2]; exact OwnsP.nil _ _, HB1.out⟩
          | none =>
            obtain ⟨x1, x2⟩ := decErr_none hd
            have hN := HP2.out hd
            have HN := hid hN
            have hPE : pairE (partOf l m k) = pairP (partOf l m k) := by rw [pairE, if_pos hd]
            rw [hd, x1, hPE, if_pos rfl] at HRP
            obtain ⟨PA, hPA⟩ : ∃ x, x = pairP (partOf l m k) := ⟨_, rfl⟩
            rw [← hPA] at HRP HN
            clear HP1 HP2 hkm hd x1 x2 hN hPE hPA
            refine hcond _ (fun c1 => ?_) (fun c0 c1 c2 => ?_)
            all_goals
              clear hcond
              go_wp2_with fail
              rw [HX.out]
              refine (HRP.out _).mono ?_
              clear HRP
              rintro e w1 ⟨rfl, hB1⟩
              have hsz1 := hB1.size
              obtain ⟨c3, c4, c5, c6⟩ := (PairAt.new w1 (.string ⟨PA.1.toArray⟩) (.string ⟨PA.2.toArray⟩)).cells
              have HO2 := hid ((HO.out.below hB1).below (below_alloc w1 (.cells #[.string ⟨PA.1.toArray⟩, .string ⟨PA.2.toArray⟩] 73)))
              have HB1 := hid (HB.out.trans ((hB1.mono hsw).trans ((below_alloc w1 (.cells #[.string ⟨PA.1.toArray⟩, .string ⟨PA.2.toArray⟩] 73)).mono (Nat.le_trans hsw hB1.size))))
              clear hB1
              go_wp2_with (first
                | (at_builtin
                   refine wpList_appP rfl _ _ rfl B (.slice ao out.length cap) out rfl (HO2.out.below (below_alloc _ _)) _ PA rfl (news_at _ _ (by simp) PA 73) (by omega) (by simp; omega) ?_
                   intro v4 w4 hO4 hG4
                   have HO4 := hid hO4
                   have HB4 := hid (below_grownBy (HB1.out.trans ((below_alloc _ _).mono (by simp; omega))) hG4 (OwnsP.block HO.out) (by simp; omega))
                   clear hO4 hG4)
                | fail)
              go_roundw
              case rel => exact ⟨k + 1, k + 1, _, by omega, by go_num, by go_num, HN.out, fun h => by omega, HO4.out, HB4.out⟩
              case measure => simp [intOf]; omega
    · have hkl' : ¬ (k : Int) ≤ (s.size : Int) := by omega
      have hm := hkm (by omega)
      obtain ⟨d1, d2⟩ := HR.out.done (by omega)
      obtain ⟨y1, y2, y3⟩ := formE_none d2
      rw [d1] at y1 y2
      by_cases h32 : 32 < out.length
      · have h32' : (32 : Int) < (out.length : Int) := by omega
        have HF : Hid (E = 2 ∧ O = [] ∧ D = 0) := by
          unfold Hid
          exact ⟨by rw [HE.out, y1, if_pos h32], by rw [HOO.out, y2, if_pos h32], by rw [HD.out, y3]⟩
        clear hkm hsz d1 d2 y1 y2 y3 HR
        go_wp2
        go_ret3
        obtain ⟨z1, z2, z3⟩ := HF.out
        exact ⟨_, by rw [z1, z3]; rfl, by rw [z2]; exact OwnsP.nil _ _, HB.out⟩
      · have h32' : ¬ (32 : Int) < (out.length : Int) := by omega
        have HF : Hid (E = 0 ∧ O = out ∧ D = 0) := by
          unfold Hid
          exact ⟨by rw [HE.out, y1, if_neg h32], by rw [HOO.out, y2, if_neg h32], by rw [HD.out, y3]⟩
        clear hkm hsz d1 d2 y1 y2 y3 HR
        go_wp2
        go_ret3
        obtain ⟨z1, z2, z3⟩ := HF.out
        exact ⟨_, by rw [z1, z3]; rfl, by rw [z2]; exact HO.out, HB.out⟩

end Go.Proofs.YtllhibdjopfcnaaGreatDoor
