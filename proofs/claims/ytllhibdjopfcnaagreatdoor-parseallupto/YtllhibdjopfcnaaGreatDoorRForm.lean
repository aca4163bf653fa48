/-
  Form of the document: its pair.
-/
import Derived.Test.YtllhibdjopfcnaaGreatDoorFormB
import Derived.Test.YtllhibdjopfcnaaGreatDoorRDec
import Derived.Test.YtllhibdjopfcnaaGreatDoorRFormA
namespace Go.Proofs.YtllhibdjopfcnaaGreatDoor
open Go.RowKit
set_option linter.unusedVariables false

theorem rdecode_list (l : List UInt8) (plus : Bool) (w : World) (hs : l.length + 1 ≤ 140737488355328) :
    Calls Tryz.prog 46 #[.string ⟨l.toArray⟩, .bool plus] w fun e w' => e = .returned (.tuple #[.string ⟨(decOut plus l).toArray⟩, .int .i64 (decErr l), .int .i64 (decPl l : Int)]) ∧ Below w.heap.size w w' :=
  rdecode_any ⟨l.toArray⟩ plus w (by rw [size_list]; exact hs)

/-- What the document's pair answers. -/
def pairE (l : List UInt8) : PairL := if (dec true l).2 = none then pairP l else ([], [])
theorem decErr_none {L : List UInt8} (h : (dec true L).2 = none) : decErr L = 0 ∧ decPl L = 0 := by
  rw [decErr, decPl, h]; simp
theorem decErr_some {L : List UInt8} {p : Nat} (h : (dec true L).2 = some p) : decErr L = 60 ∧ decPl L = p := by
  rw [decErr, decPl, h]; simp

set_option maxRecDepth 20000 in
set_option maxHeartbeats 2000000 in
theorem rpair_any (l : List UInt8) (at' : Nat) (w : World) (hs : at' + l.length + 1 ≤ 140737488355328) :
    Calls Tryz.prog 68 #[.string ⟨l.toArray⟩, .int .i64 (at' : Int)] w fun e w' => e = .returned (.tuple #[.agg #[strV (pairE l).1, strV (pairE l).2], .int .i64 (decErr l), .int .i64 (if (dec true l).2 = none then 0 else ((at' + decPl l : Nat) : Int))]) ∧ Below w.heap.size w w' := by
  obtain ⟨s, hse⟩ : ∃ s : ByteArray, s = ⟨l.toArray⟩ := ⟨_, rfl⟩
  have hsz : s.size = l.length := by rw [hse, size_list]
  have hsl : s.data.toList = l := by rw [hse]
  rw [← hse]
  have HSE := hid hse
  have HSL := hid hsl
  have HL0 := hid (PairAt.new w (.string ⟨#[]⟩) (.string ⟨#[]⟩))
  have HB0 := hid (below_alloc w (.cells #[.string ⟨#[]⟩, .string ⟨#[]⟩] 73))
  clear hse hsl
  obtain ⟨T, hT⟩ : ∃ T, T = (if (dec true l).2 = none then (0 : Int) else ((at' + decPl l : Nat) : Int)) := ⟨_, rfl⟩
  obtain ⟨A, hA⟩ : ∃ x, x = pairE l := ⟨_, rfl⟩
  obtain ⟨E, hE⟩ : ∃ x, x = decErr l := ⟨_, rfl⟩
  rw [← hT, ← hA, ← hE]
  have HT := hid hT
  have HPA := hid hA
  have HER := hid hE
  clear hT hA hE
  have HSZ := hid hsz
  clear hsz
  unfold strV
  go_enter Tryz.func68, Tryz.ntmps68
  go_wp2_with fail
  go_loop [7] (fun i => ∃ (k : Nat), k ≤ l.length ∧ i = .int .i64 (k : Int) ∧ ∀ j, j < k → l.getD j 0 ≠ 61) (fun i => l.length - (intOf i).toNat)
  case atStart => exact ⟨0, Nat.zero_le _, rfl, fun j hj => by omega⟩
  case round =>
    obtain ⟨k, hk, rfl, hno⟩ := hrel
    have HNo := hid hno
    clear hno
    have hsz := HSZ.out
    by_cases hgo : k < l.length ∧ l.getD k 0 ≠ 61
    · obtain ⟨hlt, hne⟩ := hgo
      have hlt' : (k : Int) < (s.size : Int) := by omega
      have hls : k < s.size := by omega
      have hb : ((((s[k]'hls).toNat : Nat) : Int) != 61) = true := by
        rw [bne_iff_ne]
        intro e
        apply hne
        rw [← HSL.out, getD_str s k hls]
        have := byte_eq (b := s[k]'hls) (n := 61) (by omega)
        simpa using this
      have HNE := hid hne
      clear hne hsz
      go_wp2
      go_round
      case rel =>
        refine ⟨k + 1, by omega, by go_num, fun j hj => ?_⟩
        by_cases hjk : j = k
        · subst hjk; exact HNE.out
        · exact HNo.out j (by omega)
      case measure => simp [intOf]; omega
    · have hna : (61 : UInt8) ∉ l.take k := take_cut hk HNo.out
      have hk2 : (k : Int) ≤ (s.size : Int) := by omega
      by_cases hlt : k < l.length
      · have h61 : l.getD k 0 = 61 := by
          by_cases h : l.getD k 0 = 61
          · exact h
          · exact absurd ⟨hlt, h⟩ hgo
        have hlt' : (k : Int) < (s.size : Int) := by omega
        have hls : k < s.size := by omega
        have hb : ((((s[k]'hls).toNat : Nat) : Int) != 61) = false := by
          have : s[k]'hls = 61 := by rw [← getD_str s k hls, HSL.out]; exact h61
          rw [this]; rfl
        have hsplit : l = l.take k ++ 61 :: l.drop (k + 1) := by
          have h := List.take_append_drop k l
          rw [List.drop_eq_getElem_cons hlt] at h
          have : l[k] = 61 := by
            have := h61
            simp only [List.getD, List.getElem?_eq_getElem hlt, Option.getD_some] at this
            exact this
          rw [this] at h
          exact h.symm
        have hcut : cutC 61 l = (l.take k, l.drop (k + 1), true) := by
          have := cutC_app (c := 61) (l := l.take k) (l.drop (k + 1)) hna
          rw [← hsplit] at this
          exact this
        have happ := dec_app true 61 (by decide) hexD_eq (l.drop (k + 1)) (l.take k)
        rw [← hsplit] at happ
        have htl : (l.take k).length = k := by rw [List.length_take]; omega
        rw [htl] at happ
        have hD1 := fun w1 => rdecode_list (l.take k) true w1 (by rw [htl]; omega)
        have hD2 := fun w1 => rdecode_list (l.drop (k + 1)) true w1 (by rw [List.length_drop]; omega)
        have hkk : ((k : Int) == (s.size : Int)) = false := by rw [beq_eq_false_iff_ne]; omega
        have hk3 : (k : Int) + 1 ≤ (s.size : Int) := by omega
        have e1 : s.extract 0 k = ⟨(l.take k).toArray⟩ := by rw [HSE.out, extract_take]
        have e2 : s.extract (k + 1) s.size = ⟨(l.drop (k + 1)).toArray⟩ := by rw [hsz, HSE.out, extract_from _ _ _ rfl]
        have HD1 := hid hD1
        have HD2 := hid hD2
        have HE1 := hid e1
        have HE2 := hid e2
        have HA := hid happ
        have HC := hid hcut
        clear hD1 hD2 e1 e2 happ hcut hsplit hna HNo h61 hgo htl hsz
        cases ha : (dec true (l.take k)).2 with
        | some p =>
          obtain ⟨x1, x2⟩ := decErr_some ha
          have hr := HA.out.2 p ha
          obtain ⟨y1, y2⟩ := decErr_some hr
          have hpl : p < l.length := dec_place true l p hr
          have HF : Hid (pairE l = ([], []) ∧ decErr l = 60 ∧ (if (dec true l).2 = none then (0 : Int) else ((at' + decPl l : Nat) : Int)) = (at' : Int) + (p : Int)) := by
            unfold Hid
            refine ⟨by rw [pairE, hr]; simp, y1, ?_⟩
            rw [hr, y2]
            simp
          rw [x1, x2] at HD1
          obtain ⟨q1, q2, q3, q4⟩ := HL0.out.cells
          clear HA HC HD2 x1 x2 y1 y2 hr ha
          go_wp2_with fail
          rw [HE1.out]
          refine (HD1.out _).mono ?_
          clear HD1
          rintro e w1 ⟨rfl, hB⟩
          have HL := hid (HL0.out.below hB HL0.out.lt)
          have HB := hid (HB0.out.trans (hB.mono HB0.out.size))
          clear hB HL0 HB0 q1 q2 q3 q4
          obtain ⟨q1, q2, q3, q4⟩ := HL.out.cells
          have HLF := hid ((HL.out.store0 (u' := .string ⟨#[]⟩)).store1 (v' := .string ⟨#[]⟩))
          have HBF := hid ((HB.out.setCell (p := ⟨w.heap.size, 0, none⟩) (by simp) (.string ⟨#[]⟩)).setCell (p := ⟨w.heap.size, 1, none⟩) (by simp) (.string ⟨#[]⟩))
          go_wp2
          obtain ⟨y1, y2, _, _⟩ := HLF.out.cells
          refine bodyPost_ret (v := .tuple #[.agg #[.string ⟨#[]⟩, .string ⟨#[]⟩], .int .i64 60, .int .i64 ((at' : Int) + (p : Int))]) (by simp [results, Tryz.results68, go_sem, y1, y2]) rfl ?_
          refine ⟨?_, HBF.out⟩
          rw [HT.out, HPA.out, HER.out, HF.out.1, HF.out.2.1, HF.out.2.2]
        | none =>
          obtain ⟨x1, x2⟩ := decErr_none ha
          have hr := HA.out.1 ha
          cases hb2 : (dec true (l.drop (k + 1))).2 with
          | some p =>
            obtain ⟨x3, x4⟩ := decErr_some hb2
            have hr2 : (dec true l).2 = some (p + (k + 1)) := by rw [hr]; simp [hb2]
            obtain ⟨y1, y2⟩ := decErr_some hr2
            have hpl := dec_place true l _ hr2
            have HF : Hid (pairE l = ([], []) ∧ decErr l = 60 ∧ (if (dec true l).2 = none then (0 : Int) else ((at' + decPl l : Nat) : Int)) = (at' : Int) + (k : Int) + 1 + (p : Int)) := by
              unfold Hid
              refine ⟨by rw [pairE, hr2]; simp, y1, ?_⟩
              rw [hr2, y2]
              simp
              omega
            rw [x1, x2] at HD1
            rw [x3, x4] at HD2
            clear HA HC x1 x2 x3 x4 y1 y2 hr hr2 ha hb2
            go_wp2_with fail
            rw [HE1.out]
            refine (HD1.out _).mono ?_
            clear HD1
            rintro e w1 ⟨rfl, hB⟩
            have HL1 := hid (HL0.out.below hB HL0.out.lt)
            have HB1 := hid (HB0.out.trans (hB.mono HB0.out.size))
            clear hB HL0 HB0
            go_wp2_with fail
            rw [HE2.out]
            refine (HD2.out _).mono ?_
            clear HD2
            rintro e w2 ⟨rfl, hB⟩
            have HL := hid (HL1.out.below hB HL1.out.lt)
            have HB := hid (HB1.out.trans (hB.mono HB1.out.size))
            clear hB HL1 HB1
            obtain ⟨q1, q2, q3, q4⟩ := HL.out.cells
            have HLF := hid ((HL.out.store0 (u' := .string ⟨#[]⟩)).store1 (v' := .string ⟨#[]⟩))
            have HBF := hid ((HB.out.setCell (p := ⟨w.heap.size, 0, none⟩) (by simp) (.string ⟨#[]⟩)).setCell (p := ⟨w.heap.size, 1, none⟩) (by simp) (.string ⟨#[]⟩))
            go_wp2
            obtain ⟨y1, y2, _, _⟩ := HLF.out.cells
            refine bodyPost_ret (v := .tuple #[.agg #[.string ⟨#[]⟩, .string ⟨#[]⟩], .int .i64 60, .int .i64 ((at' : Int) + (k : Int) + 1 + (p : Int))]) (by simp [results, Tryz.results68, go_sem, y1, y2]) rfl ?_
            refine ⟨?_, HBF.out⟩
            rw [HT.out, HPA.out, HER.out, HF.out.1, HF.out.2.1, HF.out.2.2]
          | none =>
            obtain ⟨x3, x4⟩ := decErr_none hb2
            have hr2 : (dec true l).2 = none := by rw [hr]; simp [hb2]
            obtain ⟨y1, y2⟩ := decErr_none hr2
            obtain ⟨P1, hP1⟩ : ∃ x, x = decOut true (l.take k) := ⟨_, rfl⟩
            obtain ⟨P2, hP2⟩ : ∃ x, x = decOut true (l.drop (k + 1)) := ⟨_, rfl⟩
            have HF : Hid (pairE l = (P1, P2) ∧ decErr l = 0 ∧ (if (dec true l).2 = none then (0 : Int) else ((at' + decPl l : Nat) : Int)) = 0) := by
              unfold Hid
              refine ⟨?_, y1, by rw [if_pos hr2]⟩
              rw [pairE, if_pos hr2, ← pairR_right hr2, pairR, HC.out, hP1, hP2]
            rw [x1, x2, ← hP1] at HD1
            rw [x3, x4, ← hP2] at HD2
            clear HA HC x1 x2 x3 x4 y1 y2 hr hr2 ha hb2 hP1 hP2
            go_wp2_with fail
            rw [HE1.out]
            refine (HD1.out _).mono ?_
            clear HD1
            rintro e w1 ⟨rfl, hB⟩
            have HL1 := hid (HL0.out.below hB HL0.out.lt)
            have HB1 := hid (HB0.out.trans (hB.mono HB0.out.size))
            clear hB HL0 HB0
            go_wp2_with fail
            rw [HE2.out]
            refine (HD2.out _).mono ?_
            clear HD2
            rintro e w2 ⟨rfl, hB⟩
            have HL := hid (HL1.out.below hB HL1.out.lt)
            have HB := hid (HB1.out.trans (hB.mono HB1.out.size))
            clear hB HL1 HB1
            obtain ⟨q1, q2, q3, q4⟩ := HL.out.cells
            have HLF := hid ((HL.out.store0 (u' := .string ⟨P1.toArray⟩)).store1 (v' := .string ⟨P2.toArray⟩))
            have HBF := hid ((HB.out.setCell (p := ⟨w.heap.size, 0, none⟩) (by simp) (.string ⟨P1.toArray⟩)).setCell (p := ⟨w.heap.size, 1, none⟩) (by simp) (.string ⟨P2.toArray⟩))
            go_wp2
            obtain ⟨y1, y2, _, _⟩ := HLF.out.cells
            refine bodyPost_ret (v := .tuple #[.agg #[.string ⟨P1.toArray⟩, .string ⟨P2.toArray⟩], .int .i64 0, .int .i64 0]) (by simp [results, Tryz.results68, go_sem, y1, y2]) rfl ?_
            refine ⟨?_, HBF.out⟩
            rw [HT.out, HPA.out, HER.out, HF.out.1, HF.out.2.1, HF.out.2.2]
      · have hkl : k = l.length := by omega
        subst hkl
        rw [List.take_of_length_le (Nat.le_refl _)] at hna
        have hlt' : ¬ ((l.length : Int)) < (s.size : Int) := by omega
        have hcut := cutC_none hna
        have hD1 := fun w1 => rdecode_list l true w1 (by omega)
        have hkk : (((l.length : Int)) == (s.size : Int)) = true := by rw [beq_iff_eq]; omega
        have e1 : s.extract 0 l.length = ⟨l.toArray⟩ := by rw [HSE.out, extract_take, List.take_of_length_le (Nat.le_refl _)]
        have HD1 := hid hD1
        have HE1 := hid e1
        have HC := hid hcut
        clear hD1 e1 hcut hna HNo hgo hlt hsz
        cases ha : (dec true l).2 with
        | some p =>
          obtain ⟨x1, x2⟩ := decErr_some ha
          have hpl := dec_place true l p ha
          have HF : Hid (pairE l = ([], []) ∧ decErr l = 60 ∧ (if (dec true l).2 = none then (0 : Int) else ((at' + decPl l : Nat) : Int)) = (at' : Int) + (p : Int)) := by
            unfold Hid
            refine ⟨by rw [pairE, ha]; simp, x1, ?_⟩
            rw [ha, x2]
            simp
          rw [x1, x2] at HD1
          clear HC x1 x2 ha
          go_wp2_with fail
          rw [HE1.out]
          refine (HD1.out _).mono ?_
          clear HD1
          rintro e w1 ⟨rfl, hB⟩
          have HL := hid (HL0.out.below hB HL0.out.lt)
          have HB := hid (HB0.out.trans (hB.mono HB0.out.size))
          clear hB HL0 HB0
          obtain ⟨q1, q2, q3, q4⟩ := HL.out.cells
          have HLF := hid ((HL.out.store0 (u' := .string ⟨#[]⟩)).store1 (v' := .string ⟨#[]⟩))
          have HBF := hid ((HB.out.setCell (p := ⟨w.heap.size, 0, none⟩) (by simp) (.string ⟨#[]⟩)).setCell (p := ⟨w.heap.size, 1, none⟩) (by simp) (.string ⟨#[]⟩))
          go_wp2
          obtain ⟨y1, y2, _, _⟩ := HLF.out.cells
          refine bodyPost_ret (v := .tuple #[.agg #[.string ⟨#[]⟩, .string ⟨#[]⟩], .int .i64 60, .int .i64 ((at' : Int) + (p : Int))]) (by simp [results, Tryz.results68, go_sem, y1, y2]) rfl ?_
          refine ⟨?_, HBF.out⟩
          rw [HT.out, HPA.out, HER.out, HF.out.1, HF.out.2.1, HF.out.2.2]
        | none =>
          obtain ⟨x1, x2⟩ := decErr_none ha
          obtain ⟨P1, hP1⟩ : ∃ x, x = decOut true l := ⟨_, rfl⟩
          have HF : Hid (pairE l = (P1, []) ∧ decErr l = 0 ∧ (if (dec true l).2 = none then (0 : Int) else ((at' + decPl l : Nat) : Int)) = 0) := by
            unfold Hid
            refine ⟨?_, x1, by rw [if_pos ha]⟩
            rw [pairE, if_pos ha, ← pairR_right ha, pairR, HC.out, hP1]
            simp [decOut, dec_nil]
          rw [x1, x2, ← hP1] at HD1
          clear HC x1 x2 hP1
          go_wp2_with fail
          rw [HE1.out]
          refine (HD1.out _).mono ?_
          clear HD1
          rintro e w1 ⟨rfl, hB⟩
          have HL := hid (HL0.out.below hB HL0.out.lt)
          have HB := hid (HB0.out.trans (hB.mono HB0.out.size))
          clear hB HL0 HB0
          obtain ⟨q1, q2, q3, q4⟩ := HL.out.cells
          have HLF := hid ((HL.out.store0 (u' := .string ⟨P1.toArray⟩)).store1 (v' := .string ⟨#[]⟩))
          have HBF := hid ((HB.out.setCell (p := ⟨w.heap.size, 0, none⟩) (by simp) (.string ⟨P1.toArray⟩)).setCell (p := ⟨w.heap.size, 1, none⟩) (by simp) (.string ⟨#[]⟩))
          go_wp2
          obtain ⟨y1, y2, _, _⟩ := HLF.out.cells
          refine bodyPost_ret (v := .tuple #[.agg #[.string ⟨P1.toArray⟩, .string ⟨#[]⟩], .int .i64 0, .int .i64 0]) (by simp [results, Tryz.results68, go_sem, y1, y2]) rfl ?_
          refine ⟨?_, HBF.out⟩
          rw [HT.out, HPA.out, HER.out, HF.out.1, HF.out.2.1, HF.out.2.2]

end Go.Proofs.YtllhibdjopfcnaaGreatDoor
