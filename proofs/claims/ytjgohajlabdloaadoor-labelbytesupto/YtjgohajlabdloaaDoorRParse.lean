/-
  The document's Parse.
-/
import Derived.Test.YtjgohajlabdloaaDoorRFrom
namespace Go.Proofs.YtjgohajlabdloaaDoor
open Go.RowKit
set_option linter.unusedVariables false

theorem parseL_braces (mid : List UInt8) : parseL (123 :: (mid ++ [125])) = if (cutL mid 124).2.2 && (listedL (cutL mid 124).1).2 && (listedL (cutL mid 124).2.1).2 then some ((listedL (cutL mid 124).1).1, (listedL (cutL mid 124).2.1).1) else none := by
  have hp : Lib.hasPrefix (123 :: (mid ++ [125])) [123] = true := by simp [Lib.hasPrefix]
  have ht : Lib.trimPrefix (123 :: (mid ++ [125])) [123] = mid ++ [125] := by rw [Lib.trimPrefix, hp, if_pos rfl]; rfl
  rw [parseL]
  simp only [hp, ht, hasSuffix_snoc, trimSuffix_snoc, Bool.true_and]
theorem braces_form {l : List UInt8} (h3 : 2 ≤ l.length) (h0 : l.getD 0 0 = 123) (h1 : l.getD (l.length - 1) 0 = 125) : l = 123 :: (partOf l 1 (l.length - 1) ++ [125]) := by
  cases l with
  | nil => simp at h3
  | cons a r =>
    have ha : a = 123 := by simpa using h0
    subst ha
    have hr : r ≠ [] := by
      intro e
      rw [e] at h3
      simp at h3
    have e1 := part_split (L := 123 :: r) (m := 1) (i := (123 :: r).length - 1) (c := 125) (by simp at h3 ⊢; omega) (by simp) h1
    rw [show (123 :: r).drop 1 = r from rfl, show (123 :: r).length - 1 + 1 = (123 :: r).length by simp, List.drop_eq_nil_of_le (Nat.le_refl _)] at e1
    exact congrArg (123 :: ·) e1
theorem parse_none_open {l : List UInt8} (h : l.getD 0 0 ≠ 123) : parseL l = none := by
  have hp : Lib.hasPrefix l [123] = false := by
    cases l with
    | nil => rfl
    | cons a r =>
      have ha : a ≠ 123 := by simpa using h
      have : (123 : UInt8) ≠ a := fun e => ha e.symm
      rw [Lib.hasPrefix, List.isPrefixOf_cons_cons, beq_eq_false_iff_ne.2 this]
      rfl
  rw [parseL]
  simp [hp]
theorem snoc_last {a r : List UInt8} {c : UInt8} (h : r = a ++ [c]) : r.getD (r.length - 1) 0 = c := by
  subst h
  simp [List.getD]
theorem parse_none_close {l : List UInt8} (h2 : 2 ≤ l.length) (h : l.getD (l.length - 1) 0 ≠ 125) : parseL l = none := by
  by_cases h0 : l.getD 0 0 = 123
  · cases l with
    | nil => simp at h2
    | cons a r =>
      have ha : a = 123 := by simpa using h0
      subst ha
      have hp : Lib.hasPrefix (123 :: r) [123] = true := by simp [Lib.hasPrefix]
      have ht : Lib.trimPrefix (123 :: r) [123] = r := by rw [Lib.trimPrefix, hp, if_pos rfl]; rfl
      have hs : Lib.hasSuffix r [125] = false := by
        cases hq : Lib.hasSuffix r [125] with
        | false => rfl
        | true =>
          exfalso
          rw [Lib.hasSuffix, List.isSuffixOf_iff_suffix] at hq
          obtain ⟨t, ht⟩ := hq
          apply h
          have := snoc_last (a := 123 :: t) (c := 125) (r := 123 :: r) (by rw [← ht]; rfl)
          exact this
      rw [parseL]
      simp [ht, hs]
  · exact parse_none_open h0
theorem parse_none_short {l : List UInt8} (h3 : l.length < 3) : parseL l = none := by
  by_cases h2 : 2 ≤ l.length
  · by_cases h0 : l.getD 0 0 = 123
    · by_cases h1 : l.getD (l.length - 1) 0 = 125
      · have hf := braces_form h2 h0 h1
        have hm : partOf l 1 (l.length - 1) = [] := List.eq_nil_of_length_eq_zero (by rw [partOf_len (by omega) (by omega)]; omega)
        rw [hm] at hf
        rw [hf]
        decide
      · exact parse_none_close h2 h1
    · exact parse_none_open h0
  · match l, h2 with
    | [], _ => decide
    | [a], _ =>
      rw [parseL]
      have hs : Lib.hasPrefix [a] [123] = true → Lib.hasSuffix (Lib.trimPrefix [a] [123]) [125] = false := by
        intro h
        rw [Lib.trimPrefix, h, if_pos rfl]
        rfl
      cases hp : Lib.hasPrefix [a] [123] with
      | false => simp
      | true => simp [hs hp]
    | _ :: _ :: _, h => simp at h
theorem parse_at {l : List UInt8} {i : Nat} (h3 : 3 ≤ l.length) (h0 : l.getD 0 0 = 123) (h1 : l.getD (l.length - 1) 0 = 125) (hi0 : 1 ≤ i) (hi : i < l.length - 1) (hno : ∀ j, 1 ≤ j → j < i → l.getD j 0 ≠ 124) (hb : l.getD i 0 = 124) :
    parseL l = if fromOK (fromL (partOf l 1 i)) && fromOK (fromL (partOf l (i + 1) (l.length - 1))) then some ((fromL (partOf l 1 i)).1, (fromL (partOf l (i + 1) (l.length - 1))).1) else none := by
  have hf := braces_form (by omega) h0 h1
  have hx : (124 : UInt8) ∉ partOf l 1 i := part_no hi0 hno (by omega)
  have hm : partOf l 1 (l.length - 1) = partOf l 1 i ++ 124 :: partOf l (i + 1) (l.length - 1) := by
    have e1 := part_split (L := l) (m := 1) (i := i) hi0 (by omega) hb
    have e2 := congrArg (List.take (l.length - 1 - 1)) e1
    have hl1 : (partOf l 1 i).length = i - 1 := partOf_len hi0 (by omega)
    rw [List.take_append, hl1, List.take_of_length_le (l := partOf l 1 i) (by omega)] at e2
    rw [show l.length - 1 - 1 - (i - 1) = (l.length - 1 - (i + 1)) + 1 by omega, List.take_succ_cons] at e2
    exact e2
  have hc := cutL_at (partOf l (i + 1) (l.length - 1)) hx
  rw [← hm] at hc
  have hp := parseL_braces (partOf l 1 (l.length - 1))
  rw [← hf, hc] at hp
  simp only [Bool.true_and] at hp
  obtain ⟨a1, a2⟩ := from_listed (partOf l 1 i)
  obtain ⟨b1, b2⟩ := from_listed (partOf l (i + 1) (l.length - 1))
  rw [hp, ← a1, ← b1]
  by_cases hk : (fromOK (fromL (partOf l 1 i)) && fromOK (fromL (partOf l (i + 1) (l.length - 1)))) = true
  · rw [if_pos hk, if_pos hk]
    rw [Bool.and_eq_true] at hk
    rw [a2 (by rw [← a1]; exact hk.1), b2 (by rw [← b1]; exact hk.2)]
  · rw [if_neg hk, if_neg hk]
theorem parse_none_bar {l : List UInt8} (h3 : 3 ≤ l.length) (h0 : l.getD 0 0 = 123) (h1 : l.getD (l.length - 1) 0 = 125) (hno : ∀ j, 1 ≤ j → j < l.length - 1 → l.getD j 0 ≠ 124) : parseL l = none := by
  have hf := braces_form (by omega) h0 h1
  have hx : (124 : UInt8) ∉ partOf l 1 (l.length - 1) := part_no (by omega) hno (by omega)
  have hp := parseL_braces (partOf l 1 (l.length - 1))
  rw [← hf, cutL_none hx] at hp
  rw [hp]
  simp

set_option maxRecDepth 20000 in
set_option maxHeartbeats 2000000 in
theorem rparse_any (l : List UInt8) (w : World) (hs : l.length ≤ 1048576) :
    Calls Tryd.prog 12 #[.string ⟨l.toArray⟩] w fun e w' => ∃ v1 v2, e = .returned (.tuple #[.agg #[v1, v2], .int .i64 (errP (parseL l))]) ∧ Owns w' w.heap.size v1 (labS (parseL l)) ∧ Owns w' w.heap.size v2 (labI (parseL l)) ∧ Below w.heap.size w w' := by
  obtain ⟨s, hse⟩ : ∃ s : ByteArray, s = ⟨l.toArray⟩ := ⟨_, rfl⟩
  have hsz : s.size = l.length := by rw [hse, Lib.size_eq]
  have hsl : s.data.toList = l := by rw [hse]
  rw [← hse]
  obtain ⟨PL, hPL⟩ : ∃ x, x = parseL l := ⟨_, rfl⟩
  rw [← hPL]
  have HSE := hid hse
  have HSL := hid hsl
  have HPL := hid hPL
  have HL := hid (LabAt.new w (.slice none 0 0) (.slice none 0 0))
  have HB := hid (below_alloc w (.cells #[.slice none 0 0, .slice none 0 0] 24))
  clear hse hsl hPL
  by_cases h3 : l.length < 3
  · have h3' : (l.length : Int) < 3 := by omega
    have HE : Hid (PL = none) := by unfold Hid; rw [HPL.out]; exact parse_none_short h3
    go_enter Tryd.func12, Tryd.ntmps12
    obtain ⟨q1, q2, q3, q4⟩ := HL.out.cells
    go_wp2
    refine bodyPost_ret (v := .tuple #[.agg #[(.slice none 0 0), (.slice none 0 0)], .int .i64 20]) (by simp [results, Tryd.results12, go_sem, q1, q2]) rfl ?_
    exact ⟨_, _, by rw [HE.out]; rfl, by rw [HE.out]; exact World.ownsRow_nil _ _ _ _, by rw [HE.out]; exact World.ownsRow_nil _ _ _ _, HB.out⟩
  have h3' : ¬ (l.length : Int) < 3 := by omega
  have hz0 : 0 < s.size := by omega
  have hb0 := getD_byte s 0 hz0
  rw [HSL.out] at hb0
  by_cases h0 : l.getD 0 0 = 123
  rotate_left
  · have h0' : ((((s[0]'hz0).toNat : Nat) : Int) != 123) = true := by
      rw [bne_iff_ne]
      intro e
      apply h0
      rw [hb0]
      have := byte_eq (b := s[0]'hz0) (n := 123) (by omega)
      simpa using this
    have HE : Hid (PL = none) := by unfold Hid; rw [HPL.out]; exact parse_none_open h0
    clear hb0 h0
    go_enter Tryd.func12, Tryd.ntmps12
    obtain ⟨q1, q2, q3, q4⟩ := HL.out.cells
    go_wp2
    refine bodyPost_ret (v := .tuple #[.agg #[(.slice none 0 0), (.slice none 0 0)], .int .i64 20]) (by simp [results, Tryd.results12, go_sem, q1, q2]) rfl ?_
    exact ⟨_, _, by rw [HE.out]; rfl, by rw [HE.out]; exact World.ownsRow_nil _ _ _ _, by rw [HE.out]; exact World.ownsRow_nil _ _ _ _, HB.out⟩
  have h0' : ((((s[0]'hz0).toNat : Nat) : Int) != 123) = false := by
    rw [← hb0, h0]; rfl
  have H0 := hid h0
  clear hb0 h0
  have hz1 : l.length - 1 < s.size := by omega
  have hb1 := getD_byte s (l.length - 1) hz1
  rw [HSL.out] at hb1
  by_cases h1 : l.getD (l.length - 1) 0 = 125
  rotate_left
  · have h1' : ((((s[l.length - 1]'hz1).toNat : Nat) : Int) != 125) = true := by
      rw [bne_iff_ne]
      intro e
      apply h1
      rw [hb1]
      have := byte_eq (b := s[l.length - 1]'hz1) (n := 125) (by omega)
      simpa using this
    have HE : Hid (PL = none) := by unfold Hid; rw [HPL.out]; exact parse_none_close (by omega) h1
    clear hb1 h1
    go_enter Tryd.func12, Tryd.ntmps12
    obtain ⟨q1, q2, q3, q4⟩ := HL.out.cells
    go_wp2
    refine bodyPost_ret (v := .tuple #[.agg #[(.slice none 0 0), (.slice none 0 0)], .int .i64 20]) (by simp [results, Tryd.results12, go_sem, q1, q2]) rfl ?_
    exact ⟨_, _, by rw [HE.out]; rfl, by rw [HE.out]; exact World.ownsRow_nil _ _ _ _, by rw [HE.out]; exact World.ownsRow_nil _ _ _ _, HB.out⟩
  have h1' : ((((s[l.length - 1]'hz1).toNat : Nat) : Int) != 125) = false := by
    rw [← hb1, h1]; rfl
  have H1 := hid h1
  clear hb1 h1
  go_enter Tryd.func12, Tryd.ntmps12
  go_wp2_with fail
  go_loop [5] (fun i => ∃ (k : Nat), 1 ≤ k ∧ k ≤ l.length - 1 ∧ i = .int .i64 (k : Int) ∧ ∀ j, 1 ≤ j → j < k → l.getD j 0 ≠ 124) (fun i => l.length - 1 - (intOf i).toNat)
  case atStart => exact ⟨1, Nat.le_refl _, by omega, rfl, fun j g1 g2 => by omega⟩
  case round =>
    obtain ⟨k, hk0, hk, rfl, hno⟩ := hrel
    have HNo := hid hno
    clear hno
    by_cases hlt : k < l.length - 1
    · have hlt' : (k : Int) < (l.length : Int) - 1 := by omega
      have hls : k < s.size := by omega
      have hb := getD_byte s k hls
      rw [HSL.out] at hb
      by_cases hc : l.getD k 0 = 124
      · have hc' : ((((s[k]'hls).toNat : Nat) : Int) != 124) = false := by
          rw [← hb, hc]; rfl
        have hP := parse_at (by omega) H0.out H1.out hk0 hlt HNo.out hc
        have hR1 := fun w1 => setFrom_any (partOf l 1 k) w1 (by rw [partOf_len hk0 (by omega)]; omega)
        have hR2 := fun w1 => setFrom_any (partOf l (k + 1) (l.length - 1)) w1 (by rw [partOf_len (by omega) (by omega)]; omega)
        have e1 : s.extract 1 k = ⟨(partOf l 1 k).toArray⟩ := by rw [HSE.out, extract_list]; rfl
        have e2 : s.extract (k + 1) (l.length - 1) = ⟨(partOf l (k + 1) (l.length - 1)).toArray⟩ := by rw [HSE.out, extract_list]; rfl
        generalize partOf l 1 k = A at *
        generalize partOf l (k + 1) (l.length - 1) = C at *
        obtain ⟨o1, ho1⟩ : ∃ o, o = fromOK (fromL A) := ⟨_, rfl⟩
        obtain ⟨o2, ho2⟩ : ∃ o, o = fromOK (fromL C) := ⟨_, rfl⟩
        rw [← ho1] at hR1 hP
        rw [← ho2] at hR2 hP
        obtain ⟨s1, hs1⟩ : ∃ o, o = (fromL A).1 := ⟨_, rfl⟩
        obtain ⟨s2, hs2⟩ : ∃ o, o = (fromL C).1 := ⟨_, rfl⟩
        rw [← hs1] at hR1 hP
        rw [← hs2] at hR2 hP
        have HP := hid (HPL.out.trans hP)
        have HE1 := hid e1
        have HE2 := hid e2
        have HR1 := hid hR1
        have HR2 := hid hR2
        have hq1 : (1 : Int) ≤ (k : Int) := by omega
        have hq2 : (k : Int) ≤ (l.length : Int) := by omega
        have hq3 : (k : Int) + 1 ≤ (l.length : Int) - 1 := by omega
        clear hb hc hP hR1 hR2 e1 e2 ho1 ho2 hs1 hs2 H0 H1 HNo HPL
        go_wp2_with fail
        rw [HE1.out]
        refine (HR1.out _).mono ?_
        clear HR1
        rintro e w4 ⟨v1, rfl, hO1, hB1⟩
        obtain ⟨ao1, cap1, hv1⟩ := Owns.form hO1
        subst hv1
        have HO1 := hid hO1
        have HL4 := hid (HL.out.below hB1 HL.out.lt)
        have HB4 := hid (HB.out.trans (hB1.mono HB.out.size))
        have hlt4 := HL.out.lt
        have hsz4 := hB1.size
        clear HL HB hB1 hO1
        have HL := HL4
        have HB := HB4
        clear HL4 HB4
        go_wp2_with fail
        rw [HE2.out]
        refine (HR2.out _).mono ?_
        clear HR2
        rintro e w5 ⟨v2, rfl, hO2, hB2⟩
        obtain ⟨ao2, cap2, hv2⟩ := Owns.form hO2
        subst hv2
        have HO1' := hid (HO1.out.below hB2)
        have HO2 := hid hO2
        have HL4 := hid (HL.out.below hB2 HL.out.lt)
        have HB4 := hid (HB.out.trans (hB2.mono HB.out.size))
        have hlt5 := HL.out.lt
        have hsz5 := hB2.size
        clear HL HB hB2 hO2 HO1
        have HL := HL4
        have HB := HB4
        clear HL4 HB4
        cases o1
        · have HE : Hid (PL = none) := by unfold Hid; rw [HP.out]; simp
          obtain ⟨q1, q2, q3, q4⟩ := HL.out.cells
          have HLF := hid ((HL.out.store0 (u' := (.slice none 0 0))).store1 (v' := (.slice none 0 0)))
          have HBF := hid ((HB.out.setCell (p := ⟨w.heap.size, 0, none⟩) (by simp) (.slice none 0 0)).setCell (p := ⟨w.heap.size, 1, none⟩) (by simp) (.slice none 0 0))
          go_wp2
          obtain ⟨y1, y2, _, _⟩ := HLF.out.cells
          refine bodyPost_ret (v := .tuple #[.agg #[(.slice none 0 0), (.slice none 0 0)], .int .i64 20]) (by simp [results, Tryd.results12, go_sem, y1, y2]) rfl ?_
          exact ⟨_, _, by rw [HE.out]; rfl, by rw [HE.out]; exact World.ownsRow_nil _ _ _ _, by rw [HE.out]; exact World.ownsRow_nil _ _ _ _, HBF.out⟩
        cases o2
        · have HE : Hid (PL = none) := by unfold Hid; rw [HP.out]; simp
          obtain ⟨q1, q2, q3, q4⟩ := HL.out.cells
          have HLF := hid ((HL.out.store0 (u' := (.slice none 0 0))).store1 (v' := (.slice none 0 0)))
          have HBF := hid ((HB.out.setCell (p := ⟨w.heap.size, 0, none⟩) (by simp) (.slice none 0 0)).setCell (p := ⟨w.heap.size, 1, none⟩) (by simp) (.slice none 0 0))
          go_wp2
          obtain ⟨y1, y2, _, _⟩ := HLF.out.cells
          refine bodyPost_ret (v := .tuple #[.agg #[(.slice none 0 0), (.slice none 0 0)], .int .i64 20]) (by simp [results, Tryd.results12, go_sem, y1, y2]) rfl ?_
          exact ⟨_, _, by rw [HE.out]; rfl, by rw [HE.out]; exact World.ownsRow_nil _ _ _ _, by rw [HE.out]; exact World.ownsRow_nil _ _ _ _, HBF.out⟩
        have HE : Hid (PL = some (s1, s2)) := by unfold Hid; rw [HP.out]; simp
        obtain ⟨q1, q2, q3, q4⟩ := HL.out.cells
        have HLF := hid ((HL.out.store0 (u' := (.slice ao1 s1.length cap1))).store1 (v' := (.slice ao2 s2.length cap2)))
        have HBF := hid ((HB.out.setCell (p := ⟨w.heap.size, 0, none⟩) (by simp) (.slice ao1 s1.length cap1)).setCell (p := ⟨w.heap.size, 1, none⟩) (by simp) (.slice ao2 s2.length cap2))
        go_wp2
        obtain ⟨y1, y2, _, _⟩ := HLF.out.cells
        refine bodyPost_ret (v := .tuple #[.agg #[(.slice ao1 s1.length cap1), (.slice ao2 s2.length cap2)], .int .i64 0]) (by simp [results, Tryd.results12, go_sem, y1, y2]) rfl ?_
        exact ⟨_, _, by rw [HE.out]; rfl, by rw [HE.out]; exact owns_le (ownsRow_setCell_below (ownsRow_setCell_below HO1'.out (by simp) _) (by simp) _) (by omega), by rw [HE.out]; exact owns_le (ownsRow_setCell_below (ownsRow_setCell_below HO2.out (by simp; omega) _) (by simp; omega) _) (by omega), HBF.out⟩
      · have hc' : ((((s[k]'hls).toNat : Nat) : Int) != 124) = true := by
          rw [bne_iff_ne]
          intro e
          apply hc
          rw [hb]
          have := byte_eq (b := s[k]'hls) (n := 124) (by omega)
          simpa using this
        have HC := hid hc
        clear hc hb
        go_wp2
        go_round
        case rel =>
          refine ⟨k + 1, by omega, by omega, by go_num, fun j g1 g2 => ?_⟩
          by_cases hjk : j = k
          · subst hjk; exact HC.out
          · exact HNo.out j g1 (by omega)
        case measure => simp [intOf]; omega
    · have hlt' : ¬ (k : Int) < (l.length : Int) - 1 := by omega
      have hkk : k = l.length - 1 := by omega
      have HE : Hid (PL = none) := by
        unfold Hid
        rw [HPL.out]
        exact parse_none_bar (by omega) H0.out H1.out (fun j g1 g2 => HNo.out j g1 (by omega))
      clear hkk H0 H1 HNo HPL
      obtain ⟨q1, q2, q3, q4⟩ := HL.out.cells
      go_wp2
      refine bodyPost_ret (v := .tuple #[.agg #[(.slice none 0 0), (.slice none 0 0)], .int .i64 20]) (by simp [results, Tryd.results12, go_sem, q1, q2]) rfl ?_
      exact ⟨_, _, by rw [HE.out]; rfl, by rw [HE.out]; exact World.ownsRow_nil _ _ _ _, by rw [HE.out]; exact World.ownsRow_nil _ _ _ _, HB.out⟩
end Go.Proofs.YtjgohajlabdloaaDoor
