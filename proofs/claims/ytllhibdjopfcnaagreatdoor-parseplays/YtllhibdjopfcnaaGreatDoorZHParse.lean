/-
  Whether the connection ends, as the code tells it.
-/
import Derived.Test.YtllhibdjopfcnaaGreatDoorZHBody
import Derived.Test.YtllhibdjopfcnaaGreatDoorZForm
namespace Go.Proofs.YtllhibdjopfcnaaGreatDoor
open Go.RowKit
set_option linter.unusedVariables false

theorem lines_few {n : Nat} : ∀ (f k : Nat) (oh : Option HeadL) (l : List UInt8), (∀ h, oh = some h → h.2.2.2.length ≤ 32) → (lines n f oh k l).1.2.2.2.length ≤ 32
  | 0, k, oh, l, h => by simp [lines, hz]
  | f + 1, k, oh, l, h => by
    by_cases ho : outL (cutE l).1 (cutE l).2.2 = 0
    · rw [lines_at ho]
      cases oh with
      | none =>
        simp only
        split
        · simp [hz]
        · exact lines_few f _ _ _ (fun h' e => by cases e; rw [reqL_fields]; simp)
      | some hd =>
        have h32 := h hd rfl
        simp only
        split
        · split
          · exact h32
          · simp [hz]
        · split
          · simp [hz]
          · rename_i h1
            split
            · simp [hz]
            · exact lines_few f _ _ _ (fun h' e => by cases e; simp; omega)
    · rw [lines_bad ho]; simp [hz]

set_option maxRecDepth 20000 in
set_option maxHeartbeats 4000000 in
theorem parse_any (L : List UInt8) (w : World) (hM : ML w) (hs : L.length ≤ 9223372036854775807) :
    Calls Tryz.prog 36 #[.string ⟨L.toArray⟩] w fun e w' => ∃ v, e = .returned (.tuple #[.agg #[strV (parseL L).1.1, strV (parseL L).1.2.1, .int .i64 (parseL L).1.2.2.1, v], .int .i64 (parseL L).2.1, .int .i64 ((parseL L).2.2 : Int)]) ∧ OwnsP w' w.heap.size v (parseL L).1.2.2.2 ∧ Below w.heap.size w w' := by
  obtain ⟨T, hT⟩ : ∃ T, T = parseL L := ⟨_, rfl⟩
  rw [← hT]
  unfold parseL at hT
  obtain ⟨s, hse⟩ : ∃ s : ByteArray, s = ⟨L.toArray⟩ := ⟨_, rfl⟩
  have hsz : s.size = L.length := by rw [hse, size_list]
  have hH0 : HeadAt (w.alloc (.cells #[.string ⟨#[]⟩, .string ⟨#[]⟩, .int .i64 0, .slice none 0 0] 34)) w.heap.size (.string ⟨#[]⟩) (.string ⟨#[]⟩) (.int .i64 0) (.slice none 0 0) := HeadAt.new w _ _ _ _
  have hB0 := below_alloc w (.cells #[.string ⟨#[]⟩, .string ⟨#[]⟩, .int .i64 0, .slice none 0 0] 34)
  have hM0 := hM.below hB0 hM.lt
  have hgl := hM.lt
  by_cases hlong : 4096 < L.length
  · have hl' : (4096 : Int) < (s.size : Int) := by omega
    rw [if_pos hlong] at hT
    have HE := hid hT
    rw [← hse]
    have HB := hid hB0
    obtain ⟨y0, y1, y2, y3, _, _, _, _⟩ := hH0.cells
    clear hT hse hsz hM hM0 hH0 hB0
    go_enter Tryz.func36, Tryz.ntmps36
    go_wp2
    refine bodyPost_ret (v := .tuple #[.agg #[.string ⟨#[]⟩, .string ⟨#[]⟩, .int .i64 0, .slice none 0 0], .int .i64 431, .int .i64 0]) (by simp [results, Tryz.results36, go_sem, y0, y1, y2, y3]) rfl ?_
    rw [HE.out]
    exact ⟨_, rfl, OwnsP.nil _ _, HB.out⟩
  have hl' : ¬ (4096 : Int) < (s.size : Int) := by omega
  rw [if_neg hlong] at hT
  have hTL := takeLines_any L w.heap.size _ hH0 hM0 hgl (by omega)
  have hfew := lines_few (n := L.length) (L.length + 1) 0 none L (fun h e => by cases e)
  obtain ⟨R, hR⟩ : ∃ R, R = lines L.length (L.length + 1) none 0 L := ⟨_, rfl⟩
  rw [← hR] at hT hfew
  have HR := hid hR
  have HB0 := hid hB0
  obtain ⟨w0, hw0⟩ : ∃ w0, w0 = w.alloc (.cells #[.string ⟨#[]⟩, .string ⟨#[]⟩, .int .i64 0, .slice none 0 0] 34) := ⟨_, rfl⟩
  have hsz0 : w0.heap.size = w.heap.size + 1 := by rw [hw0]; simp
  rw [← hw0, ← hse] at hTL
  rw [← hw0] at HB0
  rw [← hse]
  have HW0 := hid hw0
  clear hM0 hH0 hB0 hse hsz hR hw0 hlong hM
  by_cases hr0 : R.2.1 = 0
  · rw [if_neg (by simp [hr0])] at hT
    have hr0' : (R.2.1 == 0) = true := by rw [beq_iff_eq]; exact hr0
    cases hho : hostOk R.1 with
    | false =>
      rw [hho, if_neg (by simp)] at hT
      have HE := hid hT
      have HHo := hid hho
      have HR0 := hid hr0
      clear hT hho hr0
      go_enter Tryz.func36, Tryz.ntmps36
      go_wp2_with fail
      rw [← HW0.out]
      refine hTL.mono ?_
      clear hTL
      rintro e w1 ⟨R1, hR1, rfl, hK, a, b, c, v, hh, hok⟩
      rw [← HR.out] at hR1
      subst hR1
      have HB := hid (HB0.out.trans (hK.below (by omega)))
      have HH := hid hh
      have hsz1 := hK.size
      clear hK hh HW0 HB0
      obtain ⟨rfl, rfl, rfl, hown⟩ := hok HR0.out
      have hHF := hostFits_any (strV R1.1.1) (strV R1.1.2.1) v R1.1.2.2.1 R1.1.2.2.2 w1 hown.sees (by omega)
      rw [hostsF_eq, HHo.out] at hHF
      have HOw := hid hown
      obtain ⟨x0, x1, x2, x3, _, _, _, _⟩ := HH.out.cells
      clear hok hown
      go_wp2_with fail
      refine hHF.mono ?_
      clear hHF
      rintro e w2 ⟨rfl, hB2⟩
      have HB := hid (HB.out.trans (hB2.mono HB.out.size))
      have HH := hid (HH.out.below hB2 HH.out.lt)
      have HOw := hid (HOw.out.below hB2)
      clear hB2
      obtain ⟨q0, q1, q2, q3, z0, z1, z2, z3⟩ := HH.out.cells
      have HF0 := hid (HH.out.store0 (x := .string ⟨#[]⟩))
      have HF1 := hid (HF0.out.store1 (x := .string ⟨#[]⟩))
      have HF2 := hid (HF1.out.store2 (x := .int .i64 0))
      have HF := hid (HF2.out.store3 (x := .slice none 0 0))
      have HKF : Hid (Below w.heap.size w ((((w2.setCell ⟨w.heap.size, 0, none⟩ (.string ⟨#[]⟩)).setCell ⟨w.heap.size, 1, none⟩ (.string ⟨#[]⟩)).setCell ⟨w.heap.size, 2, none⟩ (.int .i64 0)).setCell ⟨w.heap.size, 3, none⟩ (.slice none 0 0))) := by
        unfold Hid
        exact (((HB.out.setCell (p := ⟨w.heap.size, 0, none⟩) (by simp) _).setCell (p := ⟨w.heap.size, 1, none⟩) (by simp) _).setCell (p := ⟨w.heap.size, 2, none⟩) (by simp) _).setCell (p := ⟨w.heap.size, 3, none⟩) (by simp) _
      go_wp2
      obtain ⟨y0, y1, y2, y3, _, _, _, _⟩ := HF.out.cells
      refine bodyPost_ret (v := .tuple #[.agg #[.string ⟨#[]⟩, .string ⟨#[]⟩, .int .i64 0, .slice none 0 0], .int .i64 400, .int .i64 0]) (by simp [results, Tryz.results36, go_sem, y0, y1, y2, y3]) rfl ?_
      rw [HE.out]
      exact ⟨_, rfl, OwnsP.nil _ _, HKF.out⟩
    | true =>
      rw [hho, if_pos rfl] at hT
      have HE := hid hT
      have HHo := hid hho
      have HR0 := hid hr0
      clear hT hho hr0
      go_enter Tryz.func36, Tryz.ntmps36
      go_wp2_with fail
      rw [← HW0.out]
      refine hTL.mono ?_
      clear hTL
      rintro e w1 ⟨R1, hR1, rfl, hK, a, b, c, v, hh, hok⟩
      rw [← HR.out] at hR1
      subst hR1
      have HB := hid (HB0.out.trans (hK.below (by omega)))
      have HH := hid hh
      have hsz1 := hK.size
      clear hK hh HW0 HB0
      obtain ⟨rfl, rfl, rfl, hown⟩ := hok HR0.out
      have hHF := hostFits_any (strV R1.1.1) (strV R1.1.2.1) v R1.1.2.2.1 R1.1.2.2.2 w1 hown.sees (by omega)
      rw [hostsF_eq, HHo.out] at hHF
      have HOw := hid hown
      obtain ⟨x0, x1, x2, x3, _, _, _, _⟩ := HH.out.cells
      clear hok hown
      go_wp2_with fail
      refine hHF.mono ?_
      clear hHF
      rintro e w2 ⟨rfl, hB2⟩
      have HB := hid (HB.out.trans (hB2.mono HB.out.size))
      have HH := hid (HH.out.below hB2 HH.out.lt)
      have HOw := hid (HOw.out.below hB2)
      clear hB2
      have HWF : Hid (OwnsP ((((w2.setCell ⟨w.heap.size, 0, none⟩ (strV R1.1.1)).setCell ⟨w.heap.size, 1, none⟩ (strV R1.1.2.1)).setCell ⟨w.heap.size, 2, none⟩ (.int .i64 R1.1.2.2.1)).setCell ⟨w.heap.size, 3, none⟩ v) w.heap.size v R1.1.2.2.2) := by
        unfold Hid
        have hb : w.heap.size < w0.heap.size := by omega
        refine OwnsP.le (base := w0.heap.size) ?_ (by omega)
        exact ownsRow_setCell_below (ownsRow_setCell_below (ownsRow_setCell_below (ownsRow_setCell_below (a := ⟨w.heap.size, 0, none⟩) HOw.out hb _) (a := ⟨w.heap.size, 1, none⟩) hb _) (a := ⟨w.heap.size, 2, none⟩) hb _) (a := ⟨w.heap.size, 3, none⟩) hb _
      obtain ⟨q0, q1, q2, q3, z0, z1, z2, z3⟩ := HH.out.cells
      have HF0 := hid (HH.out.store0 (x := strV R1.1.1))
      have HF1 := hid (HF0.out.store1 (x := strV R1.1.2.1))
      have HF2 := hid (HF1.out.store2 (x := .int .i64 R1.1.2.2.1))
      have HF := hid (HF2.out.store3 (x := v))
      have HKF : Hid (Below w.heap.size w ((((w2.setCell ⟨w.heap.size, 0, none⟩ (strV R1.1.1)).setCell ⟨w.heap.size, 1, none⟩ (strV R1.1.2.1)).setCell ⟨w.heap.size, 2, none⟩ (.int .i64 R1.1.2.2.1)).setCell ⟨w.heap.size, 3, none⟩ (v))) := by
        unfold Hid
        exact (((HB.out.setCell (p := ⟨w.heap.size, 0, none⟩) (by simp) _).setCell (p := ⟨w.heap.size, 1, none⟩) (by simp) _).setCell (p := ⟨w.heap.size, 2, none⟩) (by simp) _).setCell (p := ⟨w.heap.size, 3, none⟩) (by simp) _
      unfold strV at q0 q1
      obtain ⟨ao, cap, hsh⟩ := HOw.out.shape
      subst hsh
      go_wp2
      obtain ⟨y0, y1, y2, y3, _, _, _, _⟩ := HF.out.cells
      unfold strV at y0 y1 y2 y3
      refine bodyPost_ret (v := .tuple #[.agg #[strV R1.1.1, strV R1.1.2.1, .int .i64 R1.1.2.2.1, .slice ao R1.1.2.2.2.length cap], .int .i64 0, .int .i64 0]) (by simp [results, Tryz.results36, go_sem, y0, y1, y2, y3, strV]) rfl ?_
      rw [HE.out]
      exact ⟨_, rfl, HWF.out, HKF.out⟩
  · rw [if_pos hr0] at hT
    have hr0' : (R.2.1 == 0) = false := by rw [beq_eq_false_iff_ne]; exact hr0
    have HE := hid hT
    clear hT hr0
    go_enter Tryz.func36, Tryz.ntmps36
    go_wp2_with fail
    rw [← HW0.out]
    refine hTL.mono ?_
    clear hTL
    rintro e w1 ⟨R1, hR1, rfl, hK, a, b, c, v, hh, hok⟩
    rw [← HR.out] at hR1
    subst hR1
    have HB := hid (HB0.out.trans (hK.below (by omega)))
    have HH := hid hh
    have hsz1 := hK.size
    clear hK hh HW0 HB0
    clear hok
    obtain ⟨q0, q1, q2, q3, z0, z1, z2, z3⟩ := HH.out.cells
    have HF0 := hid (HH.out.store0 (x := .string ⟨#[]⟩))
    have HF1 := hid (HF0.out.store1 (x := .string ⟨#[]⟩))
    have HF2 := hid (HF1.out.store2 (x := .int .i64 0))
    have HF := hid (HF2.out.store3 (x := .slice none 0 0))
    have HKF : Hid (Below w.heap.size w ((((w1.setCell ⟨w.heap.size, 0, none⟩ (.string ⟨#[]⟩)).setCell ⟨w.heap.size, 1, none⟩ (.string ⟨#[]⟩)).setCell ⟨w.heap.size, 2, none⟩ (.int .i64 0)).setCell ⟨w.heap.size, 3, none⟩ (.slice none 0 0))) := by
      unfold Hid
      exact (((HB.out.setCell (p := ⟨w.heap.size, 0, none⟩) (by simp) _).setCell (p := ⟨w.heap.size, 1, none⟩) (by simp) _).setCell (p := ⟨w.heap.size, 2, none⟩) (by simp) _).setCell (p := ⟨w.heap.size, 3, none⟩) (by simp) _
    go_wp2
    obtain ⟨y0, y1, y2, y3, _, _, _, _⟩ := HF.out.cells
    refine bodyPost_ret (v := .tuple #[.agg #[.string ⟨#[]⟩, .string ⟨#[]⟩, .int .i64 0, .slice none 0 0], .int .i64 R1.2.1, .int .i64 (R1.2.2 : Int)]) (by simp [results, Tryz.results36, go_sem, y0, y1, y2, y3]) rfl ?_
    rw [HE.out]
    exact ⟨_, rfl, OwnsP.nil _ _, HKF.out⟩
end Go.Proofs.YtllhibdjopfcnaaGreatDoor

namespace Go.Proofs.YtllhibdjopfcnaaGreatDoor
open Go.RowKit
set_option linter.unusedVariables false

theorem take_cut {c : UInt8} {l : List UInt8} {k : Nat} (hk : k ≤ l.length) (hno : ∀ j, j < k → l.getD j 0 ≠ c) : c ∉ l.take k := by
  intro h
  obtain ⟨i, hi, he⟩ := List.getElem_of_mem h
  rw [List.length_take] at hi
  have hil : i < l.length := by omega
  refine hno i (by omega) ?_
  rw [List.getElem_take] at he
  simp [List.getD, hil, he]
theorem getD_str (s : ByteArray) (k : Nat) (h : k < s.size) : s.data.toList.getD k 0 = s[k] := by
  have hl : k < s.data.toList.length := by rw [len_str]; exact h
  simp only [List.getD, List.getElem?_eq_getElem hl, Option.getD_some]
  rfl
theorem extract_take (l : List UInt8) (k : Nat) : (⟨l.toArray⟩ : ByteArray).extract 0 k = ⟨(l.take k).toArray⟩ := by
  rw [extract_list]; simp
theorem extract_from (l : List UInt8) (k n : Nat) (hn : n = l.length) : (⟨l.toArray⟩ : ByteArray).extract k n = ⟨(l.drop k).toArray⟩ := by
  rw [extract_list, hn, List.take_of_length_le (by simp)]

end Go.Proofs.YtllhibdjopfcnaaGreatDoor

namespace Go.Proofs.YtllhibdjopfcnaaGreatDoor
open Go.RowKit
set_option linter.unusedVariables false

theorem split_list (c : UInt8) : ∀ l : List UInt8, Lib.splitB ⟨#[c]⟩ 0 (Lib.count l [c]) ⟨l.toArray⟩ = (splitC c l).map fun x => (⟨x.toArray⟩ : ByteArray)
  | [] => by
    rw [Lib.count_miss (by simp [Lib.index])]
    rfl
  | b :: l => by
    have ih := split_list c l
    have hex : ∀ k, (⟨(b :: l).toArray⟩ : ByteArray).extract (k + 1) (⟨(b :: l).toArray⟩ : ByteArray).size = ⟨(l.drop k).toArray⟩ := by
      intro k
      rw [size_list, extract_from _ _ _ rfl]
      rfl
    have hix2 : ∀ s : List UInt8, Lib.indexB ⟨s.toArray⟩ ⟨#[c]⟩ = Lib.index s [c] := fun s => rfl
    by_cases h : b = c
    · subst h
      have hix : Lib.index (b :: l) [b] = ((0 : Nat) : Int) := by rw [Lib.index]; simp [List.isPrefixOf]
      rw [Lib.count_cons_eq, Nat.add_comm, Lib.splitB_hit _ _ _ _ 0 (by rw [hix2, hix]), show 0 + (⟨#[b]⟩ : ByteArray).size = 0 + 1 from rfl, hex 0, List.drop_zero, ih]
      simp [splitC]
      rfl
    · rw [Lib.count_cons_ne b c l h]
      have hp : ([c] : List UInt8).isPrefixOf (b :: l) = false := by simp [List.isPrefixOf, Ne.symm h]
      have hix : Lib.index (b :: l) [c] = if Lib.index l [c] == -1 then -1 else Lib.index l [c] + 1 := by rw [Lib.index, hp]; simp
      have hsc : splitC c (b :: l) = (b :: (splitC c l).headD []) :: (splitC c l).tail := by rw [splitC, if_neg h]
      by_cases hm : Lib.index l [c] = -1
      · rw [Lib.splitB_miss _ _ _ _ (by rw [hix2, hix, if_pos (beq_iff_eq.2 hm)])]
        rw [Lib.splitB_miss _ _ _ _ (by rw [hix2, hm])] at ih
        cases hs : splitC c l with
        | nil => exact absurd hs (splitC_ne c l)
        | cons x t =>
          rw [hs] at ih
          simp only [List.map_cons, List.cons.injEq] at ih
          obtain ⟨e1, e2⟩ := ih
          have e1' : l = x := by have := congrArg (fun x : ByteArray => x.data.toList) e1; simpa using this
          have e2' : t = [] := by simpa using e2.symm
          rw [hsc, hs, e2', ← e1']
          rfl
      · have hge := Lib.index_ge l [c]
        obtain ⟨j, hj⟩ : ∃ j : Nat, Lib.index l [c] = j := ⟨(Lib.index l [c]).toNat, by omega⟩
        have hix' : Lib.index (b :: l) [c] = ((j + 1 : Nat) : Int) := by rw [hix, if_neg (fun e => hm (beq_iff_eq.1 e)), hj]; omega
        have hct := Lib.count_hit (s := l) (sub := [c]) (by simp) hj
        obtain ⟨k, hk⟩ : ∃ k, Lib.count l [c] = k + 1 := ⟨_, by rw [hct, Nat.add_comm]⟩
        rw [hk] at ih ⊢
        rw [Lib.splitB_hit _ _ _ _ (j + 1) (by rw [hix2, hix']), show j + 1 + (⟨#[c]⟩ : ByteArray).size = (j + 1) + 1 from rfl, hex (j + 1)]
        rw [Lib.splitB_hit _ _ _ _ j (by rw [hix2, hj]), show j + (⟨#[c]⟩ : ByteArray).size = j + 1 from rfl, size_list, extract_from _ _ _ rfl] at ih
        cases hs : splitC c l with
        | nil => exact absurd hs (splitC_ne c l)
        | cons x t =>
          rw [hs] at ih
          simp only [List.map_cons, List.cons.injEq] at ih
          obtain ⟨e1, e2⟩ := ih
          rw [extract_take] at e1
          have e1' : l.take j = x := by have := congrArg (fun x : ByteArray => x.data.toList) e1; simpa using this
          rw [hsc, hs, e2, extract_take]
          simp [← e1']
theorem splitC_len_le (c : UInt8) : ∀ (l : List UInt8), ∀ x ∈ splitC c l, x.length ≤ l.length
  | [], x, h => by simp [splitC] at h; subst h; simp
  | b :: r, x, h => by
    have ih := splitC_len_le c r
    have hne := splitC_ne c r
    rw [splitC] at h
    split at h
    · rcases List.mem_cons.1 h with rfl | h
      · simp
      · have := ih x h; simp; omega
    · cases hs : splitC c r with
      | nil => exact absurd hs hne
      | cons y t =>
        rw [hs] at h ih
        simp only [List.headD_cons, List.tail_cons] at h
        rcases List.mem_cons.1 h with rfl | h
        · have := ih y (by simp); simp; omega
        · have := ih x (by simp [h]); simp; omega
theorem splitC_few (c : UInt8) : ∀ (l : List UInt8), (splitC c l).length ≤ l.length + 1
  | [] => by simp [splitC]
  | b :: r => by
    have ih := splitC_few c r
    have hne := splitC_ne c r
    rw [splitC]
    split
    · simp; omega
    · cases hs : splitC c r with
      | nil => exact absurd hs hne
      | cons y t => rw [hs] at ih; simp at ih ⊢; omega
/-- A word, as it counts. -/
def wdB (w : List UInt8) : List UInt8 := small (trimB w)
theorem wordsL_take {vs : List (List UInt8)} {k : Nat} (h : k < vs.length) : wordsL (vs.take (k + 1)) = wordsL (vs.take k) ++ (splitC 44 vs[k]).map wdB := by
  unfold wordsL
  rw [List.take_succ_eq_append_getElem h, List.flatMap_append]
  simp [wdB]
theorem wordsL_more {vs : List (List UInt8)} {k : Nat} (h : k < vs.length) : ∃ r, wordsL vs = wordsL (vs.take k) ++ (splitC 44 vs[k]).map wdB ++ r := by
  refine ⟨wordsL (vs.drop (k + 1)), ?_⟩
  rw [← wordsL_take h]
  unfold wordsL
  rw [← List.flatMap_append, List.take_append_drop]
theorem closesL_F (h : HeadL) : closesL h = ((wordsL (valsF h.2.2.2 cnS)).contains closeS || (decide (h.2.2.1 = 0) && !(wordsL (valsF h.2.2.2 cnS)).contains keepS)) := by
  unfold closesL
  rw [valsL_F, show small cnS = cnS by decide]
theorem map_take_next {l : List (List UInt8)} {j : Nat} (h : j < l.length) : (l.take (j + 1)).map wdB = (l.take j).map wdB ++ [wdB l[j]] := by
  rw [List.take_succ_eq_append_getElem h, List.map_append]
  rfl
theorem map_hit {l : List (List UInt8)} {j : Nat} (h : j < l.length) : wdB l[j] ∈ l.map wdB := List.mem_map.2 ⟨_, List.getElem_mem _, rfl⟩
end Go.Proofs.YtllhibdjopfcnaaGreatDoor

namespace Go.Proofs.YtllhibdjopfcnaaGreatDoor
open Go.RowKit
set_option linter.unusedVariables false

theorem count_split (x : List UInt8) : Lib.countB ⟨x.toArray⟩ ⟨#[44]⟩ + 1 = (splitC 44 x).length := by
  have h1 := Lib.splitB_all ⟨#[44]⟩ (by decide) 0 _ ⟨x.toArray⟩ rfl
  have h2 := split_list 44 x
  have h3 : Lib.countB ⟨x.toArray⟩ ⟨#[44]⟩ = Lib.count x [44] := rfl
  rw [← h1, h3, h2, List.length_map]
theorem split_any (x : List UInt8) (w : World) (hM : ML w) (hx : x.length ≤ 1048576) :
    Calls Tryz.prog 59 #[.string ⟨x.toArray⟩, .string ⟨#[44]⟩] w fun e w' => e = .returned (.slice (some ⟨w.heap.size, 0, none⟩) (splitC 44 x).length (splitC 44 x).length) ∧ (∀ j, (h : j < (splitC 44 x).length) → w'.cell? ⟨w.heap.size, j, none⟩ = some (strV (splitC 44 x)[j])) ∧ Below w.heap.size w w' ∧ w.heap.size < w'.heap.size := by
  obtain ⟨m, hm⟩ := hM
  refine (Tryz.strings_Split ⟨x.toArray⟩ ⟨#[44]⟩ m w (by rw [size_list]; omega) hm (by decide)).mono ?_
  rintro e w' ⟨rfl, rfl⟩
  rw [count_split]
  have h2 := split_list 44 x
  have h3 : Lib.countB ⟨x.toArray⟩ ⟨#[44]⟩ = Lib.count x [44] := rfl
  rw [h3, h2]
  refine ⟨rfl, ?_, below_alloc w _, by simp⟩
  intro j hj
  rw [World.cell?, heap_alloc_new]
  simp [hj, strV]
theorem trim_any (x : List UInt8) (w : World) (hx : x.length ≤ 9223372036854775807) :
    Calls Tryz.prog 61 #[.string ⟨x.toArray⟩, .string ⟨#[32, 9]⟩] w fun e w' => e = .returned (.string ⟨(trimB x).toArray⟩) ∧ Below w.heap.size w w' := Tryz.strings_Trim_blanks ⟨x.toArray⟩ w (by rw [size_list]; exact hx)
theorem dropWhile_le (p : UInt8 → Bool) : ∀ l : List UInt8, (l.dropWhile p).length ≤ l.length
  | [] => by simp
  | b :: r => by
    have := dropWhile_le p r
    rw [List.dropWhile_cons]
    split <;> simp <;> omega
theorem trimB_le (x : List UInt8) : (trimB x).length ≤ x.length := by
  have h1 : (trimB x).length ≤ (Lib.trimRightS x [32, 9]).length := dropWhile_le _ _
  have h2 : (Lib.trimRightS x [32, 9]).length ≤ x.length := by
    unfold Lib.trimRightS
    rw [List.length_reverse]
    refine Nat.le_trans (dropWhile_le _ _) ?_
    rw [List.length_reverse]
    exact Nat.le_refl _
  omega
theorem contains_app {l r : List (List UInt8)} {x : List UInt8} : (l ++ r).contains x = (l.contains x || r.contains x) := by
  rw [Bool.eq_iff_iff]
  simp
theorem contains_one {x y : List UInt8} : [y].contains x = (y == x) := by
  rw [Bool.eq_iff_iff, List.contains_cons, List.contains_nil, Bool.or_false, beq_iff_eq, beq_iff_eq]
  exact eq_comm
set_option maxRecDepth 20000 in
set_option maxHeartbeats 4000000 in
theorem closes_any (h : HeadL) (a b v : Value) (w : World) (hM : ML w) (hS : SeesP w v h.2.2.2) (hl : h.2.2.2.length ≤ 1048576) (hb : ∀ p ∈ h.2.2.2, p.2.length ≤ 1048576) :
    Calls Tryz.prog 39 #[.agg #[a, b, .int .i64 h.2.2.1, v]] w fun e w' => e = .returned (.bool (closesL h)) ∧ Below w.heap.size w w' := by
  rw [closesL_F]
  obtain ⟨fs, hfs⟩ : ∃ fs, fs = h.2.2.2 := ⟨_, rfl⟩
  obtain ⟨m, hm⟩ : ∃ m, m = h.2.2.1 := ⟨_, rfl⟩
  rw [← hfs] at hS hl hb
  rw [← hfs, ← hm]
  clear hfs hm
  have hV := values_any a b (.int .i64 m) v fs cnS (w.alloc (.cells #[a, b, .int .i64 m, v] 34)) (hS.below (below_alloc w _)) hl (by decide)
  rw [show small cnS = cnS by decide] at hV
  have hH0 := HeadAt.new w a b (.int .i64 m) v
  have hB0 := below_alloc w (.cells #[a, b, .int .i64 m, v] 34)
  obtain ⟨w0, hw0⟩ : ∃ w0, w0 = w.alloc (.cells #[a, b, .int .i64 m, v] 34) := ⟨_, rfl⟩
  have hsz0 : w0.heap.size = w.heap.size + 1 := by rw [hw0]; simp
  rw [← hw0] at hV hH0 hB0
  have HW0 := hid hw0
  have HM0 := hid (hM.below hB0 hM.lt)
  have HB0 := hid hB0
  have HH0 := hid hH0
  have hb1 := valsF_bound (nm := cnS) hb
  have hl1 : (valsF fs cnS).length ≤ fs.length := by unfold valsF; rw [List.length_map]; exact List.length_filter_le _ _
  obtain ⟨ys, hys⟩ : ∃ ys, ys = valsF fs cnS := ⟨_, rfl⟩
  rw [← hys] at hV hb1 hl1 ⊢
  rw [show (⟨cnS.toArray⟩ : ByteArray) = ⟨#[99, 111, 110, 110, 101, 99, 116, 105, 111, 110]⟩ from rfl] at hV
  obtain ⟨V, hVe⟩ : ∃ V, V = ((wordsL ys).contains closeS || (decide (m = 0) && !(wordsL ys).contains keepS)) := ⟨_, rfl⟩
  rw [← hVe]
  have HE := hid hVe
  have HBd := hid hb1
  have hgl := hM.lt
  obtain ⟨z0, z1, z2, z3, _, _, _, _⟩ := hH0.cells
  obtain ⟨K0, hK0⟩ : ∃ K0, K0 = (m != 0) := ⟨_, rfl⟩
  have hK0' := hK0.symm
  have HK := hid hK0
  clear hw0 hH0 hys hS hB0 hb hb1 hVe hM hK0
  go_enter Tryz.func39, Tryz.ntmps39
  go_wp2_with (first | rw [← HW0.out] | fail)
  refine hV.mono ?_
  clear hV
  rintro e w1 ⟨v1, rfl, hO1, hB1⟩
  obtain ⟨ao1, cap1, rfl⟩ := hO1.shape
  have HM1 := hid (HM0.out.below hB1 HM0.out.lt)
  have HB1 := hid (HB0.out.trans (hB1.mono HB0.out.size))
  have HS1 := hid hO1.sees
  clear hB1 hO1 HM0 HB0 HH0
  go_wp2_with fail
  go_loopw [3, 14] (fun kp i wr => ∃ (k : Nat), k ≤ ys.length ∧ i = .int .i64 (k : Int) ∧ kp = .bool (K0 || (wordsL (ys.take k)).contains keepS) ∧ (wordsL (ys.take k)).contains closeS = false ∧ Below w1.heap.size w1 wr) (fun _ i _ => ys.length - (intOf i).toNat)
  case atStart => exact ⟨0, Nat.zero_le _, rfl, by simp [wordsL], by simp [wordsL], Below.refl _ _⟩
  case round =>
    obtain ⟨k, hk, rfl, rfl, hcl, hBr⟩ := hrel
    have HBr := hid hBr
    have HBw := hid (HB1.out.trans (hBr.mono HB1.out.size))
    by_cases hlt : k < ys.length
    · have hlt' : (k : Int) < (ys.length : Int) := by omega
      obtain ⟨bb, off, ao, cap, hv, hcap, _, hao, hcell⟩ := HS1.out
      obtain ⟨rfl, rfl⟩ : ao1 = ao ∧ cap1 = cap := by simpa using hv
      obtain rfl := hao (by intro h; rw [h] at hlt; simp at hlt)
      have d1 := hcell k hlt
      have d1 := (hBr.cell (World.block_lt_of_cell? w1 _ d1)).trans d1
      unfold strV at d1
      have hxl := HBd.out _ (List.getElem_mem hlt)
      have hwt := wordsL_take hlt
      obtain ⟨rr, hwm⟩ := wordsL_more hlt
      obtain ⟨x, hx⟩ : ∃ x, x = ys[k] := ⟨_, rfl⟩
      rw [← hx] at d1 hxl hwt hwm
      have HMr := hid (HM1.out.below hBr HM1.out.lt)
      have hSp := split_any x wr HMr.out hxl
      have hWl := splitC_len_le 44 x
      have hWf := splitC_few 44 x
      obtain ⟨W, hW⟩ : ∃ W, W = splitC 44 x := ⟨_, rfl⟩
      rw [← hW] at hSp hWl hWf hwt hwm
      obtain ⟨S, hS⟩ : ∃ S, S = wordsL (ys.take k) := ⟨_, rfl⟩
      rw [← hS] at hcl hwt hwm ⊢
      have HWT : Hid (∀ z, (wordsL (ys.take (k + 1))).contains z = (S.contains z || (W.map wdB).contains z)) := by
        intro z
        rw [hwt, contains_app]
      have HWM : Hid (closeS ∈ W.map wdB → V = true) := by
        intro hm
        rw [HE.out, hwm]
        simp [hm]
      obtain ⟨K1, hK1⟩ : ∃ K1, K1 = (K0 || S.contains keepS) := ⟨_, rfl⟩
      rw [← hK1]
      have HK1 := hid hK1
      have HCl := hid hcl
      have HWL := hid hWl
      clear hx hW hS hcl hwt hwm hK1 hv hao hcell hBr hWl
      go_wp2_with fail
      refine hSp.mono ?_
      clear hSp
      rintro e w2 ⟨rfl, hW2, hB2, hsz2⟩
      have HW2 := hid hW2
      have HB2 := hid (HBw.out.trans (hB2.mono HBw.out.size))
      have HBr2 := hid (HBr.out.trans (hB2.mono HBr.out.size))
      clear hW2 hB2
      go_wp2_with fail
      go_loopw [3, 21] (fun kp i wq => ∃ (j : Nat), j ≤ W.length ∧ i = .int .i64 (j : Int) ∧ kp = .bool (K1 || ((W.take j).map wdB).contains keepS) ∧ ((W.take j).map wdB).contains closeS = false ∧ Below w2.heap.size w2 wq) (fun _ i _ => W.length - (intOf i).toNat)
      case atStart => exact ⟨0, Nat.zero_le _, rfl, by simp, by simp, Below.refl _ _⟩
      case round =>
        obtain ⟨j, hj, rfl, rfl, hcl, hBq⟩ := hrel
        have HBq := hid hBq
        by_cases hjl : j < W.length
        · have hjl' : (j : Int) < (W.length : Int) := by omega
          have d2 := HW2.out j hjl
          have d2 := (hBq.cell (World.block_lt_of_cell? w2 _ d2)).trans d2
          unfold strV at d2
          have hyl := HWL.out _ (List.getElem_mem hjl)
          have hnx := map_take_next hjl
          have hht := map_hit hjl
          obtain ⟨y, hy⟩ : ∃ y, y = W[j] := ⟨_, rfl⟩
          rw [← hy] at d2 hyl hnx hht
          have hTr := trim_any y wr (by omega)
          have htl := trimB_le y
          obtain ⟨u, hu⟩ : ∃ u, u = trimB y := ⟨_, rfl⟩
          have hwd : wdB y = small u := by rw [hu]; rfl
          rw [← hu] at hTr htl
          rw [hwd] at hnx hht
          have HSm := hid (fun w3 => small_any u w3 (by omega))
          obtain ⟨q, hq⟩ : ∃ q, q = small u := ⟨_, rfl⟩
          rw [← hq] at hnx hht HSm
          obtain ⟨S2, hS2⟩ : ∃ S2, S2 = (W.take j).map wdB := ⟨_, rfl⟩
          rw [← hS2] at hcl hnx ⊢
          obtain ⟨K2, hK2⟩ : ∃ K2, K2 = (K1 || S2.contains keepS) := ⟨_, rfl⟩
          rw [← hK2]
          have HK2 := hid hK2
          clear hK2
          have HNX : Hid (∀ z, ((W.take (j + 1)).map wdB).contains z = (S2.contains z || (q == z))) := by
            intro z
            rw [hnx, contains_app, contains_one]
          have HHT := hid hht
          have HC2 := hid hcl
          clear hy hu hwd hq hS2 hcl hnx hht hBq
          go_wp2_with fail
          refine hTr.mono ?_
          clear hTr
          rintro e w3 ⟨rfl, hB3⟩
          have hSm := HSm.out w3
          have HB3 := hid (HBq.out.trans (hB3.mono HBq.out.size))
          clear hB3 HSm
          go_wp2_with fail
          refine hSm.mono ?_
          clear hSm
          rintro e w4 ⟨rfl, hB4⟩
          have HB4 := hid (HB3.out.trans (hB4.mono HB3.out.size))
          clear hB4
          obtain ⟨C1, hC1⟩ : ∃ C1, (q == [99, 108, 111, 115, 101]) = C1 := ⟨_, rfl⟩
          obtain ⟨C2, hC2⟩ : ∃ C2, (q == [107, 101, 101, 112, 45, 97, 108, 105, 118, 101]) = C2 := ⟨_, rfl⟩
          cases C1 with
          | true =>
            have HV : Hid (V = true) := hid (HWM.out (by have := beq_iff_eq.1 hC1; rw [show closeS = q from this.symm]; exact HHT.out))
            have HBz := hid (HB2.out.trans (HB4.out.mono HB2.out.size))
            go_wp2
            go_ret
            exact ⟨by rw [HV.out]; rfl, HBz.out⟩
          | false =>
            have HN1 : Hid (((W.take (j + 1)).map wdB).contains closeS = false) := by
              unfold Hid
              rw [HNX.out, HC2.out]
              exact hC1
            cases C2 with
            | true =>
              have HN2 : Hid ((K1 || ((W.take (j + 1)).map wdB).contains keepS) = true) := by
                unfold Hid
                rw [HNX.out]
                rw [show (q == keepS) = true from hC2]
                simp
              go_wp2
              go_roundw
              case rel => exact ⟨j + 1, by omega, by go_num, by rw [HN2.out], HN1.out, HB4.out⟩
              case measure => simp [intOf]; omega
            | false =>
              have HN2 : Hid ((K1 || ((W.take (j + 1)).map wdB).contains keepS) = K2) := by
                unfold Hid
                rw [HNX.out, HK2.out]
                rw [show (q == keepS) = false from hC2]
                simp
              go_wp2
              go_roundw
              case rel => exact ⟨j + 1, by omega, by go_num, by rw [HN2.out], HN1.out, HB4.out⟩
              case measure => simp [intOf]; omega
        · have hjl' : ¬ (j : Int) < (W.length : Int) := by omega
          rw [List.take_of_length_le (by omega)] at hcl ⊢
          have HN1 : Hid ((wordsL (ys.take (k + 1))).contains closeS = false) := by
            unfold Hid
            rw [HWT.out, HCl.out, hcl]
            rfl
          have HN2 : Hid ((K0 || (wordsL (ys.take (k + 1))).contains keepS) = (K1 || (W.map wdB).contains keepS)) := by
            unfold Hid
            rw [HWT.out, HK1.out, Bool.or_assoc]
          obtain ⟨K2, hK2⟩ : ∃ K2, K2 = (K1 || (W.map wdB).contains keepS) := ⟨_, rfl⟩
          rw [← hK2] at HN2 ⊢
          have HBz := hid (HBr2.out.trans (HBq.out.mono HBr2.out.size))
          clear hK2 hcl hBq
          go_wp2
          go_roundw
          case rel => exact ⟨k + 1, by omega, by go_num, by rw [HN2.out], HN1.out, HBz.out⟩
          case measure => simp [intOf]; omega
    · have hlt' : ¬ (k : Int) < (ys.length : Int) := by omega
      rw [List.take_of_length_le (by omega)] at hcl ⊢
      have HV : Hid (V = !(K0 || (wordsL ys).contains keepS)) := by
        unfold Hid
        rw [HE.out, hcl, HK.out]
        by_cases h0 : m = 0
        · subst h0; simp
        · simp [h0]
      obtain ⟨K2, hK2⟩ : ∃ K2, K2 = (K0 || (wordsL ys).contains keepS) := ⟨_, rfl⟩
      rw [← hK2] at HV ⊢
      clear hK2 hcl hBr
      go_wp2
      go_ret
      exact ⟨by rw [HV.out]; cases K2 <;> rfl, HBw.out⟩
end Go.Proofs.YtllhibdjopfcnaaGreatDoor
