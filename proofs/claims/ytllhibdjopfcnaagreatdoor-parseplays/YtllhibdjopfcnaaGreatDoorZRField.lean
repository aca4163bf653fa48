/-
  A field's line: the document's.
-/
import Derived.Test.YtllhibdjopfcnaaGreatDoorZRLeaf
import Derived.Test.YtllhibdjopfcnaaGreatDoorZRTarg
namespace Go.Proofs.YtllhibdjopfcnaaGreatDoor
open Go.RowKit
set_option linter.unusedVariables false

theorem cutC_first {c : UInt8} : ∀ {L : List UInt8} {k : Nat}, k ≤ L.length → (∀ j (hj : j < L.length), j < k → L[j] ≠ c) → (k = L.length ∨ ∃ hk : k < L.length, L[k] = c) →
    (k = L.length ∧ cutC c L = (L, [], false)) ∨ (k < L.length ∧ cutC c L = (L.take k, L.drop (k + 1), true)) := by
  intro L k hk hno h
  rcases h with h | ⟨h, he⟩
  · refine Or.inl ⟨h, cutC_none ?_⟩
    intro hm
    obtain ⟨j, hj, e⟩ := List.getElem_of_mem hm
    exact hno j hj (by omega) e
  · refine Or.inr ⟨h, ?_⟩
    have e : L = L.take k ++ c :: L.drop (k + 1) := by
      rw [← he, ← List.drop_eq_getElem_cons h, List.take_append_drop]
    have hn : c ∉ L.take k := by
      intro hm
      obtain ⟨j, hj, e⟩ := List.getElem_of_mem hm
      rw [List.length_take] at hj
      rw [List.getElem_take] at e
      exact hno j (by omega) (by omega) e
    conv => lhs; rw [e]
    exact cutC_app _ hn
theorem fieldL_cut {L : List UInt8} {n v : List UInt8} {ok : Bool} (h : cutC 58 L = (n, v, ok)) : fieldL L = if ok = true ∧ madeL isNm n = true ∧ (trimB v).all isVl = true then some (small n, trimB v) else none := by
  unfold fieldL
  rw [h]

set_option maxRecDepth 20000 in
set_option maxHeartbeats 4000000 in
theorem rfield_any (L : List UInt8) (w : World) (hs : L.length ≤ 4096) :
    Calls Tryz.prog 43 #[.string ⟨L.toArray⟩] w fun e w' => ∃ a b : List UInt8, e = .returned (.tuple #[.agg #[strV a, strV b], .bool (fieldL L).isSome]) ∧ (∀ p, fieldL L = some p → p = (a, b)) ∧ Below w.heap.size w w' := by
  obtain ⟨s, hse⟩ : ∃ s : ByteArray, s = ⟨L.toArray⟩ := ⟨_, rfl⟩
  have hsz : s.size = L.length := by rw [hse, size_list]
  have hgt : ∀ j (h : j < s.size) (h' : j < L.length), s[j] = L[j] := by subst hse; intro j h h'; rfl
  have hx1 : ∀ k, s.extract 0 k = ⟨(L.take k).toArray⟩ := by intro k; rw [hse, extract_take]
  have hx2 : ∀ k, s.extract k s.size = ⟨(L.drop k).toArray⟩ := by intro k; rw [hsz, hse, extract_from _ _ _ rfl]
  rw [← hse]
  obtain ⟨V, hV⟩ : ∃ V, V = fieldL L := ⟨_, rfl⟩
  rw [← hV]
  have HV := hid hV
  have HZ := hid hsz
  have HG := hid hgt
  have HX1 := hid hx1
  have HX2 := hid hx2
  have hP0 := PairAt.new w (.string ⟨#[]⟩) (.string ⟨#[]⟩)
  have hB0 := below_alloc w (.cells #[.string ⟨#[]⟩, .string ⟨#[]⟩] 73)
  obtain ⟨w0, hw0⟩ : ∃ w0, w0 = w.alloc (.cells #[.string ⟨#[]⟩, .string ⟨#[]⟩] 73) := ⟨_, rfl⟩
  rw [← hw0] at hP0 hB0
  have HP0 := hid hP0
  have HB0 := hid hB0
  have HW0 := hid hw0
  have hpl := hP0.lt
  clear hV hsz hgt hse hx1 hx2 hP0 hB0 hw0
  go_enter Tryz.func43, Tryz.ntmps43
  go_wp2_with fail
  rw [← HW0.out]
  go_loop [4] (fun i => ∃ (k : Nat), k ≤ L.length ∧ i = .int .i64 (k : Int) ∧ ∀ j (hj : j < L.length), j < k → L[j] ≠ 58) (fun i => L.length - (intOf i).toNat)
  case atStart => exact ⟨0, Nat.zero_le _, rfl, fun j hj h => by omega⟩
  case round =>
    obtain ⟨k, hk, rfl, hno⟩ := hrel
    have hsz := HZ.out
    have HNo := hid hno
    clear hno
    have hcut := fun h => cutC_first (c := 58) hk HNo.out h
    by_cases hlt : k < L.length
    · have hlt' : (k : Int) < (s.size : Int) := by omega
      have hk1 : k < s.size := by omega
      have i1 := index_byte s .i64 (k : Int) k rfl hk1
      rw [HG.out k hk1 hlt] at i1
      have HNx : Hid (L[k] ≠ 58 → ∀ j (hj : j < L.length), j < k + 1 → L[j] ≠ 58) := by
        unfold Hid
        intro h j hj hjk
        by_cases e : j = k
        · subst e; exact h
        · exact HNo.out j hj (by omega)
      have HCt := hid (fun h => hcut (Or.inr ⟨hlt, h⟩))
      obtain ⟨a, hae⟩ : ∃ a, a = L[k] := ⟨_, rfl⟩
      rw [← hae] at i1 HNx HCt
      clear hae hcut HNo
      by_cases h58 : a = 58
      · have f1 : (((a.toNat : Nat) : Int) != 58) = false := by subst h58; rfl
        have hkn : ((k : Int) == (s.size : Int)) = false := by rw [beq_eq_false_iff_ne]; omega
        have hks : (k : Int) ≤ (s.size : Int) := by omega
        have hks1 : (k : Int) + 1 ≤ (s.size : Int) := by omega
        have hc : cutC 58 L = (L.take k, L.drop (k + 1), true) := by
          rcases HCt.out h58 with ⟨h1, _⟩ | ⟨_, h2⟩
          · omega
          · exact h2
        have hV := HV.out.trans (fieldL_cut hc)
        have e1 := HX1.out k
        have e2 := HX2.out (k + 1)
        have l1 : (L.take k).length ≤ 4096 := by rw [List.length_take]; omega
        have l2 : (L.drop (k + 1)).length ≤ 4096 := by rw [List.length_drop]; omega
        obtain ⟨n, hn⟩ : ∃ n, n = L.take k := ⟨_, rfl⟩
        obtain ⟨v, hv⟩ : ∃ v, v = L.drop (k + 1) := ⟨_, rfl⟩
        rw [← hn] at e1 hV l1
        rw [← hv] at e2 hV l2
        have hNm := rname_any n w0 (by omega)
        have hTr := rtrim_any v w0 (by omega)
        have hSm := rsmall_any n w0 (by omega)
        have l3 := trimB_len v
        have hVi := fun w => rvisT_any (trimB v) w (by omega)
        have hTr' : Calls Tryz.prog 48 #[.string ⟨v.toArray⟩] w0 fun e w' => e = .returned (.string ⟨(trimB v).toArray⟩) ∧ w' = w0 := hTr
        obtain ⟨T, hT⟩ : ∃ T, T = trimB v := ⟨_, rfl⟩
        rw [← hT] at hTr' hVi hV l3
        have HE1 := hid e1
        have HE2 := hid e2
        clear hn hv e1 e2 hc HCt HNx hT hTr h58 hsz
        cases hm : madeL isNm n with
        | false =>
          rw [hm] at hNm
          have HE : Hid (V = none) := by unfold Hid; rw [hV, hm]; simp
          clear hV
          obtain ⟨q1, q2, q3, q4⟩ := HP0.out.cells
          have HF := hid ((HP0.out.store0 (u' := .string ⟨#[]⟩)).store1 (v' := .string ⟨#[]⟩))
          have HBF := hid ((HB0.out.setCell (p := ⟨w.heap.size, 0, none⟩) (by simp) (.string ⟨#[]⟩)).setCell (p := ⟨w.heap.size, 1, none⟩) (by simp) (.string ⟨#[]⟩))
          go_wp2_with fail
          rw [HE1.out]
          refine hNm.mono ?_
          clear hNm
          rintro e w1 ⟨rfl, hw1⟩
          subst hw1
          go_wp2
          obtain ⟨y1, y2, _, _⟩ := HF.out.cells
          refine bodyPost_ret (v := .tuple #[.agg #[.string ⟨#[]⟩, .string ⟨#[]⟩], .bool false]) (by simp [results, Tryz.results43, go_sem, y1, y2]) rfl ?_
          rw [HE.out]
          exact ⟨[], [], rfl, by simp, HBF.out⟩
        | true =>
          rw [hm] at hNm
          obtain ⟨R, hR⟩ : ∃ R, R = T.all isVl := ⟨_, rfl⟩
          rw [← hR] at hVi
          have HE : Hid (V = if R = true then some (small n, T) else none) := by unfold Hid; rw [hV, hm, hR]; simp
          clear hV hR
          go_wp2_with fail
          rw [HE1.out]
          refine hNm.mono ?_
          clear hNm
          rintro e w1 ⟨rfl, hw1⟩
          subst hw1
          go_wp2_with fail
          rw [HE2.out]
          refine hTr'.mono ?_
          clear hTr'
          rintro e w2 ⟨rfl, hw2⟩
          subst hw2
          go_wp2_with fail
          rw [HE1.out]
          refine hSm.mono ?_
          clear hSm
          rintro e w3 ⟨rfl, hB3⟩
          have HB3 := hid (HB0.out.trans (hB3.mono HB0.out.size))
          have HP3 := hid (HP0.out.below hB3 hpl)
          clear hB3
          obtain ⟨q1, q2, q3, q4⟩ := HP3.out.cells
          have HF := hid ((HP3.out.store0 (u' := .string ⟨(small n).toArray⟩)).store1 (v' := .string ⟨T.toArray⟩))
          have HBF := hid ((HB3.out.setCell (p := ⟨w.heap.size, 0, none⟩) (by simp) (.string ⟨(small n).toArray⟩)).setCell (p := ⟨w.heap.size, 1, none⟩) (by simp) (.string ⟨T.toArray⟩))
          go_wp2_with fail
          refine (hVi _).mono ?_
          clear hVi
          rintro e w4 ⟨rfl, hw4⟩
          subst hw4
          go_wp2
          obtain ⟨y1, y2, _, _⟩ := HF.out.cells
          refine bodyPost_ret (v := .tuple #[.agg #[.string ⟨(small n).toArray⟩, .string ⟨T.toArray⟩], .bool R]) (by simp [results, Tryz.results43, go_sem, y1, y2]) rfl ?_
          rw [HE.out]
          refine ⟨small n, T, ?_, fun p h => ?_, HBF.out⟩
          · cases R <;> rfl
          · cases R with
            | true => simp at h; exact h.symm
            | false => simp at h
      · have f1 : (((a.toNat : Nat) : Int) != 58) = true := by
          rw [bne_iff_ne]
          intro e
          exact h58 (byte_eq (b := a) (n := 58) (by omega))
        have HE := hid (HNx.out h58)
        clear HNx HCt h58 hsz
        go_wp2
        go_round
        case rel => exact ⟨k + 1, by omega, by go_num, HE.out⟩
        case measure => simp [intOf]; omega
    · have hlt' : ¬ (k : Int) < (s.size : Int) := by omega
      have hkn : ((k : Int) == (s.size : Int)) = true := by rw [beq_iff_eq]; omega
      have hc : cutC 58 L = (L, [], false) := by
        rcases hcut (Or.inl (by omega)) with ⟨_, h2⟩ | ⟨h1, _⟩
        · exact h2
        · omega
      have HE : Hid (V = none) := by unfold Hid; rw [HV.out, fieldL_cut hc]; simp
      obtain ⟨q1, q2, q3, q4⟩ := HP0.out.cells
      have HF := hid ((HP0.out.store0 (u' := .string ⟨#[]⟩)).store1 (v' := .string ⟨#[]⟩))
      have HBF := hid ((HB0.out.setCell (p := ⟨w.heap.size, 0, none⟩) (by simp) (.string ⟨#[]⟩)).setCell (p := ⟨w.heap.size, 1, none⟩) (by simp) (.string ⟨#[]⟩))
      clear hc hcut hsz
      go_wp2
      obtain ⟨y1, y2, _, _⟩ := HF.out.cells
      refine bodyPost_ret (v := .tuple #[.agg #[.string ⟨#[]⟩, .string ⟨#[]⟩], .bool false]) (by simp [results, Tryz.results43, go_sem, y1, y2]) rfl ?_
      rw [HE.out]
      exact ⟨[], [], rfl, by simp, HBF.out⟩
end Go.Proofs.YtllhibdjopfcnaaGreatDoor
