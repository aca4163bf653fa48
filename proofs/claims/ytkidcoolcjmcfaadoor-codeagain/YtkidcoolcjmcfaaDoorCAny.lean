/-
  strings.IndexAny and ContainsAny at CR and LF, of any bytes; whether a line of a head may be.
-/
import Derived.Test.YtkidcoolcjmcfaaDoorHAny
import Derived.Lib.OthersKept
namespace Go.Proofs.YtkidcoolcjmcfaaDoor
open Go.RowKit
set_option linter.unusedVariables false

theorem byte_back (b : UInt8) : ((b.toNat : Int)).toNat.toUInt8 = b := by simp
theorem len_strC (s : ByteArray) : s.data.toList.length = s.size := by simp
theorem high_bl {b : UInt8} (h : 128 ≤ b.toNat) : blB b = false := by
  simp only [blB, List.contains_cons, List.contains_nil, Bool.or_false, Bool.or_eq_false_iff, beq_eq_false_iff_ne]
  refine ⟨fun e => ?_, fun e => ?_⟩ <;> (subst e; exact absurd h (by decide))
theorem any_no : ∀ {l : List UInt8}, (∀ b ∈ l, blB b = false) → Lib.indexAny l [32, 9] = -1
  | [], _ => rfl
  | b :: r, h => by
    have hb : [32, 9].contains b = false := h b (by simp)
    have ih := any_no (l := r) fun x hx => h x (by simp [hx])
    unfold Lib.indexAny
    rw [hb, ih]
    simp
theorem any_yes : ∀ {l : List UInt8} {k : Nat} (hk : k < l.length), blB l[k] = true → (∀ j (hj : j < l.length), j < k → blB l[j] = false) → Lib.indexAny l [32, 9] = k
  | [], k, hk, _, _ => by simp at hk
  | b :: r, 0, _, hb, _ => by
    have : [32, 9].contains b = true := hb
    unfold Lib.indexAny
    rw [if_pos this]
    rfl
  | b :: r, k + 1, hk, hb, hn => by
    have h0 : [32, 9].contains b = false := hn 0 (by simp) (by omega)
    have ih := any_yes (l := r) (k := k) (by simpa using hk) (by simpa using hb) fun j hj hjk => by have h := hn (j + 1) (by simp; omega) (by omega); rw [List.getElem_cons_succ] at h; exact h
    unfold Lib.indexAny
    rw [h0, ih]
    simp
theorem any_none {s : ByteArray} (h : ∀ j (hj : j < s.size), blB s[j] = false) : Lib.indexAny s.data.toList [32, 9] = -1 := by
  refine any_no fun b hb => ?_
  obtain ⟨j, hj, rfl⟩ := List.getElem_of_mem hb
  exact h j (by rw [len_strC] at hj; exact hj)
theorem any_at {s : ByteArray} {k : Nat} (hk : k < s.size) (h : blB s[k] = true) (hn : ∀ j (hj : j < s.size), j < k → blB s[j] = false) : Lib.indexAny s.data.toList [32, 9] = k :=
  any_yes (l := s.data.toList) (by rw [len_strC]; exact hk) h fun j hj hjk => hn j (by rw [len_strC] at hj; exact hj) hjk

set_option maxRecDepth 100000 in
set_option maxHeartbeats 4000000 in
theorem indexAny_short (s : ByteArray) (w : World) (h8 : s.size ≤ 8) : Calls Tryd.prog 38 #[.string s, .string crlf] w fun e w' => e = .returned (.int .i64 (Lib.indexAny s.data.toList [32, 9])) ∧ Below w.heap.size w w' := by
  have hU := Tryd.strings_shouldUseASCIISet (s.size : Int) w
  rw [decide_eq_false (by omega)] at hU
  have hRA := fun (x : UInt8) w => Tryd.strings_IndexRune_ascii crlf (x.toNat : Int) w (by omega)
  have hRE := indexRune_error
  have hRH := indexRune_high
  obtain ⟨V, hV⟩ : ∃ V, V = Lib.indexAny s.data.toList [32, 9] := ⟨_, rfl⟩
  have hcl : crlf.data.toList = [32, 9] := rfl
  obtain ⟨S, hS⟩ : ∃ S, S = crlf := ⟨_, rfl⟩
  have hemp : S.toList.isEmpty = false := by rw [hS, ByteArray.toList_eq]; rfl
  have hn1 : ((S.size : Int) == 1) = false := by rw [hS]; rfl
  rw [← hS] at hRA hRE hRH hcl ⊢
  rw [← hV]
  have HV := hid hV
  have HRA := hid hRA
  have HRE := hid hRE
  have HRH := hid hRH
  have HCL := hid hcl
  clear hV hS hRA hRE hRH hcl
  go_enter Tryd.func38, Tryd.ntmps38
  go_wp2_with fail
  refine hU.mono ?_
  clear hU
  rintro e w1 ⟨rfl, hw1⟩
  subst hw1
  go_wp2_with fail
  go_loopg [9, 10] s.size (fun g _ _ wx => ∃ i : Nat, i + g = s.size ∧ wx.heap[w1.heap.size]? = some (.stringIter s i) ∧ Below w1.heap.size w1 wx ∧ ∀ j (hj : j < s.size), j < i → blB s[j] = false)
  case atStart => exact ⟨0, by omega, World.iter_heap _ _ _, (Below.refl _ _).alloc (Nat.le_refl _) _, fun j hj h => by omega⟩
  case round =>
    obtain ⟨i, hig, hit, hB, hno⟩ := hrel
    have HNo := hid hno
    have HB := hid hB
    have hsz1 : w1.heap.size < wr.heap.size := (Array.getElem?_eq_some_iff.1 hit).1
    clear hno hB
    cases gk with
    | zero =>
      have hnx := fun ty => Lib.run_next_end_at (P := Tryd.prog) wr w1.heap.size s i ty hit (by omega)
      have HE : Hid (V = -1) := by unfold Hid; rw [HV.out]; exact any_none (fun j hj => HNo.out j hj (by omega))
      go_wp2
      go_ret
      exact ⟨by rw [HE.out]; rfl, HB.out⟩
    | succ g =>
      have hi : i < s.size := by omega
      by_cases hx : (s[i]'hi).toNat < 128
      · have hnx := fun ty => Lib.run_next_ascii_at (P := Tryd.prog) wr w1.heap.size s i ty hit hi hx
        obtain ⟨W2, hW2⟩ : ∃ W2, W2 = wr.iterAt w1.heap.size s (i + 1) := ⟨_, rfl⟩
        have HI2 : Hid (W2.heap[w1.heap.size]? = some (.stringIter s (i + 1))) := by unfold Hid; rw [hW2]; exact Lib.iterAt_heap _ _ _ i _ hit
        have HB2 : Hid (Below w1.heap.size w1 W2) := by unfold Hid; rw [hW2]; exact Lib.below_iterAt HB.out (Nat.le_refl _) _ _
        rw [← hW2] at hnx
        have hR := HRA.out (s[i]'hi) W2 (by omega)
        rw [byte_back, HCL.out] at hR
        have hcon := Lib.contains_iff_indexByte [32, 9] (s[i]'hi)
        have HT : Hid (blB (s[i]'hi) = true → V = (i : Int)) := by unfold Hid; intro h; rw [HV.out]; exact any_at hi h HNo.out
        have HF : Hid (blB (s[i]'hi) = false → ∀ j (hj : j < s.size), j < i + 1 → blB s[j] = false) := by
          unfold Hid
          intro h j hj hji
          by_cases e : j = i
          · subst e; exact h
          · exact HNo.out j hj (by omega)
        have hcon' : blB (s[i]'hi) = decide (0 ≤ Lib.indexByte [32, 9] (s[i]'hi)) := hcon
        obtain ⟨x, hxe⟩ : ∃ x : UInt8, x = s[i]'hi := ⟨_, rfl⟩
        rw [← hxe] at hnx hR hcon' HT HF
        obtain ⟨z, hz⟩ : ∃ z, z = Lib.indexByte [32, 9] x := ⟨_, rfl⟩
        rw [← hz] at hR hcon'
        clear hxe hx hW2 hit hcon hz HNo
        cases hb : blB x with
        | true =>
          rw [hb] at hcon'
          have hz0 : (0 : Int) ≤ z := by simpa using hcon'.symm
          have HE := hid (HT.out hb)
          clear hcon' HT HF hb
          go_wp2_with fail
          refine hR.mono ?_
          clear hR
          rintro e w3 ⟨rfl, hw3⟩
          subst hw3
          go_wp2
          go_ret
          exact ⟨by rw [HE.out]; rfl, HB2.out⟩
        | false =>
          rw [hb] at hcon'
          have hz0 : ¬ (0 : Int) ≤ z := by simpa using hcon'.symm
          have HE := hid (HF.out hb)
          clear hcon' HT HF hb
          go_wp2_with fail
          refine hR.mono ?_
          clear hR
          rintro e w3 ⟨rfl, hw3⟩
          subst hw3
          go_wp2
          go_roundg g
          case measure => omega
          case rel => exact ⟨i + 1, by omega, HI2.out, HB2.out, HE.out⟩
      · have hx' : 128 ≤ (s[i]'hi).toNat := by omega
        have hnx := fun ty => Lib.run_next_any_at (P := Tryd.prog) wr w1.heap.size s i ty hit hi
        obtain ⟨d1, d2, d3⟩ := decode_facts s i hi hx'
        obtain ⟨d4, d5⟩ := decode_high s i hi hx'
        obtain ⟨c, hc⟩ : ∃ c, c = (Utf8.decode s i).1 := ⟨_, rfl⟩
        obtain ⟨n, hn⟩ : ∃ n, n = (Utf8.decode s i).2 := ⟨_, rfl⟩
        rw [← hc, ← hn] at hnx
        rw [← hc] at d1 d4
        rw [← hn] at d2 d3 d5
        obtain ⟨W2, hW2⟩ : ∃ W2, W2 = wr.iterAt w1.heap.size s (i + n) := ⟨_, rfl⟩
        have HI2 : Hid (W2.heap[w1.heap.size]? = some (.stringIter s (i + n))) := by unfold Hid; rw [hW2]; exact Lib.iterAt_heap _ _ _ i _ hit
        have HB2 : Hid (Below w1.heap.size w1 W2) := by unfold Hid; rw [hW2]; exact Lib.below_iterAt HB.out (Nat.le_refl _) _ _
        rw [← hW2] at hnx
        have HE : Hid (∀ j (hj : j < s.size), j < i + n → blB s[j] = false) := by
          unfold Hid
          intro j hj hji
          by_cases h1 : j < i
          · exact HNo.out j hj h1
          · by_cases h2 : j = i
            · subst h2; exact high_bl hx'
            · exact high_bl (d3 j (by omega) hji hj)
        have hR : Calls Tryd.prog 50 #[.string S, .int .i32 (c : Int)] W2 fun e w' => e = .returned (.int .i64 (-1)) ∧ Below W2.heap.size W2 w' := by
          by_cases h3 : (c : Int) = 65533
          · rw [h3]; exact HRE.out W2
          · exact HRH.out (c : Int) (by omega) d1 h3 W2
        have hsz2 : w1.heap.size < W2.heap.size := (Array.getElem?_eq_some_iff.1 HI2.out).1
        clear hc hn hW2 hit HNo d1 d3 d4 hx hx' HRA HRE HRH
        go_wp2_with fail
        refine hR.mono ?_
        clear hR
        rintro e w3 ⟨rfl, hB3⟩
        have HI3 : Hid (w3.heap[w1.heap.size]? = some (.stringIter s (i + n))) := by unfold Hid; rw [hB3.block _ hsz2]; exact HI2.out
        have HB3 := hid (HB2.out.trans (hB3.mono (Nat.le_of_lt hsz2)))
        clear hB3 HI2 HB2
        go_wp2
        go_roundg (s.size - (i + n))
        case measure => omega
        case rel => exact ⟨i + n, by omega, HI3.out, HB3.out, HE.out⟩
theorem Tryd.info_set : (Tryd.prog.info? 59).map (fun i => (i.zero, i.size)) = some (some (.agg (Array.replicate 256 (.bool false))), 256) := by kernel_rfl
theorem indexAny_any (s : ByteArray) (w : World) (hs : s.size < 4294967281) : Calls Tryd.prog 38 #[.string s, .string crlf] w fun e w' => e = .returned (.int .i64 (Lib.indexAny s.data.toList [32, 9])) ∧ Below w.heap.size w w' := by
  by_cases h8 : s.size ≤ 8
  · exact indexAny_short s w h8
  · refine (Tryd.strings_IndexAny_long (zero_of_info Tryd.info_set).1 s crlf w (by decide) (by omega) (by omega) (by decide) ?_).mono fun e w' ⟨h1, h2⟩ => ?_
    · intro j b hj
      have : b ∈ crlf.data.toList := List.mem_of_getElem? hj
      simp [crlf] at this
      rcases this with rfl | rfl <;> decide
    · refine ⟨h1, ?_⟩
      rw [h2]
      exact ((Below.refl _ _).alloc (Nat.le_refl _) _).alloc (by simp) _
end Go.Proofs.YtkidcoolcjmcfaaDoor
