/-
  strings.IndexAny and ContainsAny at CR and LF, of any bytes; whether a line of a head may be.
-/
import Derived.Test.YtllhibdjopfcnaaGreatDoorHAny
import Derived.Lib.OthersKept
namespace Go.Proofs.YtllhibdjopfcnaaGreatDoor
open Go.RowKit
set_option linter.unusedVariables false

theorem high_brk {b : UInt8} (h : 128 ≤ b.toNat) : brkB b = false := by
  simp only [brkB, List.contains_cons, List.contains_nil, Bool.or_false, Bool.or_eq_false_iff, beq_eq_false_iff_ne]
  refine ⟨fun e => ?_, fun e => ?_⟩ <;> (subst e; exact absurd h (by decide))
theorem brk_none {s : ByteArray} (h : ∀ j (hj : j < s.size), brkB s[j] = false) : brk s.data.toList = false := by
  rw [brk, List.any_eq_false]
  intro x hx
  obtain ⟨j, hj, rfl⟩ := List.getElem_of_mem hx
  have := h j (by rw [len_str] at hj; exact hj)
  intro e
  exact absurd (this.symm.trans e) (by simp)
theorem brk_some {s : ByteArray} {k : Nat} (hk : k < s.size) (h : brkB s[k] = true) : brk s.data.toList = true := by
  rw [brk, List.any_eq_true]
  have hl : k < s.data.toList.length := by rw [len_str]; exact hk
  exact ⟨s.data.toList[k], List.getElem_mem hl, h⟩

set_option maxRecDepth 100000 in
set_option maxHeartbeats 4000000 in
theorem indexAny_short (s : ByteArray) (w : World) (h8 : s.size ≤ 8) : Calls Tryz.prog 120 #[.string s, .string crlf] w fun e w' => ∃ z : Int, e = .returned (.int .i64 z) ∧ decide (0 ≤ z) = brk s.data.toList ∧ Below w.heap.size w w' := by
  have hU := Tryz.strings_shouldUseASCIISet (s.size : Int) w
  rw [decide_eq_false (by omega)] at hU
  have hRA := fun (x : UInt8) w => Tryz.strings_IndexRune_ascii crlf (x.toNat : Int) w (by omega)
  have hRE := indexRune_error
  have hRH := indexRune_high
  obtain ⟨V, hV⟩ : ∃ V, V = brk s.data.toList := ⟨_, rfl⟩
  have hcl : crlf.data.toList = [13, 10] := rfl
  obtain ⟨S, hS⟩ : ∃ S, S = crlf := ⟨_, rfl⟩
  have hemp : S.toList.isEmpty = false := by rw [hS, ByteArray.toList_eq]; rfl
  have hn1 : ((S.size : Int) == 1) = false := by rw [hS]; rfl
  rw [← hS] at hRA hRE hRH hcl ⊢
  rw [← hV]
  have HV := hid hV
  have HRA := hid hRA
  have HRE := hid hRE
  have HRH := hid hRH
  have HCL := hid hcl
  clear hV hS hRA hRE hRH hcl
  go_enter Tryz.func120, Tryz.ntmps120
  go_wp2_with fail
  refine hU.mono ?_
  clear hU
  rintro e w1 ⟨rfl, hw1⟩
  subst hw1
  go_wp2_with fail
  go_loopg [9, 10] s.size (fun g _ _ wx => ∃ i : Nat, i + g = s.size ∧ wx.heap[w1.heap.size]? = some (.stringIter s i) ∧ Below w1.heap.size w1 wx ∧ ∀ j (hj : j < s.size), j < i → brkB s[j] = false)
  case atStart => exact ⟨0, by omega, World.iter_heap _ _ _, (Below.refl _ _).alloc (Nat.le_refl _) _, fun j hj h => by omega⟩
  case round =>
    obtain ⟨i, hig, hit, hB, hno⟩ := hrel
    have HNo := hid hno
    have HB := hid hB
    have hsz1 : w1.heap.size < wr.heap.size := (Array.getElem?_eq_some_iff.1 hit).1
    clear hno hB
    cases gk with
    | zero =>
      have hnx := fun ty => Lib.run_next_end_at (P := Tryz.prog) wr w1.heap.size s i ty hit (by omega)
      have HE : Hid (V = false) := by unfold Hid; rw [HV.out]; exact brk_none (fun j hj => HNo.out j hj (by omega))
      go_wp2
      go_ret
      exact ⟨_, rfl, by rw [HE.out]; rfl, HB.out⟩
    | succ g =>
      have hi : i < s.size := by omega
      by_cases hx : (s[i]'hi).toNat < 128
      · have hnx := fun ty => Lib.run_next_ascii_at (P := Tryz.prog) wr w1.heap.size s i ty hit hi hx
        obtain ⟨W2, hW2⟩ : ∃ W2, W2 = wr.iterAt w1.heap.size s (i + 1) := ⟨_, rfl⟩
        have HI2 : Hid (W2.heap[w1.heap.size]? = some (.stringIter s (i + 1))) := by unfold Hid; rw [hW2]; exact Lib.iterAt_heap _ _ _ i _ hit
        have HB2 : Hid (Below w1.heap.size w1 W2) := by unfold Hid; rw [hW2]; exact Lib.below_iterAt HB.out (Nat.le_refl _) _ _
        rw [← hW2] at hnx
        have hR := HRA.out (s[i]'hi) W2 (by omega)
        rw [byte_back, HCL.out] at hR
        have hcon := Lib.contains_iff_indexByte [13, 10] (s[i]'hi)
        have HT : Hid (brkB (s[i]'hi) = true → V = true) := by unfold Hid; intro h; rw [HV.out]; exact brk_some hi h
        have HF : Hid (brkB (s[i]'hi) = false → ∀ j (hj : j < s.size), j < i + 1 → brkB s[j] = false) := by
          unfold Hid
          intro h j hj hji
          by_cases e : j = i
          · subst e; exact h
          · exact HNo.out j hj (by omega)
        have hcon' : brkB (s[i]'hi) = decide (0 ≤ Lib.indexByte [13, 10] (s[i]'hi)) := hcon
        obtain ⟨x, hxe⟩ : ∃ x : UInt8, x = s[i]'hi := ⟨_, rfl⟩
        rw [← hxe] at hnx hR hcon' HT HF
        obtain ⟨z, hz⟩ : ∃ z, z = Lib.indexByte [13, 10] x := ⟨_, rfl⟩
        rw [← hz] at hR hcon'
        clear hxe hx hW2 hit hcon hz HNo
        cases hb : brkB x with
        | true =>
          rw [hb] at hcon'
          have hz0 : (0 : Int) ≤ z := by simpa using hcon'.symm
          have HE := hid (HT.out hb)
          clear hcon' HT HF hb
          go_wp2_with fail
          refine hR.mono ?_
          clear hR
          rintro e w3 ⟨rfl, hw3⟩
          subst hw3
          go_wp2
          go_ret
          exact ⟨_, rfl, by rw [HE.out]; simp, HB2.out⟩
        | false =>
          rw [hb] at hcon'
          have hz0 : ¬ (0 : Int) ≤ z := by simpa using hcon'.symm
          have HE := hid (HF.out hb)
          clear hcon' HT HF hb
          go_wp2_with fail
          refine hR.mono ?_
          clear hR
          rintro e w3 ⟨rfl, hw3⟩
          subst hw3
          go_wp2
          go_roundg g
          case measure => omega
          case rel => exact ⟨i + 1, by omega, HI2.out, HB2.out, HE.out⟩
      · have hx' : 128 ≤ (s[i]'hi).toNat := by omega
        have hnx := fun ty => Lib.run_next_any_at (P := Tryz.prog) wr w1.heap.size s i ty hit hi
        obtain ⟨d1, d2, d3⟩ := decode_facts s i hi hx'
        obtain ⟨d4, d5⟩ := decode_high s i hi hx'
        obtain ⟨c, hc⟩ : ∃ c, c = (Utf8.decode s i).1 := ⟨_, rfl⟩
        obtain ⟨n, hn⟩ : ∃ n, n = (Utf8.decode s i).2 := ⟨_, rfl⟩
        rw [← hc, ← hn] at hnx
        rw [← hc] at d1 d4
        rw [← hn] at d2 d3 d5
        obtain ⟨W2, hW2⟩ : ∃ W2, W2 = wr.iterAt w1.heap.size s (i + n) := ⟨_, rfl⟩
        have HI2 : Hid (W2.heap[w1.heap.size]? = some (.stringIter s (i + n))) := by unfold Hid; rw [hW2]; exact Lib.iterAt_heap _ _ _ i _ hit
        have HB2 : Hid (Below w1.heap.size w1 W2) := by unfold Hid; rw [hW2]; exact Lib.below_iterAt HB.out (Nat.le_refl _) _ _
        rw [← hW2] at hnx
        have HE : Hid (∀ j (hj : j < s.size), j < i + n → brkB s[j] = false) := by
          unfold Hid
          intro j hj hji
          by_cases h1 : j < i
          · exact HNo.out j hj h1
          · by_cases h2 : j = i
            · subst h2; exact high_brk hx'
            · exact high_brk (d3 j (by omega) hji hj)
        have hR : Calls Tryz.prog 125 #[.string S, .int .i32 (c : Int)] W2 fun e w' => e = .returned (.int .i64 (-1)) ∧ Below W2.heap.size W2 w' := by
          by_cases h3 : (c : Int) = 65533
          · rw [h3]; exact HRE.out W2
          · exact HRH.out (c : Int) (by omega) d1 h3 W2
        have hsz2 : w1.heap.size < W2.heap.size := (Array.getElem?_eq_some_iff.1 HI2.out).1
        clear hc hn hW2 hit HNo d1 d3 d4 hx hx' HRA HRE HRH
        go_wp2_with fail
        refine hR.mono ?_
        clear hR
        rintro e w3 ⟨rfl, hB3⟩
        have HI3 : Hid (w3.heap[w1.heap.size]? = some (.stringIter s (i + n))) := by unfold Hid; rw [hB3.block _ hsz2]; exact HI2.out
        have HB3 := hid (HB2.out.trans (hB3.mono (Nat.le_of_lt hsz2)))
        clear hB3 HI2 HB2
        go_wp2
        go_roundg (s.size - (i + n))
        case measure => omega
        case rel => exact ⟨i + n, by omega, HI3.out, HB3.out, HE.out⟩

theorem Tryz.info_set : (Tryz.prog.info? 127).map (fun i => (i.zero, i.size)) = some (some (.agg (Array.replicate 256 (.bool false))), 256) := by kernel_rfl
theorem brk_lib (l : List UInt8) : decide (0 ≤ Lib.indexAny l [13, 10]) = brk l := by
  have key : ∀ l : List UInt8, (0 ≤ Lib.indexAny l [13, 10]) ↔ brk l = true := by
    intro l
    induction l with
    | nil => simp [Lib.indexAny, brk]
    | cons b r ih =>
      have hge := Lib.indexAny_ge [13, 10] r
      unfold Lib.indexAny
      rw [brk, List.any_cons]
      cases hb : brkB b with
      | true =>
        have : [13, 10].contains b = true := hb
        rw [if_pos this]
        simp
      | false =>
        have : [13, 10].contains b = false := hb
        rw [this]
        simp only [Bool.false_eq_true, if_false, Bool.false_or]
        rw [show r.any brkB = brk r from rfl, ← ih]
        by_cases h1 : Lib.indexAny r [13, 10] = -1
        · rw [h1]; simp
        · rw [if_neg (by simpa using h1)]
          omega
  by_cases h : 0 ≤ Lib.indexAny l [13, 10]
  · rw [decide_eq_true h, (key l).1 h]
  · rw [decide_eq_false h]
    cases hb : brk l with
    | false => rfl
    | true => exact absurd ((key l).2 hb) h
theorem containsAny_any (l : List UInt8) (w : World) (hs : l.length < 4294967281) : Calls Tryz.prog 105 #[.string ⟨l.toArray⟩, .string ⟨#[13, 10]⟩] w fun e w' => e = .returned (.bool (brk l)) ∧ Below w.heap.size w w' := by
  obtain ⟨s, hse⟩ : ∃ s : ByteArray, s = ⟨l.toArray⟩ := ⟨_, rfl⟩
  have hsz : s.size = l.length := by rw [hse, size_list]
  have hsl : s.data.toList = l := by rw [hse]
  have hI : Calls Tryz.prog 120 #[.string s, .string crlf] w fun e w' => ∃ z : Int, e = .returned (.int .i64 z) ∧ decide (0 ≤ z) = brk s.data.toList ∧ Below w.heap.size w w' := by
    by_cases h8 : s.size ≤ 8
    · exact indexAny_short s w h8
    · refine (Tryz.strings_IndexAny_long (zero_of_info Tryz.info_set).1 s crlf w (by decide) (by omega) (by omega) (by decide) ?_).mono fun e w' ⟨h1, h2⟩ => ?_
      · intro j b hj
        have : b ∈ crlf.data.toList := List.mem_of_getElem? hj
        simp [crlf] at this
        rcases this with rfl | rfl <;> decide
      · refine ⟨_, h1, brk_lib _, ?_⟩
        rw [h2]
        exact ((Below.refl _ _).alloc (Nat.le_refl _) _).alloc (by simp) _
  rw [hsl] at hI
  rw [← hse]
  show Calls Tryz.prog 105 #[.string s, .string crlf] w _
  obtain ⟨S, hS⟩ : ∃ S, S = crlf := ⟨_, rfl⟩
  rw [← hS] at hI ⊢
  clear hS hsl hse
  go_enter Tryz.func105, Tryz.ntmps105
  go_wp2_with fail
  refine hI.mono ?_
  clear hI
  rintro e w1 ⟨z, rfl, hz, hB⟩
  have HZ := hid hz
  have HB := hid hB
  clear hz hB
  go_wp2
  go_ret
  exact ⟨by rw [← HZ.out]; rfl, HB.out⟩

def outL (line : List UInt8) (ended : Bool) : Int := if 1024 < line.length then 431 else if ended = false ∨ brk line = true then 400 else 0
set_option maxHeartbeats 1000000 in
theorem outline_any (l : List UInt8) (ended : Bool) (w : World) (hs : l.length ≤ 4096) : Calls Tryz.prog 80 #[.string ⟨l.toArray⟩, .bool ended] w fun e w' => e = .returned (.int .i64 (outL l ended)) ∧ Below w.heap.size w w' := by
  have hC := fun w => containsAny_any l w (by omega)
  obtain ⟨s, hse⟩ : ∃ s : ByteArray, s = ⟨l.toArray⟩ := ⟨_, rfl⟩
  have hsz : s.size = l.length := by rw [hse, size_list]
  rw [← hse] at hC ⊢
  unfold outL
  by_cases h1 : 1024 < l.length
  · have h1' : (1024 : Int) < (s.size : Int) := by omega
    rw [if_pos h1]
    clear hC hse hsz
    go_enter Tryz.func80, Tryz.ntmps80
    go_wp2
    go_ret
    exact ⟨rfl, Below.refl _ _⟩
  · have h1' : ¬ (1024 : Int) < (s.size : Int) := by omega
    rw [if_neg h1]
    cases ended with
    | false =>
      rw [if_pos (Or.inl rfl)]
      clear hC hse hsz
      go_enter Tryz.func80, Tryz.ntmps80
      go_wp2
      go_ret
      exact ⟨rfl, Below.refl _ _⟩
    | true =>
      cases hb : brk l with
      | true =>
        rw [hb] at hC
        rw [if_pos (Or.inr rfl)]
        clear hse hsz
        go_enter Tryz.func80, Tryz.ntmps80
        go_wp2_with fail
        refine (hC _).mono ?_
        clear hC
        rintro e w1 ⟨rfl, hB⟩
        have HB := hid hB
        clear hB
        go_wp2
        go_ret
        exact ⟨rfl, HB.out⟩
      | false =>
        rw [hb] at hC
        rw [if_neg (by simp)]
        clear hse hsz
        go_enter Tryz.func80, Tryz.ntmps80
        go_wp2_with fail
        refine (hC _).mono ?_
        clear hC
        rintro e w1 ⟨rfl, hB⟩
        have HB := hid hB
        clear hB
        go_wp2
        go_ret
        exact ⟨rfl, HB.out⟩
end Go.Proofs.YtllhibdjopfcnaaGreatDoor
