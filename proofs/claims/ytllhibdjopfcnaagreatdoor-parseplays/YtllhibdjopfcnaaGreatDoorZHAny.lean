/-
  strings.Cut at CR LF; the version of a request line: the code's.
-/
import Derived.Test.YtllhibdjopfcnaaGreatDoorZHTools
import Derived.Laws.RangeAny
import Derived.Laws.Runes
import Derived.Deep.LoopGhost
import Derived.WalkMore
import Derived.Lib.OthersKept
namespace Go.Proofs.YtllhibdjopfcnaaGreatDoor
open Go.RowKit
set_option linter.unusedVariables false

theorem get_in (s : ByteArray) (k : Nat) (h : k < s.size) : s.get! k = s[k] := by
  simp [ByteArray.get!, getElem!_pos, h]
  rfl
/-- What a rune beyond ASCII takes. -/
theorem decode_facts (s : ByteArray) (pos : Nat) (h : pos < s.size) (ha : 128 ≤ (s[pos]'h).toNat) :
    Utf8.valid ((Utf8.decode s pos).1 : Int) = true ∧ pos + (Utf8.decode s pos).2 ≤ s.size ∧ ∀ j, pos < j → j < pos + (Utf8.decode s pos).2 → ∀ hj : j < s.size, 128 ≤ (s[j]'hj).toNat := by
  have hn : ¬ (s[pos]'h).toNat < 128 := by omega
  have hb : ∀ k, (s.get! (pos + k)).toNat < 256 := fun k => (s.get! (pos + k)).toNat_lt
  have hc : ∀ k, (decide (pos + k < s.size) && (s.get! (pos + k)).toNat / 64 == 2) = true → pos + k < s.size ∧ 128 ≤ (s.get! (pos + k)).toNat := by
    intro k hk
    simp only [Bool.and_eq_true, decide_eq_true_eq, beq_iff_eq] at hk
    exact ⟨hk.1, by omega⟩
  have h0 := hb 0; have h1 := hb 1; have h2 := hb 2; have h3 := hb 3
  have hg : ∀ k (hk : pos + k < s.size), s.get! (pos + k) = s[pos + k] := fun k hk => get_in s _ hk
  have one : ∀ c, Utf8.valid ((c : Nat) : Int) = true → Utf8.valid (((c, 1) : Nat × Nat).1 : Int) = true ∧ pos + ((c, 1) : Nat × Nat).2 ≤ s.size ∧ ∀ j, pos < j → j < pos + ((c, 1) : Nat × Nat).2 → ∀ hj : j < s.size, 128 ≤ (s[j]'hj).toNat := by
    intro c hv
    exact ⟨hv, by simp only; omega, fun j h1 h2 => by simp only at h2; omega⟩
  have hre : Utf8.valid ((Utf8.runeError : Nat) : Int) = true := by decide
  simp only [Utf8.decode, get_at s pos h, hn, if_false]
  split
  · rename_i hx
    simp only [Bool.and_eq_true] at hx
    have k1 := hc 1 (by simp only [Bool.and_eq_true]; exact hx.2)
    split
    · rename_i hy
      refine ⟨?_, by simp only; omega, fun j j1 j2 hj => ?_⟩
      · simp only [beq_iff_eq] at hx
        simp only [Utf8.valid, Bool.or_eq_true, Bool.and_eq_true, decide_eq_true_eq]
        omega
      · simp only at j2
        obtain rfl : j = pos + 1 := by omega
        rw [← hg 1 hj]
        exact k1.2
    · exact one _ hre
  · split
    · rename_i hx
      simp only [Bool.and_eq_true] at hx
      have k1 := hc 1 (by simp only [Bool.and_eq_true]; exact hx.1.2)
      have k2 := hc 2 (by simp only [Bool.and_eq_true]; exact hx.2)
      split
      · rename_i hy
        simp only [Bool.and_eq_true] at hy
        refine ⟨hy.2, by simp only; omega, fun j j1 j2 hj => ?_⟩
        simp only at j2
        have : j = pos + 1 ∨ j = pos + 2 := by omega
        rcases this with rfl | rfl
        · rw [← hg 1 hj]; exact k1.2
        · rw [← hg 2 hj]; exact k2.2
      · exact one _ hre
    · split
      · rename_i hx
        simp only [Bool.and_eq_true] at hx
        have k1 := hc 1 (by simp only [Bool.and_eq_true]; exact hx.1.1.2)
        have k2 := hc 2 (by simp only [Bool.and_eq_true]; exact hx.1.2)
        have k3 := hc 3 (by simp only [Bool.and_eq_true]; exact hx.2)
        split
        · rename_i hy
          simp only [Bool.and_eq_true] at hy
          refine ⟨hy.2, by simp only; omega, fun j j1 j2 hj => ?_⟩
          simp only at j2
          have : j = pos + 1 ∨ j = pos + 2 ∨ j = pos + 3 := by omega
          rcases this with rfl | rfl | rfl
          · rw [← hg 1 hj]; exact k1.2
          · rw [← hg 2 hj]; exact k2.2
          · rw [← hg 3 hj]; exact k3.2
        · exact one _ hre
      · exact one _ hre

theorem validRune_any (r : Int) (hv : Utf8.valid r = true) (h0 : 128 ≤ r) (w : World) : Calls Tryz.prog 130 #[.int .i32 r] w fun e w' => e = .returned (.bool true) ∧ w' = w := by
  rw [validRune_eq, validRune, decide_eq_true_eq] at hv
  have f0 : decide ((0 : Int) ≤ r) = true := by simp; omega
  by_cases h1 : r < 55296
  · have f1 : decide (r < 55296) = true := by simp; omega
    clear hv
    go_enter Tryz.func130, Tryz.ntmps130
    go_wp2
    go_ret
    exact ⟨rfl, rfl⟩
  · have f1 : decide (r < 55296) = false := by simp; omega
    have f2 : decide ((57343 : Int) < r) = true := by simp; omega
    have f3 : decide (r ≤ 1114111) = true := by simp; omega
    clear hv
    go_enter Tryz.func130, Tryz.ntmps130
    go_wp2
    go_ret
    exact ⟨rfl, rfl⟩

def crlf : ByteArray := ⟨#[13, 10]⟩
theorem crlf_size : crlf.size = 2 := rfl
theorem crlf_low (k : Nat) (h : k < crlf.size) : (crlf[k]'h).toNat < 128 := by
  have : k = 0 ∨ k = 1 := by rw [crlf_size] at h; omega
  rcases this with rfl | rfl
  · show (13 : UInt8).toNat < 128; decide
  · show (10 : UInt8).toNat < 128; decide

set_option maxRecDepth 100000 in
set_option maxHeartbeats 4000000 in
theorem indexRune_error (w : World) : Calls Tryz.prog 125 #[.string crlf, .int .i32 65533] w fun e w' => e = .returned (.int .i64 (-1)) ∧ Below w.heap.size w w' := by
  obtain ⟨S, hS⟩ : ∃ S, S = crlf := ⟨_, rfl⟩
  have hsz : S.size = 2 := by rw [hS]; rfl
  have hlow : ∀ k (h : k < S.size), (S[k]'h).toNat < 128 := by subst hS; exact crlf_low
  rw [← hS]
  have HL := hid hlow
  have HZ := hid hsz
  clear hS hlow hsz
  go_enter Tryz.func125, Tryz.ntmps125
  go_wp2_with fail
  go_loopg [5, 6] 2 (fun g _ _ wx => ∃ i : Nat, i + g = 2 ∧ wx = w.iter S i)
  case atStart => exact ⟨0, by omega, rfl⟩
  case round =>
    obtain ⟨i, hig, rfl⟩ := hrel
    have hsz := HZ.out
    cases gk with
    | zero =>
      have hnx := fun ty => run_next_end (P := Tryz.prog) w S i ty (by omega)
      go_wp2
      go_ret
      exact ⟨rfl, (Below.refl _ _).alloc (Nat.le_refl _) _⟩
    | succ g =>
      have hi : i < S.size := by omega
      have hx := HL.out i hi
      have hnx := fun ty => run_next_ascii (P := Tryz.prog) w S i ty hi hx
      obtain ⟨x, hxe⟩ : ∃ x : UInt8, x = S[i]'hi := ⟨_, rfl⟩
      rw [← hxe] at hnx hx
      have hne : (((x.toNat : Nat) : Int) == 65533) = false := by rw [beq_eq_false_iff_ne]; omega
      clear hxe hsz
      go_wp2
      go_roundg g
      case measure => omega
      case rel => exact ⟨i + 1, by omega, rfl⟩

theorem byte_at (E : ByteArray) (k : Nat) (h : k < E.size) : (E.data.toList[k]?) = some E[k] := Lib.data_getElem? E k h

set_option maxRecDepth 100000 in
set_option maxHeartbeats 4000000 in
theorem indexRune_high (r : Int) (h128 : 128 ≤ r) (hv : Utf8.valid r = true) (hne : r ≠ 65533) (w : World) : Calls Tryz.prog 125 #[.string crlf, .int .i32 r] w fun e w' => e = .returned (.int .i64 (-1)) ∧ Below w.heap.size w w' := by
  have hV := validRune_any r hv h128 w
  obtain ⟨s2, s4, hlast⟩ := encode_facts r hv h128
  have f0 : decide ((0 : Int) ≤ r) = true := by simp; omega
  have f1 : decide (r < 128) = false := by simp; omega
  have f2 : (r == 65533) = false := by rw [beq_eq_false_iff_ne]; exact hne
  have hconv : ∀ w, (convert 21 9 (.int .i32 r)).run Tryz.prog w = .ok (.string (Utf8.encode r)) w := fun w => run_convert_int_string w 21 9 .i32 r (by rw [Tryz.underlying21]; rfl) Tryz.underlying9
  obtain ⟨E, hE⟩ : ∃ E, E = Utf8.encode r := ⟨_, rfl⟩
  rw [← hE] at s2 s4 hconv
  have hlast' : ∀ h : E.size - 1 < E.size, 128 ≤ (E[E.size - 1]'h).toNat := by subst hE; exact hlast
  clear hlast hE hv hne
  obtain ⟨S, hS⟩ : ∃ S, S = crlf := ⟨_, rfl⟩
  have hsz : S.size = 2 := by rw [hS]; rfl
  have hsz' : (S.size : Int) = 2 := by omega
  have hS1 : ∀ h : 1 < S.size, (S[1]'h).toNat = 10 := by subst hS; decide
  have hex : ∀ c : UInt8, Lib.indexByte (S.extract 2 S.size).data.toList c = -1 := by
    subst hS
    intro c
    rw [show (crlf.extract 2 crlf.size).data.toList = [] by decide]
    rfl
  rw [← hS]
  clear hS
  by_cases he : E.size = 2
  · have i2 := index_byte E .i64 1 1 rfl (by omega)
    have hl := hlast' (by omega)
    have hge : ∀ (h : 1 < E.size), 128 ≤ (E[1]'h).toNat := by
      intro h
      have : ∀ k (hk : k < E.size), k = 1 → 128 ≤ (E[k]'hk).toNat → 128 ≤ (E[1]'h).toNat := by intro k hk e; subst e; exact id
      exact this (E.size - 1) (by omega) (by omega) hl
    have hg1 := hge (by omega)
    obtain ⟨c, hc⟩ : ∃ c : UInt8, c = E[1]'(by omega) := ⟨_, rfl⟩
    rw [← hc] at i2 hg1
    have i1 := index_byte S .i64 1 1 rfl (by omega)
    rw [hS1 (by omega)] at i1
    have hneq : (((10 : Nat) : Int) != ((c.toNat : Nat) : Int)) = true := by rw [bne_iff_ne]; omega
    have hI : ∀ w, Calls Tryz.prog 128 #[.string (S.extract 2 S.size), .int .u8 ((c.toNat : Nat) : Int)] w fun e w' => e = .returned (.int .i64 (-1)) ∧ w' = w := by
      intro w
      have := Tryz.strings_IndexByte (S.extract 2 S.size) ((c.toNat : Nat) : Int) w
      rw [hex] at this
      exact this
    have heZ : (E.size : Int) = 2 := by omega
    have hw2 : IntKind.i64.wrap 2 = 2 := by decide
    have hsl : ∀ w, (Instr.slice 9 (.string S) (some (.int .i64 2)) none none).run Tryz.prog w = .ok (.string (S.extract 2 S.size)) w := fun w => run_slice_string_l w 9 S Tryz.underlying9 .i64 2 (by decide) (by omega)
    clear hex hS1 hlast' hl hge hc s2 s4 he hsz
    go_enter Tryz.func125, Tryz.ntmps125
    go_wp2_with fail
    refine hV.mono ?_
    clear hV
    rintro e w1 ⟨rfl, hw1⟩
    subst hw1
    go_wp2_with fail
    go_step3
    go_wp2_with fail
    go_loop [9] (fun i => i = .int .i64 1) (fun _ => 0)
    case atStart => rfl
    case round =>
      obtain rfl := hrel
      go_wp2_with fail
      go_step3
      go_wp2_with fail
      go_quiet (fail)
      go_wp2_with fail
      obtain ⟨w5, hw5⟩ : ∃ w5, w5 = w1.drewN nq := ⟨_, rfl⟩
      rw [← hw5]
      have HB5 : Hid (Below w1.heap.size w1 w5) := by unfold Hid; rw [hw5]; exact below_drewN (Below.refl _ _) _
      clear hw5
      go_quiet ((go_at_call 128; refine Calls.quiet_of_same (hI _)))
      go_wp2
      (try simp (zetaDelta := true) only [Exit.inBlock, Exit.then, Exit.noGoto])
      go_ret
      exact ⟨rfl, below_drewN HB5.out _⟩
  · have hE2 : ¬ (E.size : Int) - 1 < 2 := by omega
    clear hex hS1 hlast'
    go_enter Tryz.func125, Tryz.ntmps125
    go_wp2_with fail
    refine hV.mono ?_
    clear hV
    rintro e w1 ⟨rfl, hw1⟩
    subst hw1
    go_wp2_with fail
    go_step3
    go_wp2_with fail
    go_loop [9] (fun i => i = .int .i64 ((E.size : Int) - 1)) (fun _ => 0)
    case atStart => rfl
    case round =>
      obtain rfl := hrel
      go_wp2
      (try rw [Exit.noGoto_ret])
      go_ret
      exact ⟨rfl, Below.refl _ _⟩
end Go.Proofs.YtllhibdjopfcnaaGreatDoor

namespace Go.Proofs.YtllhibdjopfcnaaGreatDoor
open Go.RowKit
set_option linter.unusedVariables false

theorem high_brk {b : UInt8} (h : 128 ≤ b.toNat) : brkB b = false := by
  simp only [brkB, List.contains_cons, List.contains_nil, Bool.or_false, Bool.or_eq_false_iff, beq_eq_false_iff_ne]
  refine ⟨fun e => ?_, fun e => ?_⟩ <;> (subst e; exact absurd h (by decide))
theorem brk_none {s : ByteArray} (h : ∀ j (hj : j < s.size), brkB s[j] = false) : brk s.data.toList = false := by
  rw [brk, List.any_eq_false]
  intro x hx
  obtain ⟨j, hj, rfl⟩ := List.getElem_of_mem hx
  have := h j (by rw [len_str] at hj; exact hj)
  intro e
  exact absurd (this.symm.trans e) (by simp)
theorem brk_some {s : ByteArray} {k : Nat} (hk : k < s.size) (h : brkB s[k] = true) : brk s.data.toList = true := by
  rw [brk, List.any_eq_true]
  have hl : k < s.data.toList.length := by rw [len_str]; exact hk
  exact ⟨s.data.toList[k], List.getElem_mem hl, h⟩

set_option maxRecDepth 100000 in
set_option maxHeartbeats 4000000 in
theorem indexAny_short (s : ByteArray) (w : World) (h8 : s.size ≤ 8) : Calls Tryz.prog 120 #[.string s, .string crlf] w fun e w' => ∃ z : Int, e = .returned (.int .i64 z) ∧ decide (0 ≤ z) = brk s.data.toList ∧ Below w.heap.size w w' := by
  have hU := Tryz.strings_shouldUseASCIISet (s.size : Int) w
  rw [decide_eq_false (by omega)] at hU
  have hRA := fun (x : UInt8) w => Tryz.strings_IndexRune_ascii crlf (x.toNat : Int) w (by omega)
  have hRE := indexRune_error
  have hRH := indexRune_high
  obtain ⟨V, hV⟩ : ∃ V, V = brk s.data.toList := ⟨_, rfl⟩
  have hcl : crlf.data.toList = [13, 10] := rfl
  obtain ⟨S, hS⟩ : ∃ S, S = crlf := ⟨_, rfl⟩
  have hemp : S.toList.isEmpty = false := by rw [hS, ByteArray.toList_eq]; rfl
  have hn1 : ((S.size : Int) == 1) = false := by rw [hS]; rfl
  rw [← hS] at hRA hRE hRH hcl ⊢
  rw [← hV]
  have HV := hid hV
  have HRA := hid hRA
  have HRE := hid hRE
  have HRH := hid hRH
  have HCL := hid hcl
  clear hV hS hRA hRE hRH hcl
  go_enter Tryz.func120, Tryz.ntmps120
  go_wp2_with fail
  refine hU.mono ?_
  clear hU
  rintro e w1 ⟨rfl, hw1⟩
  subst hw1
  go_wp2_with fail
  go_loopg [9, 10] s.size (fun g _ _ wx => ∃ i : Nat, i + g = s.size ∧ wx.heap[w1.heap.size]? = some (.stringIter s i) ∧ Below w1.heap.size w1 wx ∧ ∀ j (hj : j < s.size), j < i → brkB s[j] = false)
  case atStart => exact ⟨0, by omega, World.iter_heap _ _ _, (Below.refl _ _).alloc (Nat.le_refl _) _, fun j hj h => by omega⟩
  case round =>
    obtain ⟨i, hig, hit, hB, hno⟩ := hrel
    have HNo := hid hno
    have HB := hid hB
    have hsz1 : w1.heap.size < wr.heap.size := (Array.getElem?_eq_some_iff.1 hit).1
    clear hno hB
    cases gk with
    | zero =>
      have hnx := fun ty => Lib.run_next_end_at (P := Tryz.prog) wr w1.heap.size s i ty hit (by omega)
      have HE : Hid (V = false) := by unfold Hid; rw [HV.out]; exact brk_none (fun j hj => HNo.out j hj (by omega))
      go_wp2
      go_ret
      exact ⟨_, rfl, by rw [HE.out]; rfl, HB.out⟩
    | succ g =>
      have hi : i < s.size := by omega
      by_cases hx : (s[i]'hi).toNat < 128
      · have hnx := fun ty => Lib.run_next_ascii_at (P := Tryz.prog) wr w1.heap.size s i ty hit hi hx
        obtain ⟨W2, hW2⟩ : ∃ W2, W2 = wr.iterAt w1.heap.size s (i + 1) := ⟨_, rfl⟩
        have HI2 : Hid (W2.heap[w1.heap.size]? = some (.stringIter s (i + 1))) := by unfold Hid; rw [hW2]; exact Lib.iterAt_heap _ _ _ i _ hit
        have HB2 : Hid (Below w1.heap.size w1 W2) := by unfold Hid; rw [hW2]; exact Lib.below_iterAt HB.out (Nat.le_refl _) _ _
        rw [← hW2] at hnx
        have hR := HRA.out (s[i]'hi) W2 (by omega)
        rw [byte_back, HCL.out] at hR
        have hcon := Lib.contains_iff_indexByte [13, 10] (s[i]'hi)
        have HT : Hid (brkB (s[i]'hi) = true → V = true) := by unfold Hid; intro h; rw [HV.out]; exact brk_some hi h
        have HF : Hid (brkB (s[i]'hi) = false → ∀ j (hj : j < s.size), j < i + 1 → brkB s[j] = false) := by
          unfold Hid
          intro h j hj hji
          by_cases e : j = i
          · subst e; exact h
          · exact HNo.out j hj (by omega)
        have hcon' : brkB (s[i]'hi) = decide (0 ≤ Lib.indexByte [13, 10] (s[i]'hi)) := hcon
        obtain ⟨x, hxe⟩ : ∃ x : UInt8, x = s[i]'hi := ⟨_, rfl⟩
        rw [← hxe] at hnx hR hcon' HT HF
        obtain ⟨z, hz⟩ : ∃ z, z = Lib.indexByte [13, 10] x := ⟨_, rfl⟩
        rw [← hz] at hR hcon'
        clear hxe hx hW2 hit hcon hz HNo
        cases hb : brkB x with
        | true =>
          rw [hb] at hcon'
          have hz0 : (0 : Int) ≤ z := by simpa using hcon'.symm
          have HE := hid (HT.out hb)
          clear hcon' HT HF hb
          go_wp2_with fail
          refine hR.mono ?_
          clear hR
          rintro e w3 ⟨rfl, hw3⟩
          subst hw3
          go_wp2
          go_ret
          exact ⟨_, rfl, by rw [HE.out]; simp, HB2.out⟩
        | false =>
          rw [hb] at hcon'
          have hz0 : ¬ (0 : Int) ≤ z := by simpa using hcon'.symm
          have HE := hid (HF.out hb)
          clear hcon' HT HF hb
          go_wp2_with fail
          refine hR.mono ?_
          clear hR
          rintro e w3 ⟨rfl, hw3⟩
          subst hw3
          go_wp2
          go_roundg g
          case measure => omega
          case rel => exact ⟨i + 1, by omega, HI2.out, HB2.out, HE.out⟩
      · have hx' : 128 ≤ (s[i]'hi).toNat := by omega
        have hnx := fun ty => Lib.run_next_any_at (P := Tryz.prog) wr w1.heap.size s i ty hit hi
        obtain ⟨d1, d2, d3⟩ := decode_facts s i hi hx'
        obtain ⟨d4, d5⟩ := decode_high s i hi hx'
        obtain ⟨c, hc⟩ : ∃ c, c = (Utf8.decode s i).1 := ⟨_, rfl⟩
        obtain ⟨n, hn⟩ : ∃ n, n = (Utf8.decode s i).2 := ⟨_, rfl⟩
        rw [← hc, ← hn] at hnx
        rw [← hc] at d1 d4
        rw [← hn] at d2 d3 d5
        obtain ⟨W2, hW2⟩ : ∃ W2, W2 = wr.iterAt w1.heap.size s (i + n) := ⟨_, rfl⟩
        have HI2 : Hid (W2.heap[w1.heap.size]? = some (.stringIter s (i + n))) := by unfold Hid; rw [hW2]; exact Lib.iterAt_heap _ _ _ i _ hit
        have HB2 : Hid (Below w1.heap.size w1 W2) := by unfold Hid; rw [hW2]; exact Lib.below_iterAt HB.out (Nat.le_refl _) _ _
        rw [← hW2] at hnx
        have HE : Hid (∀ j (hj : j < s.size), j < i + n → brkB s[j] = false) := by
          unfold Hid
          intro j hj hji
          by_cases h1 : j < i
          · exact HNo.out j hj h1
          · by_cases h2 : j = i
            · subst h2; exact high_brk hx'
            · exact high_brk (d3 j (by omega) hji hj)
        have hR : Calls Tryz.prog 125 #[.string S, .int .i32 (c : Int)] W2 fun e w' => e = .returned (.int .i64 (-1)) ∧ Below W2.heap.size W2 w' := by
          by_cases h3 : (c : Int) = 65533
          · rw [h3]; exact HRE.out W2
          · exact HRH.out (c : Int) (by omega) d1 h3 W2
        have hsz2 : w1.heap.size < W2.heap.size := (Array.getElem?_eq_some_iff.1 HI2.out).1
        clear hc hn hW2 hit HNo d1 d3 d4 hx hx' HRA HRE HRH
        go_wp2_with fail
        refine hR.mono ?_
        clear hR
        rintro e w3 ⟨rfl, hB3⟩
        have HI3 : Hid (w3.heap[w1.heap.size]? = some (.stringIter s (i + n))) := by unfold Hid; rw [hB3.block _ hsz2]; exact HI2.out
        have HB3 := hid (HB2.out.trans (hB3.mono (Nat.le_of_lt hsz2)))
        clear hB3 HI2 HB2
        go_wp2
        go_roundg (s.size - (i + n))
        case measure => omega
        case rel => exact ⟨i + n, by omega, HI3.out, HB3.out, HE.out⟩

theorem Tryz.info_set : (Tryz.prog.info? 127).map (fun i => (i.zero, i.size)) = some (some (.agg (Array.replicate 256 (.bool false))), 256) := by kernel_rfl
theorem brk_lib (l : List UInt8) : decide (0 ≤ Lib.indexAny l [13, 10]) = brk l := by
  have key : ∀ l : List UInt8, (0 ≤ Lib.indexAny l [13, 10]) ↔ brk l = true := by
    intro l
    induction l with
    | nil => simp [Lib.indexAny, brk]
    | cons b r ih =>
      have hge := Lib.indexAny_ge [13, 10] r
      unfold Lib.indexAny
      rw [brk, List.any_cons]
      cases hb : brkB b with
      | true =>
        have : [13, 10].contains b = true := hb
        rw [if_pos this]
        simp
      | false =>
        have : [13, 10].contains b = false := hb
        rw [this]
        simp only [Bool.false_eq_true, if_false, Bool.false_or]
        rw [show r.any brkB = brk r from rfl, ← ih]
        by_cases h1 : Lib.indexAny r [13, 10] = -1
        · rw [h1]; simp
        · rw [if_neg (by simpa using h1)]
          omega
  by_cases h : 0 ≤ Lib.indexAny l [13, 10]
  · rw [decide_eq_true h, (key l).1 h]
  · rw [decide_eq_false h]
    cases hb : brk l with
    | false => rfl
    | true => exact absurd ((key l).2 hb) h
theorem containsAny_any (l : List UInt8) (w : World) (hs : l.length < 4294967281) : Calls Tryz.prog 105 #[.string ⟨l.toArray⟩, .string ⟨#[13, 10]⟩] w fun e w' => e = .returned (.bool (brk l)) ∧ Below w.heap.size w w' := by
  obtain ⟨s, hse⟩ : ∃ s : ByteArray, s = ⟨l.toArray⟩ := ⟨_, rfl⟩
  have hsz : s.size = l.length := by rw [hse, size_list]
  have hsl : s.data.toList = l := by rw [hse]
  have hI : Calls Tryz.prog 120 #[.string s, .string crlf] w fun e w' => ∃ z : Int, e = .returned (.int .i64 z) ∧ decide (0 ≤ z) = brk s.data.toList ∧ Below w.heap.size w w' := by
    by_cases h8 : s.size ≤ 8
    · exact indexAny_short s w h8
    · refine (Tryz.strings_IndexAny_long (zero_of_info Tryz.info_set).1 s crlf w (by decide) (by omega) (by omega) (by decide) ?_).mono fun e w' ⟨h1, h2⟩ => ?_
      · intro j b hj
        have : b ∈ crlf.data.toList := List.mem_of_getElem? hj
        simp [crlf] at this
        rcases this with rfl | rfl <;> decide
      · refine ⟨_, h1, brk_lib _, ?_⟩
        rw [h2]
        exact ((Below.refl _ _).alloc (Nat.le_refl _) _).alloc (by simp) _
  rw [hsl] at hI
  rw [← hse]
  show Calls Tryz.prog 105 #[.string s, .string crlf] w _
  obtain ⟨S, hS⟩ : ∃ S, S = crlf := ⟨_, rfl⟩
  rw [← hS] at hI ⊢
  clear hS hsl hse
  go_enter Tryz.func105, Tryz.ntmps105
  go_wp2_with fail
  refine hI.mono ?_
  clear hI
  rintro e w1 ⟨z, rfl, hz, hB⟩
  have HZ := hid hz
  have HB := hid hB
  clear hz hB
  go_wp2
  go_ret
  exact ⟨by rw [← HZ.out]; rfl, HB.out⟩

def outL (line : List UInt8) (ended : Bool) : Int := if 1024 < line.length then 431 else if ended = false ∨ brk line = true then 400 else 0
set_option maxHeartbeats 1000000 in
theorem outline_any (l : List UInt8) (ended : Bool) (w : World) (hs : l.length ≤ 4096) : Calls Tryz.prog 80 #[.string ⟨l.toArray⟩, .bool ended] w fun e w' => e = .returned (.int .i64 (outL l ended)) ∧ Below w.heap.size w w' := by
  have hC := fun w => containsAny_any l w (by omega)
  obtain ⟨s, hse⟩ : ∃ s : ByteArray, s = ⟨l.toArray⟩ := ⟨_, rfl⟩
  have hsz : s.size = l.length := by rw [hse, size_list]
  rw [← hse] at hC ⊢
  unfold outL
  by_cases h1 : 1024 < l.length
  · have h1' : (1024 : Int) < (s.size : Int) := by omega
    rw [if_pos h1]
    clear hC hse hsz
    go_enter Tryz.func80, Tryz.ntmps80
    go_wp2
    go_ret
    exact ⟨rfl, Below.refl _ _⟩
  · have h1' : ¬ (1024 : Int) < (s.size : Int) := by omega
    rw [if_neg h1]
    cases ended with
    | false =>
      rw [if_pos (Or.inl rfl)]
      clear hC hse hsz
      go_enter Tryz.func80, Tryz.ntmps80
      go_wp2
      go_ret
      exact ⟨rfl, Below.refl _ _⟩
    | true =>
      cases hb : brk l with
      | true =>
        rw [hb] at hC
        rw [if_pos (Or.inr rfl)]
        clear hse hsz
        go_enter Tryz.func80, Tryz.ntmps80
        go_wp2_with fail
        refine (hC _).mono ?_
        clear hC
        rintro e w1 ⟨rfl, hB⟩
        have HB := hid hB
        clear hB
        go_wp2
        go_ret
        exact ⟨rfl, HB.out⟩
      | false =>
        rw [hb] at hC
        rw [if_neg (by simp)]
        clear hse hsz
        go_enter Tryz.func80, Tryz.ntmps80
        go_wp2_with fail
        refine (hC _).mono ?_
        clear hC
        rintro e w1 ⟨rfl, hB⟩
        have HB := hid hB
        clear hB
        go_wp2
        go_ret
        exact ⟨rfl, HB.out⟩
end Go.Proofs.YtllhibdjopfcnaaGreatDoor

namespace Go.Proofs.YtllhibdjopfcnaaGreatDoor
open Go.RowKit
set_option linter.unusedVariables false

theorem index_cutE : ∀ l : List UInt8, (Lib.index l [13, 10] = -1 ∧ cutE l = (l, [], false)) ∨ ∃ k : Nat, Lib.index l [13, 10] = k ∧ cutE l = (l.take k, l.drop (k + 2), true)
  | [] => Or.inl ⟨rfl, rfl⟩
  | a :: r => by
    unfold Lib.index cutE
    by_cases h : a = 13 ∧ r.head? = some 10
    · refine Or.inr ⟨0, ?_, ?_⟩
      · rw [if_pos]
        · rfl
        · obtain ⟨rfl, h2⟩ := h
          cases r with
          | nil => simp at h2
          | cons b r => simp at h2; subst h2; simp [List.isPrefixOf]
      · rw [if_pos h]
        obtain ⟨_, h2⟩ := h
        cases r with
        | nil => simp at h2
        | cons b r => rfl
    · have hp : ¬ List.isPrefixOf [13, 10] (a :: r) = true := by
        intro e
        apply h
        cases r with
        | nil => simp [List.isPrefixOf] at e
        | cons b r =>
          simp [List.isPrefixOf] at e
          exact ⟨e.1.symm, by simp [e.2]⟩
      rw [if_neg hp, if_neg h]
      rcases index_cutE r with ⟨h1, h2⟩ | ⟨k, h1, h2⟩
      · rw [h1, h2]; exact Or.inl ⟨rfl, rfl⟩
      · rw [h1, h2, if_neg (by simp)]
        exact Or.inr ⟨k + 1, by omega, rfl⟩
theorem cutE_lib (l : List UInt8) : Lib.cut l [13, 10] = cutE l := by
  unfold Lib.cut
  rcases index_cutE l with ⟨h1, h2⟩ | ⟨k, h1, h2⟩
  · rw [h1, h2]; rfl
  · rw [h1, h2, if_pos (by omega)]
    simp
theorem cutE_any (l : List UInt8) (w : World) (hm : ML w) (hs : l.length ≤ 4096) :
    Calls Tryz.prog 55 #[.string ⟨l.toArray⟩, .string ⟨#[13, 10]⟩] w fun e w' => e = .returned (.tuple #[.string ⟨(cutE l).1.toArray⟩, .string ⟨(cutE l).2.1.toArray⟩, .bool (cutE l).2.2]) ∧ ∃ n, w' = w.drewN n := by
  obtain ⟨m, hm⟩ := hm
  have h := Tryz.strings_Cut ⟨l.toArray⟩ ⟨#[13, 10]⟩ m w (by rw [size_list]; omega) hm
  rw [show (⟨l.toArray⟩ : ByteArray).data.toList = l from by simp, show (⟨#[13, 10]⟩ : ByteArray).data.toList = [13, 10] from rfl, cutE_lib] at h
  exact h

theorem ver_prefix (l : List UInt8) : Lib.hasPrefix l [72, 84, 84, 80, 47] = decide (l.take 5 = [72, 84, 84, 80, 47]) := by
  by_cases h : l.take 5 = [72, 84, 84, 80, 47]
  · rw [decide_eq_true h]
    have : l = [72, 84, 84, 80, 47] ++ l.drop 5 := by rw [← h, List.take_append_drop]
    rw [this]
    simp [Lib.hasPrefix, List.isPrefixOf]
  · rw [decide_eq_false h]
    cases hb : Lib.hasPrefix l [72, 84, 84, 80, 47] with
    | false => rfl
    | true =>
      exfalso
      apply h
      unfold Lib.hasPrefix at hb
      obtain ⟨t, ht⟩ := List.isPrefixOf_iff_prefix.1 hb
      rw [← ht]
      rfl
theorem ver_split {l : List UInt8} (hp : l.take 5 = [72, 84, 84, 80, 47]) (h8 : l.length = 8) : ∃ a b c, l = [72, 84, 84, 80, 47, a, b, c] := by
  have e : l = [72, 84, 84, 80, 47] ++ l.drop 5 := by rw [← hp, List.take_append_drop]
  have hd : (l.drop 5).length = 3 := by rw [List.length_drop]; omega
  match hl : l.drop 5 with
  | [a, b, c] => exact ⟨a, b, c, by rw [e, hl]; rfl⟩
  | [] => rw [hl] at hd; simp at hd
  | [_] => rw [hl] at hd; simp at hd
  | [_, _] => rw [hl] at hd; simp at hd
  | _ :: _ :: _ :: _ :: _ => rw [hl] at hd; simp at hd
theorem verL_bad {l : List UInt8} (h1 : l ≠ v10) (h2 : l ≠ v11) (h : ¬ (l.length = 8 ∧ l.take 5 = [72, 84, 84, 80, 47] ∧ isDg (l.getD 5 0) = true ∧ l.getD 6 0 = 46 ∧ isDg (l.getD 7 0) = true)) : verL l = (0, 400) := by
  unfold verL
  rw [if_neg h1, if_neg h2, if_neg h]
theorem verL_other {l : List UInt8} (h1 : l ≠ v10) (h2 : l ≠ v11) (h : l.length = 8 ∧ l.take 5 = [72, 84, 84, 80, 47] ∧ isDg (l.getD 5 0) = true ∧ l.getD 6 0 = 46 ∧ isDg (l.getD 7 0) = true) : verL l = (0, 505) := by
  unfold verL
  rw [if_neg h1, if_neg h2, if_pos h]

set_option maxRecDepth 20000 in
set_option maxHeartbeats 2000000 in
theorem minorOf_any (l : List UInt8) (w : World) (hs : l.length ≤ 140737488355328) :
    Calls Tryz.prog 117 #[.string ⟨l.toArray⟩] w fun e w' => e = .returned (.tuple #[.int .i64 (verL l).1, .int .i64 (verL l).2]) ∧ w' = w := by
  by_cases h10 : l = v10
  · subst h10
    go_enter Tryz.func117, Tryz.ntmps117
    go_wp2
    go_ret2
    exact ⟨rfl, rfl⟩
  by_cases h11 : l = v11
  · subst h11
    go_enter Tryz.func117, Tryz.ntmps117
    go_wp2
    go_ret2
    exact ⟨rfl, rfl⟩
  have e10 : (l == [72, 84, 84, 80, 47, 49, 46, 48]) = false := by rw [beq_eq_false_iff_ne]; exact h10
  have e11 : (l == [72, 84, 84, 80, 47, 49, 46, 49]) = false := by rw [beq_eq_false_iff_ne]; exact h11
  have hC := Tryz.strings_CutPrefix ⟨l.toArray⟩ ⟨#[72, 84, 84, 80, 47]⟩ w
  rw [show (⟨l.toArray⟩ : ByteArray).data.toList = l from by simp, show (⟨#[72, 84, 84, 80, 47]⟩ : ByteArray).data.toList = [72, 84, 84, 80, 47] from rfl] at hC
  by_cases hp : l.take 5 = [72, 84, 84, 80, 47]
  · have hpb : Lib.hasPrefix l [72, 84, 84, 80, 47] = true := by rw [ver_prefix, decide_eq_true hp]
    rw [Lib.trimPrefix, if_pos hpb, hpb, show ([72, 84, 84, 80, 47] : List UInt8).length = 5 from rfl] at hC
    by_cases h8 : l.length = 8
    · obtain ⟨a, b, c, rfl⟩ := ver_split hp h8
      simp only [List.drop_succ_cons, List.drop_zero] at hC
      obtain ⟨N, hN⟩ : ∃ N : ByteArray, N = ⟨[a, b, c].toArray⟩ := ⟨_, rfl⟩
      have hNs : N.size = 3 := by rw [hN]; rfl
      have i0 := index_byte N .i64 0 0 rfl (by omega)
      have i1 := index_byte N .i64 1 1 rfl (by omega)
      have i2 := index_byte N .i64 2 2 rfl (by omega)
      have g0 : ∀ h : 0 < N.size, N[0]'h = a := by subst hN; intro h; rfl
      have g1 : ∀ h : 1 < N.size, N[1]'h = b := by subst hN; intro h; rfl
      have g2 : ∀ h : 2 < N.size, N[2]'h = c := by subst hN; intro h; rfl
      rw [g0] at i0
      rw [g1] at i1
      rw [g2] at i2
      rw [← hN] at hC
      have hN3 : ((N.size : Int) == 3) = true := by rw [hNs]; rfl
      have hDa := isDigit_any a w
      have hDc := isDigit_any c w
      have HB := hid (fun h => verL_bad h10 h11 h)
      have HO := hid (fun h => verL_other h10 h11 h)
      obtain ⟨V, hV⟩ : ∃ V, V = verL [72, 84, 84, 80, 47, a, b, c] := ⟨_, rfl⟩
      rw [← hV] at HB HO ⊢
      clear hN g0 g1 g2 hp hpb h8 h10 h11 hNs hV
      cases ha : isDg a with
      | false =>
        rw [ha] at hDa
        have HE := hid (HB.out (by simp [ha]))
        clear HB HO
        go_enter Tryz.func117, Tryz.ntmps117
        go_wp2_with fail
        refine hC.mono ?_
        rintro e w1 ⟨rfl, hw⟩
        subst hw
        go_wp2_with fail
        refine hDa.mono ?_
        rintro e w1 ⟨rfl, hw⟩
        subst hw
        go_wp2
        go_ret2
        rw [HE.out]
        exact ⟨rfl, rfl⟩
      | true =>
        rw [ha] at hDa
        by_cases hb : b = 46
        · subst hb
          have hb' : ((((46 : UInt8).toNat : Nat) : Int) == 46) = true := by decide
          cases hc : isDg c with
          | false =>
            rw [hc] at hDc
            have HE := hid (HB.out (by simp [hc]))
            clear HB HO
            go_enter Tryz.func117, Tryz.ntmps117
            go_wp2_with fail
            refine hC.mono ?_
            rintro e w1 ⟨rfl, hw⟩
            subst hw
            go_wp2_with fail
            refine hDa.mono ?_
            rintro e w1 ⟨rfl, hw⟩
            subst hw
            go_wp2_with fail
            refine hDc.mono ?_
            rintro e w1 ⟨rfl, hw⟩
            subst hw
            go_wp2
            go_ret2
            rw [HE.out]
            exact ⟨rfl, rfl⟩
          | true =>
            rw [hc] at hDc
            have HE := hid (HO.out (by simp [ha, hc]))
            clear HB HO
            go_enter Tryz.func117, Tryz.ntmps117
            go_wp2_with fail
            refine hC.mono ?_
            rintro e w1 ⟨rfl, hw⟩
            subst hw
            go_wp2_with fail
            refine hDa.mono ?_
            rintro e w1 ⟨rfl, hw⟩
            subst hw
            go_wp2_with fail
            refine hDc.mono ?_
            rintro e w1 ⟨rfl, hw⟩
            subst hw
            go_wp2
            go_ret2
            rw [HE.out]
            exact ⟨rfl, rfl⟩
        · have hb' : (((b.toNat : Nat) : Int) == 46) = false := by
            rw [beq_eq_false_iff_ne]
            intro e
            exact hb (byte_eq (b := b) (n := 46) (by omega))
          have HE := hid (HB.out (by simp [hb]))
          clear HB HO
          go_enter Tryz.func117, Tryz.ntmps117
          go_wp2_with fail
          refine hC.mono ?_
          rintro e w1 ⟨rfl, hw⟩
          subst hw
          go_wp2_with fail
          refine hDa.mono ?_
          rintro e w1 ⟨rfl, hw⟩
          subst hw
          go_wp2
          go_ret2
          rw [HE.out]
          exact ⟨rfl, rfl⟩
    · have hE := verL_bad h10 h11 (fun h => h8 h.1)
      rw [hE]
      obtain ⟨N, hN⟩ : ∃ N : ByteArray, N = ⟨(l.drop 5).toArray⟩ := ⟨_, rfl⟩
      have hNs : N.size = l.length - 5 := by rw [hN, size_list, List.length_drop]
      have h5 : 5 ≤ l.length := by
        have := congrArg List.length hp
        rw [List.length_take] at this
        simp at this
        omega
      have hN3 : ((N.size : Int) == 3) = false := by rw [beq_eq_false_iff_ne]; omega
      rw [← hN] at hC
      clear hN hNs hE hp hpb h10 h11
      go_enter Tryz.func117, Tryz.ntmps117
      go_wp2_with fail
      refine hC.mono ?_
      rintro e w1 ⟨rfl, hw⟩
      subst hw
      go_wp2
      go_ret2
      exact ⟨rfl, rfl⟩
  · have hpb : Lib.hasPrefix l [72, 84, 84, 80, 47] = false := by rw [ver_prefix, decide_eq_false hp]
    have hE := verL_bad h10 h11 (fun h => hp h.2.1)
    rw [hE]
    rw [Lib.trimPrefix, hpb] at hC
    clear hE hp hpb h10 h11
    go_enter Tryz.func117, Tryz.ntmps117
    go_wp2_with fail
    refine hC.mono ?_
    rintro e w1 ⟨rfl, hw⟩
    subst hw
    go_wp2
    go_ret2
    exact ⟨rfl, rfl⟩
end Go.Proofs.YtllhibdjopfcnaaGreatDoor
