/-
  Whether a line has a CR or LF within: strings.ContainsAny at these two, of any bytes.
-/
import Derived.Test.YtkidcoolcjmcfaaDoorVBase
import Derived.Test.YtkidcoolcjmcfaaDoorShelf
import Derived.Laws.RangeAny
import Derived.Laws.Runes
import Derived.Deep.LoopGhost
import Derived.WalkMore
namespace Go.Proofs.YtkidcoolcjmcfaaDoor
open Go.RowKit
set_option linter.unusedVariables false

theorem index_byte (s : ByteArray) (q : IntKind) (i : Int) (n : Nat) (hi : i = (n : Int)) (hn : n < s.size) (w : World) : (Instr.index 9 (.string s) (.int q i)).run Tryd.prog w = .ok (.int .u8 ((s[n].toNat : Nat) : Int)) w := by
  subst hi
  rw [run_index_string w 9 s q n Tryd.underlying9]
  simp [hn]
theorem get_in (s : ByteArray) (k : Nat) (h : k < s.size) : s.get! k = s[k] := by
  simp [ByteArray.get!, getElem!_pos, h]
  rfl
/-- What a rune beyond ASCII takes. -/
theorem decode_facts (s : ByteArray) (pos : Nat) (h : pos < s.size) (ha : 128 ≤ (s[pos]'h).toNat) :
    Utf8.valid ((Utf8.decode s pos).1 : Int) = true ∧ pos + (Utf8.decode s pos).2 ≤ s.size ∧ ∀ j, pos < j → j < pos + (Utf8.decode s pos).2 → ∀ hj : j < s.size, 128 ≤ (s[j]'hj).toNat := by
  have hn : ¬ (s[pos]'h).toNat < 128 := by omega
  have hb : ∀ k, (s.get! (pos + k)).toNat < 256 := fun k => (s.get! (pos + k)).toNat_lt
  have hc : ∀ k, (decide (pos + k < s.size) && (s.get! (pos + k)).toNat / 64 == 2) = true → pos + k < s.size ∧ 128 ≤ (s.get! (pos + k)).toNat := by
    intro k hk
    simp only [Bool.and_eq_true, decide_eq_true_eq, beq_iff_eq] at hk
    exact ⟨hk.1, by omega⟩
  have h0 := hb 0; have h1 := hb 1; have h2 := hb 2; have h3 := hb 3
  have hg : ∀ k (hk : pos + k < s.size), s.get! (pos + k) = s[pos + k] := fun k hk => get_in s _ hk
  have one : ∀ c, Utf8.valid ((c : Nat) : Int) = true → Utf8.valid (((c, 1) : Nat × Nat).1 : Int) = true ∧ pos + ((c, 1) : Nat × Nat).2 ≤ s.size ∧ ∀ j, pos < j → j < pos + ((c, 1) : Nat × Nat).2 → ∀ hj : j < s.size, 128 ≤ (s[j]'hj).toNat := by
    intro c hv
    exact ⟨hv, by simp only; omega, fun j h1 h2 => by simp only at h2; omega⟩
  have hre : Utf8.valid ((Utf8.runeError : Nat) : Int) = true := by decide
  simp only [Utf8.decode, get_at s pos h, hn, if_false]
  split
  · rename_i hx
    simp only [Bool.and_eq_true] at hx
    have k1 := hc 1 (by simp only [Bool.and_eq_true]; exact hx.2)
    split
    · rename_i hy
      refine ⟨?_, by simp only; omega, fun j j1 j2 hj => ?_⟩
      · simp only [beq_iff_eq] at hx
        simp only [Utf8.valid, Bool.or_eq_true, Bool.and_eq_true, decide_eq_true_eq]
        omega
      · simp only at j2
        obtain rfl : j = pos + 1 := by omega
        rw [← hg 1 hj]
        exact k1.2
    · exact one _ hre
  · split
    · rename_i hx
      simp only [Bool.and_eq_true] at hx
      have k1 := hc 1 (by simp only [Bool.and_eq_true]; exact hx.1.2)
      have k2 := hc 2 (by simp only [Bool.and_eq_true]; exact hx.2)
      split
      · rename_i hy
        simp only [Bool.and_eq_true] at hy
        refine ⟨hy.2, by simp only; omega, fun j j1 j2 hj => ?_⟩
        simp only at j2
        have : j = pos + 1 ∨ j = pos + 2 := by omega
        rcases this with rfl | rfl
        · rw [← hg 1 hj]; exact k1.2
        · rw [← hg 2 hj]; exact k2.2
      · exact one _ hre
    · split
      · rename_i hx
        simp only [Bool.and_eq_true] at hx
        have k1 := hc 1 (by simp only [Bool.and_eq_true]; exact hx.1.1.2)
        have k2 := hc 2 (by simp only [Bool.and_eq_true]; exact hx.1.2)
        have k3 := hc 3 (by simp only [Bool.and_eq_true]; exact hx.2)
        split
        · rename_i hy
          simp only [Bool.and_eq_true] at hy
          refine ⟨hy.2, by simp only; omega, fun j j1 j2 hj => ?_⟩
          simp only at j2
          have : j = pos + 1 ∨ j = pos + 2 ∨ j = pos + 3 := by omega
          rcases this with rfl | rfl | rfl
          · rw [← hg 1 hj]; exact k1.2
          · rw [← hg 2 hj]; exact k2.2
          · rw [← hg 3 hj]; exact k3.2
        · exact one _ hre
      · exact one _ hre

theorem validRune_any (r : Int) (hv : Utf8.valid r = true) (h0 : 128 ≤ r) (w : World) : Calls Tryd.prog 64 #[.int .i32 r] w fun e w' => e = .returned (.bool true) ∧ w' = w := by
  rw [validRune_eq, validRune, decide_eq_true_eq] at hv
  have f0 : decide ((0 : Int) ≤ r) = true := by simp; omega
  by_cases h1 : r < 55296
  · have f1 : decide (r < 55296) = true := by simp; omega
    clear hv
    go_enter Tryd.func64, Tryd.ntmps64
    go_wp2
    go_ret
    exact ⟨rfl, rfl⟩
  · have f1 : decide (r < 55296) = false := by simp; omega
    have f2 : decide ((57343 : Int) < r) = true := by simp; omega
    have f3 : decide (r ≤ 1114111) = true := by simp; omega
    clear hv
    go_enter Tryd.func64, Tryd.ntmps64
    go_wp2
    go_ret
    exact ⟨rfl, rfl⟩

def crlf : ByteArray := ⟨#[32, 9]⟩
theorem crlf_size : crlf.size = 2 := rfl
theorem crlf_low (k : Nat) (h : k < crlf.size) : (crlf[k]'h).toNat < 128 := by
  have : k = 0 ∨ k = 1 := by rw [crlf_size] at h; omega
  rcases this with rfl | rfl
  · show (32 : UInt8).toNat < 128; decide
  · show (9 : UInt8).toNat < 128; decide

set_option maxRecDepth 100000 in
set_option maxHeartbeats 4000000 in
theorem indexRune_error (w : World) : Calls Tryd.prog 50 #[.string crlf, .int .i32 65533] w fun e w' => e = .returned (.int .i64 (-1)) ∧ Below w.heap.size w w' := by
  obtain ⟨S, hS⟩ : ∃ S, S = crlf := ⟨_, rfl⟩
  have hsz : S.size = 2 := by rw [hS]; rfl
  have hlow : ∀ k (h : k < S.size), (S[k]'h).toNat < 128 := by subst hS; exact crlf_low
  rw [← hS]
  have HL := hid hlow
  have HZ := hid hsz
  clear hS hlow hsz
  go_enter Tryd.func50, Tryd.ntmps50
  go_wp2_with fail
  go_loopg [5, 6] 2 (fun g _ _ wx => ∃ i : Nat, i + g = 2 ∧ wx = w.iter S i)
  case atStart => exact ⟨0, by omega, rfl⟩
  case round =>
    obtain ⟨i, hig, rfl⟩ := hrel
    have hsz := HZ.out
    cases gk with
    | zero =>
      have hnx := fun ty => run_next_end (P := Tryd.prog) w S i ty (by omega)
      go_wp2
      go_ret
      exact ⟨rfl, (Below.refl _ _).alloc (Nat.le_refl _) _⟩
    | succ g =>
      have hi : i < S.size := by omega
      have hx := HL.out i hi
      have hnx := fun ty => run_next_ascii (P := Tryd.prog) w S i ty hi hx
      obtain ⟨x, hxe⟩ : ∃ x : UInt8, x = S[i]'hi := ⟨_, rfl⟩
      rw [← hxe] at hnx hx
      have hne : (((x.toNat : Nat) : Int) == 65533) = false := by rw [beq_eq_false_iff_ne]; omega
      clear hxe hsz
      go_wp2
      go_roundg g
      case measure => omega
      case rel => exact ⟨i + 1, by omega, rfl⟩

theorem byte_at (E : ByteArray) (k : Nat) (h : k < E.size) : (E.data.toList[k]?) = some E[k] := Lib.data_getElem? E k h

set_option maxRecDepth 100000 in
set_option maxHeartbeats 4000000 in
theorem indexRune_high (r : Int) (h128 : 128 ≤ r) (hv : Utf8.valid r = true) (hne : r ≠ 65533) (w : World) : Calls Tryd.prog 50 #[.string crlf, .int .i32 r] w fun e w' => e = .returned (.int .i64 (-1)) ∧ Below w.heap.size w w' := by
  have hV := validRune_any r hv h128 w
  obtain ⟨s2, s4, hlast⟩ := encode_facts r hv h128
  have f0 : decide ((0 : Int) ≤ r) = true := by simp; omega
  have f1 : decide (r < 128) = false := by simp; omega
  have f2 : (r == 65533) = false := by rw [beq_eq_false_iff_ne]; exact hne
  have hconv : ∀ w, (convert 21 9 (.int .i32 r)).run Tryd.prog w = .ok (.string (Utf8.encode r)) w := fun w => run_convert_int_string w 21 9 .i32 r (by rw [Tryd.underlying21]; rfl) Tryd.underlying9
  obtain ⟨E, hE⟩ : ∃ E, E = Utf8.encode r := ⟨_, rfl⟩
  rw [← hE] at s2 s4 hconv
  have hlast' : ∀ h : E.size - 1 < E.size, 128 ≤ (E[E.size - 1]'h).toNat := by subst hE; exact hlast
  clear hlast hE hv hne
  obtain ⟨S, hS⟩ : ∃ S, S = crlf := ⟨_, rfl⟩
  have hsz : S.size = 2 := by rw [hS]; rfl
  have hsz' : (S.size : Int) = 2 := by omega
  have hS1 : ∀ h : 1 < S.size, (S[1]'h).toNat = 9 := by subst hS; decide
  have hex : ∀ c : UInt8, Lib.indexByte (S.extract 2 S.size).data.toList c = -1 := by
    subst hS
    intro c
    rw [show (crlf.extract 2 crlf.size).data.toList = [] by decide]
    rfl
  rw [← hS]
  clear hS
  by_cases he : E.size = 2
  · have i2 := index_byte E .i64 1 1 rfl (by omega)
    have hl := hlast' (by omega)
    have hge : ∀ (h : 1 < E.size), 128 ≤ (E[1]'h).toNat := by
      intro h
      have : ∀ k (hk : k < E.size), k = 1 → 128 ≤ (E[k]'hk).toNat → 128 ≤ (E[1]'h).toNat := by intro k hk e; subst e; exact id
      exact this (E.size - 1) (by omega) (by omega) hl
    have hg1 := hge (by omega)
    obtain ⟨c, hc⟩ : ∃ c : UInt8, c = E[1]'(by omega) := ⟨_, rfl⟩
    rw [← hc] at i2 hg1
    have i1 := index_byte S .i64 1 1 rfl (by omega)
    rw [hS1 (by omega)] at i1
    have hneq : (((10 : Nat) : Int) != ((c.toNat : Nat) : Int)) = true := by rw [bne_iff_ne]; omega
    have hI : ∀ w, Calls Tryd.prog 63 #[.string (S.extract 2 S.size), .int .u8 ((c.toNat : Nat) : Int)] w fun e w' => e = .returned (.int .i64 (-1)) ∧ w' = w := by
      intro w
      have := Tryd.strings_IndexByte (S.extract 2 S.size) ((c.toNat : Nat) : Int) w
      rw [hex] at this
      exact this
    have heZ : (E.size : Int) = 2 := by omega
    have hw2 : IntKind.i64.wrap 2 = 2 := by decide
    have hsl : ∀ w, (Instr.slice 9 (.string S) (some (.int .i64 2)) none none).run Tryd.prog w = .ok (.string (S.extract 2 S.size)) w := fun w => run_slice_string_l w 9 S Tryd.underlying9 .i64 2 (by decide) (by omega)
    clear hex hS1 hlast' hl hge hc s2 s4 he hsz
    go_enter Tryd.func50, Tryd.ntmps50
    go_wp2_with fail
    refine hV.mono ?_
    clear hV
    rintro e w1 ⟨rfl, hw1⟩
    subst hw1
    go_wp2_with fail
    go_step3
    go_wp2_with fail
    go_loop [9] (fun i => i = .int .i64 1) (fun _ => 0)
    case atStart => rfl
    case round =>
      obtain rfl := hrel
      go_wp2_with fail
      go_step3
      go_wp2_with fail
      go_quiet (fail)
      go_wp2_with fail
      obtain ⟨w5, hw5⟩ : ∃ w5, w5 = w1.drewN nq := ⟨_, rfl⟩
      rw [← hw5]
      have HB5 : Hid (Below w1.heap.size w1 w5) := by unfold Hid; rw [hw5]; exact below_drewN (Below.refl _ _) _
      clear hw5
      go_quiet ((go_at_call 63; refine Calls.quiet_of_same (hI _)))
      go_wp2
      (try simp (zetaDelta := true) only [Exit.inBlock, Exit.then, Exit.noGoto])
      go_ret
      exact ⟨rfl, below_drewN HB5.out _⟩
  · have hE2 : ¬ (E.size : Int) - 1 < 2 := by omega
    clear hex hS1 hlast'
    go_enter Tryd.func50, Tryd.ntmps50
    go_wp2_with fail
    refine hV.mono ?_
    clear hV
    rintro e w1 ⟨rfl, hw1⟩
    subst hw1
    go_wp2_with fail
    go_step3
    go_wp2_with fail
    go_loop [9] (fun i => i = .int .i64 ((E.size : Int) - 1)) (fun _ => 0)
    case atStart => rfl
    case round =>
      obtain rfl := hrel
      go_wp2
      (try rw [Exit.noGoto_ret])
      go_ret
      exact ⟨rfl, Below.refl _ _⟩
end Go.Proofs.YtkidcoolcjmcfaaDoor
