/-
  The document's: kinds of bytes, texts in small letters, blanks around.
-/
import Derived.Test.YtllhibdjopfcnaaGreatDoorRHLeaf
namespace Go.Proofs.YtllhibdjopfcnaaGreatDoor
open Go.RowKit
set_option linter.unusedVariables false

def methL (l : List UInt8) : Bool := l.all isLg && (decide (1 ≤ l.length) && decide (l.length ≤ 16))
theorem byteN (n : Nat) (hn : n < 256) {b : UInt8} : ((b.toNat : Int) == (n : Int)) = decide (b = UInt8.ofNat n) := by
  by_cases h : b = UInt8.ofNat n
  · rw [decide_eq_true h, h, beq_iff_eq]; simp; omega
  · rw [decide_eq_false h, beq_eq_false_iff_ne]
    intro e
    exact h (byte_eq (b := b) (n := n) (by omega))

set_option maxRecDepth 20000 in
set_option maxHeartbeats 2000000 in
theorem rvisF_any (L : List UInt8) (w : World) (hs : L.length ≤ 140737488355328) :
    Calls Tryz.prog 63 #[.string ⟨L.toArray⟩, .bool false] w fun e w' => e = .returned (.bool (L.all isVs)) ∧ w' = w := by
  obtain ⟨s, hse⟩ : ∃ s : ByteArray, s = ⟨L.toArray⟩ := ⟨_, rfl⟩
  have hsz : s.size = L.length := by rw [hse, size_list]
  have hgt : ∀ j (h : j < s.size) (h' : j < L.length), s[j] = L[j] := by subst hse; intro j h h'; rfl
  rw [← hse]
  obtain ⟨V, hV⟩ : ∃ V, V = (L.all isVs) := ⟨_, rfl⟩
  rw [← hV]
  have HV := hid hV
  have HZ := hid hsz
  have HG := hid hgt
  clear hV hsz hgt hse
  go_enter Tryz.func63, Tryz.ntmps63
  go_wp2_with fail
  go_loop [5] (fun i => ∃ (k : Nat), k ≤ L.length ∧ i = .int .i64 (k : Int) ∧ (L.take k).all isVs = true) (fun i => L.length - (intOf i).toNat)
  case atStart => exact ⟨0, Nat.zero_le _, rfl, by simp⟩
  case round =>
    obtain ⟨k, hk, rfl, ha⟩ := hrel
    have hsz := HZ.out
    have HA := hid ha
    clear ha
    by_cases hlt : k < L.length
    · have hlt' : (k : Int) < (s.size : Int) := by omega
      have hk1 : k < s.size := by omega
      have i1 := index_byte s .i64 (k : Int) k rfl hk1
      rw [HG.out k hk1 hlt] at i1
      have HB : Hid (isVs L[k] = false → V = false) := by
        unfold Hid
        intro h
        rw [HV.out]
        (try unfold methL)
        rw [all_take_false hlt h]
        (try rfl)
      have HN : Hid (isVs L[k] = true → (L.take (k + 1)).all isVs = true) := by
        unfold Hid
        intro h
        rw [all_take_succ _ _ _ hlt, HA.out, h]
        rfl
      obtain ⟨a, hae⟩ : ∃ a, a = L[k] := ⟨_, rfl⟩
      rw [← hae] at i1 HB HN
      have la := a.toNat_lt
      clear hae hsz HA
      by_cases h1 : a.toNat < 33
      · have f1 : ((a.toNat : Nat) : Int) < 33 := by omega
        have HE := hid (HB.out (by unfold isVs; rw [decide_eq_false]; omega))
        clear HB HN
        go_wp2
        go_ret
        exact ⟨by rw [HE.out]; rfl, rfl⟩
      · have f1 : ¬ ((a.toNat : Nat) : Int) < 33 := by omega
        by_cases h2 : 126 < a.toNat
        · have f2 : (126 : Int) < ((a.toNat : Nat) : Int) := by omega
          have HE := hid (HB.out (by unfold isVs; rw [decide_eq_false]; omega))
          clear HB HN
          go_wp2
          go_ret
          exact ⟨by rw [HE.out]; rfl, rfl⟩
        · have f2 : ¬ (126 : Int) < ((a.toNat : Nat) : Int) := by omega
          have HE := hid (HN.out (by unfold isVs; rw [decide_eq_true]; omega))
          clear HB HN
          go_wp2
          go_round
          case rel => exact ⟨k + 1, by omega, by go_num, HE.out⟩
          case measure => simp [intOf]; omega
    · have hlt' : ¬ (k : Int) < (s.size : Int) := by omega
      have HE : Hid (V = true) := by
        unfold Hid
        have := HA.out
        rw [List.take_of_length_le (by omega)] at this
        rw [HV.out]
        exact this
      clear hsz
      go_wp2
      go_ret
      exact ⟨by rw [HE.out]; rfl, rfl⟩
theorem isVl_of {b : UInt8} (h : isVs b = true) : isVl b = true := by simp [isVl, h]
theorem isVl_no {b : UInt8} (h : isVs b = false) (h1 : b ≠ 32) (h2 : b ≠ 9) : isVl b = false := by simp [isVl, h, h1, h2]

set_option maxRecDepth 20000 in
set_option maxHeartbeats 2000000 in
theorem rvisT_any (L : List UInt8) (w : World) (hs : L.length ≤ 140737488355328) :
    Calls Tryz.prog 63 #[.string ⟨L.toArray⟩, .bool true] w fun e w' => e = .returned (.bool (L.all isVl)) ∧ w' = w := by
  obtain ⟨s, hse⟩ : ∃ s : ByteArray, s = ⟨L.toArray⟩ := ⟨_, rfl⟩
  have hsz : s.size = L.length := by rw [hse, size_list]
  have hgt : ∀ j (h : j < s.size) (h' : j < L.length), s[j] = L[j] := by subst hse; intro j h h'; rfl
  rw [← hse]
  obtain ⟨V, hV⟩ : ∃ V, V = (L.all isVl) := ⟨_, rfl⟩
  rw [← hV]
  have HV := hid hV
  have HZ := hid hsz
  have HG := hid hgt
  clear hV hsz hgt hse
  go_enter Tryz.func63, Tryz.ntmps63
  go_wp2_with fail
  go_loop [5] (fun i => ∃ (k : Nat), k ≤ L.length ∧ i = .int .i64 (k : Int) ∧ (L.take k).all isVl = true) (fun i => L.length - (intOf i).toNat)
  case atStart => exact ⟨0, Nat.zero_le _, rfl, by simp⟩
  case round =>
    obtain ⟨k, hk, rfl, ha⟩ := hrel
    have hsz := HZ.out
    have HA := hid ha
    clear ha
    by_cases hlt : k < L.length
    · have hlt' : (k : Int) < (s.size : Int) := by omega
      have hk1 : k < s.size := by omega
      have i1 := index_byte s .i64 (k : Int) k rfl hk1
      rw [HG.out k hk1 hlt] at i1
      have HB : Hid (isVl L[k] = false → V = false) := by
        unfold Hid
        intro h
        rw [HV.out]
        (try unfold methL)
        rw [all_take_false hlt h]
        (try rfl)
      have HN : Hid (isVl L[k] = true → (L.take (k + 1)).all isVl = true) := by
        unfold Hid
        intro h
        rw [all_take_succ _ _ _ hlt, HA.out, h]
        rfl
      obtain ⟨a, hae⟩ : ∃ a, a = L[k] := ⟨_, rfl⟩
      rw [← hae] at i1 HB HN
      have la := a.toNat_lt
      clear hae hsz HA
      by_cases h1 : a.toNat < 33
      · have f1 : ((a.toNat : Nat) : Int) < 33 := by omega
        have hvs : isVs a = false := by unfold isVs; rw [decide_eq_false]; omega
        by_cases h32 : a = 32
        · have f3 : (((a.toNat : Nat) : Int) != 32) = false := by subst h32; rfl
          have HE := hid (HN.out (by subst h32; decide))
          clear HB HN h32
          go_wp2
          go_round
          case rel => exact ⟨k + 1, by omega, by go_num, HE.out⟩
          case measure => simp [intOf]; omega
        · have f3 : (((a.toNat : Nat) : Int) != 32) = true := by
            rw [bne_iff_ne]
            intro e
            exact h32 (byte_eq (b := a) (n := 32) (by omega))
          by_cases h9 : a = 9
          · have f4 : (((a.toNat : Nat) : Int) != 9) = false := by subst h9; rfl
            have HE := hid (HN.out (by subst h9; decide))
            clear HB HN h32 h9
            go_wp2
            go_round
            case rel => exact ⟨k + 1, by omega, by go_num, HE.out⟩
            case measure => simp [intOf]; omega
          · have f4 : (((a.toNat : Nat) : Int) != 9) = true := by
              rw [bne_iff_ne]
              intro e
              exact h9 (byte_eq (b := a) (n := 9) (by omega))
            have HE := hid (HB.out (isVl_no hvs h32 h9))
            clear HB HN h32 h9 hvs
            go_wp2
            go_ret
            exact ⟨by rw [HE.out]; rfl, rfl⟩
      · have f1 : ¬ ((a.toNat : Nat) : Int) < 33 := by omega
        by_cases h2 : 126 < a.toNat
        · have f2 : (126 : Int) < ((a.toNat : Nat) : Int) := by omega
          have hvs : isVs a = false := by unfold isVs; rw [decide_eq_false]; omega
          by_cases h32 : a = 32
          · have f3 : (((a.toNat : Nat) : Int) != 32) = false := by subst h32; rfl
            have HE := hid (HN.out (by subst h32; decide))
            clear HB HN h32
            go_wp2
            go_round
            case rel => exact ⟨k + 1, by omega, by go_num, HE.out⟩
            case measure => simp [intOf]; omega
          · have f3 : (((a.toNat : Nat) : Int) != 32) = true := by
              rw [bne_iff_ne]
              intro e
              exact h32 (byte_eq (b := a) (n := 32) (by omega))
            by_cases h9 : a = 9
            · have f4 : (((a.toNat : Nat) : Int) != 9) = false := by subst h9; rfl
              have HE := hid (HN.out (by subst h9; decide))
              clear HB HN h32 h9
              go_wp2
              go_round
              case rel => exact ⟨k + 1, by omega, by go_num, HE.out⟩
              case measure => simp [intOf]; omega
            · have f4 : (((a.toNat : Nat) : Int) != 9) = true := by
                rw [bne_iff_ne]
                intro e
                exact h9 (byte_eq (b := a) (n := 9) (by omega))
              have HE := hid (HB.out (isVl_no hvs h32 h9))
              clear HB HN h32 h9 hvs
              go_wp2
              go_ret
              exact ⟨by rw [HE.out]; rfl, rfl⟩
        · have f2 : ¬ (126 : Int) < ((a.toNat : Nat) : Int) := by omega
          have HE := hid (HN.out (isVl_of (by unfold isVs; rw [decide_eq_true]; omega)))
          clear HB HN
          go_wp2
          go_round
          case rel => exact ⟨k + 1, by omega, by go_num, HE.out⟩
          case measure => simp [intOf]; omega
    · have hlt' : ¬ (k : Int) < (s.size : Int) := by omega
      have HE : Hid (V = true) := by
        unfold Hid
        have := HA.out
        rw [List.take_of_length_le (by omega)] at this
        rw [HV.out]
        exact this
      clear hsz
      go_wp2
      go_ret
      exact ⟨by rw [HE.out]; rfl, rfl⟩
theorem methL_eq (l : List UInt8) : methL l = false ↔ (16 < l.length ∨ madeL isLg l = false) := by
  unfold methL madeL
  cases l.all isLg with
  | false => simp
  | true =>
    cases l with
    | nil => simp
    | cons x r => simp; omega

set_option maxRecDepth 20000 in
set_option maxHeartbeats 2000000 in
theorem rmethod_any (L : List UInt8) (w : World) (hs : L.length ≤ 140737488355328) :
    Calls Tryz.prog 62 #[.string ⟨L.toArray⟩] w fun e w' => e = .returned (.bool (methL L)) ∧ w' = w := by
  obtain ⟨s, hse⟩ : ∃ s : ByteArray, s = ⟨L.toArray⟩ := ⟨_, rfl⟩
  have hsz : s.size = L.length := by rw [hse, size_list]
  have hgt : ∀ j (h : j < s.size) (h' : j < L.length), s[j] = L[j] := by subst hse; intro j h h'; rfl
  rw [← hse]
  obtain ⟨V, hV⟩ : ∃ V, V = (methL L) := ⟨_, rfl⟩
  rw [← hV]
  have HV := hid hV
  have HZ := hid hsz
  have HG := hid hgt
  clear hV hsz hgt hse
  go_enter Tryz.func62, Tryz.ntmps62
  go_wp2_with fail
  go_loop [3] (fun i => ∃ (k : Nat), k ≤ L.length ∧ i = .int .i64 (k : Int) ∧ (L.take k).all isLg = true) (fun i => L.length - (intOf i).toNat)
  case atStart => exact ⟨0, Nat.zero_le _, rfl, by simp⟩
  case round =>
    obtain ⟨k, hk, rfl, ha⟩ := hrel
    have hsz := HZ.out
    have HA := hid ha
    clear ha
    by_cases hlt : k < L.length
    · have hlt' : (k : Int) < (s.size : Int) := by omega
      have hk1 : k < s.size := by omega
      have i1 := index_byte s .i64 (k : Int) k rfl hk1
      rw [HG.out k hk1 hlt] at i1
      have HB : Hid (isLg L[k] = false → V = false) := by
        unfold Hid
        intro h
        rw [HV.out]
        (try unfold methL)
        rw [all_take_false hlt h]
        (try rfl)
      have HN : Hid (isLg L[k] = true → (L.take (k + 1)).all isLg = true) := by
        unfold Hid
        intro h
        rw [all_take_succ _ _ _ hlt, HA.out, h]
        rfl
      obtain ⟨a, hae⟩ : ∃ a, a = L[k] := ⟨_, rfl⟩
      rw [← hae] at i1 HB HN
      have la := a.toNat_lt
      clear hae hsz HA
      by_cases h1 : a.toNat < 65
      · have f1 : ((a.toNat : Nat) : Int) < 65 := by omega
        have HE := hid (HB.out (by unfold isLg; rw [decide_eq_false]; omega))
        clear HB HN
        go_wp2
        go_ret
        exact ⟨by rw [HE.out]; rfl, rfl⟩
      · have f1 : ¬ ((a.toNat : Nat) : Int) < 65 := by omega
        by_cases h2 : 90 < a.toNat
        · have f2 : (90 : Int) < ((a.toNat : Nat) : Int) := by omega
          have HE := hid (HB.out (by unfold isLg; rw [decide_eq_false]; omega))
          clear HB HN
          go_wp2
          go_ret
          exact ⟨by rw [HE.out]; rfl, rfl⟩
        · have f2 : ¬ (90 : Int) < ((a.toNat : Nat) : Int) := by omega
          have HE := hid (HN.out (by unfold isLg; rw [decide_eq_true]; omega))
          clear HB HN
          go_wp2
          go_round
          case rel => exact ⟨k + 1, by omega, by go_num, HE.out⟩
          case measure => simp [intOf]; omega
    · have hlt' : ¬ (k : Int) < (s.size : Int) := by omega
      have hv : V = (decide (1 ≤ L.length) && decide (L.length ≤ 16)) := by
        have := HA.out
        rw [List.take_of_length_le (by omega)] at this
        rw [HV.out, methL, this]
        rfl
      by_cases h1 : 1 ≤ L.length
      · have f1 : decide ((1 : Int) ≤ (s.size : Int)) = true := by simp; omega
        rw [decide_eq_true h1] at hv
        by_cases h16 : L.length ≤ 16
        · have f2 : decide ((s.size : Int) ≤ 16) = true := by simp; omega
          rw [decide_eq_true h16] at hv
          have HE := hid hv
          clear hsz hv
          go_wp2
          go_ret
          exact ⟨by rw [HE.out]; rfl, rfl⟩
        · have f2 : decide ((s.size : Int) ≤ 16) = false := by simp; omega
          rw [decide_eq_false h16] at hv
          have HE := hid hv
          clear hsz hv
          go_wp2
          go_ret
          exact ⟨by rw [HE.out]; rfl, rfl⟩
      · have f1 : decide ((1 : Int) ≤ (s.size : Int)) = false := by simp; omega
        rw [decide_eq_false h1] at hv
        have HE := hid hv
        clear hsz hv
        go_wp2
        go_ret
        exact ⟨by rw [HE.out]; rfl, rfl⟩
end Go.Proofs.YtllhibdjopfcnaaGreatDoor
