/-
  Values of a field, hosts, whether heads are the same: the document's.
-/
import Derived.Test.YtllhibdjopfcnaaGreatDoorZHField
import Derived.Test.YtllhibdjopfcnaaGreatDoorZHBody
namespace Go.Proofs.YtllhibdjopfcnaaGreatDoor
open Go.RowKit
set_option linter.unusedVariables false

/-- Where the first CR LF from a place on stands. -/
def endV (L : List UInt8) (k : Nat) : Int := if (cutE (L.drop k)).2.2 = true then ((k + (cutE (L.drop k)).1.length : Nat) : Int) else -1
theorem drop_cons2 {L : List UInt8} {k : Nat} (h : k < L.length) : L.drop k = L[k] :: L.drop (k + 1) := List.drop_eq_getElem_cons h
theorem head_drop (L : List UInt8) (k : Nat) : (L.drop k).head? = L[k]? := by simp [List.head?_drop]
theorem endV_hit {L : List UInt8} {k : Nat} (h : k + 1 < L.length) (h1 : L[k] = 13) (h2 : L[k + 1] = 10) : endV L k = k := by
  have hc : cutE (L.drop k) = ([], L.drop (k + 2), true) := by
    rw [drop_cons2 (by omega), cutE, if_pos ⟨h1, by rw [head_drop, List.getElem?_eq_getElem h, h2]⟩]
    rw [List.tail_drop]
  rw [endV, hc]
  simp
theorem endV_next {L : List UInt8} {k : Nat} (h : k + 1 < L.length) (hn : ¬ (L[k] = 13 ∧ L[k + 1] = 10)) : endV L k = endV L (k + 1) := by
  have hc : cutE (L.drop k) = (L[k] :: (cutE (L.drop (k + 1))).1, (cutE (L.drop (k + 1))).2.1, (cutE (L.drop (k + 1))).2.2) := by
    rw [drop_cons2 (by omega), cutE, if_neg]
    intro ⟨e1, e2⟩
    rw [head_drop, List.getElem?_eq_getElem h] at e2
    exact hn ⟨e1, by simpa using e2⟩
  unfold endV
  rw [hc]
  simp only
  split
  · simp; omega
  · rfl
theorem endV_end {L : List UInt8} {k : Nat} (h : ¬ k + 1 < L.length) : endV L k = -1 := by
  have : (cutE (L.drop k)).2.2 = false := by
    by_cases hk : k < L.length
    · have hl : L.drop (k + 1) = [] := List.drop_eq_nil_of_le (by omega)
      rw [drop_cons2 hk, hl]
      simp [cutE]
    · rw [List.drop_eq_nil_of_le (by omega)]
      rfl
  rw [endV, this]
  simp
theorem byte13 {b : UInt8} : ((b.toNat : Int) == 13) = decide (b = 13) := by
  by_cases h : b = 13
  · subst h; rfl
  · rw [decide_eq_false h, beq_eq_false_iff_ne]
    intro e
    exact h (byte_eq (b := b) (n := 13) (by omega))
theorem byte10 {b : UInt8} : ((b.toNat : Int) == 10) = decide (b = 10) := by
  by_cases h : b = 10
  · subst h; rfl
  · rw [decide_eq_false h, beq_eq_false_iff_ne]
    intro e
    exact h (byte_eq (b := b) (n := 10) (by omega))

set_option maxRecDepth 20000 in
set_option maxHeartbeats 1000000 in
theorem rend_any (L : List UInt8) (k0 : Nat) (w : World) (hs : L.length ≤ 140737488355328) (hk0 : k0 ≤ L.length) :
    Calls Tryz.prog 40 #[.string ⟨L.toArray⟩, .int .i64 (k0 : Int)] w fun e w' => e = .returned (.int .i64 (endV L k0)) ∧ w' = w := by
  obtain ⟨s, hse⟩ : ∃ s : ByteArray, s = ⟨L.toArray⟩ := ⟨_, rfl⟩
  have hsz : s.size = L.length := by rw [hse, size_list]
  have hgt : ∀ j (h : j < s.size) (h' : j < L.length), s[j] = L[j] := by subst hse; intro j h h'; rfl
  rw [← hse]
  obtain ⟨V, hV⟩ : ∃ V, V = endV L k0 := ⟨_, rfl⟩
  rw [← hV]
  have HV := hid hV
  have HZ := hid hsz
  have HG := hid hgt
  clear hV hsz hgt hse
  go_enter Tryz.func40, Tryz.ntmps40
  go_wp2_with fail
  go_loop [5] (fun i => ∃ (k : Nat), k ≤ L.length ∧ i = .int .i64 (k : Int) ∧ V = endV L k) (fun i => L.length - (intOf i).toNat)
  case atStart => exact ⟨k0, hk0, rfl, HV.out⟩
  clear HV
  case round =>
    obtain ⟨k, hk, rfl, hV⟩ := hrel
    have hsz := HZ.out
    have HV := hid hV
    clear hV
    by_cases hlt : k + 1 < L.length
    · have hlt' : (k : Int) + 1 < (s.size : Int) := by omega
      have hk1 : k < s.size := by omega
      have hk2 : k + 1 < s.size := by omega
      have i1 := index_byte s .i64 (k : Int) k rfl hk1
      have i2 := index_byte s .i64 ((k : Int) + 1) (k + 1) (by omega) hk2
      rw [HG.out k hk1 (by omega)] at i1
      rw [HG.out (k + 1) hk2 hlt] at i2
      have HH := hid (fun h1 h2 => HV.out.trans (endV_hit hlt h1 h2))
      have HN := hid (fun h => HV.out.trans (endV_next hlt h))
      obtain ⟨a, ha⟩ : ∃ a, a = L[k] := ⟨_, rfl⟩
      obtain ⟨b, hb⟩ : ∃ b, b = L[k + 1] := ⟨_, rfl⟩
      rw [← ha] at i1 HH HN
      rw [← hb] at i2 HH HN
      clear ha hb hsz
      by_cases h13 : a = 13
      · have f1 : ((a.toNat : Int) == 13) = true := by rw [byte13, decide_eq_true h13]
        by_cases h10 : b = 10
        · have f2 : ((b.toNat : Int) == 10) = true := by rw [byte10, decide_eq_true h10]
          have HE := hid (HH.out h13 h10)
          clear HH HN h13 h10
          go_wp2
          go_ret
          exact ⟨by rw [HE.out]; rfl, rfl⟩
        · have f2 : ((b.toNat : Int) == 10) = false := by rw [byte10, decide_eq_false h10]
          have HE := hid (HN.out (fun h => h10 h.2))
          clear HH HN h13 h10
          go_wp2
          go_round
          case rel => exact ⟨k + 1, by omega, by go_num, HE.out⟩
          case measure => simp [intOf]; omega
      · have f1 : ((a.toNat : Int) == 13) = false := by rw [byte13, decide_eq_false h13]
        have HE := hid (HN.out (fun h => h13 h.1))
        clear HH HN h13
        go_wp2
        go_round
        case rel => exact ⟨k + 1, by omega, by go_num, HE.out⟩
        case measure => simp [intOf]; omega
    · have hlt' : ¬ (k : Int) + 1 < (s.size : Int) := by omega
      have HE := hid (HV.out.trans (endV_end hlt))
      clear hsz
      go_wp2
      go_ret
      exact ⟨by rw [HE.out]; rfl, rfl⟩

theorem any_take_false {p : UInt8 → Bool} {l : List UInt8} {k : Nat} (h : k < l.length) (ha : (l.take k).any p = false) (hp : p l[k] = false) : (l.take (k + 1)).any p = false := by
  rw [List.take_succ_eq_append_getElem h, List.any_append, ha]
  simp [hp]
theorem any_hit {p : UInt8 → Bool} {l : List UInt8} {k : Nat} (h : k < l.length) (hp : p l[k] = true) : l.any p = true := by
  rw [List.any_eq_true]
  exact ⟨l[k], List.getElem_mem h, hp⟩
theorem brkB_eq (b : UInt8) : brkB b = (decide (b = 13) || decide (b = 10)) := by
  simp [brkB]
set_option maxRecDepth 20000 in
set_option maxHeartbeats 1000000 in
theorem rbroken_any (L : List UInt8) (w : World) (hs : L.length ≤ 140737488355328) :
    Calls Tryz.prog 41 #[.string ⟨L.toArray⟩] w fun e w' => e = .returned (.bool (brk L)) ∧ w' = w := by
  obtain ⟨s, hse⟩ : ∃ s : ByteArray, s = ⟨L.toArray⟩ := ⟨_, rfl⟩
  have hsz : s.size = L.length := by rw [hse, size_list]
  have hgt : ∀ j (h : j < s.size) (h' : j < L.length), s[j] = L[j] := by subst hse; intro j h h'; rfl
  rw [← hse]
  obtain ⟨V, hV⟩ : ∃ V, V = brk L := ⟨_, rfl⟩
  rw [← hV]
  have HV := hid hV
  have HZ := hid hsz
  have HG := hid hgt
  clear hV hsz hgt hse
  go_enter Tryz.func41, Tryz.ntmps41
  go_wp2_with fail
  go_loop [3] (fun i => ∃ (k : Nat), k ≤ L.length ∧ i = .int .i64 (k : Int) ∧ (L.take k).any brkB = false) (fun i => L.length - (intOf i).toNat)
  case atStart => exact ⟨0, Nat.zero_le _, rfl, by simp⟩
  case round =>
    obtain ⟨k, hk, rfl, ha⟩ := hrel
    have hsz := HZ.out
    have HA := hid ha
    clear ha
    by_cases hlt : k < L.length
    · have hlt' : (k : Int) < (s.size : Int) := by omega
      have hk1 : k < s.size := by omega
      have i1 := index_byte s .i64 (k : Int) k rfl hk1
      rw [HG.out k hk1 hlt] at i1
      have HH : Hid (brkB L[k] = true → V = true) := by unfold Hid; intro h; rw [HV.out]; exact any_hit hlt h
      have HN := hid (fun h => any_take_false hlt HA.out h)
      obtain ⟨a, hae⟩ : ∃ a, a = L[k] := ⟨_, rfl⟩
      rw [← hae] at i1 HH HN
      have hbe := brkB_eq a
      clear hae hsz HA
      by_cases h13 : a = 13
      · have f1 : ((a.toNat : Int) == 13) = true := by rw [byte13, decide_eq_true h13]
        have HE := hid (HH.out (by rw [hbe, decide_eq_true h13]; rfl))
        clear HH HN h13 hbe
        go_wp2
        go_ret
        exact ⟨by rw [HE.out]; rfl, rfl⟩
      · have f1 : ((a.toNat : Int) == 13) = false := by rw [byte13, decide_eq_false h13]
        by_cases h10 : a = 10
        · have f2 : ((a.toNat : Int) == 10) = true := by rw [byte10, decide_eq_true h10]
          have HE := hid (HH.out (by rw [hbe, decide_eq_true h10]; simp))
          clear HH HN h13 h10 hbe
          go_wp2
          go_ret
          exact ⟨by rw [HE.out]; rfl, rfl⟩
        · have f2 : ((a.toNat : Int) == 10) = false := by rw [byte10, decide_eq_false h10]
          have HE := hid (HN.out (by rw [hbe, decide_eq_false h13, decide_eq_false h10]; rfl))
          clear HH HN h13 h10 hbe
          go_wp2
          go_round
          case rel => exact ⟨k + 1, by omega, by go_num, HE.out⟩
          case measure => simp [intOf]; omega
    · have hlt' : ¬ (k : Int) < (s.size : Int) := by omega
      have HE : Hid (V = false) := by
        unfold Hid
        have := HA.out
        rw [List.take_of_length_le (by omega)] at this
        rw [HV.out]
        exact this
      clear hsz
      go_wp2
      go_ret
      exact ⟨by rw [HE.out]; rfl, rfl⟩
end Go.Proofs.YtllhibdjopfcnaaGreatDoor

namespace Go.Proofs.YtllhibdjopfcnaaGreatDoor
open Go.RowKit
set_option linter.unusedVariables false

def methL (l : List UInt8) : Bool := l.all isLg && (decide (1 ≤ l.length) && decide (l.length ≤ 16))
theorem byteN (n : Nat) (hn : n < 256) {b : UInt8} : ((b.toNat : Int) == (n : Int)) = decide (b = UInt8.ofNat n) := by
  by_cases h : b = UInt8.ofNat n
  · rw [decide_eq_true h, h, beq_iff_eq]; simp; omega
  · rw [decide_eq_false h, beq_eq_false_iff_ne]
    intro e
    exact h (byte_eq (b := b) (n := n) (by omega))

set_option maxRecDepth 20000 in
set_option maxHeartbeats 2000000 in
theorem rvisF_any (L : List UInt8) (w : World) (hs : L.length ≤ 140737488355328) :
    Calls Tryz.prog 63 #[.string ⟨L.toArray⟩, .bool false] w fun e w' => e = .returned (.bool (L.all isVs)) ∧ w' = w := by
  obtain ⟨s, hse⟩ : ∃ s : ByteArray, s = ⟨L.toArray⟩ := ⟨_, rfl⟩
  have hsz : s.size = L.length := by rw [hse, size_list]
  have hgt : ∀ j (h : j < s.size) (h' : j < L.length), s[j] = L[j] := by subst hse; intro j h h'; rfl
  rw [← hse]
  obtain ⟨V, hV⟩ : ∃ V, V = (L.all isVs) := ⟨_, rfl⟩
  rw [← hV]
  have HV := hid hV
  have HZ := hid hsz
  have HG := hid hgt
  clear hV hsz hgt hse
  go_enter Tryz.func63, Tryz.ntmps63
  go_wp2_with fail
  go_loop [5] (fun i => ∃ (k : Nat), k ≤ L.length ∧ i = .int .i64 (k : Int) ∧ (L.take k).all isVs = true) (fun i => L.length - (intOf i).toNat)
  case atStart => exact ⟨0, Nat.zero_le _, rfl, by simp⟩
  case round =>
    obtain ⟨k, hk, rfl, ha⟩ := hrel
    have hsz := HZ.out
    have HA := hid ha
    clear ha
    by_cases hlt : k < L.length
    · have hlt' : (k : Int) < (s.size : Int) := by omega
      have hk1 : k < s.size := by omega
      have i1 := index_byte s .i64 (k : Int) k rfl hk1
      rw [HG.out k hk1 hlt] at i1
      have HB : Hid (isVs L[k] = false → V = false) := by
        unfold Hid
        intro h
        rw [HV.out]
        (try unfold methL)
        rw [all_take_false hlt h]
        (try rfl)
      have HN : Hid (isVs L[k] = true → (L.take (k + 1)).all isVs = true) := by
        unfold Hid
        intro h
        rw [all_take_succ _ _ _ hlt, HA.out, h]
        rfl
      obtain ⟨a, hae⟩ : ∃ a, a = L[k] := ⟨_, rfl⟩
      rw [← hae] at i1 HB HN
      have la := a.toNat_lt
      clear hae hsz HA
      by_cases h1 : a.toNat < 33
      · have f1 : ((a.toNat : Nat) : Int) < 33 := by omega
        have HE := hid (HB.out (by unfold isVs; rw [decide_eq_false]; omega))
        clear HB HN
        go_wp2
        go_ret
        exact ⟨by rw [HE.out]; rfl, rfl⟩
      · have f1 : ¬ ((a.toNat : Nat) : Int) < 33 := by omega
        by_cases h2 : 126 < a.toNat
        · have f2 : (126 : Int) < ((a.toNat : Nat) : Int) := by omega
          have HE := hid (HB.out (by unfold isVs; rw [decide_eq_false]; omega))
          clear HB HN
          go_wp2
          go_ret
          exact ⟨by rw [HE.out]; rfl, rfl⟩
        · have f2 : ¬ (126 : Int) < ((a.toNat : Nat) : Int) := by omega
          have HE := hid (HN.out (by unfold isVs; rw [decide_eq_true]; omega))
          clear HB HN
          go_wp2
          go_round
          case rel => exact ⟨k + 1, by omega, by go_num, HE.out⟩
          case measure => simp [intOf]; omega
    · have hlt' : ¬ (k : Int) < (s.size : Int) := by omega
      have HE : Hid (V = true) := by
        unfold Hid
        have := HA.out
        rw [List.take_of_length_le (by omega)] at this
        rw [HV.out]
        exact this
      clear hsz
      go_wp2
      go_ret
      exact ⟨by rw [HE.out]; rfl, rfl⟩
theorem isVl_of {b : UInt8} (h : isVs b = true) : isVl b = true := by simp [isVl, h]
theorem isVl_no {b : UInt8} (h : isVs b = false) (h1 : b ≠ 32) (h2 : b ≠ 9) : isVl b = false := by simp [isVl, h, h1, h2]

set_option maxRecDepth 20000 in
set_option maxHeartbeats 2000000 in
theorem rvisT_any (L : List UInt8) (w : World) (hs : L.length ≤ 140737488355328) :
    Calls Tryz.prog 63 #[.string ⟨L.toArray⟩, .bool true] w fun e w' => e = .returned (.bool (L.all isVl)) ∧ w' = w := by
  obtain ⟨s, hse⟩ : ∃ s : ByteArray, s = ⟨L.toArray⟩ := ⟨_, rfl⟩
  have hsz : s.size = L.length := by rw [hse, size_list]
  have hgt : ∀ j (h : j < s.size) (h' : j < L.length), s[j] = L[j] := by subst hse; intro j h h'; rfl
  rw [← hse]
  obtain ⟨V, hV⟩ : ∃ V, V = (L.all isVl) := ⟨_, rfl⟩
  rw [← hV]
  have HV := hid hV
  have HZ := hid hsz
  have HG := hid hgt
  clear hV hsz hgt hse
  go_enter Tryz.func63, Tryz.ntmps63
  go_wp2_with fail
  go_loop [5] (fun i => ∃ (k : Nat), k ≤ L.length ∧ i = .int .i64 (k : Int) ∧ (L.take k).all isVl = true) (fun i => L.length - (intOf i).toNat)
  case atStart => exact ⟨0, Nat.zero_le _, rfl, by simp⟩
  case round =>
    obtain ⟨k, hk, rfl, ha⟩ := hrel
    have hsz := HZ.out
    have HA := hid ha
    clear ha
    by_cases hlt : k < L.length
    · have hlt' : (k : Int) < (s.size : Int) := by omega
      have hk1 : k < s.size := by omega
      have i1 := index_byte s .i64 (k : Int) k rfl hk1
      rw [HG.out k hk1 hlt] at i1
      have HB : Hid (isVl L[k] = false → V = false) := by
        unfold Hid
        intro h
        rw [HV.out]
        (try unfold methL)
        rw [all_take_false hlt h]
        (try rfl)
      have HN : Hid (isVl L[k] = true → (L.take (k + 1)).all isVl = true) := by
        unfold Hid
        intro h
        rw [all_take_succ _ _ _ hlt, HA.out, h]
        rfl
      obtain ⟨a, hae⟩ : ∃ a, a = L[k] := ⟨_, rfl⟩
      rw [← hae] at i1 HB HN
      have la := a.toNat_lt
      clear hae hsz HA
      by_cases h1 : a.toNat < 33
      · have f1 : ((a.toNat : Nat) : Int) < 33 := by omega
        have hvs : isVs a = false := by unfold isVs; rw [decide_eq_false]; omega
        by_cases h32 : a = 32
        · have f3 : (((a.toNat : Nat) : Int) != 32) = false := by subst h32; rfl
          have HE := hid (HN.out (by subst h32; decide))
          clear HB HN h32
          go_wp2
          go_round
          case rel => exact ⟨k + 1, by omega, by go_num, HE.out⟩
          case measure => simp [intOf]; omega
        · have f3 : (((a.toNat : Nat) : Int) != 32) = true := by
            rw [bne_iff_ne]
            intro e
            exact h32 (byte_eq (b := a) (n := 32) (by omega))
          by_cases h9 : a = 9
          · have f4 : (((a.toNat : Nat) : Int) != 9) = false := by subst h9; rfl
            have HE := hid (HN.out (by subst h9; decide))
            clear HB HN h32 h9
            go_wp2
            go_round
            case rel => exact ⟨k + 1, by omega, by go_num, HE.out⟩
            case measure => simp [intOf]; omega
          · have f4 : (((a.toNat : Nat) : Int) != 9) = true := by
              rw [bne_iff_ne]
              intro e
              exact h9 (byte_eq (b := a) (n := 9) (by omega))
            have HE := hid (HB.out (isVl_no hvs h32 h9))
            clear HB HN h32 h9 hvs
            go_wp2
            go_ret
            exact ⟨by rw [HE.out]; rfl, rfl⟩
      · have f1 : ¬ ((a.toNat : Nat) : Int) < 33 := by omega
        by_cases h2 : 126 < a.toNat
        · have f2 : (126 : Int) < ((a.toNat : Nat) : Int) := by omega
          have hvs : isVs a = false := by unfold isVs; rw [decide_eq_false]; omega
          by_cases h32 : a = 32
          · have f3 : (((a.toNat : Nat) : Int) != 32) = false := by subst h32; rfl
            have HE := hid (HN.out (by subst h32; decide))
            clear HB HN h32
            go_wp2
            go_round
            case rel => exact ⟨k + 1, by omega, by go_num, HE.out⟩
            case measure => simp [intOf]; omega
          · have f3 : (((a.toNat : Nat) : Int) != 32) = true := by
              rw [bne_iff_ne]
              intro e
              exact h32 (byte_eq (b := a) (n := 32) (by omega))
            by_cases h9 : a = 9
            · have f4 : (((a.toNat : Nat) : Int) != 9) = false := by subst h9; rfl
              have HE := hid (HN.out (by subst h9; decide))
              clear HB HN h32 h9
              go_wp2
              go_round
              case rel => exact ⟨k + 1, by omega, by go_num, HE.out⟩
              case measure => simp [intOf]; omega
            · have f4 : (((a.toNat : Nat) : Int) != 9) = true := by
                rw [bne_iff_ne]
                intro e
                exact h9 (byte_eq (b := a) (n := 9) (by omega))
              have HE := hid (HB.out (isVl_no hvs h32 h9))
              clear HB HN h32 h9 hvs
              go_wp2
              go_ret
              exact ⟨by rw [HE.out]; rfl, rfl⟩
        · have f2 : ¬ (126 : Int) < ((a.toNat : Nat) : Int) := by omega
          have HE := hid (HN.out (isVl_of (by unfold isVs; rw [decide_eq_true]; omega)))
          clear HB HN
          go_wp2
          go_round
          case rel => exact ⟨k + 1, by omega, by go_num, HE.out⟩
          case measure => simp [intOf]; omega
    · have hlt' : ¬ (k : Int) < (s.size : Int) := by omega
      have HE : Hid (V = true) := by
        unfold Hid
        have := HA.out
        rw [List.take_of_length_le (by omega)] at this
        rw [HV.out]
        exact this
      clear hsz
      go_wp2
      go_ret
      exact ⟨by rw [HE.out]; rfl, rfl⟩
theorem methL_eq (l : List UInt8) : methL l = false ↔ (16 < l.length ∨ madeL isLg l = false) := by
  unfold methL madeL
  cases l.all isLg with
  | false => simp
  | true =>
    cases l with
    | nil => simp
    | cons x r => simp; omega

set_option maxRecDepth 20000 in
set_option maxHeartbeats 2000000 in
theorem rmethod_any (L : List UInt8) (w : World) (hs : L.length ≤ 140737488355328) :
    Calls Tryz.prog 62 #[.string ⟨L.toArray⟩] w fun e w' => e = .returned (.bool (methL L)) ∧ w' = w := by
  obtain ⟨s, hse⟩ : ∃ s : ByteArray, s = ⟨L.toArray⟩ := ⟨_, rfl⟩
  have hsz : s.size = L.length := by rw [hse, size_list]
  have hgt : ∀ j (h : j < s.size) (h' : j < L.length), s[j] = L[j] := by subst hse; intro j h h'; rfl
  rw [← hse]
  obtain ⟨V, hV⟩ : ∃ V, V = (methL L) := ⟨_, rfl⟩
  rw [← hV]
  have HV := hid hV
  have HZ := hid hsz
  have HG := hid hgt
  clear hV hsz hgt hse
  go_enter Tryz.func62, Tryz.ntmps62
  go_wp2_with fail
  go_loop [3] (fun i => ∃ (k : Nat), k ≤ L.length ∧ i = .int .i64 (k : Int) ∧ (L.take k).all isLg = true) (fun i => L.length - (intOf i).toNat)
  case atStart => exact ⟨0, Nat.zero_le _, rfl, by simp⟩
  case round =>
    obtain ⟨k, hk, rfl, ha⟩ := hrel
    have hsz := HZ.out
    have HA := hid ha
    clear ha
    by_cases hlt : k < L.length
    · have hlt' : (k : Int) < (s.size : Int) := by omega
      have hk1 : k < s.size := by omega
      have i1 := index_byte s .i64 (k : Int) k rfl hk1
      rw [HG.out k hk1 hlt] at i1
      have HB : Hid (isLg L[k] = false → V = false) := by
        unfold Hid
        intro h
        rw [HV.out]
        (try unfold methL)
        rw [all_take_false hlt h]
        (try rfl)
      have HN : Hid (isLg L[k] = true → (L.take (k + 1)).all isLg = true) := by
        unfold Hid
        intro h
        rw [all_take_succ _ _ _ hlt, HA.out, h]
        rfl
      obtain ⟨a, hae⟩ : ∃ a, a = L[k] := ⟨_, rfl⟩
      rw [← hae] at i1 HB HN
      have la := a.toNat_lt
      clear hae hsz HA
      by_cases h1 : a.toNat < 65
      · have f1 : ((a.toNat : Nat) : Int) < 65 := by omega
        have HE := hid (HB.out (by unfold isLg; rw [decide_eq_false]; omega))
        clear HB HN
        go_wp2
        go_ret
        exact ⟨by rw [HE.out]; rfl, rfl⟩
      · have f1 : ¬ ((a.toNat : Nat) : Int) < 65 := by omega
        by_cases h2 : 90 < a.toNat
        · have f2 : (90 : Int) < ((a.toNat : Nat) : Int) := by omega
          have HE := hid (HB.out (by unfold isLg; rw [decide_eq_false]; omega))
          clear HB HN
          go_wp2
          go_ret
          exact ⟨by rw [HE.out]; rfl, rfl⟩
        · have f2 : ¬ (90 : Int) < ((a.toNat : Nat) : Int) := by omega
          have HE := hid (HN.out (by unfold isLg; rw [decide_eq_true]; omega))
          clear HB HN
          go_wp2
          go_round
          case rel => exact ⟨k + 1, by omega, by go_num, HE.out⟩
          case measure => simp [intOf]; omega
    · have hlt' : ¬ (k : Int) < (s.size : Int) := by omega
      have hv : V = (decide (1 ≤ L.length) && decide (L.length ≤ 16)) := by
        have := HA.out
        rw [List.take_of_length_le (by omega)] at this
        rw [HV.out, methL, this]
        rfl
      by_cases h1 : 1 ≤ L.length
      · have f1 : decide ((1 : Int) ≤ (s.size : Int)) = true := by simp; omega
        rw [decide_eq_true h1] at hv
        by_cases h16 : L.length ≤ 16
        · have f2 : decide ((s.size : Int) ≤ 16) = true := by simp; omega
          rw [decide_eq_true h16] at hv
          have HE := hid hv
          clear hsz hv
          go_wp2
          go_ret
          exact ⟨by rw [HE.out]; rfl, rfl⟩
        · have f2 : decide ((s.size : Int) ≤ 16) = false := by simp; omega
          rw [decide_eq_false h16] at hv
          have HE := hid hv
          clear hsz hv
          go_wp2
          go_ret
          exact ⟨by rw [HE.out]; rfl, rfl⟩
      · have f1 : decide ((1 : Int) ≤ (s.size : Int)) = false := by simp; omega
        rw [decide_eq_false h1] at hv
        have HE := hid hv
        clear hsz hv
        go_wp2
        go_ret
        exact ⟨by rw [HE.out]; rfl, rfl⟩
end Go.Proofs.YtllhibdjopfcnaaGreatDoor

namespace Go.Proofs.YtllhibdjopfcnaaGreatDoor
open Go.RowKit
set_option linter.unusedVariables false

def signsA : ByteArray := ⟨#[33, 35, 36, 37, 38, 39, 42, 43, 45, 46, 94, 95, 96, 124, 126]⟩
theorem signsA_get : ∀ n : Nat, (h : n < 15) → (signsA[n]'h).toNat = (signs.getD n 0).toNat := by decide
theorem index_sign (q : IntKind) (i : Int) (n : Nat) (hi : i = (n : Int)) (hn : n < 15) (w : World) : (Instr.index 9 (.string { data := #[33, 35, 36, 37, 38, 39, 42, 43, 45, 46, 94, 95, 96, 124, 126] }) (.int q i)).run Tryz.prog w = .ok (.int .u8 (((signs.getD n 0).toNat : Nat) : Int)) w := by
  rw [← signsA_get n hn]
  exact index_byte signsA q i n hi hn w
theorem sign_next (a : UInt8) (m : Nat) (h : m < 15) : (signs.take (m + 1)).contains a = ((signs.take m).contains a || ((a.toNat : Int) == ((signs.getD m 0).toNat : Int))) := by
  have hl : m < signs.length := h
  rw [List.take_succ_eq_append_getElem hl]
  have hg : signs.getD m 0 = signs[m] := by simp [List.getD, hl]
  rw [hg]
  obtain ⟨x, hx⟩ : ∃ x, x = signs[m] := ⟨_, rfl⟩
  rw [← hx]
  have he : ((a.toNat : Int) == (x.toNat : Int)) = (a == x) := by
    by_cases e : a = x
    · subst e; simp
    · have : ¬ (a.toNat : Int) = (x.toNat : Int) := by
        intro h'
        apply e
        exact UInt8.toNat_inj.1 (by omega)
      rw [beq_eq_false_iff_ne.2 this, beq_eq_false_iff_ne.2 e]
  rw [he]
  by_cases e : a = x
  · simp [e]
  · simp [e]
theorem nm_is (a : UInt8) (B : Bool) (h : (isSm a || isLg a || isDg a) = B) : isNm a = (B || signs.contains a) := by
  rw [← h, isNm]
  cases isLg a <;> cases isSm a <;> cases isDg a <;> simp

set_option maxRecDepth 20000 in
set_option maxHeartbeats 4000000 in
theorem rname_any (L : List UInt8) (w : World) (hs : L.length ≤ 140737488355328) :
    Calls Tryz.prog 64 #[.string ⟨L.toArray⟩] w fun e w' => e = .returned (.bool (madeL isNm L)) ∧ w' = w := by
  obtain ⟨s, hse⟩ : ∃ s : ByteArray, s = ⟨L.toArray⟩ := ⟨_, rfl⟩
  have hsz : s.size = L.length := by rw [hse, size_list]
  have hgt : ∀ j (h : j < s.size) (h' : j < L.length), s[j] = L[j] := by subst hse; intro j h h'; rfl
  rw [← hse]
  obtain ⟨V, hV⟩ : ∃ V, V = madeL isNm L := ⟨_, rfl⟩
  rw [← hV]
  have HV := hid hV
  have HZ := hid hsz
  have HG := hid hgt
  clear hV hsz hgt hse
  go_enter Tryz.func64, Tryz.ntmps64
  go_wp2_with fail
  go_loop [4] (fun i => ∃ (k : Nat), k ≤ L.length ∧ i = .int .i64 (k : Int) ∧ (L.take k).all isNm = true) (fun i => L.length - (intOf i).toNat)
  case atStart => exact ⟨0, Nat.zero_le _, rfl, by simp⟩
  case round =>
    obtain ⟨k, hk, rfl, ha⟩ := hrel
    have hsz := HZ.out
    have HA := hid ha
    clear ha
    by_cases hlt : k < L.length
    · have hlt' : (k : Int) < (s.size : Int) := by omega
      have hk1 : k < s.size := by omega
      have i1 := index_byte s .i64 (k : Int) k rfl hk1
      rw [HG.out k hk1 hlt] at i1
      have HB : Hid (isNm L[k] = false → V = false) := by
        unfold Hid
        intro h
        rw [HV.out, madeL, all_take_false hlt h]
        rfl
      have HN : Hid (isNm L[k] = true → (L.take (k + 1)).all isNm = true) := by
        unfold Hid
        intro h
        rw [all_take_succ _ _ _ hlt, HA.out, h]
        rfl
      obtain ⟨a, hae⟩ : ∃ a, a = L[k] := ⟨_, rfl⟩
      rw [← hae] at i1 HB HN
      have la := a.toNat_lt
      clear hae hsz HA
      by_cases r0 : a.toNat ≤ 47
      · have f97 : decide ((97 : Int) ≤ ((a.toNat : Nat) : Int)) = false := by simp; omega
        have f122 : decide (((a.toNat : Nat) : Int) ≤ 122) = true := by simp; omega
        have f65 : decide ((65 : Int) ≤ ((a.toNat : Nat) : Int)) = false := by simp; omega
        have f90 : decide (((a.toNat : Nat) : Int) ≤ 90) = true := by simp; omega
        have f48 : decide ((48 : Int) ≤ ((a.toNat : Nat) : Int)) = false := by simp; omega
        have f57 : decide (((a.toNat : Nat) : Int) ≤ 57) = true := by simp; omega
        have HNm : Hid (isNm a = (false || signs.contains a)) := by
          unfold Hid
          refine nm_is a _ ?_
          have eisSm : isSm a = false := by unfold isSm; rw [decide_eq_false]; omega
          have eisLg : isLg a = false := by unfold isLg; rw [decide_eq_false]; omega
          have eisDg : isDg a = false := by unfold isDg; rw [decide_eq_false]; omega
          rw [eisSm, eisLg, eisDg]
          rfl
        go_wp2_with fail
        (try rw [decide_eq_true hlt'])
        go_loop [6, 7] (fun ok j => ∃ (m : Nat), m ≤ 15 ∧ j = .int .i64 (m : Int) ∧ ok = .bool (false || (signs.take m).contains a)) (fun _ j => 15 - (intOf j).toNat)
        case atStart => exact ⟨0, by omega, rfl, rfl⟩
        case round =>
          obtain ⟨m, hm, rfl, rfl⟩ := hrel
          by_cases hm15 : m < 15
          · have hm' : (m : Int) < 15 := by omega
            have i2 := index_sign .i64 (m : Int) m rfl hm15
            have HS := hid (sign_next a m hm15)
            obtain ⟨o, ho⟩ : ∃ o, o = (false || (signs.take m).contains a) := ⟨_, rfl⟩
            rw [← ho]
            have HO := hid ho
            clear ho
            cases o with
            | true =>
              go_wp2
              go_round
              case rel => exact ⟨m + 1, by omega, by go_num, by rw [HS.out, ← Bool.or_assoc, ← HO.out]; rfl⟩
              case measure => simp [intOf]; omega
            | false =>
              go_wp2
              go_round
              case rel => exact ⟨m + 1, by omega, by go_num, by rw [HS.out, ← Bool.or_assoc, ← HO.out]; rfl⟩
              case measure => simp [intOf]; omega
          · have hm' : ¬ (m : Int) < 15 := by omega
            have hm15' : m = 15 := by omega
            have hno := HNm.out
            rw [show signs = signs.take 15 from rfl, ← hm15'] at hno
            rw [← hno]
            clear hno hm15'
            cases hn : isNm a with
            | true =>
              have HE := hid (HN.out hn)
              clear HB HN
              go_wp2
              go_round
              case rel => exact ⟨k + 1, by omega, by go_num, HE.out⟩
              case measure => simp [intOf]; omega
            | false =>
              have HE := hid (HB.out hn)
              clear HB HN
              go_wp2
              go_ret
              exact ⟨by rw [HE.out]; rfl, rfl⟩
      by_cases r1 : a.toNat ≤ 57
      · have f97 : decide ((97 : Int) ≤ ((a.toNat : Nat) : Int)) = false := by simp; omega
        have f122 : decide (((a.toNat : Nat) : Int) ≤ 122) = true := by simp; omega
        have f65 : decide ((65 : Int) ≤ ((a.toNat : Nat) : Int)) = false := by simp; omega
        have f90 : decide (((a.toNat : Nat) : Int) ≤ 90) = true := by simp; omega
        have f48 : decide ((48 : Int) ≤ ((a.toNat : Nat) : Int)) = true := by simp; omega
        have f57 : decide (((a.toNat : Nat) : Int) ≤ 57) = true := by simp; omega
        have HNm : Hid (isNm a = (true || signs.contains a)) := by
          unfold Hid
          refine nm_is a _ ?_
          have eisSm : isSm a = false := by unfold isSm; rw [decide_eq_false]; omega
          have eisLg : isLg a = false := by unfold isLg; rw [decide_eq_false]; omega
          have eisDg : isDg a = true := by unfold isDg; rw [decide_eq_true]; omega
          rw [eisSm, eisLg, eisDg]
          rfl
        go_wp2_with fail
        (try rw [decide_eq_true hlt'])
        go_loop [6, 7] (fun ok j => ∃ (m : Nat), m ≤ 15 ∧ j = .int .i64 (m : Int) ∧ ok = .bool (true || (signs.take m).contains a)) (fun _ j => 15 - (intOf j).toNat)
        case atStart => exact ⟨0, by omega, rfl, rfl⟩
        case round =>
          obtain ⟨m, hm, rfl, rfl⟩ := hrel
          by_cases hm15 : m < 15
          · have hm' : (m : Int) < 15 := by omega
            have i2 := index_sign .i64 (m : Int) m rfl hm15
            have HS := hid (sign_next a m hm15)
            obtain ⟨o, ho⟩ : ∃ o, o = (true || (signs.take m).contains a) := ⟨_, rfl⟩
            rw [← ho]
            have HO := hid ho
            clear ho
            cases o with
            | true =>
              go_wp2
              go_round
              case rel => exact ⟨m + 1, by omega, by go_num, by rw [HS.out, ← Bool.or_assoc, ← HO.out]; rfl⟩
              case measure => simp [intOf]; omega
            | false =>
              go_wp2
              go_round
              case rel => exact ⟨m + 1, by omega, by go_num, by rw [HS.out, ← Bool.or_assoc, ← HO.out]; rfl⟩
              case measure => simp [intOf]; omega
          · have hm' : ¬ (m : Int) < 15 := by omega
            have hm15' : m = 15 := by omega
            have hno := HNm.out
            rw [show signs = signs.take 15 from rfl, ← hm15'] at hno
            rw [← hno]
            clear hno hm15'
            cases hn : isNm a with
            | true =>
              have HE := hid (HN.out hn)
              clear HB HN
              go_wp2
              go_round
              case rel => exact ⟨k + 1, by omega, by go_num, HE.out⟩
              case measure => simp [intOf]; omega
            | false =>
              have HE := hid (HB.out hn)
              clear HB HN
              go_wp2
              go_ret
              exact ⟨by rw [HE.out]; rfl, rfl⟩
      by_cases r2 : a.toNat ≤ 64
      · have f97 : decide ((97 : Int) ≤ ((a.toNat : Nat) : Int)) = false := by simp; omega
        have f122 : decide (((a.toNat : Nat) : Int) ≤ 122) = true := by simp; omega
        have f65 : decide ((65 : Int) ≤ ((a.toNat : Nat) : Int)) = false := by simp; omega
        have f90 : decide (((a.toNat : Nat) : Int) ≤ 90) = true := by simp; omega
        have f48 : decide ((48 : Int) ≤ ((a.toNat : Nat) : Int)) = true := by simp; omega
        have f57 : decide (((a.toNat : Nat) : Int) ≤ 57) = false := by simp; omega
        have HNm : Hid (isNm a = (false || signs.contains a)) := by
          unfold Hid
          refine nm_is a _ ?_
          have eisSm : isSm a = false := by unfold isSm; rw [decide_eq_false]; omega
          have eisLg : isLg a = false := by unfold isLg; rw [decide_eq_false]; omega
          have eisDg : isDg a = false := by unfold isDg; rw [decide_eq_false]; omega
          rw [eisSm, eisLg, eisDg]
          rfl
        go_wp2_with fail
        (try rw [decide_eq_true hlt'])
        go_loop [6, 7] (fun ok j => ∃ (m : Nat), m ≤ 15 ∧ j = .int .i64 (m : Int) ∧ ok = .bool (false || (signs.take m).contains a)) (fun _ j => 15 - (intOf j).toNat)
        case atStart => exact ⟨0, by omega, rfl, rfl⟩
        case round =>
          obtain ⟨m, hm, rfl, rfl⟩ := hrel
          by_cases hm15 : m < 15
          · have hm' : (m : Int) < 15 := by omega
            have i2 := index_sign .i64 (m : Int) m rfl hm15
            have HS := hid (sign_next a m hm15)
            obtain ⟨o, ho⟩ : ∃ o, o = (false || (signs.take m).contains a) := ⟨_, rfl⟩
            rw [← ho]
            have HO := hid ho
            clear ho
            cases o with
            | true =>
              go_wp2
              go_round
              case rel => exact ⟨m + 1, by omega, by go_num, by rw [HS.out, ← Bool.or_assoc, ← HO.out]; rfl⟩
              case measure => simp [intOf]; omega
            | false =>
              go_wp2
              go_round
              case rel => exact ⟨m + 1, by omega, by go_num, by rw [HS.out, ← Bool.or_assoc, ← HO.out]; rfl⟩
              case measure => simp [intOf]; omega
          · have hm' : ¬ (m : Int) < 15 := by omega
            have hm15' : m = 15 := by omega
            have hno := HNm.out
            rw [show signs = signs.take 15 from rfl, ← hm15'] at hno
            rw [← hno]
            clear hno hm15'
            cases hn : isNm a with
            | true =>
              have HE := hid (HN.out hn)
              clear HB HN
              go_wp2
              go_round
              case rel => exact ⟨k + 1, by omega, by go_num, HE.out⟩
              case measure => simp [intOf]; omega
            | false =>
              have HE := hid (HB.out hn)
              clear HB HN
              go_wp2
              go_ret
              exact ⟨by rw [HE.out]; rfl, rfl⟩
      by_cases r3 : a.toNat ≤ 90
      · have f97 : decide ((97 : Int) ≤ ((a.toNat : Nat) : Int)) = false := by simp; omega
        have f122 : decide (((a.toNat : Nat) : Int) ≤ 122) = true := by simp; omega
        have f65 : decide ((65 : Int) ≤ ((a.toNat : Nat) : Int)) = true := by simp; omega
        have f90 : decide (((a.toNat : Nat) : Int) ≤ 90) = true := by simp; omega
        have f48 : decide ((48 : Int) ≤ ((a.toNat : Nat) : Int)) = true := by simp; omega
        have f57 : decide (((a.toNat : Nat) : Int) ≤ 57) = false := by simp; omega
        have HNm : Hid (isNm a = (true || signs.contains a)) := by
          unfold Hid
          refine nm_is a _ ?_
          have eisSm : isSm a = false := by unfold isSm; rw [decide_eq_false]; omega
          have eisLg : isLg a = true := by unfold isLg; rw [decide_eq_true]; omega
          have eisDg : isDg a = false := by unfold isDg; rw [decide_eq_false]; omega
          rw [eisSm, eisLg, eisDg]
          rfl
        go_wp2_with fail
        (try rw [decide_eq_true hlt'])
        go_loop [6, 7] (fun ok j => ∃ (m : Nat), m ≤ 15 ∧ j = .int .i64 (m : Int) ∧ ok = .bool (true || (signs.take m).contains a)) (fun _ j => 15 - (intOf j).toNat)
        case atStart => exact ⟨0, by omega, rfl, rfl⟩
        case round =>
          obtain ⟨m, hm, rfl, rfl⟩ := hrel
          by_cases hm15 : m < 15
          · have hm' : (m : Int) < 15 := by omega
            have i2 := index_sign .i64 (m : Int) m rfl hm15
            have HS := hid (sign_next a m hm15)
            obtain ⟨o, ho⟩ : ∃ o, o = (true || (signs.take m).contains a) := ⟨_, rfl⟩
            rw [← ho]
            have HO := hid ho
            clear ho
            cases o with
            | true =>
              go_wp2
              go_round
              case rel => exact ⟨m + 1, by omega, by go_num, by rw [HS.out, ← Bool.or_assoc, ← HO.out]; rfl⟩
              case measure => simp [intOf]; omega
            | false =>
              go_wp2
              go_round
              case rel => exact ⟨m + 1, by omega, by go_num, by rw [HS.out, ← Bool.or_assoc, ← HO.out]; rfl⟩
              case measure => simp [intOf]; omega
          · have hm' : ¬ (m : Int) < 15 := by omega
            have hm15' : m = 15 := by omega
            have hno := HNm.out
            rw [show signs = signs.take 15 from rfl, ← hm15'] at hno
            rw [← hno]
            clear hno hm15'
            cases hn : isNm a with
            | true =>
              have HE := hid (HN.out hn)
              clear HB HN
              go_wp2
              go_round
              case rel => exact ⟨k + 1, by omega, by go_num, HE.out⟩
              case measure => simp [intOf]; omega
            | false =>
              have HE := hid (HB.out hn)
              clear HB HN
              go_wp2
              go_ret
              exact ⟨by rw [HE.out]; rfl, rfl⟩
      by_cases r4 : a.toNat ≤ 96
      · have f97 : decide ((97 : Int) ≤ ((a.toNat : Nat) : Int)) = false := by simp; omega
        have f122 : decide (((a.toNat : Nat) : Int) ≤ 122) = true := by simp; omega
        have f65 : decide ((65 : Int) ≤ ((a.toNat : Nat) : Int)) = true := by simp; omega
        have f90 : decide (((a.toNat : Nat) : Int) ≤ 90) = false := by simp; omega
        have f48 : decide ((48 : Int) ≤ ((a.toNat : Nat) : Int)) = true := by simp; omega
        have f57 : decide (((a.toNat : Nat) : Int) ≤ 57) = false := by simp; omega
        have HNm : Hid (isNm a = (false || signs.contains a)) := by
          unfold Hid
          refine nm_is a _ ?_
          have eisSm : isSm a = false := by unfold isSm; rw [decide_eq_false]; omega
          have eisLg : isLg a = false := by unfold isLg; rw [decide_eq_false]; omega
          have eisDg : isDg a = false := by unfold isDg; rw [decide_eq_false]; omega
          rw [eisSm, eisLg, eisDg]
          rfl
        go_wp2_with fail
        (try rw [decide_eq_true hlt'])
        go_loop [6, 7] (fun ok j => ∃ (m : Nat), m ≤ 15 ∧ j = .int .i64 (m : Int) ∧ ok = .bool (false || (signs.take m).contains a)) (fun _ j => 15 - (intOf j).toNat)
        case atStart => exact ⟨0, by omega, rfl, rfl⟩
        case round =>
          obtain ⟨m, hm, rfl, rfl⟩ := hrel
          by_cases hm15 : m < 15
          · have hm' : (m : Int) < 15 := by omega
            have i2 := index_sign .i64 (m : Int) m rfl hm15
            have HS := hid (sign_next a m hm15)
            obtain ⟨o, ho⟩ : ∃ o, o = (false || (signs.take m).contains a) := ⟨_, rfl⟩
            rw [← ho]
            have HO := hid ho
            clear ho
            cases o with
            | true =>
              go_wp2
              go_round
              case rel => exact ⟨m + 1, by omega, by go_num, by rw [HS.out, ← Bool.or_assoc, ← HO.out]; rfl⟩
              case measure => simp [intOf]; omega
            | false =>
              go_wp2
              go_round
              case rel => exact ⟨m + 1, by omega, by go_num, by rw [HS.out, ← Bool.or_assoc, ← HO.out]; rfl⟩
              case measure => simp [intOf]; omega
          · have hm' : ¬ (m : Int) < 15 := by omega
            have hm15' : m = 15 := by omega
            have hno := HNm.out
            rw [show signs = signs.take 15 from rfl, ← hm15'] at hno
            rw [← hno]
            clear hno hm15'
            cases hn : isNm a with
            | true =>
              have HE := hid (HN.out hn)
              clear HB HN
              go_wp2
              go_round
              case rel => exact ⟨k + 1, by omega, by go_num, HE.out⟩
              case measure => simp [intOf]; omega
            | false =>
              have HE := hid (HB.out hn)
              clear HB HN
              go_wp2
              go_ret
              exact ⟨by rw [HE.out]; rfl, rfl⟩
      by_cases r5 : a.toNat ≤ 122
      · have f97 : decide ((97 : Int) ≤ ((a.toNat : Nat) : Int)) = true := by simp; omega
        have f122 : decide (((a.toNat : Nat) : Int) ≤ 122) = true := by simp; omega
        have f65 : decide ((65 : Int) ≤ ((a.toNat : Nat) : Int)) = true := by simp; omega
        have f90 : decide (((a.toNat : Nat) : Int) ≤ 90) = false := by simp; omega
        have f48 : decide ((48 : Int) ≤ ((a.toNat : Nat) : Int)) = true := by simp; omega
        have f57 : decide (((a.toNat : Nat) : Int) ≤ 57) = false := by simp; omega
        have HNm : Hid (isNm a = (true || signs.contains a)) := by
          unfold Hid
          refine nm_is a _ ?_
          have eisSm : isSm a = true := by unfold isSm; rw [decide_eq_true]; omega
          have eisLg : isLg a = false := by unfold isLg; rw [decide_eq_false]; omega
          have eisDg : isDg a = false := by unfold isDg; rw [decide_eq_false]; omega
          rw [eisSm, eisLg, eisDg]
          rfl
        go_wp2_with fail
        (try rw [decide_eq_true hlt'])
        go_loop [6, 7] (fun ok j => ∃ (m : Nat), m ≤ 15 ∧ j = .int .i64 (m : Int) ∧ ok = .bool (true || (signs.take m).contains a)) (fun _ j => 15 - (intOf j).toNat)
        case atStart => exact ⟨0, by omega, rfl, rfl⟩
        case round =>
          obtain ⟨m, hm, rfl, rfl⟩ := hrel
          by_cases hm15 : m < 15
          · have hm' : (m : Int) < 15 := by omega
            have i2 := index_sign .i64 (m : Int) m rfl hm15
            have HS := hid (sign_next a m hm15)
            obtain ⟨o, ho⟩ : ∃ o, o = (true || (signs.take m).contains a) := ⟨_, rfl⟩
            rw [← ho]
            have HO := hid ho
            clear ho
            cases o with
            | true =>
              go_wp2
              go_round
              case rel => exact ⟨m + 1, by omega, by go_num, by rw [HS.out, ← Bool.or_assoc, ← HO.out]; rfl⟩
              case measure => simp [intOf]; omega
            | false =>
              go_wp2
              go_round
              case rel => exact ⟨m + 1, by omega, by go_num, by rw [HS.out, ← Bool.or_assoc, ← HO.out]; rfl⟩
              case measure => simp [intOf]; omega
          · have hm' : ¬ (m : Int) < 15 := by omega
            have hm15' : m = 15 := by omega
            have hno := HNm.out
            rw [show signs = signs.take 15 from rfl, ← hm15'] at hno
            rw [← hno]
            clear hno hm15'
            cases hn : isNm a with
            | true =>
              have HE := hid (HN.out hn)
              clear HB HN
              go_wp2
              go_round
              case rel => exact ⟨k + 1, by omega, by go_num, HE.out⟩
              case measure => simp [intOf]; omega
            | false =>
              have HE := hid (HB.out hn)
              clear HB HN
              go_wp2
              go_ret
              exact ⟨by rw [HE.out]; rfl, rfl⟩
      have f97 : decide ((97 : Int) ≤ ((a.toNat : Nat) : Int)) = true := by simp; omega
      have f122 : decide (((a.toNat : Nat) : Int) ≤ 122) = false := by simp; omega
      have f65 : decide ((65 : Int) ≤ ((a.toNat : Nat) : Int)) = true := by simp; omega
      have f90 : decide (((a.toNat : Nat) : Int) ≤ 90) = false := by simp; omega
      have f48 : decide ((48 : Int) ≤ ((a.toNat : Nat) : Int)) = true := by simp; omega
      have f57 : decide (((a.toNat : Nat) : Int) ≤ 57) = false := by simp; omega
      have HNm : Hid (isNm a = (false || signs.contains a)) := by
        unfold Hid
        refine nm_is a _ ?_
        have eisSm : isSm a = false := by unfold isSm; rw [decide_eq_false]; omega
        have eisLg : isLg a = false := by unfold isLg; rw [decide_eq_false]; omega
        have eisDg : isDg a = false := by unfold isDg; rw [decide_eq_false]; omega
        rw [eisSm, eisLg, eisDg]
        rfl
      go_wp2_with fail
      (try rw [decide_eq_true hlt'])
      go_loop [6, 7] (fun ok j => ∃ (m : Nat), m ≤ 15 ∧ j = .int .i64 (m : Int) ∧ ok = .bool (false || (signs.take m).contains a)) (fun _ j => 15 - (intOf j).toNat)
      case atStart => exact ⟨0, by omega, rfl, rfl⟩
      case round =>
        obtain ⟨m, hm, rfl, rfl⟩ := hrel
        by_cases hm15 : m < 15
        · have hm' : (m : Int) < 15 := by omega
          have i2 := index_sign .i64 (m : Int) m rfl hm15
          have HS := hid (sign_next a m hm15)
          obtain ⟨o, ho⟩ : ∃ o, o = (false || (signs.take m).contains a) := ⟨_, rfl⟩
          rw [← ho]
          have HO := hid ho
          clear ho
          cases o with
          | true =>
            go_wp2
            go_round
            case rel => exact ⟨m + 1, by omega, by go_num, by rw [HS.out, ← Bool.or_assoc, ← HO.out]; rfl⟩
            case measure => simp [intOf]; omega
          | false =>
            go_wp2
            go_round
            case rel => exact ⟨m + 1, by omega, by go_num, by rw [HS.out, ← Bool.or_assoc, ← HO.out]; rfl⟩
            case measure => simp [intOf]; omega
        · have hm' : ¬ (m : Int) < 15 := by omega
          have hm15' : m = 15 := by omega
          have hno := HNm.out
          rw [show signs = signs.take 15 from rfl, ← hm15'] at hno
          rw [← hno]
          clear hno hm15'
          cases hn : isNm a with
          | true =>
            have HE := hid (HN.out hn)
            clear HB HN
            go_wp2
            go_round
            case rel => exact ⟨k + 1, by omega, by go_num, HE.out⟩
            case measure => simp [intOf]; omega
          | false =>
            have HE := hid (HB.out hn)
            clear HB HN
            go_wp2
            go_ret
            exact ⟨by rw [HE.out]; rfl, rfl⟩
    · have hlt' : ¬ (k : Int) < (s.size : Int) := by omega
      have hv : V = decide (1 ≤ L.length) := by
        have := HA.out
        rw [List.take_of_length_le (by omega)] at this
        rw [HV.out, madeL, this]
        cases L <;> simp
      have hv2 : decide ((1 : Int) ≤ (s.size : Int)) = decide (1 ≤ L.length) := by
        by_cases h : 1 ≤ L.length
        · rw [decide_eq_true h, decide_eq_true (by omega)]
        · rw [decide_eq_false h, decide_eq_false (by omega)]
      have HE := hid (hv.trans hv2.symm)
      clear hsz hv hv2
      go_wp2
      go_ret
      exact ⟨by rw [HE.out]; rfl, rfl⟩
end Go.Proofs.YtllhibdjopfcnaaGreatDoor

namespace Go.Proofs.YtllhibdjopfcnaaGreatDoor
open Go.RowKit
set_option linter.unusedVariables false

def blB (c : UInt8) : Bool := [32, 9].contains c
theorem blB_iff (c : UInt8) : blB c = true ↔ c = 32 ∨ c = 9 := by
  unfold blB
  simp
theorem dropWhile_all {l : List UInt8} {p : UInt8 → Bool} (h : ∀ c ∈ l, p c = true) : l.dropWhile p = [] := by
  induction l with
  | nil => rfl
  | cons b r ih =>
    rw [List.dropWhile_cons, if_pos (h b (by simp))]
    exact ih (fun c hc => h c (by simp [hc]))
theorem trim_all {l : List UInt8} (h : ∀ c ∈ l, blB c = true) : Lib.trimS l [32, 9] = [] := by
  unfold Lib.trimS Lib.trimRightS
  rw [dropWhile_all (p := fun x => [32, 9].contains x) (fun c hc => h c (by simpa using hc))]
  rfl
theorem trim_ab {l : List UInt8} {k m : Nat} (hkm : k ≤ m) (hm : m ≤ l.length) (h1 : ∀ j (hj : j < l.length), j < k → blB l[j] = true) (h2 : ∀ j (hj : j < l.length), m ≤ j → blB l[j] = true)
    (hk : k = l.length ∨ ∃ h : k < l.length, blB l[k] = false) (hme : m = k ∨ ∃ h : m - 1 < l.length, blB l[m - 1] = false) : Lib.trimS l [32, 9] = (l.drop k).take (m - k) := by
  rcases hk with hk | ⟨hkl, hkb⟩
  · rw [trim_all]
    · rw [List.drop_eq_nil_of_le (by omega)]
      simp
    · intro c hc
      obtain ⟨j, hj, rfl⟩ := List.getElem_of_mem hc
      exact h1 j hj (by omega)
  · have hlt : k < m := by
      by_cases h : k < m
      · exact h
      · have := h2 k hkl (by omega)
        rw [hkb] at this
        cases this
    have hmb : ∃ h : m - 1 < l.length, blB l[m - 1] = false := by
      rcases hme with h | h
      · omega
      · exact h
    obtain ⟨hml, hmb⟩ := hmb
    have e1 : Lib.trimRightS l [32, 9] = l.take m := by
      refine Lib.trimRightS_take l [32, 9] m hm (fun j b hj hb => ?_) (fun b _ hb => ?_)
      · have hjl : j < l.length := (List.getElem?_eq_some_iff.1 hb).1
        have := h2 j hjl hj
        rw [List.getElem?_eq_getElem hjl] at hb
        cases hb
        exact this
      · rw [List.getElem?_eq_getElem hml] at hb
        cases hb
        exact hmb
    have e2 : Lib.trimLeftS (l.take m) [32, 9] = (l.take m).drop k := by
      refine Lib.trimLeftS_drop (l.take m) [32, 9] k (by rw [List.length_take]; omega) (fun j b hj hb => ?_) (fun b hb => ?_)
      · have hjl : j < l.length := by omega
        rw [List.getElem?_take, if_pos (by omega), List.getElem?_eq_getElem hjl] at hb
        cases hb
        exact h1 j hjl hj
      · rw [List.getElem?_take, if_pos hlt, List.getElem?_eq_getElem hkl] at hb
        cases hb
        exact hkb
    rw [Lib.trimS, e1, e2, List.drop_take]

theorem byte_is {b : UInt8} {n : Nat} (h : ((b.toNat : Int) == (n : Int)) = true) : b = UInt8.ofNat n := by
  have : (b.toNat : Int) = n := by simpa using h
  exact byte_eq (by omega)
theorem byte_isnt {b : UInt8} {n : Nat} (hn : n < 256) (h : ((b.toNat : Int) == (n : Int)) = false) : b ≠ UInt8.ofNat n := by
  refine byte_ne ?_ hn
  intro e
  rw [e] at h
  simp at h
theorem blank_cases (b : UInt8) (Z : Prop) (z1 : ((b.toNat : Int) == 32) = true → blB b = true → Z) (z2 : ((b.toNat : Int) == 32) = false → ((b.toNat : Int) == 9) = true → blB b = true → Z) (z3 : ((b.toNat : Int) == 32) = false → ((b.toNat : Int) == 9) = false → blB b = false → Z) : Z := by
  cases h1 : ((b.toNat : Int) == 32) with
  | true => exact z1 h1 ((blB_iff b).2 (Or.inl (byte_is (n := 32) h1)))
  | false =>
    cases h2 : ((b.toNat : Int) == 9) with
    | true => exact z2 h1 h2 ((blB_iff b).2 (Or.inr (byte_is (n := 9) h2)))
    | false =>
      refine z3 h1 h2 ?_
      have n1 := byte_isnt (n := 32) (by decide) h1
      have n2 := byte_isnt (n := 9) (by decide) h2
      cases hb : blB b with
      | false => rfl
      | true =>
        rcases (blB_iff b).1 hb with e | e
        · exact absurd e n1
        · exact absurd e n2

set_option maxRecDepth 20000 in
set_option maxHeartbeats 2000000 in
theorem rtrim_any (l : List UInt8) (w : World) (hs : l.length ≤ 140737488355328) :
    Calls Tryz.prog 48 #[.string ⟨l.toArray⟩] w fun e w' => e = .returned (.string ⟨(Lib.trimS l [32, 9]).toArray⟩) ∧ w' = w := by
  obtain ⟨s, hse⟩ : ∃ s : ByteArray, s = ⟨l.toArray⟩ := ⟨_, rfl⟩
  have hsz : s.size = l.length := by rw [hse, size_list]
  have hsl : s.data.toList = l := by rw [hse]
  have hgt : ∀ j (h : j < s.size) (h' : j < l.length), s[j] = l[j] := by
    intro j h h'
    subst hsl
    rfl
  rw [← hse]
  have HSE := hid hse
  have HSZ := hid hsz
  have HGT := hid hgt
  obtain ⟨T, hT⟩ : ∃ T, T = Lib.trimS l [32, 9] := ⟨_, rfl⟩
  rw [← hT]
  have HT := hid hT
  clear hse hsz hsl hgt hT
  go_enter Tryz.func48, Tryz.ntmps48
  go_wp2_with fail
  go_loop [3] (fun a => ∃ (k : Nat), k ≤ l.length ∧ a = .int .i64 (k : Int) ∧ ∀ j (hj : j < l.length), j < k → blB l[j] = true) (fun a => l.length - (intOf a).toNat)
  case atStart => exact ⟨0, Nat.zero_le _, rfl, fun j hj h => by omega⟩
  case round =>
    obtain ⟨k, hk, rfl, hno⟩ := hrel
    have hsz := HSZ.out
    have HNo := hid hno
    clear hno
    by_cases hlt : k < l.length
    · have hls : k < s.size := by omega
      have hlt' : (k : Int) < (s.size : Int) := by omega
      have i1 := index_byte s .i64 (k : Int) k rfl hls
      rw [HGT.out k hls hlt] at i1
      have HG : Hid (blB l[k] = true → ∀ j (hj : j < l.length), j < k + 1 → blB l[j] = true) := by
        unfold Hid
        intro he j hj hjk
        by_cases h : j = k
        · subst h; exact he
        · exact HNo.out j hj (by omega)
      have HE : Hid (blB l[k] = false → (k = l.length ∨ ∃ h : k < l.length, blB l[k] = false)) := hid (fun he => Or.inr ⟨hlt, he⟩)
      obtain ⟨b, hb⟩ : ∃ b, b = l[k] := ⟨_, rfl⟩
      rw [← hb] at i1 HG
      have HBe := hid hb
      clear hb hsz
      refine blank_cases b _ (fun z1 zb => ?_) (fun z1 z2 zb => ?_) (fun z1 z2 zb => ?_)
      · have HN := hid (HG.out zb)
        clear HG HE zb
        go_wp2
        go_round
        case rel => exact ⟨k + 1, by omega, by go_num, HN.out⟩
        case measure => simp [intOf]; omega
      · have HN := hid (HG.out zb)
        clear HG HE zb
        go_wp2
        go_round
        case rel => exact ⟨k + 1, by omega, by go_num, HN.out⟩
        case measure => simp [intOf]; omega
      · have HKE := hid (HE.out (by rw [← HBe.out]; exact zb))
        clear HG HE zb HBe
        go_wp2_with fail
        go_loop [4] (fun b => ∃ (m : Nat), k ≤ m ∧ m ≤ l.length ∧ b = .int .i64 (m : Int) ∧ ∀ j (hj : j < l.length), m ≤ j → blB l[j] = true) (fun b => (intOf b).toNat)
        case atStart => exact ⟨l.length, hk, Nat.le_refl _, by rw [HSZ.out], fun j hj h => by omega⟩
        case round =>
          obtain ⟨m, hkm, hm, rfl, hno2⟩ := hrel
          have hsz := HSZ.out
          have HNo2 := hid hno2
          clear hno2
          by_cases hgt2 : k < m
          · have hgt' : (k : Int) < (m : Int) := by omega
            obtain ⟨m', rfl⟩ : ∃ m', m = m' + 1 := ⟨m - 1, by omega⟩
            have hml : m' < l.length := by omega
            have hms : m' < s.size := by omega
            have hs1 : ((m' + 1 : Nat) : Int) - 1 = (m' : Int) := by omega
            have i2 := index_byte s .i64 (m' : Int) m' rfl hms
            have i2' := index_byte s .i64 (((m' + 1 : Nat) : Int) - 1) m' (by omega) hms
            have i2w := index_byte s .i64 (IntKind.i64.wrap (((m' + 1 : Nat) : Int) - 1)) m' (by rw [hs1, wrap_i64_nat m' (by omega)]) hms
            have ww : IntKind.i64.wrap (((m' + 1 : Nat) : Int) - 1) = (m' : Int) := by rw [hs1, wrap_i64_nat m' (by omega)]
            rw [HGT.out m' hms hml] at i2 i2' i2w
            have HG2 : Hid (blB l[m'] = true → ∀ j (hj : j < l.length), m' ≤ j → blB l[j] = true) := by
              unfold Hid
              intro he j hj hjk
              by_cases h : j = m'
              · subst h; exact he
              · exact HNo2.out j hj (by omega)
            have HD2 : Hid (blB l[m'] = false → T = (l.drop k).take (m' + 1 - k)) := by
              unfold Hid
              intro he
              rw [HT.out]
              exact trim_ab hkm hm HNo.out HNo2.out HKE.out (Or.inr ⟨hml, he⟩)
            obtain ⟨c, hc⟩ : ∃ b, b = l[m'] := ⟨_, rfl⟩
            rw [← hc] at i2 i2' i2w HG2 HD2
            clear hc hsz
            refine blank_cases c _ (fun y1 yb => ?_) (fun y1 y2 yb => ?_) (fun y1 y2 yb => ?_)
            · have HN := hid (HG2.out yb)
              clear HG2 HD2 yb
              go_wp2
              go_round
              case rel => exact ⟨m', by omega, by omega, by go_num, HN.out⟩
              case measure => simp [intOf]
            · have HN := hid (HG2.out yb)
              clear HG2 HD2 yb
              go_wp2
              go_round
              case rel => exact ⟨m', by omega, by omega, by go_num, HN.out⟩
              case measure => simp [intOf]
            · have HN := hid (HD2.out yb)
              have hle1 : (k : Int) ≤ ((m' + 1 : Nat) : Int) := by omega
              have hle2 : ((m' + 1 : Nat) : Int) ≤ (s.size : Int) := by omega
              clear HG2 HD2 yb
              go_wp2
              go_ret
              refine ⟨?_, rfl⟩
              rw [HN.out, HSE.out]
              simp [extract_list]
          · have hgt' : ¬ (k : Int) < (m : Int) := by omega
            have hmk : m = k := by omega
            have HN : Hid (T = []) := by
              unfold Hid
              rw [HT.out, trim_ab hkm hm HNo.out HNo2.out HKE.out (Or.inl hmk), hmk]
              simp
            have hle1 : (k : Int) ≤ (m : Int) := by omega
            have hle2 : (m : Int) ≤ (s.size : Int) := by omega
            have HMK := hid hmk
            clear hmk hsz
            go_wp2
            go_ret
            refine ⟨?_, rfl⟩
            rw [HN.out, HSE.out, HMK.out]
            simp; rfl
    · have hlt' : ¬ (k : Int) < (s.size : Int) := by omega
      have HKE : Hid (k = l.length ∨ ∃ h : k < l.length, blB l[k] = false) := hid (Or.inl (by omega))
      have hge : l.length ≤ k := by omega
      clear hlt hsz
      go_wp2_with fail
      go_loop [4] (fun b => ∃ (m : Nat), k ≤ m ∧ m ≤ l.length ∧ b = .int .i64 (m : Int) ∧ ∀ j (hj : j < l.length), m ≤ j → blB l[j] = true) (fun b => (intOf b).toNat)
      case atStart => exact ⟨l.length, hk, Nat.le_refl _, by rw [HSZ.out], fun j hj h => by omega⟩
      case round =>
        obtain ⟨m, hkm, hm, rfl, hno2⟩ := hrel
        have hsz := HSZ.out
        have HNo2 := hid hno2
        clear hno2
        by_cases hgt2 : k < m
        · exfalso; omega
        · have hgt' : ¬ (k : Int) < (m : Int) := by omega
          have hmk : m = k := by omega
          have HN : Hid (T = []) := by
            unfold Hid
            rw [HT.out, trim_ab hkm hm HNo.out HNo2.out HKE.out (Or.inl hmk), hmk]
            simp
          have hle1 : (k : Int) ≤ (m : Int) := by omega
          have hle2 : (m : Int) ≤ (s.size : Int) := by omega
          have HMK := hid hmk
          clear hmk hsz
          go_wp2
          go_ret
          refine ⟨?_, rfl⟩
          rw [HN.out, HSE.out, HMK.out]
          simp; rfl

end Go.Proofs.YtllhibdjopfcnaaGreatDoor

namespace Go.Proofs.YtllhibdjopfcnaaGreatDoor
open Go.RowKit
set_option linter.unusedVariables false

theorem small_take {L : List UInt8} {k : Nat} (h : k < L.length) : small (L.take (k + 1)) = small (L.take k) ++ [smB L[k]] := by
  rw [List.take_succ_eq_append_getElem h]
  unfold small
  rw [List.map_append]
  rfl
theorem u8_small2 {b : UInt8} (h : isLg b = true) : (b.toNat : Int) + 32 = ((smB b).toNat : Int) := by
  rw [smB, if_pos h, sm_of h]
  omega
theorem small_len (l : List UInt8) : (small l).length = l.length := by simp [small]

set_option maxRecDepth 20000 in
set_option maxHeartbeats 2000000 in
theorem rsmall_any (L : List UInt8) (w : World) (hs : L.length + 1 ≤ 140737488355328) :
    Calls Tryz.prog 34 #[.string ⟨L.toArray⟩] w fun e w' => e = .returned (.string ⟨(small L).toArray⟩) ∧ Below w.heap.size w w' := by
  obtain ⟨s, hse⟩ : ∃ s : ByteArray, s = ⟨L.toArray⟩ := ⟨_, rfl⟩
  have hsz : s.size = L.length := by rw [hse, size_list]
  have hgt : ∀ j (h : j < s.size) (h' : j < L.length), s[j] = L[j] := by subst hse; intro j h h'; rfl
  rw [← hse]
  have HZ := hid hsz
  have HG := hid hgt
  clear hsz hgt hse
  go_enter Tryz.func34, Tryz.ntmps34
  go_wp2_with fail
  go_loopw [3, 4] (fun u i wr => ∃ (k : Nat), k ≤ L.length ∧ i = .int .i64 (k : Int) ∧ OwnsB wr w.heap.size u (small (L.take k)) ∧ Below w.heap.size w wr) (fun _ i _ => L.length - (intOf i).toNat)
  case atStart => exact ⟨0, Nat.zero_le _, rfl, OwnsN.nil _ _ _ _, Below.refl _ _⟩
  case round =>
    obtain ⟨k, hk, rfl, hO, hB⟩ := hrel
    have hsz := HZ.out
    have hsw : w.heap.size ≤ wr.heap.size := hB.size
    by_cases hlt : k < L.length
    · have hlt' : (k : Int) < (s.size : Int) := by omega
      have hk1 : k < s.size := by omega
      have i1 := index_byte s .i64 (k : Int) k rfl hk1
      rw [HG.out k hk1 hlt] at i1
      have HT := hid (small_take hlt)
      have hyl : (small (L.take k)).length = k := by rw [small_len, List.length_take]; omega
      obtain ⟨ys, hys⟩ : ∃ ys, ys = small (L.take k) := ⟨_, rfl⟩
      rw [← hys] at hO hyl HT
      obtain ⟨a, hae⟩ : ∃ a, a = L[k] := ⟨_, rfl⟩
      rw [← hae] at i1 HT
      have HO := hid hO
      have HBl := hid hB
      obtain ⟨ao, cap, rfl⟩ := hO.shape
      have hyl2 : ys.length ≤ 140737488355327 := by omega
      clear hae hO hB hys hsz hyl
      by_cases h1 : 65 ≤ a.toNat
      · have f1 : decide ((65 : Int) ≤ ((a.toNat : Nat) : Int)) = true := by simp; omega
        by_cases h2 : a.toNat ≤ 90
        · have f2 : decide (((a.toNat : Nat) : Int) ≤ 90) = true := by simp; omega
          have hval := u8_small2 (b := a) (by unfold isLg; rw [decide_eq_true]; omega)
          go_wp2_with (first
            | (at_builtin
               refine wpList_appN rowBytes rfl _ _ rfl w.heap.size (.slice ao ys.length cap) (ys.map UInt8.toNat) rfl (HO.out.below (below_alloc wr _)) _ [(smB a).toNat] rfl (sees_b1 _ _ _ rfl) (by simp; omega) (by simp; omega) ?_
               intro v4 w4 hO4 hG4
               have HO4 : Hid (OwnsB w4 w.heap.size v4 (small (L.take (k + 1)))) := by
                 unfold Hid OwnsB
                 rw [HT.out]
                 simpa using hO4
               have HB4 := hid (below_grownBy (HBl.out.trans ((below_alloc wr _).mono hsw)) hG4 (OwnsB.block HO.out) (by simp; omega))
               clear hO4 hG4)
            | fail)
          go_roundw
          case rel => exact ⟨k + 1, by omega, by go_num, HO4.out, HB4.out⟩
          case measure => simp [intOf]; omega
        · have f2 : decide (((a.toNat : Nat) : Int) ≤ 90) = false := by simp; omega
          have HVal : Hid (((a.toNat : Nat) : Int) = ((smB a).toNat : Int)) := by unfold Hid; rw [smB, if_neg]; unfold isLg; rw [decide_eq_true_eq]; omega
          go_wp2_with (first
            | (at_builtin
               refine wpList_appN rowBytes rfl _ _ rfl w.heap.size (.slice ao ys.length cap) (ys.map UInt8.toNat) rfl (HO.out.below (below_alloc wr _)) _ [(smB a).toNat] rfl (sees_b1 _ _ _ HVal.out) (by simp; omega) (by simp; omega) ?_
               intro v4 w4 hO4 hG4
               have HO4 : Hid (OwnsB w4 w.heap.size v4 (small (L.take (k + 1)))) := by
                 unfold Hid OwnsB
                 rw [HT.out]
                 simpa using hO4
               have HB4 := hid (below_grownBy (HBl.out.trans ((below_alloc wr _).mono hsw)) hG4 (OwnsB.block HO.out) (by simp; omega))
               clear hO4 hG4)
            | fail)
          go_roundw
          case rel => exact ⟨k + 1, by omega, by go_num, HO4.out, HB4.out⟩
          case measure => simp [intOf]; omega
      · have f1 : decide ((65 : Int) ≤ ((a.toNat : Nat) : Int)) = false := by simp; omega
        have HVal : Hid (((a.toNat : Nat) : Int) = ((smB a).toNat : Int)) := by unfold Hid; rw [smB, if_neg]; unfold isLg; rw [decide_eq_true_eq]; omega
        go_wp2_with (first
          | (at_builtin
             refine wpList_appN rowBytes rfl _ _ rfl w.heap.size (.slice ao ys.length cap) (ys.map UInt8.toNat) rfl (HO.out.below (below_alloc wr _)) _ [(smB a).toNat] rfl (sees_b1 _ _ _ HVal.out) (by simp; omega) (by simp; omega) ?_
             intro v4 w4 hO4 hG4
             have HO4 : Hid (OwnsB w4 w.heap.size v4 (small (L.take (k + 1)))) := by
               unfold Hid OwnsB
               rw [HT.out]
               simpa using hO4
             have HB4 := hid (below_grownBy (HBl.out.trans ((below_alloc wr _).mono hsw)) hG4 (OwnsB.block HO.out) (by simp; omega))
             clear hO4 hG4)
          | fail)
        go_roundw
        case rel => exact ⟨k + 1, by omega, by go_num, HO4.out, HB4.out⟩
        case measure => simp [intOf]; omega
    · have hlt' : ¬ (k : Int) < (s.size : Int) := by omega
      rw [List.take_of_length_le (by omega)] at hO
      have hcv := hO.conv
      have HB := hid hB
      clear hsz hO hB
      go_wp2
      go_ret
      exact ⟨rfl, HB.out⟩
end Go.Proofs.YtllhibdjopfcnaaGreatDoor

namespace Go.Proofs.YtllhibdjopfcnaaGreatDoor
open Go.RowKit
set_option linter.unusedVariables false

set_option maxRecDepth 20000 in
set_option maxHeartbeats 4000000 in
theorem rvalues_any (a b c v : Value) (fs : List PairL) (nm : List UInt8) (w : World) (hS : SeesP w v fs) (hl : fs.length ≤ 1048576) (hn : nm.length + 1 ≤ 140737488355328) :
    Calls Tryz.prog 33 #[.agg #[a, b, c, v], .string ⟨nm.toArray⟩] w fun e w' => ∃ v', e = .returned v' ∧ OwnsS w' w.heap.size v' (valsF fs (small nm)) ∧ Below w.heap.size w w' := by
  obtain ⟨bb, off, ao, cap, rfl, hcap, _, hao, hcell⟩ := hS
  have hSm := fun w => rsmall_any nm w hn
  have hH0 := HeadAt.new w a b c (.slice ao fs.length cap)
  have HB0 := hid (below_alloc w (.cells #[a, b, c, .slice ao fs.length cap] 34))
  obtain ⟨w0, hw0⟩ : ∃ w0, w0 = w.alloc (.cells #[a, b, c, .slice ao fs.length cap] 34) := ⟨_, rfl⟩
  rw [← hw0] at hH0 HB0
  have HW0 := hid hw0
  have HH0 := hid hH0
  have HC := hid hcell
  have HSm0 := hid hSm
  obtain ⟨sm, hsm⟩ : ∃ sm, sm = small nm := ⟨_, rfl⟩
  rw [← hsm] at HSm0 ⊢
  clear hw0 hH0 hcell hsm hSm
  go_enter Tryz.func33, Tryz.ntmps33
  go_wp2_with fail
  rw [← HW0.out]
  go_loopw [5, 6] (fun u i wr => ∃ (k : Nat), k ≤ fs.length ∧ i = .int .i64 (k : Int) ∧ OwnsS wr (w.heap.size + 1) u (valsF (fs.take k) sm) ∧ Below w.heap.size w wr ∧ HeadAt wr w.heap.size a b c (.slice ao fs.length cap)) (fun _ i _ => fs.length - (intOf i).toNat)
  case atStart => exact ⟨0, Nat.zero_le _, rfl, OwnsS.nil _ _, HB0.out, HH0.out⟩
  clear HB0 HH0 HW0
  case round =>
    obtain ⟨k, hk, rfl, hO, hB, hH⟩ := hrel
    have HSm := HSm0
    have hsw : w.heap.size ≤ wr.heap.size := hB.size
    have hpw := hH.lt
    obtain ⟨_, _, _, q3, _, _, _, _⟩ := hH.cells
    by_cases hlt : k < fs.length
    · have hlt' : (k : Int) < (fs.length : Int) := by omega
      obtain rfl := hao (by intro h; rw [h] at hlt; simp at hlt)
      obtain ⟨d1, d2⟩ := HC.out k hlt
      have hb1 := World.block_lt_of_cell? w _ d1
      have hb2 := World.block_lt_of_cell? w _ d2
      rw [← hB.cell hb1] at d1
      rw [← hB.cell hb2] at d2
      unfold strV at d1 d2
      have HY := hid (fun h => valsF_yes (sm := sm) hlt h)
      have HN := hid (fun h => valsF_no (sm := sm) hlt h)
      have hvl := valsF_len (fs.take k) sm
      rw [List.length_take] at hvl
      obtain ⟨P, hP⟩ : ∃ P, P = fs[k] := ⟨_, rfl⟩
      rw [← hP] at d1 d2 HY HN
      obtain ⟨ys, hys⟩ : ∃ ys, ys = valsF (fs.take k) sm := ⟨_, rfl⟩
      rw [← hys] at hO hvl HY HN
      have HO := hid hO
      have HB := hid hB
      have HH := hid hH
      obtain ⟨ao2, cap2, rfl⟩ := hO.shape
      clear hP hO hys hB hH
      cases he : (P.1 == sm) with
      | true =>
        have HE := hid (HY.out he)
        clear HY HN
        go_wp2_with fail
        go_region_law
          (first
            | (go_simp
               refine (HSm.out _).mono ?_
               rintro e' w1 ⟨rfl, hB1⟩
               have hB1' : Below wr.heap.size wr w1 := (Below.drew (Below.refl wr.heap.size wr)).trans hB1
               have HB1 := hid (HB.out.trans (hB1'.mono hsw))
               have HO1 := hid (HO.out.below hB1')
               obtain ⟨_, _, _, k3, _, _, _, _⟩ := (HH.out.below hB1' hpw).cells
               have d1' := (hB1'.cell (Nat.lt_of_lt_of_le hb1 hsw)).trans d1
               have d2' := (hB1'.cell (Nat.lt_of_lt_of_le hb2 hsw)).trans d2
               have hsz1 : w.heap.size ≤ w1.heap.size := Nat.le_trans hsw hB1'.size
               have HH1 := hid (HH.out.below hB1' hpw)
               clear hB1 hB1' HSm))
        all_goals
          go_wp2_with (first
            | (at_builtin
               refine wpList_appS rfl _ _ rfl (w.heap.size + 1) (.slice ao2 ys.length cap2) ys rfl (HO1.out.below (below_alloc w1 _)) _ P.2 rfl (by simp [strV]) (by omega) (by simp; have := HH1.out.lt; omega) ?_
               intro v4 w4 hO4 hG4
               have HO4 : Hid (OwnsS w4 (w.heap.size + 1) v4 (valsF (fs.take (k + 1)) sm)) := by
                 unfold Hid
                 rw [HE.out]
                 exact hO4
               have HB4 := hid (below_grownBy (HB1.out.trans ((below_alloc w1 _).mono hsz1)) hG4 (fun j hj => Nat.le_of_succ_le (OwnsS.block HO1.out j hj)) (by simp; omega))
               have HH4 : Hid (HeadAt w4 w.heap.size a b c (.slice (some ⟨bb, off, none⟩) fs.length cap)) := by
                 unfold Hid
                 refine (HH1.out.below (below_alloc w1 _) HH1.out.lt).same (hG4.block _ (by have := HH1.out.lt; simp; omega) ?_)
                 intro h
                 have := OwnsS.block HO1.out _ h.symm
                 omega
               clear hO4 hG4)
            | fail)
          go_roundw
          case rel => exact ⟨k + 1, by omega, by go_num, HO4.out, HB4.out, HH4.out⟩
          case measure => simp [intOf]; omega
      | false =>
        have HE := hid (HN.out he)
        clear HY HN
        go_wp2_with fail
        go_region_law
          (first
            | (go_simp
               refine (HSm.out _).mono ?_
               rintro e' w1 ⟨rfl, hB1⟩
               have hB1' : Below wr.heap.size wr w1 := (Below.drew (Below.refl wr.heap.size wr)).trans hB1
               have HB1 := hid (HB.out.trans (hB1'.mono hsw))
               have HO1 := hid (HO.out.below hB1')
               obtain ⟨_, _, _, k3, _, _, _, _⟩ := (HH.out.below hB1' hpw).cells
               have d1' := (hB1'.cell (Nat.lt_of_lt_of_le hb1 hsw)).trans d1
               have d2' := (hB1'.cell (Nat.lt_of_lt_of_le hb2 hsw)).trans d2
               have hsz1 : w.heap.size ≤ w1.heap.size := Nat.le_trans hsw hB1'.size
               have HH1 := hid (HH.out.below hB1' hpw)
               clear hB1 hB1' HSm))
        all_goals
          go_wp2
          go_roundw
          case rel => exact ⟨k + 1, by omega, by go_num, by rw [HE.out]; exact HO1.out, HB1.out, HH1.out⟩
          case measure => simp [intOf]; omega
    · have hlt' : ¬ (k : Int) < (fs.length : Int) := by omega
      rw [List.take_of_length_le (by omega)] at hO
      have HO := hid (hO.le (Nat.le_succ _))
      have HB := hid hB
      clear hO hB hH
      go_wp2
      go_ret
      exact ⟨_, rfl, HO.out, HB.out⟩
end Go.Proofs.YtllhibdjopfcnaaGreatDoor
