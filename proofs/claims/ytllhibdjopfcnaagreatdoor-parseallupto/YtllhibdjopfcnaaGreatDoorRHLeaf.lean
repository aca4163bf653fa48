/-
  The document's: ends of lines, kinds of bytes, texts in small letters.
-/
import Derived.Test.YtllhibdjopfcnaaGreatDoorHField
namespace Go.Proofs.YtllhibdjopfcnaaGreatDoor
open Go.RowKit
set_option linter.unusedVariables false

/-- Where the first CR LF from a place on stands. -/
def endV (L : List UInt8) (k : Nat) : Int := if (cutE (L.drop k)).2.2 = true then ((k + (cutE (L.drop k)).1.length : Nat) : Int) else -1
theorem drop_cons2 {L : List UInt8} {k : Nat} (h : k < L.length) : L.drop k = L[k] :: L.drop (k + 1) := List.drop_eq_getElem_cons h
theorem head_drop (L : List UInt8) (k : Nat) : (L.drop k).head? = L[k]? := by simp [List.head?_drop]
theorem endV_hit {L : List UInt8} {k : Nat} (h : k + 1 < L.length) (h1 : L[k] = 13) (h2 : L[k + 1] = 10) : endV L k = k := by
  have hc : cutE (L.drop k) = ([], L.drop (k + 2), true) := by
    rw [drop_cons2 (by omega), cutE, if_pos ⟨h1, by rw [head_drop, List.getElem?_eq_getElem h, h2]⟩]
    rw [List.tail_drop]
  rw [endV, hc]
  simp
theorem endV_next {L : List UInt8} {k : Nat} (h : k + 1 < L.length) (hn : ¬ (L[k] = 13 ∧ L[k + 1] = 10)) : endV L k = endV L (k + 1) := by
  have hc : cutE (L.drop k) = (L[k] :: (cutE (L.drop (k + 1))).1, (cutE (L.drop (k + 1))).2.1, (cutE (L.drop (k + 1))).2.2) := by
    rw [drop_cons2 (by omega), cutE, if_neg]
    intro ⟨e1, e2⟩
    rw [head_drop, List.getElem?_eq_getElem h] at e2
    exact hn ⟨e1, by simpa using e2⟩
  unfold endV
  rw [hc]
  simp only
  split
  · simp; omega
  · rfl
theorem endV_end {L : List UInt8} {k : Nat} (h : ¬ k + 1 < L.length) : endV L k = -1 := by
  have : (cutE (L.drop k)).2.2 = false := by
    by_cases hk : k < L.length
    · have hl : L.drop (k + 1) = [] := List.drop_eq_nil_of_le (by omega)
      rw [drop_cons2 hk, hl]
      simp [cutE]
    · rw [List.drop_eq_nil_of_le (by omega)]
      rfl
  rw [endV, this]
  simp
theorem byte13 {b : UInt8} : ((b.toNat : Int) == 13) = decide (b = 13) := by
  by_cases h : b = 13
  · subst h; rfl
  · rw [decide_eq_false h, beq_eq_false_iff_ne]
    intro e
    exact h (byte_eq (b := b) (n := 13) (by omega))
theorem byte10 {b : UInt8} : ((b.toNat : Int) == 10) = decide (b = 10) := by
  by_cases h : b = 10
  · subst h; rfl
  · rw [decide_eq_false h, beq_eq_false_iff_ne]
    intro e
    exact h (byte_eq (b := b) (n := 10) (by omega))

set_option maxRecDepth 20000 in
set_option maxHeartbeats 1000000 in
theorem rend_any (L : List UInt8) (k0 : Nat) (w : World) (hs : L.length ≤ 140737488355328) (hk0 : k0 ≤ L.length) :
    Calls Tryz.prog 40 #[.string ⟨L.toArray⟩, .int .i64 (k0 : Int)] w fun e w' => e = .returned (.int .i64 (endV L k0)) ∧ w' = w := by
  obtain ⟨s, hse⟩ : ∃ s : ByteArray, s = ⟨L.toArray⟩ := ⟨_, rfl⟩
  have hsz : s.size = L.length := by rw [hse, size_list]
  have hgt : ∀ j (h : j < s.size) (h' : j < L.length), s[j] = L[j] := by subst hse; intro j h h'; rfl
  rw [← hse]
  obtain ⟨V, hV⟩ : ∃ V, V = endV L k0 := ⟨_, rfl⟩
  rw [← hV]
  have HV := hid hV
  have HZ := hid hsz
  have HG := hid hgt
  clear hV hsz hgt hse
  go_enter Tryz.func40, Tryz.ntmps40
  go_wp2_with fail
  go_loop [5] (fun i => ∃ (k : Nat), k ≤ L.length ∧ i = .int .i64 (k : Int) ∧ V = endV L k) (fun i => L.length - (intOf i).toNat)
  case atStart => exact ⟨k0, hk0, rfl, HV.out⟩
  clear HV
  case round =>
    obtain ⟨k, hk, rfl, hV⟩ := hrel
    have hsz := HZ.out
    have HV := hid hV
    clear hV
    by_cases hlt : k + 1 < L.length
    · have hlt' : (k : Int) + 1 < (s.size : Int) := by omega
      have hk1 : k < s.size := by omega
      have hk2 : k + 1 < s.size := by omega
      have i1 := index_byte s .i64 (k : Int) k rfl hk1
      have i2 := index_byte s .i64 ((k : Int) + 1) (k + 1) (by omega) hk2
      rw [HG.out k hk1 (by omega)] at i1
      rw [HG.out (k + 1) hk2 hlt] at i2
      have HH := hid (fun h1 h2 => HV.out.trans (endV_hit hlt h1 h2))
      have HN := hid (fun h => HV.out.trans (endV_next hlt h))
      obtain ⟨a, ha⟩ : ∃ a, a = L[k] := ⟨_, rfl⟩
      obtain ⟨b, hb⟩ : ∃ b, b = L[k + 1] := ⟨_, rfl⟩
      rw [← ha] at i1 HH HN
      rw [← hb] at i2 HH HN
      clear ha hb hsz
      by_cases h13 : a = 13
      · have f1 : ((a.toNat : Int) == 13) = true := by rw [byte13, decide_eq_true h13]
        by_cases h10 : b = 10
        · have f2 : ((b.toNat : Int) == 10) = true := by rw [byte10, decide_eq_true h10]
          have HE := hid (HH.out h13 h10)
          clear HH HN h13 h10
          go_wp2
          go_ret
          exact ⟨by rw [HE.out]; rfl, rfl⟩
        · have f2 : ((b.toNat : Int) == 10) = false := by rw [byte10, decide_eq_false h10]
          have HE := hid (HN.out (fun h => h10 h.2))
          clear HH HN h13 h10
          go_wp2
          go_round
          case rel => exact ⟨k + 1, by omega, by go_num, HE.out⟩
          case measure => simp [intOf]; omega
      · have f1 : ((a.toNat : Int) == 13) = false := by rw [byte13, decide_eq_false h13]
        have HE := hid (HN.out (fun h => h13 h.1))
        clear HH HN h13
        go_wp2
        go_round
        case rel => exact ⟨k + 1, by omega, by go_num, HE.out⟩
        case measure => simp [intOf]; omega
    · have hlt' : ¬ (k : Int) + 1 < (s.size : Int) := by omega
      have HE := hid (HV.out.trans (endV_end hlt))
      clear hsz
      go_wp2
      go_ret
      exact ⟨by rw [HE.out]; rfl, rfl⟩

theorem any_take_false {p : UInt8 → Bool} {l : List UInt8} {k : Nat} (h : k < l.length) (ha : (l.take k).any p = false) (hp : p l[k] = false) : (l.take (k + 1)).any p = false := by
  rw [List.take_succ_eq_append_getElem h, List.any_append, ha]
  simp [hp]
theorem any_hit {p : UInt8 → Bool} {l : List UInt8} {k : Nat} (h : k < l.length) (hp : p l[k] = true) : l.any p = true := by
  rw [List.any_eq_true]
  exact ⟨l[k], List.getElem_mem h, hp⟩
theorem brkB_eq (b : UInt8) : brkB b = (decide (b = 13) || decide (b = 10)) := by
  simp [brkB]
set_option maxRecDepth 20000 in
set_option maxHeartbeats 1000000 in
theorem rbroken_any (L : List UInt8) (w : World) (hs : L.length ≤ 140737488355328) :
    Calls Tryz.prog 41 #[.string ⟨L.toArray⟩] w fun e w' => e = .returned (.bool (brk L)) ∧ w' = w := by
  obtain ⟨s, hse⟩ : ∃ s : ByteArray, s = ⟨L.toArray⟩ := ⟨_, rfl⟩
  have hsz : s.size = L.length := by rw [hse, size_list]
  have hgt : ∀ j (h : j < s.size) (h' : j < L.length), s[j] = L[j] := by subst hse; intro j h h'; rfl
  rw [← hse]
  obtain ⟨V, hV⟩ : ∃ V, V = brk L := ⟨_, rfl⟩
  rw [← hV]
  have HV := hid hV
  have HZ := hid hsz
  have HG := hid hgt
  clear hV hsz hgt hse
  go_enter Tryz.func41, Tryz.ntmps41
  go_wp2_with fail
  go_loop [3] (fun i => ∃ (k : Nat), k ≤ L.length ∧ i = .int .i64 (k : Int) ∧ (L.take k).any brkB = false) (fun i => L.length - (intOf i).toNat)
  case atStart => exact ⟨0, Nat.zero_le _, rfl, by simp⟩
  case round =>
    obtain ⟨k, hk, rfl, ha⟩ := hrel
    have hsz := HZ.out
    have HA := hid ha
    clear ha
    by_cases hlt : k < L.length
    · have hlt' : (k : Int) < (s.size : Int) := by omega
      have hk1 : k < s.size := by omega
      have i1 := index_byte s .i64 (k : Int) k rfl hk1
      rw [HG.out k hk1 hlt] at i1
      have HH : Hid (brkB L[k] = true → V = true) := by unfold Hid; intro h; rw [HV.out]; exact any_hit hlt h
      have HN := hid (fun h => any_take_false hlt HA.out h)
      obtain ⟨a, hae⟩ : ∃ a, a = L[k] := ⟨_, rfl⟩
      rw [← hae] at i1 HH HN
      have hbe := brkB_eq a
      clear hae hsz HA
      by_cases h13 : a = 13
      · have f1 : ((a.toNat : Int) == 13) = true := by rw [byte13, decide_eq_true h13]
        have HE := hid (HH.out (by rw [hbe, decide_eq_true h13]; rfl))
        clear HH HN h13 hbe
        go_wp2
        go_ret
        exact ⟨by rw [HE.out]; rfl, rfl⟩
      · have f1 : ((a.toNat : Int) == 13) = false := by rw [byte13, decide_eq_false h13]
        by_cases h10 : a = 10
        · have f2 : ((a.toNat : Int) == 10) = true := by rw [byte10, decide_eq_true h10]
          have HE := hid (HH.out (by rw [hbe, decide_eq_true h10]; simp))
          clear HH HN h13 h10 hbe
          go_wp2
          go_ret
          exact ⟨by rw [HE.out]; rfl, rfl⟩
        · have f2 : ((a.toNat : Int) == 10) = false := by rw [byte10, decide_eq_false h10]
          have HE := hid (HN.out (by rw [hbe, decide_eq_false h13, decide_eq_false h10]; rfl))
          clear HH HN h13 h10 hbe
          go_wp2
          go_round
          case rel => exact ⟨k + 1, by omega, by go_num, HE.out⟩
          case measure => simp [intOf]; omega
    · have hlt' : ¬ (k : Int) < (s.size : Int) := by omega
      have HE : Hid (V = false) := by
        unfold Hid
        have := HA.out
        rw [List.take_of_length_le (by omega)] at this
        rw [HV.out]
        exact this
      clear hsz
      go_wp2
      go_ret
      exact ⟨by rw [HE.out]; rfl, rfl⟩
end Go.Proofs.YtllhibdjopfcnaaGreatDoor
