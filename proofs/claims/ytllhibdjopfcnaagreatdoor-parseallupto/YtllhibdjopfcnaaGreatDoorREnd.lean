/-
  The end of a line of a chunked body: the document's.
-/
import Derived.Test.YtllhibdjopfcnaaGreatDoorPApp
namespace Go.Proofs.YtllhibdjopfcnaaGreatDoor
open Go.RowKit
set_option linter.unusedVariables false

/-- What the document's 'ended' tells: a number, and a place (-1: more; -2: wrong). -/
def eoV (n i : Nat) : Tell Unit → Int × Int
  | .error none => (0, -1)
  | .error (some _) => (0, -2)
  | .ok _ => ((n : Int), (i : Int) + 2)
theorem byteNe (b : UInt8) (k : Nat) (hk : k < 256) : ((b.toNat : Int) != (k : Int)) = !decide (b = UInt8.ofNat k) := by
  by_cases h : b = UInt8.ofNat k
  · subst h
    have : (UInt8.ofNat k).toNat = k := by rw [UInt8.toNat_ofNat']; exact Nat.mod_eq_of_lt hk
    rw [this]
    simp
  · rw [decide_eq_false h]
    simp only [Bool.not_false, bne_iff_ne, ne_eq]
    intro e
    apply h
    have : b.toNat = k := by omega
    exact byte_eq this
set_option maxRecDepth 20000 in
set_option maxHeartbeats 4000000 in
theorem ended_any (L : List UInt8) (i n : Nat) (w : World) (hi : i ≤ L.length) (hs : L.length ≤ 140737488355328) :
    Calls Tryz.prog 66 #[.string ⟨L.toArray⟩, .int .i64 (i : Int), .int .i64 (n : Int)] w fun e w' => e = .returned (.tuple #[.int .i64 (eoV n i (eolL (L.drop i))).1, .int .i64 (eoV n i (eolL (L.drop i))).2]) ∧ w = w' := by
  obtain ⟨s, hse⟩ : ∃ s : ByteArray, s = ⟨L.toArray⟩ := ⟨_, rfl⟩
  have hsz : s.size = L.length := by rw [hse, size_list]
  have hdl : s.data.toList = L := by rw [hse]
  rw [← hse]
  obtain ⟨j, hj⟩ : ∃ j, j = i + 1 := ⟨_, rfl⟩
  have hadd : (i : Int) + 1 = (j : Int) := by omega
  by_cases h1 : i < s.size
  · have d1 := drop_byte s i h1
    rw [hdl] at d1
    have i1 := index_byte s .i64 (i : Int) i rfl h1
    obtain ⟨a, ha⟩ : ∃ a, a = s[i] := ⟨_, rfl⟩
    rw [← ha] at d1 i1
    have f1 : decide ((i : Int) < (s.size : Int)) = true := by simp; omega
    have n1 := byteNe a 13 (by decide)
    by_cases h13 : a = 13
    · have g1 : ((a.toNat : Int) != 13) = false := by
        have := n1
        rw [decide_eq_true (show a = UInt8.ofNat 13 from h13)] at this
        exact this
      by_cases h2 : j < s.size
      · have d2 := drop_byte s j h2
        rw [hdl] at d2
        have i2 := index_byte s .i64 (j : Int) j rfl h2
        obtain ⟨b, hb⟩ : ∃ b, b = s[j] := ⟨_, rfl⟩
        rw [← hb] at d2 i2
        have f2 : decide ((j : Int) < (s.size : Int)) = true := by simp; omega
        have f3 : decide ((s.size : Int) ≤ (j : Int)) = false := by simp; omega
        have n2 := byteNe b 10 (by decide)
        rw [d1, ← hj, d2, eolL_two]
        by_cases h10 : b = 10
        · have g2 : ((b.toNat : Int) != 10) = false := by
            have := n2
            rw [decide_eq_true (show b = UInt8.ofNat 10 from h10)] at this
            exact this
          rw [if_pos ⟨h13, h10⟩]
          clear d1 d2 n1 n2 ha hb hse hsz hdl hj h13 h10
          go_enter Tryz.func66, Tryz.ntmps66
          go_wp2
          go_ret2
          exact ⟨rfl, rfl⟩
        · have g2 : ((b.toNat : Int) != 10) = true := by
            have := n2
            rw [decide_eq_false (show ¬ b = UInt8.ofNat 10 from h10)] at this
            exact this
          rw [if_neg (fun e => h10 e.2)]
          clear d1 d2 n1 n2 ha hb hse hsz hdl hj h13 h10
          go_enter Tryz.func66, Tryz.ntmps66
          go_wp2
          go_ret2
          exact ⟨rfl, rfl⟩
      · have f2 : decide ((j : Int) < (s.size : Int)) = false := by simp; omega
        have f3 : decide ((s.size : Int) ≤ (j : Int)) = true := by simp; omega
        have d2 : L.drop j = [] := List.drop_eq_nil_of_le (by omega)
        rw [d1, ← hj, d2, eolL_one, if_pos h13]
        clear d1 d2 n1 ha hse hsz hdl hj h13
        go_enter Tryz.func66, Tryz.ntmps66
        go_wp2
        go_ret2
        exact ⟨rfl, rfl⟩
    · have g1 : ((a.toNat : Int) != 13) = true := by
        have := n1
        rw [decide_eq_false (show ¬ a = UInt8.ofNat 13 from h13)] at this
        exact this
      rw [d1, eol_not _ h13]
      clear d1 n1 ha hse hsz hdl hj h13
      go_enter Tryz.func66, Tryz.ntmps66
      go_wp2
      go_ret2
      exact ⟨rfl, rfl⟩
  · have f1 : decide ((i : Int) < (s.size : Int)) = false := by simp; omega
    have f2 : decide ((j : Int) < (s.size : Int)) = false := by simp; omega
    have f3 : decide ((s.size : Int) ≤ (j : Int)) = true := by simp; omega
    have d1 : L.drop i = [] := List.drop_eq_nil_of_le (by omega)
    rw [d1]
    have h2n : s.size ≤ j := by omega
    clear d1 hse hsz hdl hj
    go_enter Tryz.func66, Tryz.ntmps66
    go_wp2
    go_ret2
    exact ⟨rfl, rfl⟩
end Go.Proofs.YtllhibdjopfcnaaGreatDoor
