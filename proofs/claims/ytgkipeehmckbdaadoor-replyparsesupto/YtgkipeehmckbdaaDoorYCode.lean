/-
  The code's: reasons, bytes of names and values, new texts.
-/
import Derived.Test.YtgkipeehmckbdaaDoorYReason
import Derived.Test.YtgkipeehmckbdaaDoorShelf
import Derived.Laws.IdiomStrings
namespace Go.Proofs.YtgkipeehmckbdaaDoor
open Go.RowKit
set_option linter.unusedVariables false


set_option maxRecDepth 20000 in
set_option maxHeartbeats 1000000 in
theorem reasonOr_any (n : Int) (w : World) (hT : Tab w) : Calls Tryd.prog 21 #[.int .i64 n] w fun e w' => e = .returned (.string ⟨(reasonO n).toArray⟩) ∧ Below w.heap.size w w' := by
  have hR := reason_any n w hT
  have hO : reasonO n = (reasonL n).getD statusS := rfl
  rw [hO]
  clear hT hO
  cases hr : reasonL n with
  | none =>
    rw [hr] at hR
    simp only [Option.getD_none, Option.isSome_none] at hR ⊢
    clear hr
    go_enter Tryd.func21, Tryd.ntmps21
    go_wp2_with fail
    refine hR.mono ?_
    clear hR
    rintro e w1 ⟨rfl, hB⟩
    have HB := hid hB
    clear hB
    go_wp2
    go_ret
    exact ⟨rfl, HB.out⟩
  | some W =>
    rw [hr] at hR
    simp only [Option.getD_some, Option.isSome_some] at hR ⊢
    clear hr
    go_enter Tryd.func21, Tryd.ntmps21
    go_wp2_with fail
    refine hR.mono ?_
    clear hR
    rintro e w1 ⟨rfl, hB⟩
    have HB := hid hB
    clear hB
    go_wp2
    go_ret
    exact ⟨rfl, HB.out⟩
theorem connection_any (c : Bool) (w : World) : Calls Tryd.prog 22 #[.bool c] w fun e w' => e = .returned (.string ⟨(wordY c).toArray⟩) ∧ w = w' := by
  cases c with
  | true =>
    go_enter Tryd.func22, Tryd.ntmps22
    go_wp2
    go_ret
    exact ⟨rfl, rfl⟩
  | false =>
    go_enter Tryd.func22, Tryd.ntmps22
    go_wp2
    go_ret
    exact ⟨rfl, rfl⟩
set_option maxHeartbeats 1000000 in
theorem fresh_any (l : List UInt8) (w : World) :
    Calls Tryd.prog 24 #[.string ⟨l.toArray⟩] w fun e w' => e = .returned (.string ⟨l.toArray⟩) ∧ Below w.heap.size w w' := by
  have h1 := run_bytes_of_string (P := Tryd.prog) w 9 40 5 ⟨l.toArray⟩ Tryd.underlying9 Tryd.underlying40 Tryd.underlying5
  obtain ⟨C, hC⟩ : ∃ C, C = grownCap w (⟨l.toArray⟩ : ByteArray).size 0 5 := ⟨_, rfl⟩
  rw [← hC] at h1
  obtain ⟨R, hR⟩ : ∃ R, R = bytesRow ⟨l.toArray⟩ C := ⟨_, rfl⟩
  rw [← hR] at h1
  obtain ⟨w1, hw1⟩ : ∃ w1, w1 = w.drew.alloc (.cells R 5 (R.size, R.size + 1)) := ⟨_, rfl⟩
  rw [← hw1, size_list] at h1
  have h2 := run_convert_bytes_back (P := Tryd.prog) w1 40 9 5 ⟨w.heap.size, 0, none⟩ C l Tryd.underlying40 Tryd.underlying5 Tryd.underlying9 (fun j hj => by
    rw [addr_add, Nat.zero_add, hw1]
    have := World.cell?_alloc_mark w.drew R 5 (R.size, R.size + 1) j
    rw [show w.drew.heap.size = w.heap.size from rfl] at this
    rw [this, hR, bytesRow_at _ _ _ (by simpa using hj)]
    simp)
  have HB : Hid (Below w.heap.size w w1) := by
    unfold Hid
    rw [hw1]
    exact (Below.drew (Below.refl _ _)).alloc (Nat.le_refl _) _
  clear hC hR hw1
  go_enter Tryd.func24, Tryd.ntmps24
  go_wp2
  go_ret
  exact ⟨rfl, HB.out⟩
theorem byte_back (b : UInt8) : ((b.toNat : Int)).toNat.toUInt8 = b := by simp
set_option maxHeartbeats 1000000 in
theorem isOfValue_any (b : UInt8) (w : World) : Calls Tryd.prog 45 #[.int .u8 (b.toNat : Int)] w fun e w' => e = .returned (.bool (isVl b)) ∧ w = w' := by
  have hI := Tryd.strings_IndexByte ⟨#[32, 9]⟩ (b.toNat : Int) w
  rw [byte_back, show (⟨#[32, 9]⟩ : ByteArray).data.toList = [32, 9] from rfl] at hI
  have hc := Lib.contains_iff_indexByte [32, 9] b
  have hv : isVl b = (isVs b || decide (0 ≤ Lib.indexByte [32, 9] b)) := by unfold isVl; rw [hc]
  have hvs : isVs b = decide (33 ≤ b.toNat ∧ b.toNat ≤ 126) := rfl
  obtain ⟨z, hz⟩ : ∃ z, z = Lib.indexByte [32, 9] b := ⟨_, rfl⟩
  rw [← hz] at hI hv
  rw [hv]
  clear hz hc hv
  by_cases h1 : 33 ≤ b.toNat
  · have g1 : decide ((33 : Int) ≤ (b.toNat : Int)) = true := by simp; omega
    by_cases h2 : b.toNat ≤ 126
    · have g2 : decide ((b.toNat : Int) ≤ 126) = true := by simp; omega
      rw [hvs, decide_eq_true ⟨h1, h2⟩]
      clear hI hvs h1 h2
      go_enter Tryd.func45, Tryd.ntmps45
      go_wp2
      go_ret
      exact ⟨rfl, rfl⟩
    · have g2 : decide ((b.toNat : Int) ≤ 126) = false := by simp; omega
      rw [hvs, decide_eq_false (fun h => h2 h.2)]
      clear hvs h1 h2
      go_enter Tryd.func45, Tryd.ntmps45
      go_wp2_with fail
      refine hI.mono ?_
      rintro e w1 ⟨rfl, hw⟩
      subst hw
      go_wp2
      go_ret
      exact ⟨rfl, rfl⟩
  · have g1 : decide ((33 : Int) ≤ (b.toNat : Int)) = false := by simp; omega
    rw [hvs, decide_eq_false (fun h => h1 h.1)]
    clear hvs h1
    go_enter Tryd.func45, Tryd.ntmps45
    go_wp2_with fail
    refine hI.mono ?_
    rintro e w1 ⟨rfl, hw⟩
    subst hw
    go_wp2
    go_ret
    exact ⟨rfl, rfl⟩

set_option maxHeartbeats 1000000 in
theorem isOfName_any (b : UInt8) (w : World) : Calls Tryd.prog 43 #[.int .u8 (b.toNat : Int)] w fun e w' => e = .returned (.bool (isNy b)) ∧ w = w' := by
  have hI := Tryd.strings_IndexByte ⟨#[33, 35, 36, 37, 38, 39, 42, 43, 45, 46, 94, 95, 96, 124, 126]⟩ (b.toNat : Int) w
  rw [byte_back, show (⟨#[33, 35, 36, 37, 38, 39, 42, 43, 45, 46, 94, 95, 96, 124, 126]⟩ : ByteArray).data.toList = signs from rfl] at hI
  have hc := Lib.contains_iff_indexByte signs b
  have hv : isNy b = ((decide (97 ≤ b.toNat ∧ b.toNat ≤ 122) || decide (48 ≤ b.toNat ∧ b.toNat ≤ 57)) || decide (0 ≤ Lib.indexByte signs b)) := by unfold isNy isSm isDg; rw [hc]
  obtain ⟨z, hz⟩ : ∃ z, z = Lib.indexByte signs b := ⟨_, rfl⟩
  rw [← hz] at hI hv
  rw [hv]
  clear hz hc hv
  by_cases h1 : 97 ≤ b.toNat
  · have g1 : decide ((97 : Int) ≤ (b.toNat : Int)) = true := by simp; omega
    by_cases h2 : b.toNat ≤ 122
    · have g2 : decide ((b.toNat : Int) ≤ 122) = true := by simp; omega
      rw [decide_eq_true ⟨h1, h2⟩]
      clear hI
      go_enter Tryd.func43, Tryd.ntmps43
      go_wp2
      go_ret
      exact ⟨rfl, rfl⟩
    · have g2 : decide ((b.toNat : Int) ≤ 122) = false := by simp; omega
      by_cases h3 : 48 ≤ b.toNat
      · have g3 : decide ((48 : Int) ≤ (b.toNat : Int)) = true := by simp; omega
        by_cases h4 : b.toNat ≤ 57
        · have g4 : decide ((b.toNat : Int) ≤ 57) = true := by simp; omega
          rw [decide_eq_false (fun h => h2 h.2), decide_eq_true ⟨h3, h4⟩]
          clear hI
          go_enter Tryd.func43, Tryd.ntmps43
          go_wp2
          go_ret
          exact ⟨rfl, rfl⟩
        · have g4 : decide ((b.toNat : Int) ≤ 57) = false := by simp; omega
          rw [decide_eq_false (fun h => h2 h.2), decide_eq_false (fun h => h4 h.2)]
          go_enter Tryd.func43, Tryd.ntmps43
          go_wp2_with fail
          refine hI.mono ?_
          rintro e w1 ⟨rfl, hw⟩
          subst hw
          go_wp2
          go_ret
          exact ⟨rfl, rfl⟩
      · have g3 : decide ((48 : Int) ≤ (b.toNat : Int)) = false := by simp; omega
        rw [decide_eq_false (fun h => h2 h.2), decide_eq_false (fun h => h3 h.1)]
        go_enter Tryd.func43, Tryd.ntmps43
        go_wp2_with fail
        refine hI.mono ?_
        rintro e w1 ⟨rfl, hw⟩
        subst hw
        go_wp2
        go_ret
        exact ⟨rfl, rfl⟩
  · have g1 : decide ((97 : Int) ≤ (b.toNat : Int)) = false := by simp; omega
    by_cases h3 : 48 ≤ b.toNat
    · have g3 : decide ((48 : Int) ≤ (b.toNat : Int)) = true := by simp; omega
      by_cases h4 : b.toNat ≤ 57
      · have g4 : decide ((b.toNat : Int) ≤ 57) = true := by simp; omega
        rw [decide_eq_false (fun h => h1 h.1), decide_eq_true ⟨h3, h4⟩]
        clear hI
        go_enter Tryd.func43, Tryd.ntmps43
        go_wp2
        go_ret
        exact ⟨rfl, rfl⟩
      · have g4 : decide ((b.toNat : Int) ≤ 57) = false := by simp; omega
        rw [decide_eq_false (fun h => h1 h.1), decide_eq_false (fun h => h4 h.2)]
        go_enter Tryd.func43, Tryd.ntmps43
        go_wp2_with fail
        refine hI.mono ?_
        rintro e w1 ⟨rfl, hw⟩
        subst hw
        go_wp2
        go_ret
        exact ⟨rfl, rfl⟩
    · have g3 : decide ((48 : Int) ≤ (b.toNat : Int)) = false := by simp; omega
      rw [decide_eq_false (fun h => h1 h.1), decide_eq_false (fun h => h3 h.1)]
      go_enter Tryd.func43, Tryd.ntmps43
      go_wp2_with fail
      refine hI.mono ?_
      rintro e w1 ⟨rfl, hw⟩
      subst hw
      go_wp2
      go_ret
      exact ⟨rfl, rfl⟩
end Go.Proofs.YtgkipeehmckbdaaDoor
