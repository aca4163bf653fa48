/-
  Whether a text is made of bytes of a kind: the code's.
-/
import Derived.Test.YtllhibdjopfcnaaGreatDoorZCut
import Derived.Test.YtllhibdjopfcnaaGreatDoorZForm
import Derived.Test.YtllhibdjopfcnaaGreatDoorZHMath
import Derived.Test.YtllhibdjopfcnaaGreatDoorZShelf
import Derived.Laws.IdiomStrings
namespace Go.Proofs.YtllhibdjopfcnaaGreatDoor
open Go.RowKit
set_option linter.unusedVariables false

theorem isLarge_any (b : UInt8) (w : World) : Calls Tryz.prog 93 #[.int .u8 (b.toNat : Int)] w fun e w' => e = .returned (.bool (isLg b)) ∧ w = w' := by
  have hb := b.toNat_lt
  unfold isLg
  obtain ⟨n, hn⟩ : ∃ n, n = b.toNat := ⟨_, rfl⟩
  rw [← hn] at hb ⊢
  clear hn
  by_cases h1 : 65 ≤ n
  · have f1 : decide ((65 : Int) ≤ (n : Int)) = true := by simp; omega
    by_cases h2 : n ≤ 90
    · have f2 : decide ((n : Int) ≤ 90) = true := by simp; omega
      rw [decide_eq_true ⟨h1, h2⟩]
      go_enter Tryz.func93, Tryz.ntmps93
      go_wp2
      go_ret
      exact ⟨rfl, rfl⟩
    · have f2 : decide ((n : Int) ≤ 90) = false := by simp; omega
      rw [decide_eq_false (fun h => h2 h.2)]
      go_enter Tryz.func93, Tryz.ntmps93
      go_wp2
      go_ret
      exact ⟨rfl, rfl⟩
  · have f1 : decide ((65 : Int) ≤ (n : Int)) = false := by simp; omega
    rw [decide_eq_false (fun h => h1 h.1)]
    go_enter Tryz.func93, Tryz.ntmps93
    go_wp2
    go_ret
    exact ⟨rfl, rfl⟩
theorem isDigit_any (b : UInt8) (w : World) : Calls Tryz.prog 107 #[.int .u8 (b.toNat : Int)] w fun e w' => e = .returned (.bool (isDg b)) ∧ w = w' := by
  have hb := b.toNat_lt
  unfold isDg
  obtain ⟨n, hn⟩ : ∃ n, n = b.toNat := ⟨_, rfl⟩
  rw [← hn] at hb ⊢
  clear hn
  by_cases h1 : 48 ≤ n
  · have f1 : decide ((48 : Int) ≤ (n : Int)) = true := by simp; omega
    by_cases h2 : n ≤ 57
    · have f2 : decide ((n : Int) ≤ 57) = true := by simp; omega
      rw [decide_eq_true ⟨h1, h2⟩]
      go_enter Tryz.func107, Tryz.ntmps107
      go_wp2
      go_ret
      exact ⟨rfl, rfl⟩
    · have f2 : decide ((n : Int) ≤ 57) = false := by simp; omega
      rw [decide_eq_false (fun h => h2 h.2)]
      go_enter Tryz.func107, Tryz.ntmps107
      go_wp2
      go_ret
      exact ⟨rfl, rfl⟩
  · have f1 : decide ((48 : Int) ≤ (n : Int)) = false := by simp; omega
    rw [decide_eq_false (fun h => h1 h.1)]
    go_enter Tryz.func107, Tryz.ntmps107
    go_wp2
    go_ret
    exact ⟨rfl, rfl⟩
theorem isVisible_any (b : UInt8) (w : World) : Calls Tryz.prog 116 #[.int .u8 (b.toNat : Int)] w fun e w' => e = .returned (.bool (isVs b)) ∧ w = w' := by
  have hb := b.toNat_lt
  unfold isVs
  obtain ⟨n, hn⟩ : ∃ n, n = b.toNat := ⟨_, rfl⟩
  rw [← hn] at hb ⊢
  clear hn
  by_cases h1 : 33 ≤ n
  · have f1 : decide ((33 : Int) ≤ (n : Int)) = true := by simp; omega
    by_cases h2 : n ≤ 126
    · have f2 : decide ((n : Int) ≤ 126) = true := by simp; omega
      rw [decide_eq_true ⟨h1, h2⟩]
      go_enter Tryz.func116, Tryz.ntmps116
      go_wp2
      go_ret
      exact ⟨rfl, rfl⟩
    · have f2 : decide ((n : Int) ≤ 126) = false := by simp; omega
      rw [decide_eq_false (fun h => h2 h.2)]
      go_enter Tryz.func116, Tryz.ntmps116
      go_wp2
      go_ret
      exact ⟨rfl, rfl⟩
  · have f1 : decide ((33 : Int) ≤ (n : Int)) = false := by simp; omega
    rw [decide_eq_false (fun h => h1 h.1)]
    go_enter Tryz.func116, Tryz.ntmps116
    go_wp2
    go_ret
    exact ⟨rfl, rfl⟩
theorem byte_back (b : UInt8) : ((b.toNat : Int)).toNat.toUInt8 = b := by simp

theorem isOfValue_any (b : UInt8) (w : World) : Calls Tryz.prog 119 #[.int .u8 (b.toNat : Int)] w fun e w' => e = .returned (.bool (isVl b)) ∧ w = w' := by
  have hV := isVisible_any b w
  have hI := Tryz.strings_IndexByte ⟨#[32, 9]⟩ (b.toNat : Int) w
  rw [byte_back, show (⟨#[32, 9]⟩ : ByteArray).data.toList = [32, 9] from rfl] at hI
  have hc := Lib.contains_iff_indexByte [32, 9] b
  unfold isVl
  rw [hc]
  obtain ⟨z, hz⟩ : ∃ z, z = Lib.indexByte [32, 9] b := ⟨_, rfl⟩
  rw [← hz] at hI ⊢
  clear hz hc
  cases hv : isVs b with
  | true =>
    rw [hv] at hV
    clear hI
    go_enter Tryz.func119, Tryz.ntmps119
    go_wp2_with fail
    refine hV.mono ?_
    rintro e w1 ⟨rfl, hw⟩
    subst hw
    go_wp2
    go_ret
    exact ⟨rfl, rfl⟩
  | false =>
    rw [hv] at hV
    go_enter Tryz.func119, Tryz.ntmps119
    go_wp2_with fail
    refine hV.mono ?_
    rintro e w1 ⟨rfl, hw⟩
    subst hw
    go_wp2_with fail
    refine hI.mono ?_
    rintro e w1 ⟨rfl, hw⟩
    subst hw
    go_wp2
    go_ret
    exact ⟨rfl, rfl⟩

set_option maxHeartbeats 1000000 in
theorem isOfName_any (b : UInt8) (w : World) : Calls Tryz.prog 118 #[.int .u8 (b.toNat : Int)] w fun e w' => e = .returned (.bool (isNm b)) ∧ w = w' := by
  have hL := isLarge_any b w
  have hD := isDigit_any b w
  have hI := Tryz.strings_IndexByte ⟨#[33, 35, 36, 37, 38, 39, 42, 43, 45, 46, 94, 95, 96, 124, 126]⟩ (b.toNat : Int) w
  rw [byte_back, show (⟨#[33, 35, 36, 37, 38, 39, 42, 43, 45, 46, 94, 95, 96, 124, 126]⟩ : ByteArray).data.toList = signs from rfl] at hI
  have hc := Lib.contains_iff_indexByte signs b
  unfold isNm
  rw [hc]
  obtain ⟨z, hz⟩ : ∃ z, z = Lib.indexByte signs b := ⟨_, rfl⟩
  rw [← hz] at hI ⊢
  have hs : isSm b = decide (97 ≤ b.toNat ∧ b.toNat ≤ 122) := rfl
  rw [hs]
  obtain ⟨lg, hlg⟩ : ∃ x, x = isLg b := ⟨_, rfl⟩
  obtain ⟨dg, hdg⟩ : ∃ x, x = isDg b := ⟨_, rfl⟩
  rw [← hlg] at hL ⊢
  rw [← hdg] at hD ⊢
  obtain ⟨n, hn⟩ : ∃ n, n = b.toNat := ⟨_, rfl⟩
  rw [← hn] at hL hD hI ⊢
  clear hz hc hs hlg hdg hn
  cases lg with
  | true =>
    clear hI hD
    go_enter Tryz.func118, Tryz.ntmps118
    go_wp2_with fail
    refine hL.mono ?_
    rintro e w1 ⟨rfl, hw⟩
    subst hw
    go_wp2
    go_ret
    exact ⟨rfl, rfl⟩
  | false =>
    by_cases h1 : 97 ≤ n
    · have f1 : decide ((97 : Int) ≤ (n : Int)) = true := by simp; omega
      by_cases h2 : n ≤ 122
      · have f2 : decide ((n : Int) ≤ 122) = true := by simp; omega
        rw [decide_eq_true ⟨h1, h2⟩]
        go_enter Tryz.func118, Tryz.ntmps118
        go_wp2_with fail
        refine hL.mono ?_
        rintro e w1 ⟨rfl, hw⟩
        subst hw
        go_wp2
        go_ret
        exact ⟨rfl, rfl⟩
      · have f2 : decide ((n : Int) ≤ 122) = false := by simp; omega
        rw [decide_eq_false (fun h => h2 h.2)]
        cases dg with
        | true =>
          go_enter Tryz.func118, Tryz.ntmps118
          go_wp2_with fail
          refine hL.mono ?_
          rintro e w1 ⟨rfl, hw⟩
          subst hw
          go_wp2_with fail
          refine hD.mono ?_
          rintro e w1 ⟨rfl, hw⟩
          subst hw
          go_wp2
          go_ret
          exact ⟨rfl, rfl⟩
        | false =>
          go_enter Tryz.func118, Tryz.ntmps118
          go_wp2_with fail
          refine hL.mono ?_
          rintro e w1 ⟨rfl, hw⟩
          subst hw
          go_wp2_with fail
          refine hD.mono ?_
          rintro e w1 ⟨rfl, hw⟩
          subst hw
          go_wp2_with fail
          refine hI.mono ?_
          rintro e w1 ⟨rfl, hw⟩
          subst hw
          go_wp2
          go_ret
          exact ⟨rfl, rfl⟩
    · have f1 : decide ((97 : Int) ≤ (n : Int)) = false := by simp; omega
      rw [decide_eq_false (fun h => h1 h.1)]
      cases dg with
      | true =>
        go_enter Tryz.func118, Tryz.ntmps118
        go_wp2_with fail
        refine hL.mono ?_
        rintro e w1 ⟨rfl, hw⟩
        subst hw
        go_wp2_with fail
        refine hD.mono ?_
        rintro e w1 ⟨rfl, hw⟩
        subst hw
        go_wp2
        go_ret
        exact ⟨rfl, rfl⟩
      | false =>
        go_enter Tryz.func118, Tryz.ntmps118
        go_wp2_with fail
        refine hL.mono ?_
        rintro e w1 ⟨rfl, hw⟩
        subst hw
        go_wp2_with fail
        refine hD.mono ?_
        rintro e w1 ⟨rfl, hw⟩
        subst hw
        go_wp2_with fail
        refine hI.mono ?_
        rintro e w1 ⟨rfl, hw⟩
        subst hw
        go_wp2
        go_ret
        exact ⟨rfl, rfl⟩

set_option maxHeartbeats 1000000 in
theorem fresh_any (l : List UInt8) (w : World) :
    Calls Tryz.prog 91 #[.string ⟨l.toArray⟩] w fun e w' => e = .returned (.string ⟨l.toArray⟩) ∧ Below w.heap.size w w' := by
  have h1 := run_bytes_of_string (P := Tryz.prog) w 9 75 5 ⟨l.toArray⟩ Tryz.underlying9 Tryz.underlying75 Tryz.underlying5
  obtain ⟨C, hC⟩ : ∃ C, C = grownCap w (⟨l.toArray⟩ : ByteArray).size 0 5 := ⟨_, rfl⟩
  rw [← hC] at h1
  obtain ⟨R, hR⟩ : ∃ R, R = bytesRow ⟨l.toArray⟩ C := ⟨_, rfl⟩
  rw [← hR] at h1
  obtain ⟨w1, hw1⟩ : ∃ w1, w1 = w.drew.alloc (.cells R 5 (R.size, R.size + 1)) := ⟨_, rfl⟩
  rw [← hw1, size_list] at h1
  have h2 := run_convert_bytes_back (P := Tryz.prog) w1 75 9 5 ⟨w.heap.size, 0, none⟩ C l Tryz.underlying75 Tryz.underlying5 Tryz.underlying9 (fun j hj => by
    rw [addr_add, Nat.zero_add, hw1]
    have := World.cell?_alloc_mark w.drew R 5 (R.size, R.size + 1) j
    rw [show w.drew.heap.size = w.heap.size from rfl] at this
    rw [this, hR, bytesRow_at _ _ _ (by simpa using hj)]
    simp)
  have HB : Hid (Below w.heap.size w w1) := by
    unfold Hid
    rw [hw1]
    exact (Below.drew (Below.refl _ _)).alloc (Nat.le_refl _) _
  clear hC hR hw1
  go_enter Tryz.func91, Tryz.ntmps91
  go_wp2
  go_ret
  exact ⟨rfl, HB.out⟩
end Go.Proofs.YtllhibdjopfcnaaGreatDoor

namespace Go.Proofs.YtllhibdjopfcnaaGreatDoor
open Go.RowKit
set_option linter.unusedVariables false

theorem all_take_succ (p : UInt8 → Bool) (l : List UInt8) (k : Nat) (h : k < l.length) : (l.take (k + 1)).all p = ((l.take k).all p && p l[k]) := by
  rw [List.take_succ_eq_append_getElem h, List.all_append]
  simp
theorem all_take_false {p : UInt8 → Bool} {l : List UInt8} {k : Nat} (h : k < l.length) (hp : p l[k] = false) : l.all p = false := by
  rw [List.all_eq_false]
  exact ⟨l[k], List.getElem_mem h, by rw [hp]; simp⟩

set_option maxRecDepth 20000 in
set_option maxHeartbeats 1000000 in
theorem made_Lg (s : ByteArray) (w : World) (hs : s.size ≤ 140737488355328) :
    Calls Tryz.prog 106 #[.string s, .func (.func 93) #[] #[]] w fun e w' => e = .returned (.bool (madeL isLg s.data.toList)) ∧ w' = w := by
  obtain ⟨V, hV⟩ : ∃ V, V = madeL isLg s.data.toList := ⟨_, rfl⟩
  rw [← hV]
  have HV := hid hV
  clear hV
  go_enter Tryz.func106, Tryz.ntmps106
  go_wp2_with fail
  go_loop [8] (fun i => ∃ (k : Nat), k ≤ s.size ∧ i = .int .i64 (k : Int) ∧ (s.data.toList.take k).all isLg = true) (fun i => s.size - (intOf i).toNat)
  case atStart => exact ⟨0, Nat.zero_le _, rfl, by simp⟩
  case round =>
    obtain ⟨k, hk, rfl, hall⟩ := hrel
    have HA := hid hall
    clear hall
    by_cases hlt : k < s.size
    · have hlt' : (k : Int) < (s.size : Int) := by omega
      have i1 := index_byte s .i64 (k : Int) k rfl hlt
      have hll : k < s.data.toList.length := by rw [len_str]; exact hlt
      have hge : s.data.toList[k] = s[k] := rfl
      have HB : Hid (isLg s[k] = false → V = false) := by
        unfold Hid
        intro hb
        rw [HV.out, madeL, all_take_false hll (by rw [hge]; exact hb)]
        rfl
      have HG : Hid (isLg s[k] = true → (s.data.toList.take (k + 1)).all isLg = true) := by
        unfold Hid
        intro hb
        rw [all_take_succ _ _ _ hll, HA.out, hge, hb]
        rfl
      have hC := isLarge_any s[k] w
      obtain ⟨b, hb⟩ : ∃ b, b = s[k] := ⟨_, rfl⟩
      rw [← hb] at i1 HB HG hC
      clear hb hll hge
      cases hp : isLg b with
      | true =>
        rw [hp] at hC
        have HE := hid (HG.out hp)
        clear HB HG
        go_wp2_with fail
        refine hC.mono ?_
        clear hC
        rintro e w1 ⟨rfl, hw1⟩
        subst hw1
        go_wp2
        go_round
        case rel => exact ⟨k + 1, by omega, by go_num, HE.out⟩
        case measure => simp [intOf]; omega
      | false =>
        rw [hp] at hC
        have HE := hid (HB.out hp)
        clear HB HG
        go_wp2_with fail
        refine hC.mono ?_
        clear hC
        rintro e w1 ⟨rfl, hw1⟩
        subst hw1
        go_wp2
        go_ret
        exact ⟨by rw [HE.out]; rfl, rfl⟩
    · have hlt' : ¬ (k : Int) < (s.size : Int) := by omega
      have HE : Hid (V = !s.toList.isEmpty) := by
        unfold Hid
        have := HA.out
        rw [List.take_of_length_le (by rw [len_str]; omega)] at this
        rw [HV.out, madeL, this, ByteArray.toList_eq]
        simp
      clear HA
      go_wp2
      go_ret
      exact ⟨by rw [HE.out]; rfl, rfl⟩
theorem madeL_Lg (l : List UInt8) (w : World) (hs : l.length ≤ 140737488355328) :
    Calls Tryz.prog 106 #[.string ⟨l.toArray⟩, .func (.func 93) #[] #[]] w fun e w' => e = .returned (.bool (madeL isLg l)) ∧ w' = w := made_Lg ⟨l.toArray⟩ w (by rw [size_list]; exact hs)

set_option maxRecDepth 20000 in
set_option maxHeartbeats 1000000 in
theorem made_Vs (s : ByteArray) (w : World) (hs : s.size ≤ 140737488355328) :
    Calls Tryz.prog 106 #[.string s, .func (.func 116) #[] #[]] w fun e w' => e = .returned (.bool (madeL isVs s.data.toList)) ∧ w' = w := by
  obtain ⟨V, hV⟩ : ∃ V, V = madeL isVs s.data.toList := ⟨_, rfl⟩
  rw [← hV]
  have HV := hid hV
  clear hV
  go_enter Tryz.func106, Tryz.ntmps106
  go_wp2_with fail
  go_loop [8] (fun i => ∃ (k : Nat), k ≤ s.size ∧ i = .int .i64 (k : Int) ∧ (s.data.toList.take k).all isVs = true) (fun i => s.size - (intOf i).toNat)
  case atStart => exact ⟨0, Nat.zero_le _, rfl, by simp⟩
  case round =>
    obtain ⟨k, hk, rfl, hall⟩ := hrel
    have HA := hid hall
    clear hall
    by_cases hlt : k < s.size
    · have hlt' : (k : Int) < (s.size : Int) := by omega
      have i1 := index_byte s .i64 (k : Int) k rfl hlt
      have hll : k < s.data.toList.length := by rw [len_str]; exact hlt
      have hge : s.data.toList[k] = s[k] := rfl
      have HB : Hid (isVs s[k] = false → V = false) := by
        unfold Hid
        intro hb
        rw [HV.out, madeL, all_take_false hll (by rw [hge]; exact hb)]
        rfl
      have HG : Hid (isVs s[k] = true → (s.data.toList.take (k + 1)).all isVs = true) := by
        unfold Hid
        intro hb
        rw [all_take_succ _ _ _ hll, HA.out, hge, hb]
        rfl
      have hC := isVisible_any s[k] w
      obtain ⟨b, hb⟩ : ∃ b, b = s[k] := ⟨_, rfl⟩
      rw [← hb] at i1 HB HG hC
      clear hb hll hge
      cases hp : isVs b with
      | true =>
        rw [hp] at hC
        have HE := hid (HG.out hp)
        clear HB HG
        go_wp2_with fail
        refine hC.mono ?_
        clear hC
        rintro e w1 ⟨rfl, hw1⟩
        subst hw1
        go_wp2
        go_round
        case rel => exact ⟨k + 1, by omega, by go_num, HE.out⟩
        case measure => simp [intOf]; omega
      | false =>
        rw [hp] at hC
        have HE := hid (HB.out hp)
        clear HB HG
        go_wp2_with fail
        refine hC.mono ?_
        clear hC
        rintro e w1 ⟨rfl, hw1⟩
        subst hw1
        go_wp2
        go_ret
        exact ⟨by rw [HE.out]; rfl, rfl⟩
    · have hlt' : ¬ (k : Int) < (s.size : Int) := by omega
      have HE : Hid (V = !s.toList.isEmpty) := by
        unfold Hid
        have := HA.out
        rw [List.take_of_length_le (by rw [len_str]; omega)] at this
        rw [HV.out, madeL, this, ByteArray.toList_eq]
        simp
      clear HA
      go_wp2
      go_ret
      exact ⟨by rw [HE.out]; rfl, rfl⟩
theorem madeL_Vs (l : List UInt8) (w : World) (hs : l.length ≤ 140737488355328) :
    Calls Tryz.prog 106 #[.string ⟨l.toArray⟩, .func (.func 116) #[] #[]] w fun e w' => e = .returned (.bool (madeL isVs l)) ∧ w' = w := made_Vs ⟨l.toArray⟩ w (by rw [size_list]; exact hs)

set_option maxRecDepth 20000 in
set_option maxHeartbeats 1000000 in
theorem made_Nm (s : ByteArray) (w : World) (hs : s.size ≤ 140737488355328) :
    Calls Tryz.prog 106 #[.string s, .func (.func 118) #[] #[]] w fun e w' => e = .returned (.bool (madeL isNm s.data.toList)) ∧ w' = w := by
  obtain ⟨V, hV⟩ : ∃ V, V = madeL isNm s.data.toList := ⟨_, rfl⟩
  rw [← hV]
  have HV := hid hV
  clear hV
  go_enter Tryz.func106, Tryz.ntmps106
  go_wp2_with fail
  go_loop [8] (fun i => ∃ (k : Nat), k ≤ s.size ∧ i = .int .i64 (k : Int) ∧ (s.data.toList.take k).all isNm = true) (fun i => s.size - (intOf i).toNat)
  case atStart => exact ⟨0, Nat.zero_le _, rfl, by simp⟩
  case round =>
    obtain ⟨k, hk, rfl, hall⟩ := hrel
    have HA := hid hall
    clear hall
    by_cases hlt : k < s.size
    · have hlt' : (k : Int) < (s.size : Int) := by omega
      have i1 := index_byte s .i64 (k : Int) k rfl hlt
      have hll : k < s.data.toList.length := by rw [len_str]; exact hlt
      have hge : s.data.toList[k] = s[k] := rfl
      have HB : Hid (isNm s[k] = false → V = false) := by
        unfold Hid
        intro hb
        rw [HV.out, madeL, all_take_false hll (by rw [hge]; exact hb)]
        rfl
      have HG : Hid (isNm s[k] = true → (s.data.toList.take (k + 1)).all isNm = true) := by
        unfold Hid
        intro hb
        rw [all_take_succ _ _ _ hll, HA.out, hge, hb]
        rfl
      have hC := isOfName_any s[k] w
      obtain ⟨b, hb⟩ : ∃ b, b = s[k] := ⟨_, rfl⟩
      rw [← hb] at i1 HB HG hC
      clear hb hll hge
      cases hp : isNm b with
      | true =>
        rw [hp] at hC
        have HE := hid (HG.out hp)
        clear HB HG
        go_wp2_with fail
        refine hC.mono ?_
        clear hC
        rintro e w1 ⟨rfl, hw1⟩
        subst hw1
        go_wp2
        go_round
        case rel => exact ⟨k + 1, by omega, by go_num, HE.out⟩
        case measure => simp [intOf]; omega
      | false =>
        rw [hp] at hC
        have HE := hid (HB.out hp)
        clear HB HG
        go_wp2_with fail
        refine hC.mono ?_
        clear hC
        rintro e w1 ⟨rfl, hw1⟩
        subst hw1
        go_wp2
        go_ret
        exact ⟨by rw [HE.out]; rfl, rfl⟩
    · have hlt' : ¬ (k : Int) < (s.size : Int) := by omega
      have HE : Hid (V = !s.toList.isEmpty) := by
        unfold Hid
        have := HA.out
        rw [List.take_of_length_le (by rw [len_str]; omega)] at this
        rw [HV.out, madeL, this, ByteArray.toList_eq]
        simp
      clear HA
      go_wp2
      go_ret
      exact ⟨by rw [HE.out]; rfl, rfl⟩
theorem madeL_Nm (l : List UInt8) (w : World) (hs : l.length ≤ 140737488355328) :
    Calls Tryz.prog 106 #[.string ⟨l.toArray⟩, .func (.func 118) #[] #[]] w fun e w' => e = .returned (.bool (madeL isNm l)) ∧ w' = w := made_Nm ⟨l.toArray⟩ w (by rw [size_list]; exact hs)

set_option maxRecDepth 20000 in
set_option maxHeartbeats 1000000 in
theorem made_Vl (s : ByteArray) (w : World) (hs : s.size ≤ 140737488355328) :
    Calls Tryz.prog 106 #[.string s, .func (.func 119) #[] #[]] w fun e w' => e = .returned (.bool (madeL isVl s.data.toList)) ∧ w' = w := by
  obtain ⟨V, hV⟩ : ∃ V, V = madeL isVl s.data.toList := ⟨_, rfl⟩
  rw [← hV]
  have HV := hid hV
  clear hV
  go_enter Tryz.func106, Tryz.ntmps106
  go_wp2_with fail
  go_loop [8] (fun i => ∃ (k : Nat), k ≤ s.size ∧ i = .int .i64 (k : Int) ∧ (s.data.toList.take k).all isVl = true) (fun i => s.size - (intOf i).toNat)
  case atStart => exact ⟨0, Nat.zero_le _, rfl, by simp⟩
  case round =>
    obtain ⟨k, hk, rfl, hall⟩ := hrel
    have HA := hid hall
    clear hall
    by_cases hlt : k < s.size
    · have hlt' : (k : Int) < (s.size : Int) := by omega
      have i1 := index_byte s .i64 (k : Int) k rfl hlt
      have hll : k < s.data.toList.length := by rw [len_str]; exact hlt
      have hge : s.data.toList[k] = s[k] := rfl
      have HB : Hid (isVl s[k] = false → V = false) := by
        unfold Hid
        intro hb
        rw [HV.out, madeL, all_take_false hll (by rw [hge]; exact hb)]
        rfl
      have HG : Hid (isVl s[k] = true → (s.data.toList.take (k + 1)).all isVl = true) := by
        unfold Hid
        intro hb
        rw [all_take_succ _ _ _ hll, HA.out, hge, hb]
        rfl
      have hC := isOfValue_any s[k] w
      obtain ⟨b, hb⟩ : ∃ b, b = s[k] := ⟨_, rfl⟩
      rw [← hb] at i1 HB HG hC
      clear hb hll hge
      cases hp : isVl b with
      | true =>
        rw [hp] at hC
        have HE := hid (HG.out hp)
        clear HB HG
        go_wp2_with fail
        refine hC.mono ?_
        clear hC
        rintro e w1 ⟨rfl, hw1⟩
        subst hw1
        go_wp2
        go_round
        case rel => exact ⟨k + 1, by omega, by go_num, HE.out⟩
        case measure => simp [intOf]; omega
      | false =>
        rw [hp] at hC
        have HE := hid (HB.out hp)
        clear HB HG
        go_wp2_with fail
        refine hC.mono ?_
        clear hC
        rintro e w1 ⟨rfl, hw1⟩
        subst hw1
        go_wp2
        go_ret
        exact ⟨by rw [HE.out]; rfl, rfl⟩
    · have hlt' : ¬ (k : Int) < (s.size : Int) := by omega
      have HE : Hid (V = !s.toList.isEmpty) := by
        unfold Hid
        have := HA.out
        rw [List.take_of_length_le (by rw [len_str]; omega)] at this
        rw [HV.out, madeL, this, ByteArray.toList_eq]
        simp
      clear HA
      go_wp2
      go_ret
      exact ⟨by rw [HE.out]; rfl, rfl⟩
theorem madeL_Vl (l : List UInt8) (w : World) (hs : l.length ≤ 140737488355328) :
    Calls Tryz.prog 106 #[.string ⟨l.toArray⟩, .func (.func 119) #[] #[]] w fun e w' => e = .returned (.bool (madeL isVl l)) ∧ w' = w := made_Vl ⟨l.toArray⟩ w (by rw [size_list]; exact hs)

set_option maxRecDepth 20000 in
set_option maxHeartbeats 1000000 in
theorem made_Dg (s : ByteArray) (w : World) (hs : s.size ≤ 140737488355328) :
    Calls Tryz.prog 106 #[.string s, .func (.func 107) #[] #[]] w fun e w' => e = .returned (.bool (madeL isDg s.data.toList)) ∧ w' = w := by
  obtain ⟨V, hV⟩ : ∃ V, V = madeL isDg s.data.toList := ⟨_, rfl⟩
  rw [← hV]
  have HV := hid hV
  clear hV
  go_enter Tryz.func106, Tryz.ntmps106
  go_wp2_with fail
  go_loop [8] (fun i => ∃ (k : Nat), k ≤ s.size ∧ i = .int .i64 (k : Int) ∧ (s.data.toList.take k).all isDg = true) (fun i => s.size - (intOf i).toNat)
  case atStart => exact ⟨0, Nat.zero_le _, rfl, by simp⟩
  case round =>
    obtain ⟨k, hk, rfl, hall⟩ := hrel
    have HA := hid hall
    clear hall
    by_cases hlt : k < s.size
    · have hlt' : (k : Int) < (s.size : Int) := by omega
      have i1 := index_byte s .i64 (k : Int) k rfl hlt
      have hll : k < s.data.toList.length := by rw [len_str]; exact hlt
      have hge : s.data.toList[k] = s[k] := rfl
      have HB : Hid (isDg s[k] = false → V = false) := by
        unfold Hid
        intro hb
        rw [HV.out, madeL, all_take_false hll (by rw [hge]; exact hb)]
        rfl
      have HG : Hid (isDg s[k] = true → (s.data.toList.take (k + 1)).all isDg = true) := by
        unfold Hid
        intro hb
        rw [all_take_succ _ _ _ hll, HA.out, hge, hb]
        rfl
      have hC := isDigit_any s[k] w
      obtain ⟨b, hb⟩ : ∃ b, b = s[k] := ⟨_, rfl⟩
      rw [← hb] at i1 HB HG hC
      clear hb hll hge
      cases hp : isDg b with
      | true =>
        rw [hp] at hC
        have HE := hid (HG.out hp)
        clear HB HG
        go_wp2_with fail
        refine hC.mono ?_
        clear hC
        rintro e w1 ⟨rfl, hw1⟩
        subst hw1
        go_wp2
        go_round
        case rel => exact ⟨k + 1, by omega, by go_num, HE.out⟩
        case measure => simp [intOf]; omega
      | false =>
        rw [hp] at hC
        have HE := hid (HB.out hp)
        clear HB HG
        go_wp2_with fail
        refine hC.mono ?_
        clear hC
        rintro e w1 ⟨rfl, hw1⟩
        subst hw1
        go_wp2
        go_ret
        exact ⟨by rw [HE.out]; rfl, rfl⟩
    · have hlt' : ¬ (k : Int) < (s.size : Int) := by omega
      have HE : Hid (V = !s.toList.isEmpty) := by
        unfold Hid
        have := HA.out
        rw [List.take_of_length_le (by rw [len_str]; omega)] at this
        rw [HV.out, madeL, this, ByteArray.toList_eq]
        simp
      clear HA
      go_wp2
      go_ret
      exact ⟨by rw [HE.out]; rfl, rfl⟩
theorem madeL_Dg (l : List UInt8) (w : World) (hs : l.length ≤ 140737488355328) :
    Calls Tryz.prog 106 #[.string ⟨l.toArray⟩, .func (.func 107) #[] #[]] w fun e w' => e = .returned (.bool (madeL isDg l)) ∧ w' = w := made_Dg ⟨l.toArray⟩ w (by rw [size_list]; exact hs)

end Go.Proofs.YtllhibdjopfcnaaGreatDoor
