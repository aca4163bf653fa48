/-
  Whether a text is made of bytes of a kind: the code's.
-/
import Derived.Test.YtllhibdjopfcnaaGreatDoorHLeaf
namespace Go.Proofs.YtllhibdjopfcnaaGreatDoor
open Go.RowKit
set_option linter.unusedVariables false

theorem all_take_succ (p : UInt8 → Bool) (l : List UInt8) (k : Nat) (h : k < l.length) : (l.take (k + 1)).all p = ((l.take k).all p && p l[k]) := by
  rw [List.take_succ_eq_append_getElem h, List.all_append]
  simp
theorem all_take_false {p : UInt8 → Bool} {l : List UInt8} {k : Nat} (h : k < l.length) (hp : p l[k] = false) : l.all p = false := by
  rw [List.all_eq_false]
  exact ⟨l[k], List.getElem_mem h, by rw [hp]; simp⟩

set_option maxRecDepth 20000 in
set_option maxHeartbeats 1000000 in
theorem made_Lg (s : ByteArray) (w : World) (hs : s.size ≤ 140737488355328) :
    Calls Tryz.prog 106 #[.string s, .func (.func 93) #[] #[]] w fun e w' => e = .returned (.bool (madeL isLg s.data.toList)) ∧ w' = w := by
  obtain ⟨V, hV⟩ : ∃ V, V = madeL isLg s.data.toList := ⟨_, rfl⟩
  rw [← hV]
  have HV := hid hV
  clear hV
  go_enter Tryz.func106, Tryz.ntmps106
  go_wp2_with fail
  go_loop [8] (fun i => ∃ (k : Nat), k ≤ s.size ∧ i = .int .i64 (k : Int) ∧ (s.data.toList.take k).all isLg = true) (fun i => s.size - (intOf i).toNat)
  case atStart => exact ⟨0, Nat.zero_le _, rfl, by simp⟩
  case round =>
    obtain ⟨k, hk, rfl, hall⟩ := hrel
    have HA := hid hall
    clear hall
    by_cases hlt : k < s.size
    · have hlt' : (k : Int) < (s.size : Int) := by omega
      have i1 := index_byte s .i64 (k : Int) k rfl hlt
      have hll : k < s.data.toList.length := by rw [len_str]; exact hlt
      have hge : s.data.toList[k] = s[k] := rfl
      have HB : Hid (isLg s[k] = false → V = false) := by
        unfold Hid
        intro hb
        rw [HV.out, madeL, all_take_false hll (by rw [hge]; exact hb)]
        rfl
      have HG : Hid (isLg s[k] = true → (s.data.toList.take (k + 1)).all isLg = true) := by
        unfold Hid
        intro hb
        rw [all_take_succ _ _ _ hll, HA.out, hge, hb]
        rfl
      have hC := isLarge_any s[k] w
      obtain ⟨b, hb⟩ : ∃ b, b = s[k] := ⟨_, rfl⟩
      rw [← hb] at i1 HB HG hC
      clear hb hll hge
      cases hp : isLg b with
      | true =>
        rw [hp] at hC
        have HE := hid (HG.out hp)
        clear HB HG
        go_wp2_with fail
        refine hC.mono ?_
        clear hC
        rintro e w1 ⟨rfl, hw1⟩
        subst hw1
        go_wp2
        go_round
        case rel => exact ⟨k + 1, by omega, by go_num, HE.out⟩
        case measure => simp [intOf]; omega
      | false =>
        rw [hp] at hC
        have HE := hid (HB.out hp)
        clear HB HG
        go_wp2_with fail
        refine hC.mono ?_
        clear hC
        rintro e w1 ⟨rfl, hw1⟩
        subst hw1
        go_wp2
        go_ret
        exact ⟨by rw [HE.out]; rfl, rfl⟩
    · have hlt' : ¬ (k : Int) < (s.size : Int) := by omega
      have HE : Hid (V = !s.toList.isEmpty) := by
        unfold Hid
        have := HA.out
        rw [List.take_of_length_le (by rw [len_str]; omega)] at this
        rw [HV.out, madeL, this, ByteArray.toList_eq]
        simp
      clear HA
      go_wp2
      go_ret
      exact ⟨by rw [HE.out]; rfl, rfl⟩
theorem madeL_Lg (l : List UInt8) (w : World) (hs : l.length ≤ 140737488355328) :
    Calls Tryz.prog 106 #[.string ⟨l.toArray⟩, .func (.func 93) #[] #[]] w fun e w' => e = .returned (.bool (madeL isLg l)) ∧ w' = w := made_Lg ⟨l.toArray⟩ w (by rw [size_list]; exact hs)

set_option maxRecDepth 20000 in
set_option maxHeartbeats 1000000 in
theorem made_Vs (s : ByteArray) (w : World) (hs : s.size ≤ 140737488355328) :
    Calls Tryz.prog 106 #[.string s, .func (.func 116) #[] #[]] w fun e w' => e = .returned (.bool (madeL isVs s.data.toList)) ∧ w' = w := by
  obtain ⟨V, hV⟩ : ∃ V, V = madeL isVs s.data.toList := ⟨_, rfl⟩
  rw [← hV]
  have HV := hid hV
  clear hV
  go_enter Tryz.func106, Tryz.ntmps106
  go_wp2_with fail
  go_loop [8] (fun i => ∃ (k : Nat), k ≤ s.size ∧ i = .int .i64 (k : Int) ∧ (s.data.toList.take k).all isVs = true) (fun i => s.size - (intOf i).toNat)
  case atStart => exact ⟨0, Nat.zero_le _, rfl, by simp⟩
  case round =>
    obtain ⟨k, hk, rfl, hall⟩ := hrel
    have HA := hid hall
    clear hall
    by_cases hlt : k < s.size
    · have hlt' : (k : Int) < (s.size : Int) := by omega
      have i1 := index_byte s .i64 (k : Int) k rfl hlt
      have hll : k < s.data.toList.length := by rw [len_str]; exact hlt
      have hge : s.data.toList[k] = s[k] := rfl
      have HB : Hid (isVs s[k] = false → V = false) := by
        unfold Hid
        intro hb
        rw [HV.out, madeL, all_take_false hll (by rw [hge]; exact hb)]
        rfl
      have HG : Hid (isVs s[k] = true → (s.data.toList.take (k + 1)).all isVs = true) := by
        unfold Hid
        intro hb
        rw [all_take_succ _ _ _ hll, HA.out, hge, hb]
        rfl
      have hC := isVisible_any s[k] w
      obtain ⟨b, hb⟩ : ∃ b, b = s[k] := ⟨_, rfl⟩
      rw [← hb] at i1 HB HG hC
      clear hb hll hge
      cases hp : isVs b with
      | true =>
        rw [hp] at hC
        have HE := hid (HG.out hp)
        clear HB HG
        go_wp2_with fail
        refine hC.mono ?_
        clear hC
        rintro e w1 ⟨rfl, hw1⟩
        subst hw1
        go_wp2
        go_round
        case rel => exact ⟨k + 1, by omega, by go_num, HE.out⟩
        case measure => simp [intOf]; omega
      | false =>
        rw [hp] at hC
        have HE := hid (HB.out hp)
        clear HB HG
        go_wp2_with fail
        refine hC.mono ?_
        clear hC
        rintro e w1 ⟨rfl, hw1⟩
        subst hw1
        go_wp2
        go_ret
        exact ⟨by rw [HE.out]; rfl, rfl⟩
    · have hlt' : ¬ (k : Int) < (s.size : Int) := by omega
      have HE : Hid (V = !s.toList.isEmpty) := by
        unfold Hid
        have := HA.out
        rw [List.take_of_length_le (by rw [len_str]; omega)] at this
        rw [HV.out, madeL, this, ByteArray.toList_eq]
        simp
      clear HA
      go_wp2
      go_ret
      exact ⟨by rw [HE.out]; rfl, rfl⟩
theorem madeL_Vs (l : List UInt8) (w : World) (hs : l.length ≤ 140737488355328) :
    Calls Tryz.prog 106 #[.string ⟨l.toArray⟩, .func (.func 116) #[] #[]] w fun e w' => e = .returned (.bool (madeL isVs l)) ∧ w' = w := made_Vs ⟨l.toArray⟩ w (by rw [size_list]; exact hs)

set_option maxRecDepth 20000 in
set_option maxHeartbeats 1000000 in
theorem made_Nm (s : ByteArray) (w : World) (hs : s.size ≤ 140737488355328) :
    Calls Tryz.prog 106 #[.string s, .func (.func 118) #[] #[]] w fun e w' => e = .returned (.bool (madeL isNm s.data.toList)) ∧ w' = w := by
  obtain ⟨V, hV⟩ : ∃ V, V = madeL isNm s.data.toList := ⟨_, rfl⟩
  rw [← hV]
  have HV := hid hV
  clear hV
  go_enter Tryz.func106, Tryz.ntmps106
  go_wp2_with fail
  go_loop [8] (fun i => ∃ (k : Nat), k ≤ s.size ∧ i = .int .i64 (k : Int) ∧ (s.data.toList.take k).all isNm = true) (fun i => s.size - (intOf i).toNat)
  case atStart => exact ⟨0, Nat.zero_le _, rfl, by simp⟩
  case round =>
    obtain ⟨k, hk, rfl, hall⟩ := hrel
    have HA := hid hall
    clear hall
    by_cases hlt : k < s.size
    · have hlt' : (k : Int) < (s.size : Int) := by omega
      have i1 := index_byte s .i64 (k : Int) k rfl hlt
      have hll : k < s.data.toList.length := by rw [len_str]; exact hlt
      have hge : s.data.toList[k] = s[k] := rfl
      have HB : Hid (isNm s[k] = false → V = false) := by
        unfold Hid
        intro hb
        rw [HV.out, madeL, all_take_false hll (by rw [hge]; exact hb)]
        rfl
      have HG : Hid (isNm s[k] = true → (s.data.toList.take (k + 1)).all isNm = true) := by
        unfold Hid
        intro hb
        rw [all_take_succ _ _ _ hll, HA.out, hge, hb]
        rfl
      have hC := isOfName_any s[k] w
      obtain ⟨b, hb⟩ : ∃ b, b = s[k] := ⟨_, rfl⟩
      rw [← hb] at i1 HB HG hC
      clear hb hll hge
      cases hp : isNm b with
      | true =>
        rw [hp] at hC
        have HE := hid (HG.out hp)
        clear HB HG
        go_wp2_with fail
        refine hC.mono ?_
        clear hC
        rintro e w1 ⟨rfl, hw1⟩
        subst hw1
        go_wp2
        go_round
        case rel => exact ⟨k + 1, by omega, by go_num, HE.out⟩
        case measure => simp [intOf]; omega
      | false =>
        rw [hp] at hC
        have HE := hid (HB.out hp)
        clear HB HG
        go_wp2_with fail
        refine hC.mono ?_
        clear hC
        rintro e w1 ⟨rfl, hw1⟩
        subst hw1
        go_wp2
        go_ret
        exact ⟨by rw [HE.out]; rfl, rfl⟩
    · have hlt' : ¬ (k : Int) < (s.size : Int) := by omega
      have HE : Hid (V = !s.toList.isEmpty) := by
        unfold Hid
        have := HA.out
        rw [List.take_of_length_le (by rw [len_str]; omega)] at this
        rw [HV.out, madeL, this, ByteArray.toList_eq]
        simp
      clear HA
      go_wp2
      go_ret
      exact ⟨by rw [HE.out]; rfl, rfl⟩
theorem madeL_Nm (l : List UInt8) (w : World) (hs : l.length ≤ 140737488355328) :
    Calls Tryz.prog 106 #[.string ⟨l.toArray⟩, .func (.func 118) #[] #[]] w fun e w' => e = .returned (.bool (madeL isNm l)) ∧ w' = w := made_Nm ⟨l.toArray⟩ w (by rw [size_list]; exact hs)

set_option maxRecDepth 20000 in
set_option maxHeartbeats 1000000 in
theorem made_Vl (s : ByteArray) (w : World) (hs : s.size ≤ 140737488355328) :
    Calls Tryz.prog 106 #[.string s, .func (.func 119) #[] #[]] w fun e w' => e = .returned (.bool (madeL isVl s.data.toList)) ∧ w' = w := by
  obtain ⟨V, hV⟩ : ∃ V, V = madeL isVl s.data.toList := ⟨_, rfl⟩
  rw [← hV]
  have HV := hid hV
  clear hV
  go_enter Tryz.func106, Tryz.ntmps106
  go_wp2_with fail
  go_loop [8] (fun i => ∃ (k : Nat), k ≤ s.size ∧ i = .int .i64 (k : Int) ∧ (s.data.toList.take k).all isVl = true) (fun i => s.size - (intOf i).toNat)
  case atStart => exact ⟨0, Nat.zero_le _, rfl, by simp⟩
  case round =>
    obtain ⟨k, hk, rfl, hall⟩ := hrel
    have HA := hid hall
    clear hall
    by_cases hlt : k < s.size
    · have hlt' : (k : Int) < (s.size : Int) := by omega
      have i1 := index_byte s .i64 (k : Int) k rfl hlt
      have hll : k < s.data.toList.length := by rw [len_str]; exact hlt
      have hge : s.data.toList[k] = s[k] := rfl
      have HB : Hid (isVl s[k] = false → V = false) := by
        unfold Hid
        intro hb
        rw [HV.out, madeL, all_take_false hll (by rw [hge]; exact hb)]
        rfl
      have HG : Hid (isVl s[k] = true → (s.data.toList.take (k + 1)).all isVl = true) := by
        unfold Hid
        intro hb
        rw [all_take_succ _ _ _ hll, HA.out, hge, hb]
        rfl
      have hC := isOfValue_any s[k] w
      obtain ⟨b, hb⟩ : ∃ b, b = s[k] := ⟨_, rfl⟩
      rw [← hb] at i1 HB HG hC
      clear hb hll hge
      cases hp : isVl b with
      | true =>
        rw [hp] at hC
        have HE := hid (HG.out hp)
        clear HB HG
        go_wp2_with fail
        refine hC.mono ?_
        clear hC
        rintro e w1 ⟨rfl, hw1⟩
        subst hw1
        go_wp2
        go_round
        case rel => exact ⟨k + 1, by omega, by go_num, HE.out⟩
        case measure => simp [intOf]; omega
      | false =>
        rw [hp] at hC
        have HE := hid (HB.out hp)
        clear HB HG
        go_wp2_with fail
        refine hC.mono ?_
        clear hC
        rintro e w1 ⟨rfl, hw1⟩
        subst hw1
        go_wp2
        go_ret
        exact ⟨by rw [HE.out]; rfl, rfl⟩
    · have hlt' : ¬ (k : Int) < (s.size : Int) := by omega
      have HE : Hid (V = !s.toList.isEmpty) := by
        unfold Hid
        have := HA.out
        rw [List.take_of_length_le (by rw [len_str]; omega)] at this
        rw [HV.out, madeL, this, ByteArray.toList_eq]
        simp
      clear HA
      go_wp2
      go_ret
      exact ⟨by rw [HE.out]; rfl, rfl⟩
theorem madeL_Vl (l : List UInt8) (w : World) (hs : l.length ≤ 140737488355328) :
    Calls Tryz.prog 106 #[.string ⟨l.toArray⟩, .func (.func 119) #[] #[]] w fun e w' => e = .returned (.bool (madeL isVl l)) ∧ w' = w := made_Vl ⟨l.toArray⟩ w (by rw [size_list]; exact hs)

set_option maxRecDepth 20000 in
set_option maxHeartbeats 1000000 in
theorem made_Dg (s : ByteArray) (w : World) (hs : s.size ≤ 140737488355328) :
    Calls Tryz.prog 106 #[.string s, .func (.func 107) #[] #[]] w fun e w' => e = .returned (.bool (madeL isDg s.data.toList)) ∧ w' = w := by
  obtain ⟨V, hV⟩ : ∃ V, V = madeL isDg s.data.toList := ⟨_, rfl⟩
  rw [← hV]
  have HV := hid hV
  clear hV
  go_enter Tryz.func106, Tryz.ntmps106
  go_wp2_with fail
  go_loop [8] (fun i => ∃ (k : Nat), k ≤ s.size ∧ i = .int .i64 (k : Int) ∧ (s.data.toList.take k).all isDg = true) (fun i => s.size - (intOf i).toNat)
  case atStart => exact ⟨0, Nat.zero_le _, rfl, by simp⟩
  case round =>
    obtain ⟨k, hk, rfl, hall⟩ := hrel
    have HA := hid hall
    clear hall
    by_cases hlt : k < s.size
    · have hlt' : (k : Int) < (s.size : Int) := by omega
      have i1 := index_byte s .i64 (k : Int) k rfl hlt
      have hll : k < s.data.toList.length := by rw [len_str]; exact hlt
      have hge : s.data.toList[k] = s[k] := rfl
      have HB : Hid (isDg s[k] = false → V = false) := by
        unfold Hid
        intro hb
        rw [HV.out, madeL, all_take_false hll (by rw [hge]; exact hb)]
        rfl
      have HG : Hid (isDg s[k] = true → (s.data.toList.take (k + 1)).all isDg = true) := by
        unfold Hid
        intro hb
        rw [all_take_succ _ _ _ hll, HA.out, hge, hb]
        rfl
      have hC := isDigit_any s[k] w
      obtain ⟨b, hb⟩ : ∃ b, b = s[k] := ⟨_, rfl⟩
      rw [← hb] at i1 HB HG hC
      clear hb hll hge
      cases hp : isDg b with
      | true =>
        rw [hp] at hC
        have HE := hid (HG.out hp)
        clear HB HG
        go_wp2_with fail
        refine hC.mono ?_
        clear hC
        rintro e w1 ⟨rfl, hw1⟩
        subst hw1
        go_wp2
        go_round
        case rel => exact ⟨k + 1, by omega, by go_num, HE.out⟩
        case measure => simp [intOf]; omega
      | false =>
        rw [hp] at hC
        have HE := hid (HB.out hp)
        clear HB HG
        go_wp2_with fail
        refine hC.mono ?_
        clear hC
        rintro e w1 ⟨rfl, hw1⟩
        subst hw1
        go_wp2
        go_ret
        exact ⟨by rw [HE.out]; rfl, rfl⟩
    · have hlt' : ¬ (k : Int) < (s.size : Int) := by omega
      have HE : Hid (V = !s.toList.isEmpty) := by
        unfold Hid
        have := HA.out
        rw [List.take_of_length_le (by rw [len_str]; omega)] at this
        rw [HV.out, madeL, this, ByteArray.toList_eq]
        simp
      clear HA
      go_wp2
      go_ret
      exact ⟨by rw [HE.out]; rfl, rfl⟩
theorem madeL_Dg (l : List UInt8) (w : World) (hs : l.length ≤ 140737488355328) :
    Calls Tryz.prog 106 #[.string ⟨l.toArray⟩, .func (.func 107) #[] #[]] w fun e w' => e = .returned (.bool (madeL isDg l)) ∧ w' = w := made_Dg ⟨l.toArray⟩ w (by rw [size_list]; exact hs)

end Go.Proofs.YtllhibdjopfcnaaGreatDoor
