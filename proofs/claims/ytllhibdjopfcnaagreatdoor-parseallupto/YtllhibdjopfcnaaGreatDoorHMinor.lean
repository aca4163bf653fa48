/-
  strings.Cut at CR LF; the version of a request line: the code's.
-/
import Derived.Test.YtllhibdjopfcnaaGreatDoorHAnyB
namespace Go.Proofs.YtllhibdjopfcnaaGreatDoor
open Go.RowKit
set_option linter.unusedVariables false

theorem index_cutE : ∀ l : List UInt8, (Lib.index l [13, 10] = -1 ∧ cutE l = (l, [], false)) ∨ ∃ k : Nat, Lib.index l [13, 10] = k ∧ cutE l = (l.take k, l.drop (k + 2), true)
  | [] => Or.inl ⟨rfl, rfl⟩
  | a :: r => by
    unfold Lib.index cutE
    by_cases h : a = 13 ∧ r.head? = some 10
    · refine Or.inr ⟨0, ?_, ?_⟩
      · rw [if_pos]
        · rfl
        · obtain ⟨rfl, h2⟩ := h
          cases r with
          | nil => simp at h2
          | cons b r => simp at h2; subst h2; simp [List.isPrefixOf]
      · rw [if_pos h]
        obtain ⟨_, h2⟩ := h
        cases r with
        | nil => simp at h2
        | cons b r => rfl
    · have hp : ¬ List.isPrefixOf [13, 10] (a :: r) = true := by
        intro e
        apply h
        cases r with
        | nil => simp [List.isPrefixOf] at e
        | cons b r =>
          simp [List.isPrefixOf] at e
          exact ⟨e.1.symm, by simp [e.2]⟩
      rw [if_neg hp, if_neg h]
      rcases index_cutE r with ⟨h1, h2⟩ | ⟨k, h1, h2⟩
      · rw [h1, h2]; exact Or.inl ⟨rfl, rfl⟩
      · rw [h1, h2, if_neg (by simp)]
        exact Or.inr ⟨k + 1, by omega, rfl⟩
theorem cutE_lib (l : List UInt8) : Lib.cut l [13, 10] = cutE l := by
  unfold Lib.cut
  rcases index_cutE l with ⟨h1, h2⟩ | ⟨k, h1, h2⟩
  · rw [h1, h2]; rfl
  · rw [h1, h2, if_pos (by omega)]
    simp
theorem cutE_any (l : List UInt8) (w : World) (hm : ML w) (hs : l.length ≤ 4096) :
    Calls Tryz.prog 55 #[.string ⟨l.toArray⟩, .string ⟨#[13, 10]⟩] w fun e w' => e = .returned (.tuple #[.string ⟨(cutE l).1.toArray⟩, .string ⟨(cutE l).2.1.toArray⟩, .bool (cutE l).2.2]) ∧ ∃ n, w' = w.drewN n := by
  obtain ⟨m, hm⟩ := hm
  have h := Tryz.strings_Cut ⟨l.toArray⟩ ⟨#[13, 10]⟩ m w (by rw [size_list]; omega) hm
  rw [show (⟨l.toArray⟩ : ByteArray).data.toList = l from by simp, show (⟨#[13, 10]⟩ : ByteArray).data.toList = [13, 10] from rfl, cutE_lib] at h
  exact h

theorem ver_prefix (l : List UInt8) : Lib.hasPrefix l [72, 84, 84, 80, 47] = decide (l.take 5 = [72, 84, 84, 80, 47]) := by
  by_cases h : l.take 5 = [72, 84, 84, 80, 47]
  · rw [decide_eq_true h]
    have : l = [72, 84, 84, 80, 47] ++ l.drop 5 := by rw [← h, List.take_append_drop]
    rw [this]
    simp [Lib.hasPrefix, List.isPrefixOf]
  · rw [decide_eq_false h]
    cases hb : Lib.hasPrefix l [72, 84, 84, 80, 47] with
    | false => rfl
    | true =>
      exfalso
      apply h
      unfold Lib.hasPrefix at hb
      obtain ⟨t, ht⟩ := List.isPrefixOf_iff_prefix.1 hb
      rw [← ht]
      rfl
theorem ver_split {l : List UInt8} (hp : l.take 5 = [72, 84, 84, 80, 47]) (h8 : l.length = 8) : ∃ a b c, l = [72, 84, 84, 80, 47, a, b, c] := by
  have e : l = [72, 84, 84, 80, 47] ++ l.drop 5 := by rw [← hp, List.take_append_drop]
  have hd : (l.drop 5).length = 3 := by rw [List.length_drop]; omega
  match hl : l.drop 5 with
  | [a, b, c] => exact ⟨a, b, c, by rw [e, hl]; rfl⟩
  | [] => rw [hl] at hd; simp at hd
  | [_] => rw [hl] at hd; simp at hd
  | [_, _] => rw [hl] at hd; simp at hd
  | _ :: _ :: _ :: _ :: _ => rw [hl] at hd; simp at hd
theorem verL_bad {l : List UInt8} (h1 : l ≠ v10) (h2 : l ≠ v11) (h : ¬ (l.length = 8 ∧ l.take 5 = [72, 84, 84, 80, 47] ∧ isDg (l.getD 5 0) = true ∧ l.getD 6 0 = 46 ∧ isDg (l.getD 7 0) = true)) : verL l = (0, 400) := by
  unfold verL
  rw [if_neg h1, if_neg h2, if_neg h]
theorem verL_other {l : List UInt8} (h1 : l ≠ v10) (h2 : l ≠ v11) (h : l.length = 8 ∧ l.take 5 = [72, 84, 84, 80, 47] ∧ isDg (l.getD 5 0) = true ∧ l.getD 6 0 = 46 ∧ isDg (l.getD 7 0) = true) : verL l = (0, 505) := by
  unfold verL
  rw [if_neg h1, if_neg h2, if_pos h]

set_option maxRecDepth 20000 in
set_option maxHeartbeats 2000000 in
theorem minorOf_any (l : List UInt8) (w : World) (hs : l.length ≤ 140737488355328) :
    Calls Tryz.prog 117 #[.string ⟨l.toArray⟩] w fun e w' => e = .returned (.tuple #[.int .i64 (verL l).1, .int .i64 (verL l).2]) ∧ w' = w := by
  by_cases h10 : l = v10
  · subst h10
    go_enter Tryz.func117, Tryz.ntmps117
    go_wp2
    go_ret2
    exact ⟨rfl, rfl⟩
  by_cases h11 : l = v11
  · subst h11
    go_enter Tryz.func117, Tryz.ntmps117
    go_wp2
    go_ret2
    exact ⟨rfl, rfl⟩
  have e10 : (l == [72, 84, 84, 80, 47, 49, 46, 48]) = false := by rw [beq_eq_false_iff_ne]; exact h10
  have e11 : (l == [72, 84, 84, 80, 47, 49, 46, 49]) = false := by rw [beq_eq_false_iff_ne]; exact h11
  have hC := Tryz.strings_CutPrefix ⟨l.toArray⟩ ⟨#[72, 84, 84, 80, 47]⟩ w
  rw [show (⟨l.toArray⟩ : ByteArray).data.toList = l from by simp, show (⟨#[72, 84, 84, 80, 47]⟩ : ByteArray).data.toList = [72, 84, 84, 80, 47] from rfl] at hC
  by_cases hp : l.take 5 = [72, 84, 84, 80, 47]
  · have hpb : Lib.hasPrefix l [72, 84, 84, 80, 47] = true := by rw [ver_prefix, decide_eq_true hp]
    rw [Lib.trimPrefix, if_pos hpb, hpb, show ([72, 84, 84, 80, 47] : List UInt8).length = 5 from rfl] at hC
    by_cases h8 : l.length = 8
    · obtain ⟨a, b, c, rfl⟩ := ver_split hp h8
      simp only [List.drop_succ_cons, List.drop_zero] at hC
      obtain ⟨N, hN⟩ : ∃ N : ByteArray, N = ⟨[a, b, c].toArray⟩ := ⟨_, rfl⟩
      have hNs : N.size = 3 := by rw [hN]; rfl
      have i0 := index_byte N .i64 0 0 rfl (by omega)
      have i1 := index_byte N .i64 1 1 rfl (by omega)
      have i2 := index_byte N .i64 2 2 rfl (by omega)
      have g0 : ∀ h : 0 < N.size, N[0]'h = a := by subst hN; intro h; rfl
      have g1 : ∀ h : 1 < N.size, N[1]'h = b := by subst hN; intro h; rfl
      have g2 : ∀ h : 2 < N.size, N[2]'h = c := by subst hN; intro h; rfl
      rw [g0] at i0
      rw [g1] at i1
      rw [g2] at i2
      rw [← hN] at hC
      have hN3 : ((N.size : Int) == 3) = true := by rw [hNs]; rfl
      have hDa := isDigit_any a w
      have hDc := isDigit_any c w
      have HB := hid (fun h => verL_bad h10 h11 h)
      have HO := hid (fun h => verL_other h10 h11 h)
      obtain ⟨V, hV⟩ : ∃ V, V = verL [72, 84, 84, 80, 47, a, b, c] := ⟨_, rfl⟩
      rw [← hV] at HB HO ⊢
      clear hN g0 g1 g2 hp hpb h8 h10 h11 hNs hV
      cases ha : isDg a with
      | false =>
        rw [ha] at hDa
        have HE := hid (HB.out (by simp [ha]))
        clear HB HO
        go_enter Tryz.func117, Tryz.ntmps117
        go_wp2_with fail
        refine hC.mono ?_
        rintro e w1 ⟨rfl, hw⟩
        subst hw
        go_wp2_with fail
        refine hDa.mono ?_
        rintro e w1 ⟨rfl, hw⟩
        subst hw
        go_wp2
        go_ret2
        rw [HE.out]
        exact ⟨rfl, rfl⟩
      | true =>
        rw [ha] at hDa
        by_cases hb : b = 46
        · subst hb
          have hb' : ((((46 : UInt8).toNat : Nat) : Int) == 46) = true := by decide
          cases hc : isDg c with
          | false =>
            rw [hc] at hDc
            have HE := hid (HB.out (by simp [hc]))
            clear HB HO
            go_enter Tryz.func117, Tryz.ntmps117
            go_wp2_with fail
            refine hC.mono ?_
            rintro e w1 ⟨rfl, hw⟩
            subst hw
            go_wp2_with fail
            refine hDa.mono ?_
            rintro e w1 ⟨rfl, hw⟩
            subst hw
            go_wp2_with fail
            refine hDc.mono ?_
            rintro e w1 ⟨rfl, hw⟩
            subst hw
            go_wp2
            go_ret2
            rw [HE.out]
            exact ⟨rfl, rfl⟩
          | true =>
            rw [hc] at hDc
            have HE := hid (HO.out (by simp [ha, hc]))
            clear HB HO
            go_enter Tryz.func117, Tryz.ntmps117
            go_wp2_with fail
            refine hC.mono ?_
            rintro e w1 ⟨rfl, hw⟩
            subst hw
            go_wp2_with fail
            refine hDa.mono ?_
            rintro e w1 ⟨rfl, hw⟩
            subst hw
            go_wp2_with fail
            refine hDc.mono ?_
            rintro e w1 ⟨rfl, hw⟩
            subst hw
            go_wp2
            go_ret2
            rw [HE.out]
            exact ⟨rfl, rfl⟩
        · have hb' : (((b.toNat : Nat) : Int) == 46) = false := by
            rw [beq_eq_false_iff_ne]
            intro e
            exact hb (byte_eq (b := b) (n := 46) (by omega))
          have HE := hid (HB.out (by simp [hb]))
          clear HB HO
          go_enter Tryz.func117, Tryz.ntmps117
          go_wp2_with fail
          refine hC.mono ?_
          rintro e w1 ⟨rfl, hw⟩
          subst hw
          go_wp2_with fail
          refine hDa.mono ?_
          rintro e w1 ⟨rfl, hw⟩
          subst hw
          go_wp2
          go_ret2
          rw [HE.out]
          exact ⟨rfl, rfl⟩
    · have hE := verL_bad h10 h11 (fun h => h8 h.1)
      rw [hE]
      obtain ⟨N, hN⟩ : ∃ N : ByteArray, N = ⟨(l.drop 5).toArray⟩ := ⟨_, rfl⟩
      have hNs : N.size = l.length - 5 := by rw [hN, size_list, List.length_drop]
      have h5 : 5 ≤ l.length := by
        have := congrArg List.length hp
        rw [List.length_take] at this
        simp at this
        omega
      have hN3 : ((N.size : Int) == 3) = false := by rw [beq_eq_false_iff_ne]; omega
      rw [← hN] at hC
      clear hN hNs hE hp hpb h10 h11
      go_enter Tryz.func117, Tryz.ntmps117
      go_wp2_with fail
      refine hC.mono ?_
      rintro e w1 ⟨rfl, hw⟩
      subst hw
      go_wp2
      go_ret2
      exact ⟨rfl, rfl⟩
  · have hpb : Lib.hasPrefix l [72, 84, 84, 80, 47] = false := by rw [ver_prefix, decide_eq_false hp]
    have hE := verL_bad h10 h11 (fun h => hp h.2.1)
    rw [hE]
    rw [Lib.trimPrefix, hpb] at hC
    clear hE hp hpb h10 h11
    go_enter Tryz.func117, Tryz.ntmps117
    go_wp2_with fail
    refine hC.mono ?_
    rintro e w1 ⟨rfl, hw⟩
    subst hw
    go_wp2
    go_ret2
    exact ⟨rfl, rfl⟩
end Go.Proofs.YtllhibdjopfcnaaGreatDoor
