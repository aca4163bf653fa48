/-
  Encode: the code's and the document's, whole.
-/
import Derived.Test.YtomjclkijakcpaaDoorEnc
namespace Go.Proofs.YtomjclkijakcpaaDoor
open Go.RowKit
set_option linter.unusedVariables false

set_option maxHeartbeats 400000 in
theorem encode_any (s : ByteArray) (w : World) (hlen : 3 * s.size ≤ 140737488355328) :
    Calls Tryd.prog 22 #[.string s] w fun e w' => e = .returned (.string ⟨(enc s.data.toList).toArray⟩) ∧ Below w.heap.size w w' := by
  have hA := appendEncoded_any s (.slice none 0 0) [] w w.heap.size (OwnsB.nil _ _) (Nat.le_refl _) (by simpa using hlen)
  go_enter Tryd.func22, Tryd.ntmps22
  go_wp2_with fail
  refine hA.mono ?_
  clear hA
  rintro e w1 ⟨v1, rfl, hO, hB⟩
  rw [List.nil_append] at hO
  have hc := hO.conv
  obtain ⟨ao, cap, rfl⟩ := hO.shape
  have HB := hid hB
  obtain ⟨M, hM⟩ : ∃ M, M = (enc s.data.toList).length := ⟨_, rfl⟩
  rw [← hM] at hc ⊢
  clear hO hB hM
  go_wp2
  go_ret
  exact ⟨rfl, HB.out⟩

set_option maxRecDepth 20000 in
set_option maxHeartbeats 1000000 in
theorem rencode_any (s : ByteArray) (w : World) (hlen : 3 * s.size ≤ 140737488355328) :
    Calls Tryd.prog 19 #[.string s] w fun e w' => e = .returned (.string ⟨(enc s.data.toList).toArray⟩) ∧ Below w.heap.size w w' := by
  obtain ⟨B, hBe⟩ : ∃ B, B = w.heap.size := ⟨_, rfl⟩
  have hB : B ≤ w.heap.size := by omega
  rw [← hBe]
  clear hBe
  go_enter Tryd.func19, Tryd.ntmps19
  go_wp2_with fail
  go_loopw [4, 5] (fun u i wr => ∃ (k : Nat) (ys : List UInt8), k ≤ s.size ∧ i = .int .i64 (k : Int) ∧ ys = enc (s.data.toList.take k) ∧ OwnsB wr B u ys ∧ Below B w wr) (fun _ i _ => s.size - (intOf i).toNat)
  case atStart => exact ⟨0, [], Nat.zero_le _, rfl, by simp [enc], OwnsB.nil _ _, Below.refl _ _⟩
  case round =>
    obtain ⟨k, ys, hk, rfl, hys, hO, hBl⟩ := hrel
    have hsw : B ≤ wr.heap.size := Nat.le_trans hB hBl.size
    by_cases hlt : k < s.size
    · have hlt' : (k : Int) < (s.size : Int) := by omega
      have hyl : ys.length + 3 ≤ 140737488355328 := by
        have := enc_pre s k
        rw [hys]
        omega
      have hN : ∀ zs, zs = enc1 (s[k]'hlt) → ys ++ zs = enc (s.data.toList.take (k + 1)) := by
        intro zs hz
        rw [hz, enc_take s k hlt, hys]
      obtain ⟨b, hb⟩ : ∃ b, b = s[k]'hlt := ⟨_, rfl⟩
      have hP := rplain_any b wr
      have i1 := index_byte s .i64 (k : Int) k rfl hlt
      rw [← hb] at hN i1
      have HN := hid hN
      have HO := hid hO
      have HBl := hid hBl
      obtain ⟨ao, cap, rfl⟩ := hO.shape
      clear hys hO hBl hN
      cases hp : plainB b
      · rw [hp] at hP
        have e1 := enc1_sign hp
        have lb := b.toNat_lt
        have hq1 : ((b.toNat : Int).tdiv 16) = ((b.toNat / 16 : Nat) : Int) := by rw [Int.tdiv_eq_ediv_of_nonneg (by omega)]; omega
        have hq2 : ((b.toNat : Int).tmod 16) = ((b.toNat % 16 : Nat) : Int) := by rw [Int.tmod_eq_emod_of_nonneg (by omega)]; omega
        have i2 := index_dig .u8 (IntKind.u8.wrap ((b.toNat : Int).tdiv 16)) (b.toNat / 16) (by rw [hq1, IntKind.wrap_u8']; omega) (by omega)
        have i3 := index_dig .u8 ((b.toNat : Int).tmod 16) (b.toNat % 16) hq2 (by omega)
        have i2' := index_dig .u8 ((b.toNat : Int) / 16) (b.toNat / 16) (by omega) (by omega)
        have j1 := index_dig .u8 ((b.toNat : Int).tdiv 16) (b.toNat / 16) hq1 (by omega)
        have j2 := index_dig .u8 (IntKind.u8.wrap ((b.toNat : Int) / 16)) (b.toNat / 16) (by rw [IntKind.wrap_u8']; omega) (by omega)
        have j3 := index_dig .u8 ((b.toNat : Int).tdiv 16 % 256) (b.toNat / 16) (by rw [hq1]; omega) (by omega)
        have j4 := index_dig .u8 ((b.toNat : Int) / 16 % 256) (b.toNat / 16) (by omega) (by omega)
        have i3' := index_dig .u8 ((b.toNat : Int) % 16) (b.toNat % 16) (by omega) (by omega)
        have HE := hid (HN.out _ e1.symm)
        clear HN e1 hp hq1 hq2
        clear hb
        go_wp2_with fail
        refine hP.mono ?_
        clear hP
        rintro e w1 ⟨rfl, hw1⟩
        subst hw1
        go_wp2_with fail
        go_region_held3 (fun _ => True) (trivial)
          (first | (refine step_appN rowBytes (by rfl) _ _ (by rfl) B (.slice ao ys.length cap) (ys.map UInt8.toNat) (by rfl) ?ho _ [37, (hexU (b.toNat / 16)).toNat, (hexU (b.toNat % 16)).toNat] (by rfl) (by simp) (sees_b3 wr _ _ _ 37 _ _ rfl rfl rfl) (by simp; omega) (by simp; omega) ?_; (case ho => exact HO.out.below (below_ad wr _)); intro v4 w4 hO4 hG4))
        all_goals
          have HO4 : Hid (OwnsB w4 B v4 (enc (s.data.toList.take (k + 1)))) := by
            unfold Hid OwnsB
            rw [← HE.out]
            simpa using hO4
          have HB4 := hid (below_grownBy (HBl.out.trans ((below_ad wr _).mono hsw)) hG4 (OwnsB.block HO.out) (by simp; omega))
          clear hO4 hG4
          go_wp2
          go_roundw
          case rel => exact ⟨k + 1, _, by omega, by go_num, rfl, HO4.out, HB4.out⟩
          case measure => simp [intOf]; omega
      · rw [hp] at hP
        have e1 := enc1_plain hp
        have HE := hid (HN.out _ e1.symm)
        clear HN e1 hp
        clear hb
        go_wp2_with fail
        refine hP.mono ?_
        clear hP
        rintro e w1 ⟨rfl, hw1⟩
        subst hw1
        go_wp2_with (first
          | (at_builtin
             refine wpList_appN rowBytes rfl _ _ rfl B (.slice ao ys.length cap) (ys.map UInt8.toNat) rfl (HO.out.below (below_alloc wr _)) _ [b.toNat] rfl (sees_b1 _ _ _ rfl) (by simp; omega) (by simp; omega) ?_
             intro v4 w4 hO4 hG4
             have HO4 : Hid (OwnsB w4 B v4 (enc (s.data.toList.take (k + 1)))) := by
               unfold Hid OwnsB
               rw [← HE.out]
               simpa using hO4
             have HB4 := hid (below_grownBy (HBl.out.trans ((below_alloc wr _).mono hsw)) hG4 (OwnsB.block HO.out) (by simp; omega))
             clear hO4 hG4)
          | fail)
        go_roundw
        case rel => exact ⟨k + 1, _, by omega, by go_num, rfl, HO4.out, HB4.out⟩
        case measure => simp [intOf]; omega
    · have hks : k = s.size := by omega
      have hlt' : ¬ (k : Int) < (s.size : Int) := by omega
      rw [hks, List.take_of_length_le (by rw [len_str]; exact Nat.le_refl _)] at hys
      have hc := hO.conv
      rw [hys] at hc
      have HBl := hid hBl
      obtain ⟨ao, cap, rfl⟩ := hO.shape
      rw [hys] at hc ⊢
      obtain ⟨M, hM⟩ : ∃ M, M = (enc s.data.toList).length := ⟨_, rfl⟩
      rw [← hM] at hc ⊢
      clear hys hO hBl hks hM
      go_wp2
      go_ret
      exact ⟨rfl, HBl.out⟩

end Go.Proofs.YtomjclkijakcpaaDoor
