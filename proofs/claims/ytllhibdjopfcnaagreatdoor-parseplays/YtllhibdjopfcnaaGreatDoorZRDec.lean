/-
  Decode of the document.
-/
import Derived.Test.YtllhibdjopfcnaaGreatDoorZCut
namespace Go.Proofs.YtllhibdjopfcnaaGreatDoor
open Go.RowKit
set_option linter.unusedVariables false

theorem wrap_i64_small (n : Int) (h0 : 0 ≤ n) (h1 : n < 9223372036854775808) : IntKind.i64.wrap n = n := by
  obtain ⟨a, rfl⟩ := Int.eq_ofNat_of_zero_le h0
  exact wrap_i64_nat a (by omega)
theorem signV_short {t : List UInt8} (h : t.length < 2) : signV (37 :: t) = none := by
  match t with
  | [] => rfl
  | [x] => rfl
  | x :: y :: r => simp at h; omega
theorem signV_two (h l : UInt8) (r : List UInt8) : signV (37 :: h :: l :: r) = if 0 ≤ hexD h ∧ 0 ≤ hexD l then some (signB h l) else none := rfl

/-- What stands in the answers, for both. -/
theorem dec_answers {plus : Bool} {L : List UInt8} {R : List UInt8 × Option Nat} (hR : dec plus L = R) :
    decOut plus L = (if R.2 = none then R.1 else []) ∧ decErr L = (if R.2 = none then 0 else 60) ∧ decPl L = R.2.getD 0 := by
  subst hR
  refine ⟨rfl, ?_, ?_⟩
  · rw [decErr, dec_any true plus]
  · rw [decPl, dec_any true plus]

set_option maxRecDepth 20000 in
set_option maxHeartbeats 2000000 in
theorem rdecode_any (s : ByteArray) (plus : Bool) (w : World) (hs : s.size + 1 ≤ 140737488355328) :
    Calls Tryz.prog 46 #[.string s, .bool plus] w fun e w' => e = .returned (.tuple #[.string ⟨(decOut plus s.data.toList).toArray⟩, .int .i64 (decErr s.data.toList), .int .i64 (decPl s.data.toList : Int)]) ∧ Below w.heap.size w w' := by
  obtain ⟨A1, hA1⟩ : ∃ x, x = decOut plus s.data.toList := ⟨_, rfl⟩
  obtain ⟨A2, hA2⟩ : ∃ x, x = decErr s.data.toList := ⟨_, rfl⟩
  obtain ⟨A3, hA3⟩ : ∃ x, x = decPl s.data.toList := ⟨_, rfl⟩
  have hans : ∀ R, dec plus s.data.toList = R → A1 = (if R.2 = none then R.1 else []) ∧ A2 = (if R.2 = none then 0 else 60) ∧ A3 = R.2.getD 0 := by
    intro R hR
    rw [hA1, hA2, hA3]
    exact dec_answers hR
  rw [← hA1, ← hA2, ← hA3]
  have HAns := hid hans
  clear hA1 hA2 hA3 hans
  obtain ⟨B, hBe⟩ : ∃ B, B = w.heap.size := ⟨_, rfl⟩
  have hB0 : B ≤ w.heap.size := by omega
  rw [← hBe]
  clear hBe
  go_enter Tryz.func46, Tryz.ntmps46
  go_wp2_with fail
  go_loopw [7, 8] (fun u i wr => ∃ (k : Nat) (out : List UInt8), k ≤ s.size ∧ i = .int .i64 (k : Int) ∧ out.length ≤ k ∧ decAt plus s.data.toList k out ∧ OwnsB wr B u out ∧ Below B w wr) (fun _ i _ => s.size - (intOf i).toNat)
  case atStart => exact ⟨0, [], Nat.zero_le _, rfl, Nat.le_refl _, decAt_start _ _, OwnsB.nil _ _, Below.refl _ _⟩
  case round =>
    obtain ⟨k, out, hk, rfl, hol, hD, hO, hB⟩ := hrel
    have hsw : B ≤ wr.heap.size := Nat.le_trans hB0 hB.size
    by_cases hlt : k < s.size
    · have hlt' : (k : Int) < (s.size : Int) := by omega
      have hd := drop_byte s k hlt
      have i1 := index_byte s .i64 (k : Int) k rfl hlt
      obtain ⟨b, hb⟩ : ∃ b, b = s[k]'hlt := ⟨_, rfl⟩
      rw [← hb] at hd i1
      obtain ⟨ao, cap, rfl⟩ := hO.shape
      have HD := hid hD
      have Hd := hid hd
      have HB := hid hB
      have HO := hid hO
      have Hb := hid hb
      clear hb hd hD hO hB
      by_cases h37 : ((b.toNat : Int) != 37) = true
      · have h37' : ((b.toNat : Int) == 37) = false := by simpa using h37
        have HN := hid (decAt_plain HD.out Hd.out (ne37 h37))
        clear HD Hd h37 Hb
        by_cases hp : plus = true ∧ b = 43
        · have e1 : plusB plus b = 32 := by rw [plusB, if_pos hp]
          have h43 : ((b.toNat : Int) == 43) = true := by rw [hp.2]; rfl
          obtain ⟨hp1, hp2⟩ := hp
          subst hp1
          rw [e1] at HN
          clear e1 hp2
          go_wp2_with (first
            | (at_builtin
               refine wpList_appN rowBytes rfl _ _ rfl B (.slice ao out.length cap) (out.map UInt8.toNat) rfl (OwnsB.below HO.out (below_alloc wr _)) _ [32] rfl (sees_b1 _ _ _ rfl) (by simp; omega) (by simp; omega) ?_
               intro v4 w4 hO4 hG4
               have HO4 : Hid (OwnsB w4 B v4 (out ++ [32])) := by
                 unfold Hid OwnsB
                 simpa using hO4
               have HB4 := hid (below_grownBy (HB.out.trans ((below_alloc wr _).mono hsw)) hG4 (OwnsB.block HO.out) (by simp; omega))
               clear hO4 hG4)
            | fail)
          go_roundw
          case rel => exact ⟨k + 1, _, by omega, by go_num, by simp; omega, HN.out, HO4.out, HB4.out⟩
          case measure => simp [intOf]; omega
        · have e1 : plusB plus b = b := by rw [plusB, if_neg hp]
          rw [e1] at HN
          have hq : plus = false ∨ (plus = true ∧ ((b.toNat : Int) == 43) = false) := by
            cases plus
            · exact Or.inl rfl
            · refine Or.inr ⟨rfl, ?_⟩
              rw [beq_eq_false_iff_ne]
              intro e
              exact hp ⟨rfl, by have := byte_eq (b := b) (n := 43) (by omega); simpa using this⟩
          clear e1 hp
          rcases hq with hq | ⟨hq, h43⟩
          all_goals
            subst hq
            go_wp2_with (first
              | (at_builtin
                 refine wpList_appN rowBytes rfl _ _ rfl B (.slice ao out.length cap) (out.map UInt8.toNat) rfl (OwnsB.below HO.out (below_alloc wr _)) _ [b.toNat] rfl (sees_b1 _ _ _ rfl) (by simp; omega) (by simp; omega) ?_
                 intro v4 w4 hO4 hG4
                 have HO4 : Hid (OwnsB w4 B v4 (out ++ [b])) := by
                   unfold Hid OwnsB
                   simpa using hO4
                 have HB4 := hid (below_grownBy (HB.out.trans ((below_alloc wr _).mono hsw)) hG4 (OwnsB.block HO.out) (by simp; omega))
                 clear hO4 hG4)
              | fail)
            go_roundw
            case rel => exact ⟨k + 1, _, by omega, by go_num, by simp; omega, HN.out, HO4.out, HB4.out⟩
            case measure => simp [intOf]; omega
      · have hb37 := is37 h37
        have h37' : ((b.toNat : Int) == 37) = true := by simpa using h37
        rw [hb37] at Hd
        have HW := hid (fun h => HAns.out _ (decAt_wrong HD.out Hd.out h))
        have HG := hid (fun c h => decAt_sign (b := c) HD.out Hd.out h)
        clear HD Hd hb37 Hb h37
        by_cases h2 : s.size ≤ k + 2
        · have h2' : (s.size : Int) ≤ (k : Int) + 2 := by omega
          have HE := hid (HW.out (signV_short (by rw [List.length_drop, len_str]; omega)))
          clear HW HG h2
          go_wp2
          go_ret3
          refine ⟨?_, HB.out⟩
          obtain ⟨E1, E2, E3⟩ := HE.out
          rw [E1, E2, E3]
          rfl
        · have h2' : ¬ (s.size : Int) ≤ (k : Int) + 2 := by omega
          have l1 : k + 1 < s.size := by omega
          have l2 : k + 2 < s.size := by omega
          have j1 := index_byte s .i64 ((k : Int) + 1) (k + 1) (by omega) l1
          have j1w := index_byte s .i64 (IntKind.i64.wrap ((k : Int) + 1)) (k + 1) (by rw [wrap_i64_small _ (by omega) (by omega)]; omega) l1
          have j2 := index_byte s .i64 ((k : Int) + 2) (k + 2) (by omega) l2
          have j2w := index_byte s .i64 (IntKind.i64.wrap ((k : Int) + 2)) (k + 2) (by rw [wrap_i64_small _ (by omega) (by omega)]; omega) l2
          have w1 : IntKind.i64.wrap ((k : Int) + 1) = (k : Int) + 1 := by rw [wrap_i64_small _ (by omega) (by omega)]
          have w2 : IntKind.i64.wrap ((k : Int) + 2) = (k : Int) + 2 := by rw [wrap_i64_small _ (by omega) (by omega)]
          have hsv : signV (37 :: s.data.toList.drop (k + 1)) = if 0 ≤ hexD (s[k + 1]'l1) ∧ 0 ≤ hexD (s[k + 2]'l2) then some (signB (s[k + 1]'l1) (s[k + 2]'l2)) else none := by
            rw [drop_byte s (k + 1) l1, drop_byte s (k + 2) l2, signV_two]
          rw [hsv] at HW HG
          clear hsv
          obtain ⟨x, hx⟩ : ∃ x, x = s[k + 1]'l1 := ⟨_, rfl⟩
          obtain ⟨y, hy⟩ : ∃ y, y = s[k + 2]'l2 := ⟨_, rfl⟩
          rw [← hx] at j1 j1w HW HG
          rw [← hy] at j2 j2w HW HG
          have rx := hexD_range x
          have ry := hexD_range y
          have HZ := hid (fun h1 h2 => signB_nat (h := x) (l := y) h1 h2)
          clear hx hy h2
          by_cases hx0 : hexD x < 0
          · have HE := hid (HW.out (if_neg (by omega)))
            clear HW HG
            go_wp2_with fail
            refine (rdigit_any _ _).mono ?_
            rintro e wa ⟨rfl, hwa⟩
            subst hwa
            go_wp2
            go_ret3
            refine ⟨?_, HB.out⟩
            obtain ⟨E1, E2, E3⟩ := HE.out
            rw [E1, E2, E3]
            rfl
          · by_cases hy0 : hexD y < 0
            · have HE := hid (HW.out (if_neg (by omega)))
              clear HW HG
              go_wp2_with fail
              refine (rdigit_any _ _).mono ?_
              rintro e wa ⟨rfl, hwa⟩
              subst hwa
              go_wp2_with fail
              refine (rdigit_any _ _).mono ?_
              rintro e wa ⟨rfl, hwa⟩
              subst hwa
              go_wp2
              go_ret3
              refine ⟨?_, HB.out⟩
              obtain ⟨E1, E2, E3⟩ := HE.out
              rw [E1, E2, E3]
              rfl
            · obtain ⟨hg1, hg2⟩ := HG.out (signB x y) (if_pos (by omega))
              have HN := hid hg2
              have hz := HZ.out (by omega) (by omega)
              have HZ2 := hid hz
              clear HW HG hg1 hg2 hz HZ
              go_wp2_with fail
              refine (rdigit_any _ _).mono ?_
              rintro e wa ⟨rfl, hwa⟩
              subst hwa
              go_wp2_with fail
              refine (rdigit_any _ _).mono ?_
              rintro e wa ⟨rfl, hwa⟩
              subst hwa
              go_wp2_with fail
              go_region_held3 (fun _ => True) (trivial)
                (first
                  | (go_at_call 67; refine (rdigit_any _ _).mono ?_; rintro e' wb ⟨rfl, rfl⟩)
                  | (refine step_appN rowBytes (by rfl) _ _ (by rfl) B (.slice ao out.length cap) (out.map UInt8.toNat) (by rfl) ?ho _ [(signB x y).toNat] (by rfl) (by simp) (sees_b1 wr _ _ ?hv) (by simp; omega) (by simp; omega) ?_; (case ho => exact OwnsB.below HO.out (below_ad wr _)); (case hv => rw [HZ2.out, wrap_i64_small (16 * hexD x) (by omega) (by omega), wrap_i64_small (16 * hexD x + hexD y) (by omega) (by omega), IntKind.wrap_u8']; omega); intro v4 w4 hO4 hG4))
              all_goals
                have HO4 : Hid (OwnsB w4 B v4 (out ++ [signB x y])) := by
                  unfold Hid OwnsB
                  simpa using hO4
                have HB4 := hid (below_grownBy (HB.out.trans ((below_ad wr _).mono hsw)) hG4 (OwnsB.block HO.out) (by simp; omega))
                clear hO4 hG4
                go_wp2
                go_roundw
                case rel => exact ⟨k + 3, _, by omega, by go_num, by simp; omega, HN.out, HO4.out, HB4.out⟩
                case measure => simp [intOf]; omega
    · have hlt' : ¬ (k : Int) < (s.size : Int) := by omega
      have HE := hid (HAns.out _ (decAt_end hD (by rw [len_str]; omega)))
      have HB := hid hB
      have hc := hO.conv
      obtain ⟨ao, cap, rfl⟩ := hO.shape
      obtain ⟨M, hM⟩ : ∃ M, M = out.length := ⟨_, rfl⟩
      rw [← hM] at hc ⊢
      clear hD hO hB hM hol
      go_wp2
      go_ret3
      refine ⟨?_, HB.out⟩
      obtain ⟨E1, E2, E3⟩ := HE.out
      rw [E1, E2, E3]
      rfl

end Go.Proofs.YtllhibdjopfcnaaGreatDoor
