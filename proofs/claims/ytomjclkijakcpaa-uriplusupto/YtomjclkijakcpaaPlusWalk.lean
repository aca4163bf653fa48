/-
  The walk of UriPlus.
-/
import Derived.Test.YtomjclkijakcpaaPlusB
namespace Go.Proofs.Ytomjclkijakcpaa
open Go.RowKit
set_option linter.unusedVariables false

theorem wrap_i64_small' (n : Int) (h0 : 0 ≤ n) (h1 : n < 9223372036854775808) : IntKind.i64.wrap n = n := by
  obtain ⟨a, rfl⟩ := Int.eq_ofNat_of_zero_le h0
  exact wrap_i64_nat a (by omega)

set_option maxRecDepth 20000 in
set_option maxHeartbeats 8000000 in
theorem plus_walk (s : ByteArray) (w : World) (hs : s.size ≤ 1048576) :
    Calls Try.prog 8 #[.string s] w fun e w' => e = .returned (.bool true) ∧ Below w.heap.size w w' := by
  obtain ⟨B, hBe⟩ : ∃ B, B = w.heap.size := ⟨_, rfl⟩
  have hB0 : B ≤ w.heap.size := by omega
  rw [← hBe]
  clear hBe
  go_enter Try.func8, Try.ntmps8
  go_wp2_with fail
  go_loopw [3, 4, 5] (fun t u i wr => ∃ (k : Nat) (xs ys : List UInt8), k ≤ s.size ∧ i = .int .i64 (k : Int) ∧ xs = sub [37, 50, 48] (s.data.toList.take k) ∧ ys = sub [37, 50, 66] (s.data.toList.take k) ∧ Two wr B t u xs ys ∧ Below B w wr) (fun _ _ i _ => s.size - (intOf i).toNat)
  case atStart => exact ⟨0, [], [], Nat.zero_le _, rfl, rfl, rfl, Two.nil _ _, Below.refl _ _⟩
  case round =>
    obtain ⟨k, xs, ys, hk, rfl, hxs, hys, hT, hB⟩ := hrel
    have hsw : B ≤ wr.heap.size := Nat.le_trans hB0 hB.size
    by_cases hlt : k < s.size
    · have hlt' : (k : Int) < (s.size : Int) := by omega
      have i1 := index_byte s .i64 (k : Int) k rfl hlt
      have hxl : xs.length ≤ 3 * k := by rw [hxs]; exact sub_pre _ rfl s k
      have hyl : ys.length ≤ 3 * k := by rw [hys]; exact sub_pre _ rfl s k
      have hx2 := sub_take [37, 50, 48] s k hlt
      have hy2 := sub_take [37, 50, 66] s k hlt
      rw [← hxs] at hx2
      rw [← hys] at hy2
      obtain ⟨b, hb⟩ : ∃ b, b = s[k]'hlt := ⟨_, rfl⟩
      rw [← hb] at i1 hx2 hy2
      have HX := hid hx2
      have HY := hid hy2
      have HT := hid hT
      have HB := hid hB
      clear hb hx2 hy2 hxs hys hT hB
      by_cases h43 : ((b.toNat : Int) == 43) = true
      · have HX2 := hid (show sub [37, 50, 48] (s.data.toList.take (k + 1)) = xs ++ [37, 50, 48] by rw [HX.out, if_pos (byte43 h43)])
        have HY2 := hid (show sub [37, 50, 66] (s.data.toList.take (k + 1)) = ys ++ [37, 50, 66] by rw [HY.out, if_pos (byte43 h43)])
        clear HX HY
        go_wp2_with (first
          | (at_builtin
             refine wpList_appS rfl _ _ rfl B u3 xs [37, 50, 48] rfl HT.out.ot rfl (by simp) (by simp; omega) hsw ?_
             intro v2 w2 hO2 hG2 hW2
             have HT2 := hid (HT.out.grow1 hO2 hG2 hW2)
             have HB2 := hid (below_grownBy HB.out hG2 (OwnsB.block HT.out.ot) hsw)
             have hsw2 : B ≤ w2.heap.size := Nat.le_trans hB0 HB2.out.size
             clear hO2 hG2 hW2 HT HB)
          | (at_builtin
             refine wpList_appS rfl _ _ rfl B u4 ys [37, 50, 66] rfl HT2.out.ou rfl (by simp) (by simp; omega) hsw2 ?_
             intro v3 w3 hO3 hG3 hW3
             have HT3 := hid (HT2.out.grow2 hO3 hG3 hW3)
             have HB3 := hid (below_grownBy HB2.out hG3 (OwnsB.block HT2.out.ou) hsw2)
             clear hO3 hG3 hW3 HT2 HB2)
          | fail)
        go_roundw
        case rel => exact ⟨k + 1, _, _, by omega, by go_num, HX2.out.symm, HY2.out.symm, HT3.out, HB3.out⟩
        case measure => simp [intOf]; omega
      · have h43' : ((b.toNat : Int) == 43) = false := by simpa using h43
        have HX2 := hid (show sub [37, 50, 48] (s.data.toList.take (k + 1)) = xs ++ [b] by rw [HX.out, if_neg (byte43n h43')])
        have HY2 := hid (show sub [37, 50, 66] (s.data.toList.take (k + 1)) = ys ++ [b] by rw [HY.out, if_neg (byte43n h43')])
        clear HX HY h43
        go_wp2_with (first
          | (at_builtin
             refine wpList_appL rfl _ _ rfl B u3 (xs.map UInt8.toNat) rfl (HT.out.alloc _).ot _ [b.toNat] rfl (by simp) (sees_b1 _ _ _ rfl) (by simp; omega) (by simp; omega) ?_
             intro g2 cap2 w2 hO2 hG2 hW2 hL2
             have HT2 := hid ((HT.out.alloc (.cells #[.int .u8 (b.toNat : Int)] 5)).grow1 (t' := .slice (some ⟨g2, 0, none⟩) ((xs.map UInt8.toNat).length + [b.toNat].length) cap2) (xs' := xs ++ [b]) (by unfold OwnsB; simpa using hO2) hG2 (by rcases hW2 with h | h; exact Or.inl (by rw [h]; rfl); exact Or.inr (by rw [h]; rfl)))
             have HB2 := hid (below_grownBy (HB.out.trans ((below_alloc wr (.cells #[.int .u8 (b.toNat : Int)] 5)).mono hsw)) hG2 (OwnsB.block HT.out.ot) (by simp; omega))
             have hsw2 : B ≤ w2.heap.size := Nat.le_trans hB0 HB2.out.size
             obtain ⟨v2, hv2⟩ : ∃ x, x = Value.slice (some ⟨g2, 0, none⟩) ((xs.map UInt8.toNat).length + [b.toNat].length) cap2 := ⟨_, rfl⟩
             rw [← hv2] at HT2 ⊢
             clear hO2 hG2 hW2 hL2 HT HB hv2)
          | (at_builtin
             refine wpList_appL rfl _ _ rfl B u4 (ys.map UInt8.toNat) rfl (HT2.out.alloc _).ou _ [b.toNat] rfl (by simp) (sees_b1 _ _ _ rfl) (by simp; omega) (by simp; omega) ?_
             intro g3 cap3 w3 hO3 hG3 hW3 hL3
             have HT3 := hid ((HT2.out.alloc (.cells #[.int .u8 (b.toNat : Int)] 5)).grow2 (u' := .slice (some ⟨g3, 0, none⟩) ((ys.map UInt8.toNat).length + [b.toNat].length) cap3) (ys' := ys ++ [b]) (by unfold OwnsB; simpa using hO3) hG3 (by rcases hW3 with h | h; exact Or.inl (by rw [h]; rfl); exact Or.inr (by rw [h]; rfl)))
             have HB3 := hid (below_grownBy (HB2.out.trans ((below_alloc w2 (.cells #[.int .u8 (b.toNat : Int)] 5)).mono hsw2)) hG3 (OwnsB.block HT2.out.ou) (by simp; omega))
             obtain ⟨v3, hv3⟩ : ∃ x, x = Value.slice (some ⟨g3, 0, none⟩) ((ys.map UInt8.toNat).length + [b.toNat].length) cap3 := ⟨_, rfl⟩
             rw [← hv3] at HT3 ⊢
             clear hO3 hG3 hW3 hL3 HT2 HB2 hv3)
          | fail)
        go_roundw
        case rel => exact ⟨k + 1, _, _, by omega, by go_num, HX2.out.symm, HY2.out.symm, HT3.out, HB3.out⟩
        case measure => simp [intOf]; omega
    · have hlt' : ¬ (k : Int) < (s.size : Int) := by omega
      have hks : k = s.size := by omega
      rw [hks, List.take_of_length_le (by rw [len_str]; exact Nat.le_refl _)] at hxs hys
      have hxl : xs.length ≤ 3 * s.size := by rw [hxs, ← len_str]; exact sub_len _ rfl _
      have hyl : ys.length ≤ 3 * s.size := by rw [hys, ← len_str]; exact sub_len _ rfl _
      have HT := hid hT
      have HB := hid hB
      have HD1 := hid (fun w => decode_any s true w (by omega))
      have HD2 := hid (fun w => decode_list xs true w (by omega))
      have HD3 := hid (fun w => decode_any s false w (by omega))
      have HD4 := hid (fun w => decode_list ys false w (by omega))
      have HA := hid awake_any
      have hfin : (bro s.data.toList s.size = true ∧ decErr s.data.toList = 60) ∨ (bro s.data.toList s.size = false ∧ decOut true xs = decOut true s.data.toList ∧ decErr xs = decErr s.data.toList ∧ decOut false ys = decOut false s.data.toList ∧ decErr ys = decErr s.data.toList) := by
        cases hbr : bro s.data.toList s.size with
        | true => exact Or.inl ⟨rfl, bro_err (by rw [len_str]; exact hbr)⟩
        | false =>
          have h1 := sub_answers true 50 48 (by decide) (by decide) (by decide) s.data.toList (by rw [len_str]; exact hbr)
          have h2 := sub_answers false 50 66 (by decide) (by decide) (by decide) s.data.toList (by rw [len_str]; exact hbr)
          rw [← hxs] at h1
          rw [← hys] at h2
          exact Or.inr ⟨rfl, h1.1, h1.2, h2.1, h2.2⟩
      have HF := hid hfin
      obtain ⟨A1, hA1⟩ : ∃ x, x = decOut true s.data.toList := ⟨_, rfl⟩
      obtain ⟨A2, hA2⟩ : ∃ x, x = decOut true xs := ⟨_, rfl⟩
      obtain ⟨A3, hA3⟩ : ∃ x, x = decOut false s.data.toList := ⟨_, rfl⟩
      obtain ⟨A4, hA4⟩ : ∃ x, x = decOut false ys := ⟨_, rfl⟩
      obtain ⟨E1, hE1⟩ : ∃ x, x = decErr s.data.toList := ⟨_, rfl⟩
      obtain ⟨E2, hE2⟩ : ∃ x, x = decErr xs := ⟨_, rfl⟩
      obtain ⟨E4, hE4⟩ : ∃ x, x = decErr ys := ⟨_, rfl⟩
      obtain ⟨P1, hP1⟩ : ∃ x, x = decPl s.data.toList := ⟨_, rfl⟩
      obtain ⟨P2, hP2⟩ : ∃ x, x = decPl xs := ⟨_, rfl⟩
      obtain ⟨P4, hP4⟩ : ∃ x, x = decPl ys := ⟨_, rfl⟩
      rw [← hA1, ← hE1, ← hP1] at HD1
      rw [← hA2, ← hE2, ← hP2] at HD2
      rw [← hA3, ← hE1, ← hP1] at HD3
      rw [← hA4, ← hE4, ← hP4] at HD4
      rw [← hA1, ← hA2, ← hA3, ← hA4, ← hE1, ← hE2, ← hE4] at HF
      clear hT hB hfin hA1 hA2 hA3 hA4 hE1 hE2 hE4 hP1 hP2 hP4 hxs hys hks hk hlt
      obtain ⟨ao1, cap1, hu3⟩ := HT.out.ot.shape
      obtain ⟨ao2, cap2, hu4⟩ := HT.out.ou.shape
      subst hu3
      subst hu4
      go_wp2_with fail
      refine (HD1.out _).mono ?_
      clear HD1
      rintro e w1 ⟨rfl, hB⟩
      have HT1 := hid (HT.out.below hB)
      have HB1 := hid (HB.out.trans (hB.mono hsw))
      have hsw1 := Nat.le_trans hB0 HB1.out.size
      have hc1 := HT1.out.ot.conv
      clear hB HT HB
      go_wp2_with fail
      refine (HD2.out _).mono ?_
      clear HD2 hc1
      rintro e w2 ⟨rfl, hB⟩
      have HT2 := hid (HT1.out.below hB)
      have HB2 := hid (HB1.out.trans (hB.mono hsw1))
      have hsw2 := Nat.le_trans hB0 HB2.out.size
      clear hB HT1 HB1
      go_wp2_with fail
      refine (HD3.out _).mono ?_
      clear HD3
      rintro e w3 ⟨rfl, hB⟩
      have HT3 := hid (HT2.out.below hB)
      have HB3 := hid (HB2.out.trans (hB.mono hsw2))
      have hsw3 := Nat.le_trans hB0 HB3.out.size
      have hc2 := HT3.out.ou.conv
      clear hB HT2 HB2
      go_wp2_with fail
      refine (HD4.out _).mono ?_
      clear HD4 hc2
      rintro e w4 ⟨rfl, hB⟩
      have HB4 := hid (HB3.out.trans (hB.mono hsw3))
      have hsw4 := Nat.le_trans hB0 HB4.out.size
      clear hB HT3 HB3
      go_wp2_with fail
      go_loop [18, 19] (fun br i => ∃ (j : Nat), j ≤ s.size ∧ i = .int .i64 (j : Int) ∧ br = .bool (bro s.data.toList j)) (fun _ i => s.size - (intOf i).toNat)
      case atStart => exact ⟨0, Nat.zero_le _, rfl, rfl⟩
      case round =>
        obtain ⟨j, hj, rfl, rfl⟩ := hrel
        by_cases hjl : j < s.size
        · have hjl' : (j : Int) < (s.size : Int) := by omega
          have i1 := index_byte s .i64 (j : Int) j rfl hjl
          have hbs := bro_succ s.data.toList j
          have hca : condAt s.data.toList j = ((s.data.toList[j]? == some 37) && ((s.data.toList[j + 1]? == some 43) || (s.data.toList[j + 2]? == some 43))) := rfl
          rw [getElem_str s j hjl] at hca
          obtain ⟨b, hb⟩ : ∃ b, b = s[j]'hjl := ⟨_, rfl⟩
          rw [← hb] at i1 hca
          clear hb
          obtain ⟨BR, hBR⟩ : ∃ x, x = bro s.data.toList j := ⟨_, rfl⟩
          rw [← hBR] at hbs ⊢
          clear hBR
          cases BR with
          | true =>
            have HN := hid (show bro s.data.toList (j + 1) = true by rw [hbs]; rfl)
            clear hbs hca
            go_wp2
            go_round
            case rel => exact ⟨j + 1, by omega, by go_num, by rw [HN.out]⟩
            case measure => simp [intOf]; omega
          | false =>
            rw [Bool.false_or] at hbs
            by_cases h37 : ((b.toNat : Int) == 37) = true
            · rw [byte37 h37] at hca
              by_cases l1 : j + 1 < s.size
              · have l1' : (j : Int) + 1 < (s.size : Int) := by omega
                have i2 := index_byte s .i64 ((j : Int) + 1) (j + 1) (by omega) l1
                have i2w := index_byte s .i64 (IntKind.i64.wrap ((j : Int) + 1)) (j + 1) (by rw [wrap_i64_small' _ (by omega) (by omega)]; omega) l1
                have w1' : IntKind.i64.wrap ((j : Int) + 1) = (j : Int) + 1 := wrap_i64_small' _ (by omega) (by omega)
                rw [getElem_str s (j + 1) l1] at hca
                obtain ⟨c, hc⟩ : ∃ b, b = s[j + 1]'l1 := ⟨_, rfl⟩
                rw [← hc] at i2 i2w hca
                clear hc
                by_cases h43 : ((c.toNat : Int) == 43) = true
                · have HN := hid (show bro s.data.toList (j + 1) = true by rw [hbs, hca, byte43 h43]; rfl)
                  clear hbs hca
                  go_wp2
                  go_round
                  case rel => exact ⟨j + 1, by omega, by go_num, by rw [HN.out]⟩
                  case measure => simp [intOf]; omega
                · have h43' : ((c.toNat : Int) == 43) = false := by simpa using h43
                  have hcn := byte43n h43'
                  by_cases l2 : j + 2 < s.size
                  · have l2' : (j : Int) + 2 < (s.size : Int) := by omega
                    have i3 := index_byte s .i64 ((j : Int) + 2) (j + 2) (by omega) l2
                    have i3w := index_byte s .i64 (IntKind.i64.wrap ((j : Int) + 2)) (j + 2) (by rw [wrap_i64_small' _ (by omega) (by omega)]; omega) l2
                    have w2' : IntKind.i64.wrap ((j : Int) + 2) = (j : Int) + 2 := wrap_i64_small' _ (by omega) (by omega)
                    rw [getElem_str s (j + 2) l2] at hca
                    obtain ⟨d, hd⟩ : ∃ b, b = s[j + 2]'l2 := ⟨_, rfl⟩
                    rw [← hd] at i3 i3w hca
                    clear hd
                    by_cases g43 : ((d.toNat : Int) == 43) = true
                    · have HN := hid (show bro s.data.toList (j + 1) = true by rw [hbs, hca, byte43 g43]; simp)
                      clear hbs hca hcn h43
                      go_wp2
                      go_round
                      case rel => exact ⟨j + 1, by omega, by go_num, by rw [HN.out]⟩
                      case measure => simp [intOf]; omega
                    · have g43' : ((d.toNat : Int) == 43) = false := by simpa using g43
                      have hdn := byte43n g43'
                      have HN := hid (show bro s.data.toList (j + 1) = false by rw [hbs, hca]; simp [hcn, hdn])
                      clear hbs hca hcn hdn h43 g43
                      go_wp2
                      go_round
                      case rel => exact ⟨j + 1, by omega, by go_num, by rw [HN.out]⟩
                      case measure => simp [intOf]; omega
                  · have l2' : ¬ (j : Int) + 2 < (s.size : Int) := by omega
                    rw [getElem_strN s (j + 2) (by omega)] at hca
                    have HN := hid (show bro s.data.toList (j + 1) = false by rw [hbs, hca]; simp [hcn])
                    clear hbs hca hcn h43
                    go_wp2
                    go_round
                    case rel => exact ⟨j + 1, by omega, by go_num, by rw [HN.out]⟩
                    case measure => simp [intOf]; omega
              · have l1' : ¬ (j : Int) + 1 < (s.size : Int) := by omega
                have l2' : ¬ (j : Int) + 2 < (s.size : Int) := by omega
                rw [getElem_strN s (j + 1) (by omega), getElem_strN s (j + 2) (by omega)] at hca
                have HN := hid (show bro s.data.toList (j + 1) = false by rw [hbs, hca]; rfl)
                clear hbs hca
                go_wp2
                go_round
                case rel => exact ⟨j + 1, by omega, by go_num, by rw [HN.out]⟩
                case measure => simp [intOf]; omega
            · have h37' : ((b.toNat : Int) == 37) = false := by simpa using h37
              have hbn := byte37n h37'
              have HN := hid (show bro s.data.toList (j + 1) = false by rw [hbs, hca]; simp [hbn])
              clear hbs hca hbn h37
              go_wp2
              go_round
              case rel => exact ⟨j + 1, by omega, by go_num, by rw [HN.out]⟩
              case measure => simp [intOf]; omega
        · have hjl' : ¬ (j : Int) < (s.size : Int) := by omega
          have hjs : j = s.size := by omega
          rw [hjs] at hjl' ⊢
          rcases HF.out with ⟨f1, f2⟩ | ⟨f1, f2, f3, f4, f5⟩
          · rw [f1]
            subst f2
            clear f1 HF hjs hjl hj
            go_wp2_with fail
            refine (HA.out _).mono ?_
            clear HA
            rintro e w5 ⟨rfl, hB⟩
            have HB5 := hid (HB4.out.trans (hB.mono hsw4))
            clear hB HB4
            go_wp2
            go_ret
            exact ⟨rfl, HB5.out⟩
          · rw [f1]
            subst f2 f3 f4 f5
            clear f1 HF hjs hjl hj
            go_wp2_with fail
            refine (HA.out _).mono ?_
            clear HA
            rintro e w5 ⟨rfl, hB⟩
            have HB5 := hid (HB4.out.trans (hB.mono hsw4))
            clear hB HB4
            go_wp2
            go_ret
            exact ⟨rfl, HB5.out⟩

end Go.Proofs.Ytomjclkijakcpaa
