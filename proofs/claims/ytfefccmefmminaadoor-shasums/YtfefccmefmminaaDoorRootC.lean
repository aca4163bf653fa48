/-
  Whether a number's square, its cube, is at most another: the document's 'below'. (Laid by wip/tools/sha_root.py.)
-/
import Derived.Test.YtfefccmefmminaaDoorRootB
namespace Go.Proofs.YtfefccmefmminaaDoor
open Go.RowKit
set_option linter.unusedVariables false

def rootOf (n f : Nat) : List Nat := [f % 65536, f / 65536, n]
theorem rootOf_lt {n f : Nat} (hn : n < 65536) (hf : f < 4294967296) : ∀ k, (rootOf n f).getD k 0 < 65536
  | 0 => by show f % 65536 < 65536; omega
  | 1 => by show f / 65536 < 65536; omega
  | 2 => hn
  | k + 3 => by simp [rootOf, List.getD]
theorem rootOf_val (n f : Nat) : val (rootOf n f) = f + n * 4294967296 := by
  simp only [rootOf, val]
  omega
def squareOf (n f : Nat) : List Nat := timesOf (rootOf n f) (rootOf n f)
def cubeOf (n f : Nat) : List Nat := timesOf (squareOf n f) (rootOf n f)
theorem square_len {n f : Nat} (hn : n < 65536) (hf : f < 4294967296) : (squareOf n f).length = 6 := timesOf_len (rootOf_lt hn hf) (rootOf_lt hn hf)
theorem square_lt {n f : Nat} (hn : n < 65536) (hf : f < 4294967296) : ∀ k, (squareOf n f).getD k 0 < 65536 := timesOf_lt (rootOf_lt hn hf) (rootOf_lt hn hf)
theorem cube_len {n f : Nat} (hn : n < 65536) (hf : f < 4294967296) : (cubeOf n f).length = 9 := by
  unfold cubeOf
  rw [timesOf_len (square_lt hn hf) (rootOf_lt hn hf), square_len hn hf]; rfl
theorem cube_lt {n f : Nat} (hn : n < 65536) (hf : f < 4294967296) : ∀ k, (cubeOf n f).getD k 0 < 65536 := timesOf_lt (square_lt hn hf) (rootOf_lt hn hf)
theorem square_val {n f : Nat} (hn : n < 65536) (hf : f < 4294967296) : val (squareOf n f) = (f + n * 4294967296) * (f + n * 4294967296) := by
  unfold squareOf
  rw [timesOf_val (rootOf_lt hn hf) (rootOf_lt hn hf), rootOf_val]
theorem cube_val {n f : Nat} (hn : n < 65536) (hf : f < 4294967296) : val (cubeOf n f) = (f + n * 4294967296) * (f + n * 4294967296) * (f + n * 4294967296) := by
  unfold cubeOf
  rw [timesOf_val (square_lt hn hf) (rootOf_lt hn hf), square_val hn hf, rootOf_val]

def belowB (p n f : Nat) : Bool → Bool
  | false => decide ((f + n * 4294967296) * (f + n * 4294967296) ≤ p * 18446744073709551616)
  | true => decide ((f + n * 4294967296) * (f + n * 4294967296) * (f + n * 4294967296) ≤ p * 79228162514264337593543950336)

theorem sees_root (w : World) (n f : Nat) (y z : Int) (hy : y = ((f % 65536 : Nat) : Int)) (hz : z = ((f / 65536 : Nat) : Int)) : SeesN .i64 (w.alloc (.cells #[.int .i64 y, .int .i64 z, .int .i64 (n : Int)] 3)) (.slice (some ⟨w.heap.size, 0, none⟩) 3 3) (rootOf n f) := by
  subst hy hz
  refine ⟨w.heap.size, 0, _, 3, rfl, Nat.le_refl _, (fun h => by cases h), fun _ => rfl, fun j hj => ?_⟩
  have : j = 0 ∨ j = 1 ∨ j = 2 := by simp [rootOf] at hj; omega
  rcases this with rfl | rfl | rfl <;> simp [rootOf]

set_option maxRecDepth 20000 in
set_option maxHeartbeats 2000000 in
theorem below_square (p n f : Nat) (w : World) (hp : p < 2147483648) (hn : n < 65536) (hf : f < 4294967296) :
    Calls Tryd.prog 42 #[.int .i64 p, .int .i64 n, .int .i64 f, .bool false] w fun e w' => e = .returned (.bool (belowB p n f false)) ∧ Below w.heap.size w w' := by
  have HQ := hid (cut_le p 4 (squareOf n f) (square_lt hn hf) (by rw [square_len hn hf]; decide))
  have HE := hid (show belowB p n f false = decide (val (squareOf n f) ≤ p * 65536 ^ 4) by rw [square_val hn hf]; rfl)
  have HLT := hid (square_lt hn hf)
  have HLN := hid (square_len hn hf)
  have HW := hid (times_any (.slice (some ⟨w.heap.size, 0, none⟩) 3 3) (.slice (some ⟨w.heap.size, 0, none⟩) 3 3) (rootOf n f) (rootOf n f) _ (sees_root w n f ((f : Int) % 65536) ((f : Int) / 65536) (by omega) (by omega)) (sees_root w n f ((f : Int) % 65536) ((f : Int) / 65536) (by omega) (by omega)) (by simp [rootOf]) (by simp [rootOf]) (by simp [rootOf]) (by simp [rootOf]) (rootOf_lt hn hf) (rootOf_lt hn hf))
  have HS1 := hid (sees_root w n f ((f : Int) % 65536) ((f : Int) / 65536) (by omega) (by omega))
  have HB1 := hid (below_alloc w (.cells #[.int .i64 ((f : Int) % 65536), .int .i64 ((f : Int) / 65536), .int .i64 (n : Int)] 3))
  have HN := hid hn
  have HF := hid hf
  obtain ⟨q, hq⟩ : ∃ q, q = squareOf n f := ⟨_, rfl⟩
  rw [← hq] at HQ HE HLT HLN
  rw [HE.out]
  have Hq := hid hq
  clear hq HE
  go_enter Tryd.func42, Tryd.ntmps42
  go_wp2_with fail
  refine HW.out.mono ?_
  rintro e w2 ⟨rfl, hk2, hB2⟩
  rw [show (rootOf n f).length + (rootOf n f).length = 6 from rfl]
  have hB2 := HB1.out.trans (hB2.mono HB1.out.size)
  obtain ⟨g, hg⟩ : ∃ g, g = (w.alloc (.cells #[.int .i64 ((f : Int) % 65536), .int .i64 ((f : Int) / 65536), .int .i64 (n : Int)] 3)).heap.size := ⟨_, rfl⟩
  rw [← hg] at hk2 ⊢
  have hk : Blk w2 g .i64 q 3 := by rw [Hq.out]; exact hk2
  have HK := hid hk
  have HB := hid hB2
  clear hk hk2 hB2 Hq hg HN HF HW HS1 HB1 hn hf
  go_wp2_with fail
  go_loopw [12, 13] (fun x i wr => ∃ j : Nat, 3 ≤ j ∧ j ≤ 5 ∧ i = .int .i64 j ∧ x = .int .i64 ((val (q.drop (j + 1)) : Nat) : Int) ∧ w2 = wr) (fun _ i _ => (intOf i).toNat)
  case atStart => exact ⟨5, by decide, by decide, rfl, by rw [List.drop_of_length_le (by rw [HLN.out]; decide)]; rfl, rfl⟩
  case round =>
    obtain ⟨j, h1, h2, rfl, rfl, rfl⟩ := hrel
    by_cases hlt : 4 ≤ j
    · have hv := val_lt (q.drop (j + 1)) (fun k => by rw [getD_drop0]; exact HLT.out _)
      rw [List.length_drop, HLN.out] at hv
      have hv2 := Nat.lt_of_lt_of_le hv (Nat.pow_le_pow_right (n := 65536) (by decide) (show 6 - (j + 1) ≤ 2 by omega))
      have hd := val_drop q j (by rw [HLN.out]; omega)
      have ly := HLT.out j
      have cy := HK.out.cell j (by rw [HLN.out]; omega)
      obtain ⟨V, hV⟩ : ∃ V, V = val (q.drop (j + 1)) := ⟨_, rfl⟩
      obtain ⟨y, hy⟩ : ∃ y, y = q.getD j 0 := ⟨_, rfl⟩
      rw [← hV] at hv2 hd ⊢
      rw [← hy] at hd ly cy
      have lV : V < 4294967296 := hv2
      have HD := hid hd
      have zj : (j : Int) < 6 := by omega
      clear hv hv2 hV hy hd
      go_wp2
      go_roundw
      case rel =>
        refine ⟨j - 1, by omega, by omega, ?_, ?_, by first | rfl | trivial⟩
        · rw [show ((j - 1 : Nat) : Int) = (j : Int) - 1 by omega]
        · rw [show j - 1 + 1 = j by omega, HD.out]; congr 1
      case measure => simp [intOf]; omega
    · obtain rfl : j = 3 := by omega
      have hv := val_lt (q.drop 4) (fun k => by rw [getD_drop0]; exact HLT.out _)
      rw [List.length_drop, HLN.out] at hv
      obtain ⟨V, hV⟩ : ∃ V, V = val (q.drop 4) := ⟨_, rfl⟩
      rw [show 3 + 1 = 4 from rfl, ← hV]
      rw [← hV] at hv HQ
      have lV : V < 4294967296 := hv
      by_cases hne : V = p
      · subst hne
        clear hv hV
        go_wp2_with fail
        go_loopw [14] (fun i wr => ∃ m : Nat, m ≤ 4 ∧ i = .int .i64 m ∧ (∀ k, k < m → q.getD k 0 = 0) ∧ w2 = wr) (fun i _ => 4 - (intOf i).toNat)
        case atStart => exact ⟨0, Nat.zero_le _, rfl, fun k hk => by omega, rfl⟩
        case round =>
          obtain ⟨m, hm, rfl, hz, rfl⟩ := hrel
          have HZ := hid hz
          clear hz
          by_cases hm2 : m < 4
          · have cy := HK.out.cell m (by rw [HLN.out]; omega)
            have zj : (m : Int) < 6 := by omega
            have zs : (m : Int) < 4 := by omega
            obtain ⟨y, hy⟩ : ∃ y, y = q.getD m 0 := ⟨_, rfl⟩
            rw [← hy] at cy
            have HY := hid hy
            clear hy
            by_cases hy0 : y = 0
            · subst hy0
              go_wp2
              go_roundw
              case rel => exact ⟨m + 1, by omega, by go_num, fun k hk => by (rcases Nat.lt_or_ge k m with h | h; exact HZ.out k h; (obtain rfl : k = m := by omega); exact HY.out.symm), by first | rfl | trivial⟩
              case measure => simp [intOf]; omega
            · have hyb : ((y : Int) != 0) = true := by rw [bne_iff_ne]; omega
              go_wp2
              go_ret
              refine ⟨?_, HB.out⟩
              refine ret_bool (decide_eq_false ?_).symm
              intro h
              rcases HQ.out.1 h with h | ⟨_, h⟩
              · omega
              · exact hy0 (HY.out.trans (h m hm2))
          · obtain rfl : m = 4 := by omega
            go_wp2
            go_ret
            refine ⟨?_, HB.out⟩
            exact ret_bool (decide_eq_true (HQ.out.2 (Or.inr ⟨by first | rfl | trivial, HZ.out⟩))).symm
      · have hnb : ((V : Int) != (p : Int)) = true := by rw [bne_iff_ne]; omega
        clear hv hV
        go_wp2
        go_ret
        refine ⟨?_, HB.out⟩
        refine ret_bool ?_
        rw [decide_eq_decide]
        constructor
        · intro h; exact HQ.out.2 (Or.inl (by omega))
        · intro h
          rcases HQ.out.1 h with h | ⟨h, _⟩
          · omega
          · exact absurd h hne

set_option maxRecDepth 20000 in
set_option maxHeartbeats 2000000 in
theorem below_cube (p n f : Nat) (w : World) (hp : p < 2147483648) (hn : n < 65536) (hf : f < 4294967296) :
    Calls Tryd.prog 42 #[.int .i64 p, .int .i64 n, .int .i64 f, .bool true] w fun e w' => e = .returned (.bool (belowB p n f true)) ∧ Below w.heap.size w w' := by
  have HQ := hid (cut_le p 6 (cubeOf n f) (cube_lt hn hf) (by rw [cube_len hn hf]; decide))
  have HE := hid (show belowB p n f true = decide (val (cubeOf n f) ≤ p * 65536 ^ 6) by rw [cube_val hn hf]; rfl)
  have HLT := hid (cube_lt hn hf)
  have HLN := hid (cube_len hn hf)
  have HW := hid (times_any (.slice (some ⟨w.heap.size, 0, none⟩) 3 3) (.slice (some ⟨w.heap.size, 0, none⟩) 3 3) (rootOf n f) (rootOf n f) _ (sees_root w n f ((f : Int) % 65536) ((f : Int) / 65536) (by omega) (by omega)) (sees_root w n f ((f : Int) % 65536) ((f : Int) / 65536) (by omega) (by omega)) (by simp [rootOf]) (by simp [rootOf]) (by simp [rootOf]) (by simp [rootOf]) (rootOf_lt hn hf) (rootOf_lt hn hf))
  have HS1 := hid (sees_root w n f ((f : Int) % 65536) ((f : Int) / 65536) (by omega) (by omega))
  have HB1 := hid (below_alloc w (.cells #[.int .i64 ((f : Int) % 65536), .int .i64 ((f : Int) / 65536), .int .i64 (n : Int)] 3))
  have HN := hid hn
  have HF := hid hf
  obtain ⟨q, hq⟩ : ∃ q, q = cubeOf n f := ⟨_, rfl⟩
  rw [← hq] at HQ HE HLT HLN
  rw [HE.out]
  have Hq := hid hq
  clear hq HE
  go_enter Tryd.func42, Tryd.ntmps42
  go_wp2_with fail
  refine HW.out.mono ?_
  rintro e w2 ⟨rfl, hk2, hB2⟩
  rw [show (rootOf n f).length + (rootOf n f).length = 6 from rfl]
  have hB2 := HB1.out.trans (hB2.mono HB1.out.size)
  obtain ⟨g, hg⟩ : ∃ g, g = (w.alloc (.cells #[.int .i64 ((f : Int) % 65536), .int .i64 ((f : Int) / 65536), .int .i64 (n : Int)] 3)).heap.size := ⟨_, rfl⟩
  have hs2 : SeesN .i64 w2 (.slice (some ⟨w.heap.size, 0, none⟩) 3 3) (rootOf n f) := HS1.out.below (by assumption)
  rw [← hg] at hk2 ⊢
  have hq2 : SeesN .i64 w2 (.slice (some ⟨g, 0, none⟩) 6 6) (squareOf n f) := sees_blk hk2 (square_len HN.out HF.out)
  have HW2 := hid (times_any _ _ _ _ w2 hq2 hs2 (by intro e; have := square_len HN.out HF.out; rw [e] at this; simp at this) (by simp [rootOf]) (by rw [square_len HN.out HF.out]; decide) (by simp [rootOf]) (square_lt HN.out HF.out) (rootOf_lt HN.out HF.out))
  have HB2 := hid hB2
  clear hB2 hk2 hs2 hq2 hg
  go_wp2_with fail
  refine HW2.out.mono ?_
  rintro e w3 ⟨rfl, hk3, hB3⟩
  rw [square_len HN.out HF.out, show 6 + (rootOf n f).length = 9 from rfl]
  have hB3 := HB2.out.trans (hB3.mono HB2.out.size)
  obtain ⟨g, hg⟩ : ∃ g, g = w2.heap.size := ⟨_, rfl⟩
  rw [← hg] at hk3 ⊢
  have hk : Blk w3 g .i64 q 3 := by rw [Hq.out]; exact hk3
  have HK := hid hk
  have HB := hid hB3
  clear hk hk3 hB3 Hq hg HN HF HW HS1 HB1 hn hf HW2 HB2
  go_wp2_with fail
  go_loopw [12, 13] (fun x i wr => ∃ j : Nat, 5 ≤ j ∧ j ≤ 8 ∧ i = .int .i64 j ∧ x = .int .i64 ((val (q.drop (j + 1)) : Nat) : Int) ∧ w3 = wr) (fun _ i _ => (intOf i).toNat)
  case atStart => exact ⟨8, by decide, by decide, rfl, by rw [List.drop_of_length_le (by rw [HLN.out]; decide)]; rfl, rfl⟩
  case round =>
    obtain ⟨j, h1, h2, rfl, rfl, rfl⟩ := hrel
    by_cases hlt : 6 ≤ j
    · have hv := val_lt (q.drop (j + 1)) (fun k => by rw [getD_drop0]; exact HLT.out _)
      rw [List.length_drop, HLN.out] at hv
      have hv2 := Nat.lt_of_lt_of_le hv (Nat.pow_le_pow_right (n := 65536) (by decide) (show 9 - (j + 1) ≤ 2 by omega))
      have hd := val_drop q j (by rw [HLN.out]; omega)
      have ly := HLT.out j
      have cy := HK.out.cell j (by rw [HLN.out]; omega)
      obtain ⟨V, hV⟩ : ∃ V, V = val (q.drop (j + 1)) := ⟨_, rfl⟩
      obtain ⟨y, hy⟩ : ∃ y, y = q.getD j 0 := ⟨_, rfl⟩
      rw [← hV] at hv2 hd ⊢
      rw [← hy] at hd ly cy
      have lV : V < 4294967296 := hv2
      have HD := hid hd
      have zj : (j : Int) < 9 := by omega
      clear hv hv2 hV hy hd
      go_wp2
      go_roundw
      case rel =>
        refine ⟨j - 1, by omega, by omega, ?_, ?_, by first | rfl | trivial⟩
        · rw [show ((j - 1 : Nat) : Int) = (j : Int) - 1 by omega]
        · rw [show j - 1 + 1 = j by omega, HD.out]; congr 1
      case measure => simp [intOf]; omega
    · obtain rfl : j = 5 := by omega
      have hv := val_lt (q.drop 6) (fun k => by rw [getD_drop0]; exact HLT.out _)
      rw [List.length_drop, HLN.out] at hv
      obtain ⟨V, hV⟩ : ∃ V, V = val (q.drop 6) := ⟨_, rfl⟩
      rw [show 5 + 1 = 6 from rfl, ← hV]
      rw [← hV] at hv HQ
      have lV : V < 281474976710656 := hv
      by_cases hne : V = p
      · subst hne
        clear hv hV
        go_wp2_with fail
        go_loopw [14] (fun i wr => ∃ m : Nat, m ≤ 6 ∧ i = .int .i64 m ∧ (∀ k, k < m → q.getD k 0 = 0) ∧ w3 = wr) (fun i _ => 6 - (intOf i).toNat)
        case atStart => exact ⟨0, Nat.zero_le _, rfl, fun k hk => by omega, rfl⟩
        case round =>
          obtain ⟨m, hm, rfl, hz, rfl⟩ := hrel
          have HZ := hid hz
          clear hz
          by_cases hm2 : m < 6
          · have cy := HK.out.cell m (by rw [HLN.out]; omega)
            have zj : (m : Int) < 9 := by omega
            have zs : (m : Int) < 6 := by omega
            obtain ⟨y, hy⟩ : ∃ y, y = q.getD m 0 := ⟨_, rfl⟩
            rw [← hy] at cy
            have HY := hid hy
            clear hy
            by_cases hy0 : y = 0
            · subst hy0
              go_wp2
              go_roundw
              case rel => exact ⟨m + 1, by omega, by go_num, fun k hk => by (rcases Nat.lt_or_ge k m with h | h; exact HZ.out k h; (obtain rfl : k = m := by omega); exact HY.out.symm), by first | rfl | trivial⟩
              case measure => simp [intOf]; omega
            · have hyb : ((y : Int) != 0) = true := by rw [bne_iff_ne]; omega
              go_wp2
              go_ret
              refine ⟨?_, HB.out⟩
              refine ret_bool (decide_eq_false ?_).symm
              intro h
              rcases HQ.out.1 h with h | ⟨_, h⟩
              · omega
              · exact hy0 (HY.out.trans (h m hm2))
          · obtain rfl : m = 6 := by omega
            go_wp2
            go_ret
            refine ⟨?_, HB.out⟩
            exact ret_bool (decide_eq_true (HQ.out.2 (Or.inr ⟨by first | rfl | trivial, HZ.out⟩))).symm
      · have hnb : ((V : Int) != (p : Int)) = true := by rw [bne_iff_ne]; omega
        clear hv hV
        go_wp2
        go_ret
        refine ⟨?_, HB.out⟩
        refine ret_bool ?_
        rw [decide_eq_decide]
        constructor
        · intro h; exact HQ.out.2 (Or.inl (by omega))
        · intro h
          rcases HQ.out.1 h with h | ⟨h, _⟩
          · omega
          · exact absurd h hne

end Go.Proofs.YtfefccmefmminaaDoor
