/-
  Encode: the code's and the document's.
-/
import Derived.Test.YtomjclkijakcpaaDoorLeaf
namespace Go.Proofs.YtomjclkijakcpaaDoor
open Go.RowKit
set_option linter.unusedVariables false

theorem index_byte (s : ByteArray) (q : IntKind) (i : Int) (n : Nat) (hi : i = (n : Int)) (hn : n < s.size) (w : World) : (Instr.index 9 (.string s) (.int q i)).run Tryd.prog w = .ok (.int .u8 ((s[n].toNat : Nat) : Int)) w := by
  subst hi
  rw [run_index_string w 9 s q n Tryd.underlying9]
  simp [hn]

def digitsB : ByteArray := ⟨#[48, 49, 50, 51, 52, 53, 54, 55, 56, 57, 65, 66, 67, 68, 69, 70]⟩
theorem digitsB_get : ∀ n : Nat, (h : n < 16) → (digitsB[n]'h).toNat = (hexU n).toNat := by decide
theorem index_dig (q : IntKind) (i : Int) (n : Nat) (hi : i = (n : Int)) (hn : n < 16) (w : World) : (Instr.index 9 (.string { data := #[48, 49, 50, 51, 52, 53, 54, 55, 56, 57, 65, 66, 67, 68, 69, 70] }) (.int q i)).run Tryd.prog w = .ok (.int .u8 (((hexU n).toNat : Nat) : Int)) w := by
  rw [← digitsB_get n hn]
  exact index_byte digitsB q i n hi hn w

theorem sees_b3 (w : World) (x y z : Int) (l m n : Nat) (h0 : x = (l : Int)) (h : y = (m : Int)) (h2 : z = (n : Int)) : SeesN .u8 (w.alloc (.cells #[.int .u8 x, .int .u8 y, .int .u8 z] 5)) (.slice (some ⟨w.heap.size, 0, none⟩) 3 3) [l, m, n] := by
  subst h0 h h2
  refine ⟨w.heap.size, 0, _, 3, rfl, Nat.le_refl _, (fun h => by cases h), fun _ => rfl, fun j hj => ?_⟩
  have : j = 0 ∨ j = 1 ∨ j = 2 := by simp at hj; omega
  rcases this with rfl | rfl | rfl <;> simp

theorem enc_take (s : ByteArray) (k : Nat) (h : k < s.size) : enc (s.data.toList.take (k + 1)) = enc (s.data.toList.take k) ++ enc1 s[k] := by
  have h' : k < s.data.toList.length := by rw [len_str]; exact h
  rw [List.take_succ_eq_append_getElem h', enc_append]
  show _ = enc (s.data.toList.take k) ++ enc1 s.data.toList[k]
  simp [enc]
theorem enc1_plain {b : UInt8} (h : plainB b = true) : enc1 b = [b] := by rw [enc1, if_pos h]
theorem enc1_sign {b : UInt8} (h : plainB b = false) : enc1 b = [37, hexU (b.toNat / 16), hexU (b.toNat % 16)] := by rw [enc1, if_neg (by rw [h]; simp)]
theorem enc_pre (s : ByteArray) (k : Nat) : (enc (s.data.toList.take k)).length ≤ 3 * k := by
  have := enc_len (s.data.toList.take k)
  rw [List.length_take] at this
  omega
theorem ownsB_len {w : World} {B : Nat} {u : Value} {l : List UInt8} (h : OwnsB w B u l) : OwnsN .u8 5 w B u (l.map UInt8.toNat) := h

set_option maxRecDepth 20000 in
set_option maxHeartbeats 1000000 in
theorem appendEncoded_any (s : ByteArray) (v : Value) (xs : List UInt8) (w : World) (B : Nat) (hO : OwnsB w B v xs) (hB : B ≤ w.heap.size) (hlen : xs.length + 3 * s.size ≤ 140737488355328) :
    Calls Tryd.prog 18 #[v, .string s] w fun e w' => ∃ v', e = .returned v' ∧ OwnsB w' B v' (xs ++ enc s.data.toList) ∧ Below B w w' := by
  have HO0 := hid hO
  clear hO
  go_enter Tryd.func18, Tryd.ntmps18
  go_wp2_with fail
  go_loopw [0, 8] (fun u i wr => ∃ (k : Nat) (ys : List UInt8), k ≤ s.size ∧ i = .int .i64 (k : Int) ∧ ys = xs ++ enc (s.data.toList.take k) ∧ OwnsB wr B u ys ∧ Below B w wr) (fun _ i _ => s.size - (intOf i).toNat)
  case atStart => exact ⟨0, xs, Nat.zero_le _, rfl, by simp [enc], HO0.out, Below.refl _ _⟩
  clear HO0
  case round =>
    obtain ⟨k, ys, hk, rfl, hys, hO, hBl⟩ := hrel
    have hsw : B ≤ wr.heap.size := Nat.le_trans hB hBl.size
    by_cases hlt : k < s.size
    · have hlt' : (k : Int) < (s.size : Int) := by omega
      have hyl : ys.length + 3 ≤ 140737488355328 := by
        have := enc_pre s k
        rw [hys, List.length_append]
        omega
      have hN : ∀ zs, zs = enc1 (s[k]'hlt) → ys ++ zs = xs ++ enc (s.data.toList.take (k + 1)) := by
        intro zs hz
        rw [hz, enc_take s k hlt, hys, List.append_assoc]
      obtain ⟨b, hb⟩ : ∃ b, b = s[k]'hlt := ⟨_, rfl⟩
      have hP := plain_any b wr
      have i1 := index_byte s .i64 (k : Int) k rfl hlt
      rw [← hb] at hN i1
      have HN := hid hN
      have HO := hid hO
      have HBl := hid hBl
      obtain ⟨ao, cap, rfl⟩ := hO.shape
      clear hys hO hBl hN
      cases hp : plainB b
      · rw [hp] at hP
        have e1 := enc1_sign hp
        have lb := b.toNat_lt
        have i2 := index_dig .u8 ((b.toNat : Int) / 16) (b.toNat / 16) (by omega) (by omega)
        have i3 := index_dig .u8 (bits .and .u8 (b.toNat : Int) 15) (b.toNat % 16) (by rw [show (15 : Int) = ((15 : Nat) : Int) from rfl, u8_and_nat _ _ lb (by decide), show b.toNat &&& 15 = b.toNat % 16 from Nat.and_two_pow_sub_one_eq_mod b.toNat 4]) (by omega)
        have HE := hid (HN.out _ e1.symm)
        clear HN e1 hp
        clear hb
        go_wp2_with fail
        refine hP.mono ?_
        clear hP
        rintro e w1 ⟨rfl, hw1⟩
        subst hw1
        go_wp2_with fail
        go_region_held3 (fun _ => True) (trivial)
          (first | (refine step_appN rowBytes (by rfl) _ _ (by rfl) B (.slice ao ys.length cap) (ys.map UInt8.toNat) (by rfl) ?ho _ [37, (hexU (b.toNat / 16)).toNat, (hexU (b.toNat % 16)).toNat] (by rfl) (by simp) (sees_b3 wr _ _ _ 37 _ _ rfl rfl rfl) (by simp; omega) (by simp; omega) ?_; (case ho => exact HO.out.below (below_ad wr _)); intro v4 w4 hO4 hG4))
        all_goals
          have HO4 : Hid (OwnsB w4 B v4 (xs ++ enc (s.data.toList.take (k + 1)))) := by
            unfold Hid OwnsB
            rw [← HE.out]
            simpa using hO4
          have HB4 := hid (below_grownBy (HBl.out.trans ((below_ad wr _).mono hsw)) hG4 (OwnsB.block HO.out) (by simp; omega))
          clear hO4 hG4
          go_wp2
          go_roundw
          case rel => exact ⟨k + 1, _, by omega, by go_num, rfl, HO4.out, HB4.out⟩
          case measure => simp [intOf]; omega
      · rw [hp] at hP
        have e1 := enc1_plain hp
        have HE := hid (HN.out _ e1.symm)
        clear HN e1 hp
        clear hb
        go_wp2_with fail
        refine hP.mono ?_
        clear hP
        rintro e w1 ⟨rfl, hw1⟩
        subst hw1
        go_wp2_with (first
          | (at_builtin
             refine wpList_appN rowBytes rfl _ _ rfl B (.slice ao ys.length cap) (ys.map UInt8.toNat) rfl (HO.out.below (below_alloc wr _)) _ [b.toNat] rfl (sees_b1 _ _ _ rfl) (by simp; omega) (by simp; omega) ?_
             intro v4 w4 hO4 hG4
             have HO4 : Hid (OwnsB w4 B v4 (xs ++ enc (s.data.toList.take (k + 1)))) := by
               unfold Hid OwnsB
               rw [← HE.out]
               simpa using hO4
             have HB4 := hid (below_grownBy (HBl.out.trans ((below_alloc wr _).mono hsw)) hG4 (OwnsB.block HO.out) (by simp; omega))
             clear hO4 hG4)
          | fail)
        go_roundw
        case rel => exact ⟨k + 1, _, by omega, by go_num, rfl, HO4.out, HB4.out⟩
        case measure => simp [intOf]; omega
    · have hks : k = s.size := by omega
      have hlt' : ¬ (k : Int) < (s.size : Int) := by omega
      rw [hks, List.take_of_length_le (by rw [len_str]; exact Nat.le_refl _)] at hys
      have HY := hid hys
      have HO := hid hO
      have HBl := hid hBl
      clear hys hO hBl hks
      go_wp2
      go_ret
      exact ⟨_, rfl, by rw [← HY.out]; exact HO.out, HBl.out⟩

end Go.Proofs.YtomjclkijakcpaaDoor
