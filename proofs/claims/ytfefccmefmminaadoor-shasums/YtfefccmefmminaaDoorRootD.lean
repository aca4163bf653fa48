/-
  What stands behind a root's point, thirty-two places of it: the document's 'behind'.
-/
import Derived.Test.YtfefccmefmminaaDoorRootC
namespace Go.Proofs.YtfefccmefmminaaDoor
open Go.RowKit
set_option linter.unusedVariables false

theorem below_at (p n f : Nat) (N F : Int) (c : Bool) (w : World) (hp : p < 2147483648) (hn : n < 65536) (hf : f < 4294967296) (hN : N = (n : Int)) (hF : F = (f : Int)) :
    Calls Tryd.prog 42 #[.int .i64 p, .int .i64 N, .int .i64 F, .bool c] w fun e w' => e = .returned (.bool (belowB p n f c)) ∧ Below w.heap.size w w' := by
  subst hN hF
  cases c with
  | false => exact below_square p n f w hp hn hf
  | true => exact below_cube p n f w hp hn hf

def fracTo (p n : Nat) (c : Bool) : Nat → Nat
  | 0 => 0
  | k + 1 => if belowB p n (fracTo p n c k + 2 ^ (31 - k)) c = true then fracTo p n c k + 2 ^ (31 - k) else fracTo p n c k

theorem frac_lt (p n : Nat) (c : Bool) : ∀ k, k ≤ 32 → fracTo p n c k + 2 ^ (32 - k) ≤ 4294967296
  | 0, _ => by simp [fracTo]
  | k + 1, h => by
    have ih := frac_lt p n c k (by omega)
    have e : 2 ^ (32 - k) = 2 ^ (31 - k) * 2 := by rw [← Nat.pow_succ]; congr 1; omega
    rw [fracTo, show 32 - (k + 1) = 31 - k by omega]
    split <;> omega

theorem pow_pos2 (k : Nat) : 0 < 2 ^ k := Nat.pos_of_ne_zero (by simp)

set_option maxRecDepth 20000 in
set_option maxHeartbeats 2000000 in
theorem behind_any (p n : Nat) (c : Bool) (w : World) (hp : p < 2147483648) (h1 : 1 ≤ n) (hn : n < 65535) (hlow : ∀ k, 1 ≤ k → k < n → belowB p (k + 1) 0 c = true) (hstop : belowB p (n + 1) 0 c = false) :
    Calls Tryd.prog 35 #[.int .i64 p, .bool c] w fun e w' => e = .returned (.int .i64 ((fracTo p n c 32 : Nat) : Int)) ∧ Below w.heap.size w w' := by
  have HLow := hid hlow
  have HStop := hid hstop
  clear hlow hstop
  go_enter Tryd.func35, Tryd.ntmps35
  go_wp2_with fail
  go_loopw [5] (fun x wr => ∃ m : Nat, 1 ≤ m ∧ m ≤ n ∧ x = .int .i64 m ∧ Below w.heap.size w wr) (fun x _ => n - (intOf x).toNat)
  case atStart => exact ⟨1, by omega, h1, rfl, Below.refl _ _⟩
  case round =>
    obtain ⟨m, hm1, hm2, rfl, hB⟩ := hrel
    have HB := hid hB
    clear hB
    by_cases hlt : m < n
    · have ht := HLow.out m hm1 hlt
      go_wp2_with fail
      refine (below_at p (m + 1) 0 _ _ c wr hp (by omega) (by decide) (by omega) (by rfl)).mono ?_
      rw [ht]
      rintro e w2 ⟨rfl, hB2⟩
      have HB2 := hid (HB.out.trans (hB2.mono HB.out.size))
      clear hB2 ht HB
      go_wp2
      go_roundw
      case rel => exact ⟨m + 1, by omega, by omega, by go_num, HB2.out⟩
      case measure => simp [intOf]; omega
    · obtain rfl : m = n := by omega
      have ht := HStop.out
      go_wp2_with fail
      refine (below_at p (m + 1) 0 _ _ c wr hp (by omega) (by decide) (by omega) (by rfl)).mono ?_
      rw [ht]
      rintro e w2 ⟨rfl, hB2⟩
      have HB2 := hid (HB.out.trans (hB2.mono HB.out.size))
      clear hB2 ht HB
      go_wp2_with fail
      go_loopw [6, 7] (fun x i wr => ∃ k : Nat, k ≤ 32 ∧ i = .int .i64 ((31 : Int) - (k : Int)) ∧ x = .int .i64 ((fracTo p m c k : Nat) : Int) ∧ Below w.heap.size w wr) (fun _ i _ => (intOf i + 1).toNat)
      case atStart => exact ⟨0, by decide, rfl, rfl, HB2.out⟩
      clear HB2
      case round =>
        obtain ⟨k, hk, rfl, rfl, hB⟩ := hrel
        have HB := hid hB
        clear hB
        by_cases hk2 : k < 32
        · obtain ⟨I, hI⟩ : ∃ I : Nat, I = 31 - k := ⟨_, rfl⟩
          have hf := frac_lt p m c k (by omega)
          have e : 2 ^ (32 - k) = 2 ^ (31 - k) * 2 := by rw [← Nat.pow_succ]; congr 1; omega
          rw [e, ← hI] at hf
          have hpp := pow_pos2 I
          rw [show (31 : Int) - (k : Int) = (I : Int) by omega]
          obtain ⟨x, hx⟩ : ∃ x, x = 2 ^ I := ⟨_, rfl⟩
          obtain ⟨f, hff⟩ : ∃ f, f = fracTo p m c k := ⟨_, rfl⟩
          rw [← hff, ← hx] at hf
          rw [← hff]
          rw [← hx] at hpp
          have s2 : wrap64 ((2 : Int) ^ I) = (x : Int) := by
            rw [show (2 : Int) ^ I = ((2 ^ I : Nat) : Int) by simp, ← hx]
            unfold wrap64
            omega
          have s3 : wrap64 ((2 : Int) ^ min I 64) = (x : Int) := by rw [Nat.min_eq_left (by omega)]; exact s2
          have hstep : fracTo p m c (k + 1) = if belowB p m (f + x) c = true then f + x else f := by rw [fracTo, ← hI, ← hff, ← hx]
          have HStep := hid hstep
          have hIk : (I : Int) = 31 - (k : Int) := by omega
          have hI31 : I ≤ 31 := by omega
          have HIK := hid hIk
          clear e hI hff hx hstep hIk
          have hbl := below_at p m (f + x) (m : Int) ((f : Int) + (x : Int)) c wr hp (by omega) (by omega) rfl (by omega)
          obtain ⟨B, hBv⟩ : ∃ B, B = belowB p m (f + x) c := ⟨_, rfl⟩
          rw [← hBv] at hbl HStep
          have HBl := hid hbl
          clear hbl hBv
          go_wp2_with fail
          refine HBl.out.mono ?_
          rintro e w2 ⟨rfl, hB2⟩
          have HB2 := hid (HB.out.trans (hB2.mono HB.out.size))
          clear hB2 HB HBl
          cases B with
          | true =>
            have hs : fracTo p m c (k + 1) = f + x := by rw [HStep.out]; rfl
            have HS := hid hs
            clear hs
            go_wp2
            go_roundw
            case rel => exact ⟨k + 1, by omega, by have := HIK.out; go_num, by rw [HS.out]; simp, HB2.out⟩
            case measure => (simp [intOf]; try omega)
          | false =>
            have hs : fracTo p m c (k + 1) = f := by rw [HStep.out]; rfl
            have HS := hid hs
            clear hs
            go_wp2
            go_roundw
            case rel => exact ⟨k + 1, by omega, by have := HIK.out; go_num, by rw [HS.out], HB2.out⟩
            case measure => (simp [intOf]; try omega)
        · obtain rfl : k = 32 := by omega
          go_wp2
          go_ret
          exact ⟨rfl, HB.out⟩
end Go.Proofs.YtfefccmefmminaaDoor
