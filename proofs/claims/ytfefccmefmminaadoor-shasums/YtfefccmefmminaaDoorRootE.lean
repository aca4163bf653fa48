/-
  The first sixty-four primes, as the document finds them.
-/
import Derived.Test.YtfefccmefmminaaDoorRootA
namespace Go.Proofs.YtfefccmefmminaaDoor
open Go.RowKit
set_option linter.unusedVariables false

def newPrime (n : Nat) (l : List Nat) : Bool := l.all fun x => n % x != 0
def psTo : Nat → List Nat
  | 0 => []
  | m + 1 => if newPrime (m + 2) (psTo m) = true then psTo m ++ [m + 2] else psTo m
def psF : Nat → List Nat → Nat → List Nat
  | 0, acc, _ => acc
  | n + 1, acc, m => seq (m + 1) fun m' => if newPrime m' acc = true then psF n (m' :: acc) m' else psF n acc m'
theorem psF_eq : ∀ n m, psF n (psTo m).reverse (m + 1) = (psTo (m + n)).reverse
  | 0, m => rfl
  | n + 1, m => by
    have ih := psF_eq n (m + 1)
    rw [show m + (n + 1) = m + 1 + n by omega, ← ih, psF, seq_eq, psTo]
    have h : newPrime (m + 1 + 1) (psTo m).reverse = newPrime (m + 2) (psTo m) := by unfold newPrime; rw [List.all_reverse]
    rw [h]
    split <;> simp
def P64 : List Nat := [2, 3, 5, 7, 11, 13, 17, 19, 23, 29, 31, 37, 41, 43, 47, 53, 59, 61, 67, 71, 73, 79, 83, 89, 97, 101, 103, 107, 109, 113, 127, 131, 137, 139, 149, 151, 157, 163, 167, 173, 179, 181, 191, 193, 197, 199, 211, 223, 227, 229, 233, 239, 241, 251, 257, 263, 269, 271, 277, 281, 283, 293, 307, 311]
theorem ps_all : psTo 310 = P64 := by
  have h := psF_eq 310 0
  have k : psF 310 [] 1 = P64.reverse := by decide +kernel
  have e : (psTo (0 + 310)).reverse = P64.reverse := h.symm.trans k
  rw [Nat.zero_add] at e
  exact List.reverse_inj.1 e
theorem ps_mem : ∀ m x, x ∈ psTo m → 2 ≤ x ∧ x ≤ m + 1
  | 0, x, h => by simp [psTo] at h
  | m + 1, x, h => by
    rw [psTo] at h
    split at h
    · rcases List.mem_append.1 h with h | h
      · have := ps_mem m x h; omega
      · simp at h; omega
    · have := ps_mem m x h; omega
theorem ps_step_len (m : Nat) : (psTo m).length ≤ (psTo (m + 1)).length := by
  rw [psTo]
  split
  · simp
  · exact Nat.le_refl _
theorem ps_mono : ∀ d m, (psTo m).length ≤ (psTo (m + d)).length
  | 0, m => Nat.le_refl _
  | d + 1, m => Nat.le_trans (ps_mono d m) (ps_step_len (m + d))
theorem ps_few {m : Nat} (h : m < 310) : (psTo m).length < 64 := by
  have h1 := psF_eq 309 0
  have k : (psF 309 [] 1).length = 63 := by decide +kernel
  rw [show (psTo 0).reverse = [] from rfl] at h1
  rw [h1, List.length_reverse] at k
  have h2 := ps_mono (309 - m) m
  rw [show m + (309 - m) = 0 + 309 by omega, k] at h2
  omega
theorem ps_getD {m j : Nat} (h : j < (psTo m).length) : 2 ≤ (psTo m).getD j 0 ∧ (psTo m).getD j 0 ≤ m + 1 := by
  refine ps_mem m _ ?_
  simp only [List.getD, List.getElem?_eq_getElem h, Option.getD_some]
  exact List.getElem_mem h
theorem new_take {n : Nat} {l : List Nat} {j : Nat} (h : j < l.length) : newPrime n (l.take (j + 1)) = (newPrime n (l.take j) && (n % l.getD j 0 != 0)) := by
  unfold newPrime
  rw [List.take_add_one, List.all_append]
  simp [List.getD, List.getElem?_eq_getElem h]

theorem mod_ne (a b : Nat) : ((a : Int) % (b : Int) != 0) = (a % b != 0) := by
  rw [← Int.natCast_emod]
  obtain ⟨r, hr⟩ : ∃ r, r = a % b := ⟨_, rfl⟩
  rw [← hr, Bool.eq_iff_iff, bne_iff_ne, bne_iff_ne]
  omega

set_option maxRecDepth 20000 in
set_option maxHeartbeats 2000000 in
theorem primes_any (w : World) : Calls Tryd.prog 34 #[.int .i64 64] w fun e w' => ∃ v', e = .returned v' ∧ OwnsN .i64 3 w' w.heap.size v' P64 ∧ Below w.heap.size w w' := by
  go_enter Tryd.func34, Tryd.ntmps34
  go_wp2_with fail
  go_loopw [3, 4] (fun u x wr => ∃ m : Nat, m ≤ 310 ∧ x = .int .i64 ((m + 2 : Nat) : Int) ∧ OwnsN .i64 3 wr w.heap.size u (psTo m) ∧ Below w.heap.size w wr) (fun _ x _ => 312 - (intOf x).toNat)
  case atStart => exact ⟨0, by decide, rfl, OwnsN.nil _ _ _ _, Below.refl _ _⟩
  case round =>
    obtain ⟨m, hm, rfl, hO, hBe⟩ := hrel
    have hsw := hBe.size
    have hL64 : (psTo m).length < 64 → m < 310 := fun h => by
      rcases Nat.lt_or_ge m 310 with h' | h'
      · exact h'
      · obtain rfl : m = 310 := by omega
        rw [ps_all] at h
        exact absurd h (by decide)
    have hL64' : m < 310 ∨ m = 310 := by omega
    by_cases hL : (psTo m).length < 64
    · have hm2 := hL64 hL
      obtain ⟨ao, cap, rfl⟩ := hO.shape
      have hS := hO.sees
      obtain ⟨sb, soff, sao, scap, hsv, hscap, hsnil, hsne, hscell⟩ := hS
      have hsa : ao = sao := by injection hsv
      subst hsa
      obtain ⟨L, hLL⟩ : ∃ L, L = (psTo m).length := ⟨_, rfl⟩
      obtain ⟨N, hN⟩ : ∃ N, N = m + 2 := ⟨_, rfl⟩
      rw [← hLL] at hL hO hscell ⊢
      rw [← hN]
      have HO := hid hO
      have HBe := hid hBe
      have HC := hid hscell
      have HNE := hid hsne
      have HLL := hid hLL
      have HN := hid hN
      have hN1 : N ≤ 400 := by omega
      obtain ⟨w7, hw7⟩ : ∃ w7, w7 = wr := ⟨_, rfl⟩
      rw [← hw7] at HO HBe HC hsw ⊢
      clear hO hBe hscell hsne hLL hN hw7 hsv hscap hsnil hL64 hL64'
      have zL : (L : Int) < 64 := by omega
      go_wp2_with fail
      go_loopw [5, 6] (fun b i wr => ∃ j : Nat, j ≤ L ∧ i = .int .i64 j ∧ b = .bool (newPrime N ((psTo m).take j)) ∧ w7 = wr) (fun _ i _ => L - (intOf i).toNat)
      case atStart => exact ⟨0, Nat.zero_le _, rfl, rfl, rfl⟩
      case round =>
        obtain ⟨j, hj, rfl, rfl, rfl⟩ := hrel
        by_cases hjl : j < L
        · have hne : psTo m ≠ [] := by intro e; have := HLL.out; rw [e] at this; simp at this; omega
          obtain rfl := HNE.out hne
          have hg := ps_getD (m := m) (j := j) (by rw [← HLL.out]; exact hjl)
          have hnt := new_take (n := N) (l := psTo m) (j := j) (by rw [← HLL.out]; exact hjl)
          have cy := HC.out j hjl
          obtain ⟨y, hy⟩ : ∃ y, y = (psTo m).getD j 0 := ⟨_, rfl⟩
          rw [← hy] at hg hnt cy
          have HNT := hid hnt
          obtain ⟨B, hB⟩ : ∃ B, B = newPrime N ((psTo m).take j) := ⟨_, rfl⟩
          rw [← hB] at HNT ⊢
          have zj : (j : Int) < (L : Int) := by omega
          have hg1 := hg.1
          have hg2 := hg.2
          clear hne hy hnt hB hg
          cases B with
          | true =>
            go_wp2
            go_roundw
            case rel =>
              refine ⟨j + 1, by omega, by go_num, ?_, by first | rfl | trivial⟩
              rw [HNT.out, Bool.true_and, mod_ne]
            case measure => simp [intOf]; omega
          | false =>
            go_wp2
            go_roundw
            case rel =>
              refine ⟨j + 1, by omega, by go_num, ?_, by first | rfl | trivial⟩
              rw [HNT.out]
              rfl
            case measure => simp [intOf]; omega
        · obtain rfl : j = L := by omega
          have hfull : (psTo m).take j = psTo m := by rw [HLL.out]; exact List.take_length
          rw [hfull]
          have hnext : psTo (m + 1) = if newPrime N (psTo m) = true then psTo m ++ [N] else psTo m := by rw [psTo, ← HN.out]
          obtain ⟨B, hB⟩ : ∃ B, B = newPrime N (psTo m) := ⟨_, rfl⟩
          rw [← hB] at hnext ⊢
          have HX := hid hnext
          clear hfull hnext hB
          cases B with
          | true =>
            have hx : psTo (m + 1) = psTo m ++ [N] := by rw [HX.out]; rfl
            have HX2 := hid hx
            clear hx
            go_wp2_with (first | (at_builtin; refine wpList_appN rowInts rfl _ _ rfl w.heap.size (.slice ao j cap) (psTo m) rfl (HO.out.below (below_alloc w7 _)) _ [N] rfl (sees_i1 w7 _ _ rfl) (by rw [← HLL.out]; simp; omega) (by simp; omega) ?_; intro v4 w4 hO4 hG4))
            have HO4 := hid (show OwnsN .i64 3 w4 w.heap.size v4 (psTo (m + 1)) by rw [HX2.out]; exact hO4)
            have HB4 := hid (below_grownBy (HBe.out.trans ((below_alloc w7 _).mono hsw)) hG4 (OwnsN.block HO.out) (by simp; omega))
            clear hO4 hG4
            go_roundw
            case rel =>
              have hIk : (.int .i64 ((N : Int) + 1) : Value) = .int .i64 ((m + 1 + 2 : Nat) : Int) := by have := HN.out; rw [this]; congr 1
              first | exact ⟨m + 1, by omega, hIk, HO4.out, HB4.out⟩ | ((repeat apply Exists.intro); exact ⟨⟨m + 1, by omega, hIk, HO4.out, HB4.out⟩, rfl⟩)
            case measure => have := HN.out; simp [intOf]; omega
          | false =>
            have hx : psTo (m + 1) = psTo m := by rw [HX.out]; rfl
            have HO4 := hid (show OwnsN .i64 3 w7 w.heap.size (.slice ao j cap) (psTo (m + 1)) by rw [hx]; exact HO.out)
            clear hx
            go_wp2
            go_roundw
            case rel =>
              have hIk : (.int .i64 ((N : Int) + 1) : Value) = .int .i64 ((m + 1 + 2 : Nat) : Int) := by have := HN.out; rw [this]; congr 1
              first | exact ⟨m + 1, by omega, hIk, HO4.out, HBe.out⟩ | ((repeat apply Exists.intro); exact ⟨⟨m + 1, by omega, hIk, HO4.out, HBe.out⟩, rfl⟩)
            case measure => have := HN.out; simp [intOf]; omega
    · have h310 : m = 310 := by
        rcases hL64' with h | h
        · exact absurd (ps_few h) hL
        · exact h
      subst h310
      rw [ps_all] at hO
      obtain ⟨ao, cap, rfl⟩ := hO.shape
      have HO := hid hO
      have HBe := hid hBe
      rw [show P64.length = 64 from rfl] at HO ⊢
      clear hO hBe
      go_wp2
      go_ret
      exact ⟨_, rfl, HO.out, HBe.out⟩
end Go.Proofs.YtfefccmefmminaaDoor
