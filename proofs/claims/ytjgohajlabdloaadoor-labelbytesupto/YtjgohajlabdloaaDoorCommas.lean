/-
  The contracts of label's commas and Print.
-/
import Derived.Test.YtjgohajlabdloaaDoorTxt
import Derived.Test.YtjgohajlabdloaaDoorBytes
import Derived.Test.YtjgohajlabdloaaDoorShelf
namespace Go.Proofs.YtjgohajlabdloaaDoor
open Go.RowKit
set_option linter.unusedVariables false

/-- The table of powers lies below all that is made from here on. -/
def Pow (w : World) : Prop := Lib.TabBelow Tryd.prog w.heap.size w "internal/strconv.uint64pow10" .u64 Lib.pow10Tab
theorem Pow.below {w w' : World} (h : Pow w) (hb : Below w.heap.size w w') : Pow w' := fun w'' h'' => h w'' (hb.trans (h''.mono hb.size))

/-- Bytes as numbers. -/
def natsOf (l : List UInt8) : List Nat := l.map UInt8.toNat
theorem natsOf_app (a b : List UInt8) : natsOf (a ++ b) = natsOf a ++ natsOf b := by simp [natsOf]
theorem natsOf_len (a : List UInt8) : (natsOf a).length = a.length := by simp [natsOf]
theorem strOf_nats (l : List UInt8) : strOf (natsOf l) = ⟨l.toArray⟩ := by
  unfold strOf natsOf
  rw [List.map_map, List.map_congr_left (g := id) (fun x _ => by simp), List.map_id]
theorem byteCells_nats (l : List UInt8) : Lib.byteCells l = cellsN .u8 (natsOf l) := by
  unfold Lib.byteCells cellsN natsOf
  rw [List.map_map]
  rfl

theorem nDigits_le : ∀ (k u : Nat), u < 10 ^ (k + 1) → Lib.nDigits u ≤ k + 1
  | 0, u, h => by rw [Lib.nDigits_small (by simpa using h)]; omega
  | k + 1, u, h => by
    by_cases h1 : u < 10
    · rw [Lib.nDigits_small h1]
      omega
    · rw [Lib.nDigits_big h1]
      rw [Nat.pow_succ] at h
      have := nDigits_le k (u / 10) (by omega)
      omega
theorem itoa_len {x : Int} (h1 : 1 ≤ x) (h2 : x ≤ 2147483647) : (Lib.itoa x).length ≤ 10 := by
  rw [itoa_pos h1, Lib.decDigits_length]
  exact nDigits_le 9 _ (by simp; omega)
theorem commasL_bound : ∀ (l : List Int), (∀ x ∈ l, 1 ≤ x ∧ x ≤ 2147483647) → (commasL l).length ≤ 11 * l.length
  | [], _ => by simp [commasL]
  | [x], h => by
    have := itoa_len (h x (by simp)).1 (h x (by simp)).2
    simp [commasL]
    omega
  | x :: y :: r, h => by
    have h1 := itoa_len (h x (by simp)).1 (h x (by simp)).2
    have h2 := commasL_bound (y :: r) (fun z hz => h z (List.mem_cons_of_mem _ hz))
    rw [commasL_cons x (by simp)]
    simp only [List.length_append, List.length_cons] at h2 ⊢
    omega

theorem commas_take0 {l : List Int} {y : Int} (hk : 0 < l.length) (hy : y = l.getD 0 0) : natsOf (commasL (l.take (0 + 1))) = natsOf (commasL (l.take 0)) ++ natsOf (Lib.itoa y) := by
  rw [take_snoc hk hy]
  simp [commasL, natsOf]
theorem commas_takeS {l : List Int} {k : Nat} {y : Int} (hk : k < l.length) (h0 : 0 < k) (hy : y = l.getD k 0) : natsOf (commasL (l.take (k + 1))) = (natsOf (commasL (l.take k)) ++ [44]) ++ natsOf (Lib.itoa y) := by
  rw [take_snoc hk hy, commasL_snoc _ _ (by intro h; have := congrArg List.length h; rw [List.length_take, List.length_nil] at this; omega), natsOf_app]
  simp [natsOf]

theorem appendInt_any (x : Int) (v : Value) (xs : List Nat) (w : World) (B : Nat) (hO : OwnsN .u8 5 w B v xs) (hB : B ≤ w.heap.size) (hlen : xs.length ≤ 1000000) (h1 : 1 ≤ x) (h2 : x ≤ 2147483647) (hT : Lib.TabBelow Tryd.prog B w "internal/strconv.uint64pow10" .u64 Lib.pow10Tab) :
    Calls Tryd.prog 37 #[v, .int .i64 x, .int .i64 10] w fun e w' => ∃ v', e = .returned v' ∧ OwnsN .u8 5 w' B v' (xs ++ natsOf (Lib.itoa x)) ∧ Below B w w' := by
  refine (Tryd.strconv_AppendInt_10 B xs.length x (by omega) (by omega) v _ w hO hB (by omega) hT).mono ?_
  rintro e w' ⟨v', rfl, h1, h2, _⟩
  refine ⟨v', rfl, ?_, h2⟩
  unfold OwnsN
  rw [cellsN_app, List.length_append, natsOf_len, ← byteCells_nats]
  exact h1

set_option maxRecDepth 20000 in
set_option maxHeartbeats 2000000 in
theorem commas_any (v : Value) (l : List Int) (w : World) (hS : Sees w v l) (hl : l.length ≤ 64) (hc : catsP l) (hP : Pow w) :
    Calls Tryd.prog 20 #[v] w fun e w' => e = .returned (.string ⟨(commasL l).toArray⟩) ∧ Below w.heap.size w w' := by
  obtain ⟨b, off, ao, cap, rfl, hcap, _, hao, hcell⟩ := hS
  have HP := hid hP
  have HC := hid hc
  have HCE := hid hcell
  have HCB := hid (fun k => commasL_bound (l.take k) (catsP_take hc k).2)
  clear hP hc hcell
  go_enter Tryd.func20, Tryd.ntmps20
  go_wp2_with fail
  go_loopw [3, 8] (fun o i wr => ∃ (k : Nat), k ≤ l.length ∧ i = .int .i64 (k : Int) ∧ OwnsN .u8 5 wr w.heap.size o (natsOf (commasL (l.take k))) ∧ Below w.heap.size w wr) (fun _ i _ => l.length - (intOf i).toNat)
  case atStart => exact ⟨0, Nat.zero_le _, rfl, OwnsN.nil _ _ _ _, Below.refl _ _⟩
  case round =>
    obtain ⟨k, hk, rfl, hO, hB⟩ := hrel
    have hwsz := hB.size
    by_cases hlt : k < l.length
    · have hlt' : (k : Int) < (l.length : Int) := by omega
      have hne : l ≠ [] := by intro h; rw [h] at hlt; simp at hlt
      obtain rfl := hao hne
      obtain ⟨y, hy⟩ : ∃ y, y = l.getD k 0 := ⟨_, rfl⟩
      have hcy : wr.cell? ⟨b, off + k, none⟩ = some (.int .i64 y) := by
        have h0 := HCE.out k hlt
        have hb := World.block_lt_of_cell? w _ h0
        rw [hB.cell hb, h0, hy]
      have hyc := HC.out.2 y (by rw [hy]; simp [List.getD, hlt])
      have hbd : (natsOf (commasL (l.take k))).length ≤ 704 := by
        have := HCB.out k
        rw [natsOf_len]
        simp only [List.length_take] at this
        omega
      have HY := hid hy
      have HO := hid hO
      have HB := hid hB
      clear hy hO hB hne hao
      by_cases h0 : 0 < k
      · have h0' : (0 : Int) < (k : Int) := by omega
        have HN := hid (commas_takeS hlt h0 HY.out)
        generalize natsOf (commasL (l.take k)) = M at *
        go_wp2_with (first
          | (at_builtin
             refine wpList_appN rowBytes rfl _ _ rfl w.heap.size u3 M rfl (HO.out.below (below_alloc wr _)) _ [44] rfl (sees_b1 _ _ 44 rfl) (by simp; omega) (by simp; omega) ?_
             intro v2 w2 hO2 hG2
             have HB2 := hid (below_grownBy (HB.out.trans ((below_alloc wr _).mono hwsz)) hG2 (OwnsN.block HO.out) (by simp; omega))
             have hR := hid (appendInt_any y v2 (M ++ [44]) w2 w.heap.size hO2 HB2.out.size (by simp; omega) hyc.1 hyc.2 (HP.out.on HB2.out))
             clear hO2 hG2)
          | fail)
        refine hR.out.mono ?_
        clear hR
        rintro e w3 ⟨v3, rfl, hO3, hB3⟩
        rw [← HN.out] at hO3
        have HO3 := hid hO3
        have HB3 := hid (HB2.out.trans hB3)
        clear hO3 hB3 HB2
        go_wp2
        go_roundw
        case rel => exact ⟨k + 1, by omega, by go_num, HO3.out, HB3.out⟩
        case measure => simp [intOf]; omega
      · have h0' : decide ((0 : Int) < (k : Int)) = false := by simp; omega
        have h0a : ¬ (0 : Int) < (k : Int) := by omega
        have hk0 : k = 0 := by omega
        have HN : Hid (natsOf (commasL (l.take (k + 1))) = natsOf (commasL (l.take k)) ++ natsOf (Lib.itoa y)) := by
          unfold Hid
          have hlt2 := hlt
          have HY2 := HY.out
          rw [hk0] at hlt2 HY2 ⊢
          exact commas_take0 hlt2 HY2
        have hR := hid (appendInt_any y u3 _ wr w.heap.size HO.out hwsz (by omega) hyc.1 hyc.2 (HP.out.on HB.out))
        rw [← HN.out] at hR
        clear hk0
        go_wp2_with fail
        refine hR.out.mono ?_
        clear hR
        rintro e w3 ⟨v3, rfl, hO3, hB3⟩
        have HO3 := hid hO3
        have HB3 := hid (HB.out.trans hB3)
        clear hO3 hB3
        go_wp2
        go_roundw
        case rel => exact ⟨k + 1, by omega, by go_num, HO3.out, HB3.out⟩
        case measure => simp [intOf]; omega
    · have hlt' : decide ((k : Int) < (l.length : Int)) = false := by simp; omega
      rw [List.take_of_length_le (by omega)] at hO
      have hcv := conv_own hO
      rw [strOf_nats] at hcv
      have HB := hid hB
      clear hO hB
      go_wp2
      go_ret
      exact ⟨rfl, HB.out⟩
end Go.Proofs.YtjgohajlabdloaaDoor
