/-
  The walk of SetWords: it returns true for any two lists of texts that are not too long.
-/
import Derived.Test.YtaillppmfbbnjaaWordsSetB
import Derived.Test.YtaillppmfbbnjaaAwake
namespace Go.Proofs.Ytaillppmfbbnjaa
open Go.RowKit
set_option linter.unusedVariables false

theorem take_eq_succT {xs ys : List (List UInt8)} {k : Nat} {x y : List UInt8} (hk : k < xs.length) (hk2 : k < ys.length) (hx : x = xs.getD k []) (hy : y = ys.getD k []) (h : xs.take k = ys.take k) (he : x = y) : xs.take (k + 1) = ys.take (k + 1) := by
  rw [List.take_succ_eq_append_getElem hk, List.take_succ_eq_append_getElem hk2, h]
  simp only [List.getD, List.getElem?_eq_getElem hk, List.getElem?_eq_getElem hk2, Option.getD_some] at hx hy
  rw [← hx, ← hy, he]

/-- The bytes of a text. -/
theorem toList_of {s : ByteArray} {x : List UInt8} (h : s = ⟨x.toArray⟩) : s.toList = x := by rw [h, ByteArray.toList_mk]

set_option maxHeartbeats 1000000 in
theorem texts_any (v u : Value) (xs ys : List (List UInt8)) (w : World) (hS : SeesS w v xs) (hT : SeesS w u ys) (hlen : xs.length ≤ 4611686018427387904) (hlen2 : ys.length ≤ 4611686018427387904) :
    Calls Try.prog 28 #[v, u] w fun e w' => e = .returned (.bool (decide (xs = ys))) ∧ Below w.heap.size w w' := by
  obtain ⟨b, off, ao, cap, rfl, hcap, _, hao, hcell⟩ := hS
  obtain ⟨b2, off2, ao2, cap2, rfl, hcap2, _, hao2, hcell2⟩ := hT
  by_cases hll : xs.length = ys.length
  · have h0 : ((xs.length : Int) != (ys.length : Int)) = false := by rw [hll]; simp
    have HLL : Hid (xs.length = ys.length) := hll
    clear hll
    go_enter Try.func28, Try.ntmps28
    go_wp2
    go_loopw [5] (fun i wr => ∃ k n : Nat, k ≤ xs.length ∧ i = .int .i64 k ∧ xs.take k = ys.take k ∧ wr = w.drewN n) (fun i _ => xs.length - (intOf i).toNat)
    case atStart => exact ⟨0, 0, Nat.zero_le _, rfl, by simp, rfl⟩
    case round =>
      obtain ⟨k, n, hk, rfl, hnot, rfl⟩ := hrel
      by_cases hlt : k < xs.length
      · have hlt2 : k < ys.length := by have := HLL.out; omega
        have hne : xs ≠ [] := by intro h; rw [h] at hlt; simp at hlt
        have hne2 : ys ≠ [] := by intro h; rw [h] at hlt2; simp at hlt2
        obtain rfl := hao hne
        obtain rfl := hao2 hne2
        obtain ⟨x, hx⟩ : ∃ y, y = xs.getD k [] := ⟨_, rfl⟩
        obtain ⟨y, hy⟩ : ∃ y, y = ys.getD k [] := ⟨_, rfl⟩
        obtain ⟨s, hs⟩ : ∃ s : ByteArray, s = ⟨x.toArray⟩ := ⟨_, rfl⟩
        obtain ⟨t, ht⟩ : ∃ s : ByteArray, s = ⟨y.toArray⟩ := ⟨_, rfl⟩
        have hc : w.cell? ⟨b, off + k, none⟩ = some (.string s) := by rw [hcell k hlt, ← hx, hs]
        have hc2 : w.cell? ⟨b2, off2 + k, none⟩ = some (.string t) := by rw [hcell2 k hlt2, ← hy, ht]
        have HX : Hid (x = xs.getD k []) := hx
        have HY : Hid (y = ys.getD k []) := hy
        have HN : Hid (xs.take k = ys.take k) := hnot
        have es := toList_of hs
        have et := toList_of ht
        by_cases hyx : x = y
        · have hq : (s.toList == t.toList) = true := by rw [es, et, hyx]; simp
          have HE : Hid (x = y) := hyx
          clear hyx hx hy hcell hcell2 hnot hne hne2 hao hao2 hs ht es et
          go_wp2
          go_quiet (fail)
          go_wp2
          go_roundw
          case rel => exact ⟨k + 1, _, by omega, by go_num, take_eq_succT hlt hlt2 HX.out HY.out HN.out HE.out, rfl⟩
          case measure => simp [intOf]; omega
        · have hq : (s.toList == t.toList) = false := by rw [es, et]; simpa using hyx
          have HE : Hid (x ≠ y) := hyx
          clear hyx hx hy hcell hcell2 hnot hne hne2 hao hao2 hs ht es et
          go_wp2
          go_quiet (fail)
          go_wp2
          go_ret
          refine ⟨ret_bool ?_, below_drewN (below_drewN (Below.refl _ _) _) _⟩
          have hn : xs ≠ ys := by
            intro h
            apply HE.out
            rw [HX.out, HY.out, h]
          simp [hn]
      · go_wp2
        go_ret
        refine ⟨ret_bool ?_, below_drewN (Below.refl _ _) _⟩
        have hn : xs = ys := by
          have h2 := HLL.out
          rwa [List.take_of_length_le (by omega), List.take_of_length_le (by omega)] at hnot
        simp [hn]
  · have h0 : ((xs.length : Int) != (ys.length : Int)) = true := by simp; omega
    go_enter Try.func28, Try.ntmps28
    go_wp2
    go_ret
    exact ⟨ret_bool (by simp; intro h; exact hll (by rw [h])), Below.refl _ _⟩

set_option maxRecDepth 20000 in
set_option maxHeartbeats 8000000 in
theorem words_walk (v u : Value) (xs ys : List (List UInt8)) (w : World) (hv : SeesS w v xs) (hu : SeesS w u ys) (hb : xs.length + ys.length ≤ 1048576) :
    Calls Try.prog 4 #[v, u] w fun e w' => e = .returned (.bool true) ∧ Below w.heap.size w w' := by
  go_enter Try.func4, Try.ntmps4
  go_wp2_with fail
  refine (join_anyS _ _ xs ys _ hv hu (by omega)).mono ?_
  rintro e w1 ⟨vj, rfl, hOj, hB1⟩
  have hv1 := hv.below hB1
  have hu1 := hu.below hB1
  go_wp2_with fail
  refine (meet_anyS _ _ xs ys _ hv1 hu1 (by omega)).mono ?_
  rintro e w2 ⟨vm, rfl, hOm, hB2⟩
  have hB : Below w.heap.size w w2 := hB1.trans (hB2.mono hB1.size)
  have hv2 := hv.below hB
  have hu2 := hu.below hB
  have hj2 := (hOj.below hB2).sees
  have hm2 := hOm.sees
  clear hv hu hv1 hu1 hOj hOm hB1 hB2
  obtain ⟨J, eJ⟩ : ∃ J, J = sdS (xs ++ ys) := ⟨_, rfl⟩
  obtain ⟨M, eM⟩ : ∃ M, M = meetLS xs ys := ⟨_, rfl⟩
  rw [← eJ] at hj2
  rw [← eM] at hm2
  have hJl : J.length ≤ xs.length + ys.length := by
    rw [eJ]
    have := length_sdS_le (xs ++ ys)
    rwa [List.length_append] at this
  have hMl : M.length ≤ xs.length := by rw [eM]; exact length_meetLS xs ys
  have HJ := hid eJ
  have HM := hid eM
  clear eJ eM
  have hjS := hj2
  have hvS := hv2
  obtain ⟨bj, offj, aoj, capj, rfl, hcapj, _, haoj, hcellj⟩ := hj2
  obtain ⟨b1, off1, ao1, cap1, rfl, hcap1, _, hao1, hcell1⟩ := hv2
  have HCJ := hid hcellj
  have HC1 := hid hcell1
  clear hcellj hcell1
  go_wp2
  go_loopw [7] (fun i wr => ∃ k q : Nat, k ≤ J.length ∧ i = .int .i64 ((k : Int) + 1) ∧ wr = w2.drewN q) (fun i _ => J.length + 1 - (intOf i).toNat)
  case atStart => exact ⟨0, 0, Nat.zero_le _, rfl, rfl⟩
  case round =>
    obtain ⟨k, q, hk, rfl, rfl⟩ := hrel
    by_cases hlt : k + 1 < J.length
    · have hne : J ≠ [] := by intro h; rw [h] at hlt; simp at hlt
      obtain rfl := haoj hne
      obtain ⟨x, hx⟩ : ∃ y, y = J.getD k [] := ⟨_, rfl⟩
      obtain ⟨y, hy⟩ : ∃ y, y = J.getD (k + 1) [] := ⟨_, rfl⟩
      obtain ⟨s, hs⟩ : ∃ s : ByteArray, s = ⟨x.toArray⟩ := ⟨_, rfl⟩
      obtain ⟨t, ht⟩ : ∃ s : ByteArray, s = ⟨y.toArray⟩ := ⟨_, rfl⟩
      have hc : w2.cell? ⟨bj, offj + k, none⟩ = some (.string s) := by rw [HCJ.out k (by omega), ← hx, hs]
      have hc2 : w2.cell? ⟨bj, offj + (k + 1), none⟩ = some (.string t) := by rw [HCJ.out (k + 1) hlt, ← hy, ht]
      have hq : Op.bytesLess s.toList t.toList = true := by
        rw [bytesLess_eq, toList_of hs, toList_of ht, decide_eq_true_eq, hx, hy]
        have hr : J.Pairwise (· < ·) := by rw [HJ.out]; exact sdS_rises _
        have := List.pairwise_iff_getElem.1 hr k (k + 1) (by omega) hlt (by omega)
        simpa [List.getD, hlt, show k < J.length by omega] using this
      have hlti : (k : Int) + 1 < (J.length : Int) := by omega
      clear hx hy hs ht hne haoj
      go_wp2_with fail
      go_quiet (fail)
      go_wp2
      go_roundw
      case rel => exact ⟨k + 1, _, by omega, by go_num, rfl⟩
      case measure => simp [intOf]; omega
    · have hlti : ¬ (k : Int) + 1 < (J.length : Int) := by omega
      clear hlt hk
      go_wp2
      go_loopw [8] (fun i wr => ∃ k : Nat, k ≤ J.length ∧ i = .int .i64 k ∧ Below w2.heap.size w2 wr) (fun i _ => J.length - (intOf i).toNat)
      case atStart => exact ⟨0, Nat.zero_le _, rfl, below_drewN (Below.refl _ _) _⟩
      case round =>
        obtain ⟨k, hk, rfl, hbel⟩ := hrel
        by_cases hlt : k < J.length
        · have hne : J ≠ [] := by intro h; rw [h] at hlt; simp at hlt
          obtain rfl := haoj hne
          obtain ⟨y, hy⟩ : ∃ y, y = J.getD k [] := ⟨_, rfl⟩
          obtain ⟨sy, hsy⟩ : ∃ s : ByteArray, s = ⟨y.toArray⟩ := ⟨_, rfl⟩
          have hc0 : w2.cell? ⟨bj, offj + k, none⟩ = some (.string sy) := by rw [HCJ.out k hlt, ← hy, hsy]
          have hc := (hbel.cell (World.block_lt_of_cell? w2 _ hc0)).trans hc0
          have hor : y ∈ xs ∨ y ∈ ys := by
            have hm : y ∈ J := by rw [hy]; simp [List.getD, hlt]
            rw [HJ.out, mem_sdS, List.mem_append] at hm
            exact hm
          have HSY := hid hsy
          clear hy hsy hne haoj hc0
          by_cases ha : y ∈ xs
          · by_cases hbq : y ∈ ys
            · have hA : ∀ n, Calls Try.prog 26 #[.slice ao1 xs.length cap1, .string sy] (wr.drewN n) fun e w' => e = .returned (.bool true) ∧ w' = wr.drewN n := fun n => by
                have h := hasS_any _ xs y sy HSY.out (wr.drewN n) (hvS.below (below_drewN hbel n)) (by omega)
                rwa [decide_eq_true ha] at h
              have hU : ∀ n, Calls Try.prog 26 #[u, .string sy] (wr.drewN n) fun e w' => e = .returned (.bool true) ∧ w' = wr.drewN n := fun n => by
                have h := hasS_any _ ys y sy HSY.out (wr.drewN n) (hu2.below (below_drewN hbel n)) (by omega)
                rwa [decide_eq_true hbq] at h
              have hMm : ∀ n, Calls Try.prog 26 #[vm, .string sy] (wr.drewN n) fun e w' => e = .returned (.bool true) ∧ w' = wr.drewN n := fun n => by
                have h := hasS_any _ M y sy HSY.out (wr.drewN n) (hm2.below (below_drewN hbel n)) (by omega)
                have e : decide (y ∈ M) = true := by rw [HM.out]; simp [mem_meetLS, ha, hbq]
                rwa [e] at h
              go_wp2_with fail
              go_quiet ((first | (go_at_call_of 26 (Value.slice ao1 xs.length cap1); exact Calls.quiet_of_same (hA _)) | (go_at_call_of 26 (u); exact Calls.quiet_of_same (hU _)) | (go_at_call_of 26 (vm); exact Calls.quiet_of_same (hMm _))))
              go_wp2
              go_roundw
              case rel => exact ⟨k + 1, by omega, by go_num, below_drewN hbel _⟩
              case measure => simp [intOf]; omega
            · have hA : ∀ n, Calls Try.prog 26 #[.slice ao1 xs.length cap1, .string sy] (wr.drewN n) fun e w' => e = .returned (.bool true) ∧ w' = wr.drewN n := fun n => by
                have h := hasS_any _ xs y sy HSY.out (wr.drewN n) (hvS.below (below_drewN hbel n)) (by omega)
                rwa [decide_eq_true ha] at h
              have hU : ∀ n, Calls Try.prog 26 #[u, .string sy] (wr.drewN n) fun e w' => e = .returned (.bool false) ∧ w' = wr.drewN n := fun n => by
                have h := hasS_any _ ys y sy HSY.out (wr.drewN n) (hu2.below (below_drewN hbel n)) (by omega)
                rwa [decide_eq_false hbq] at h
              have hMm : ∀ n, Calls Try.prog 26 #[vm, .string sy] (wr.drewN n) fun e w' => e = .returned (.bool false) ∧ w' = wr.drewN n := fun n => by
                have h := hasS_any _ M y sy HSY.out (wr.drewN n) (hm2.below (below_drewN hbel n)) (by omega)
                have e : decide (y ∈ M) = false := by rw [HM.out]; simp [mem_meetLS, ha, hbq]
                rwa [e] at h
              go_wp2_with fail
              go_quiet ((first | (go_at_call_of 26 (Value.slice ao1 xs.length cap1); exact Calls.quiet_of_same (hA _)) | (go_at_call_of 26 (u); exact Calls.quiet_of_same (hU _)) | (go_at_call_of 26 (vm); exact Calls.quiet_of_same (hMm _))))
              go_wp2
              go_roundw
              case rel => exact ⟨k + 1, by omega, by go_num, below_drewN hbel _⟩
              case measure => simp [intOf]; omega
          · have hbq : y ∈ ys := by
              rcases hor with h | h
              · exact absurd h ha
              · exact h
            have hA : ∀ n, Calls Try.prog 26 #[.slice ao1 xs.length cap1, .string sy] (wr.drewN n) fun e w' => e = .returned (.bool false) ∧ w' = wr.drewN n := fun n => by
              have h := hasS_any _ xs y sy HSY.out (wr.drewN n) (hvS.below (below_drewN hbel n)) (by omega)
              rwa [decide_eq_false ha] at h
            have hU : ∀ n, Calls Try.prog 26 #[u, .string sy] (wr.drewN n) fun e w' => e = .returned (.bool true) ∧ w' = wr.drewN n := fun n => by
              have h := hasS_any _ ys y sy HSY.out (wr.drewN n) (hu2.below (below_drewN hbel n)) (by omega)
              rwa [decide_eq_true hbq] at h
            have hMm : ∀ n, Calls Try.prog 26 #[vm, .string sy] (wr.drewN n) fun e w' => e = .returned (.bool false) ∧ w' = wr.drewN n := fun n => by
              have h := hasS_any _ M y sy HSY.out (wr.drewN n) (hm2.below (below_drewN hbel n)) (by omega)
              have e : decide (y ∈ M) = false := by rw [HM.out]; simp [mem_meetLS, ha, hbq]
              rwa [e] at h
            go_wp2_with fail
            go_quiet ((first | (go_at_call_of 26 (Value.slice ao1 xs.length cap1); exact Calls.quiet_of_same (hA _)) | (go_at_call_of 26 (u); exact Calls.quiet_of_same (hU _)) | (go_at_call_of 26 (vm); exact Calls.quiet_of_same (hMm _))))
            go_wp2
            go_roundw
            case rel => exact ⟨k + 1, by omega, by go_num, below_drewN hbel _⟩
            case measure => simp [intOf]; omega
        · clear hk
          go_wp2
          go_loopw [9] (fun i wr => ∃ k : Nat, k ≤ xs.length ∧ i = .int .i64 k ∧ Below w2.heap.size w2 wr) (fun i _ => xs.length - (intOf i).toNat)
          case atStart => exact ⟨0, Nat.zero_le _, rfl, hbel⟩
          case round =>
            clear hbel
            obtain ⟨k, hk, rfl, hbel⟩ := hrel
            by_cases hl3 : k < xs.length
            · have hne : xs ≠ [] := by intro h; rw [h] at hl3; simp at hl3
              obtain rfl := hao1 hne
              obtain ⟨y, hy⟩ : ∃ y, y = xs.getD k [] := ⟨_, rfl⟩
              obtain ⟨sy, hsy⟩ : ∃ s : ByteArray, s = ⟨y.toArray⟩ := ⟨_, rfl⟩
              have hc0 : w2.cell? ⟨b1, off1 + k, none⟩ = some (.string sy) := by rw [HC1.out k hl3, ← hy, hsy]
              have hc := (hbel.cell (World.block_lt_of_cell? w2 _ hc0)).trans hc0
              have hyJ : decide (y ∈ J) = true := by
                rw [decide_eq_true_eq, HJ.out, mem_sdS, List.mem_append, hy]
                left
                simp [List.getD, hl3]
              have hH := hasS_any _ J y sy hsy wr (hjS.below hbel) (by omega)
              rw [hyJ] at hH
              clear hy hsy hne hao1 hyJ hc0
              go_wp2_with fail
              refine hH.mono ?_
              clear hH
              rintro e w' ⟨rfl, rfl⟩
              go_wp2
              go_roundw
              case rel => exact ⟨k + 1, by omega, by go_num, hbel⟩
              case measure => simp [intOf]; omega
            · have hv3 := hvS.below hbel
              have hu3 := hu2.below hbel
              have hj3 := hjS.below hbel
              have hm3 := hm2.below hbel
              have hZ3 : Below w.heap.size w wr := hB.trans (hbel.mono hB.size)
              clear hk hbel hvS hu2 hjS hm2 hB HCJ HC1
              go_wp2_with fail
              have hI := within_anyS _ _ M xs _ hm3 hv3 (by omega)
              have hw : withinBS M xs = true := by
                unfold withinBS
                rw [decide_eq_true_eq, lessL_nilS]
                intro z hz
                rw [HM.out, mem_meetLS] at hz; exact hz.1
              rw [hw] at hI
              refine hI.mono ?_
              clear hI hw
              rintro e w4 ⟨rfl, hBx⟩
              have hZ4 := hZ3.trans (hBx.mono hZ3.size)
              have hv4 := hv3.below hBx
              have hu4 := hu3.below hBx
              have hj4 := hj3.below hBx
              have hm4 := hm3.below hBx
              clear hZ3 hv3 hu3 hj3 hm3 hBx
              go_wp2_with fail
              have hI := within_anyS _ _ xs J _ hv4 hj4 (by omega)
              have hw : withinBS xs J = true := by
                unfold withinBS
                rw [decide_eq_true_eq, lessL_nilS]
                intro z hz
                rw [HJ.out, mem_sdS, List.mem_append]; exact Or.inl hz
              rw [hw] at hI
              refine hI.mono ?_
              clear hI hw
              rintro e w5 ⟨rfl, hBx⟩
              have hZ5 := hZ4.trans (hBx.mono hZ4.size)
              have hv5 := hv4.below hBx
              have hu5 := hu4.below hBx
              have hj5 := hj4.below hBx
              have hm5 := hm4.below hBx
              clear hZ4 hv4 hu4 hj4 hm4 hBx
              go_wp2_with fail
              have hI := within_anyS _ _ ys J _ hu5 hj5 (by omega)
              have hw : withinBS ys J = true := by
                unfold withinBS
                rw [decide_eq_true_eq, lessL_nilS]
                intro z hz
                rw [HJ.out, mem_sdS, List.mem_append]; exact Or.inr hz
              rw [hw] at hI
              refine hI.mono ?_
              clear hI hw
              rintro e w6 ⟨rfl, hBx⟩
              have hZ6 := hZ5.trans (hBx.mono hZ5.size)
              have hv6 := hv5.below hBx
              have hu6 := hu5.below hBx
              have hj6 := hj5.below hBx
              have hm6 := hm5.below hBx
              clear hZ5 hv5 hu5 hj5 hm5 hBx
              go_wp2_with fail
              refine (less_anyS _ _ xs ys _ hv6 hu6 (by omega)).mono ?_
              rintro e w7 ⟨vl1, rfl, hOl1, hBx⟩
              have ql1 : (lessLS xs ys).length ≤ xs.length := length_lessLS _ _
              have hZ7 := hZ6.trans (hBx.mono hZ6.size)
              have hv7 := hv6.below hBx
              have hu7 := hu6.below hBx
              have hj7 := hj6.below hBx
              have hm7 := hm6.below hBx
              clear hZ6 hv6 hu6 hj6 hm6 hBx
              have hl17 := hOl1.sees
              clear hOl1
              go_wp2_with fail
              refine (less_anyS _ _ J ys _ hj7 hu7 (by omega)).mono ?_
              rintro e w8 ⟨vl2, rfl, hOl2, hBx⟩
              have ql2 : (lessLS J ys).length ≤ J.length := length_lessLS _ _
              have hZ8 := hZ7.trans (hBx.mono hZ7.size)
              have hv8 := hv7.below hBx
              have hu8 := hu7.below hBx
              have hj8 := hj7.below hBx
              have hm8 := hm7.below hBx
              have hl18 := hl17.below hBx
              clear hZ7 hv7 hu7 hj7 hm7 hl17 hBx
              have hl28 := hOl2.sees
              clear hOl2
              go_wp2_with fail
              have hT := texts_any _ _ _ _ _ hl18 hl28 (by omega) (by omega)
              have hw : lessLS xs ys = lessLS J ys := ordS.uniq (lessL_risesS _ _) (lessL_risesS _ _) (fun z => by
                rw [mem_lessLS, mem_lessLS, HJ.out, mem_sdS, List.mem_append]
                constructor
                · exact fun h => ⟨Or.inl h.1, h.2⟩
                · rintro ⟨h1 | h1, h2⟩
                  · exact ⟨h1, h2⟩
                  · exact absurd h1 h2)
              rw [decide_eq_true hw] at hT
              refine hT.mono ?_
              clear hT hw
              rintro e w9 ⟨rfl, hBx⟩
              have hZ9 := hZ8.trans (hBx.mono hZ8.size)
              have hv9 := hv8.below hBx
              have hu9 := hu8.below hBx
              have hj9 := hj8.below hBx
              have hm9 := hm8.below hBx
              have hl19 := hl18.below hBx
              have hl29 := hl28.below hBx
              clear hZ8 hv8 hu8 hj8 hm8 hl18 hl28 hBx
              go_wp2_with fail
              refine (awake_any _).mono ?_
              rintro e w10 ⟨rfl, hBx⟩
              have hfin := hZ9.trans (hBx.mono hZ9.size)
              go_wp2
              go_ret
              exact ⟨rfl, hfin⟩

end Go.Proofs.Ytaillppmfbbnjaa
