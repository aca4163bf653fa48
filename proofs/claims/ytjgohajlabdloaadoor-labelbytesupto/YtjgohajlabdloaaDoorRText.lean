/-
  The document's SetText.
-/
import Derived.Test.YtjgohajlabdloaaDoorCommas
import Derived.Test.YtjgohajlabdloaaDoorLabB
namespace Go.Proofs.YtjgohajlabdloaaDoor
open Go.RowKit
set_option linter.unusedVariables false

theorem itoa_call (x : Int) (w : World) (h1 : 1 ≤ x) (h2 : x ≤ 2147483647) (hP : Pow w) : Calls Tryd.prog 38 #[.int .i64 x] w fun e w' => e = .returned (.string ⟨(Lib.itoa x).toArray⟩) ∧ Below w.heap.size w w' := by
  refine (Tryd.strconv_Itoa x (by omega) (by omega) w hP.here).mono ?_
  rintro e w' ⟨rfl, k, os, rfl⟩
  exact ⟨rfl, ⟨rfl, rfl, rfl, Lib.size_grow w k os, fun j hj => Lib.heap_grow_old w k os j (by omega)⟩⟩

theorem str_app (a b : List UInt8) : (⟨a.toArray⟩ : ByteArray) ++ ⟨b.toArray⟩ = ⟨(a ++ b).toArray⟩ := by
  apply ByteArray.ext
  simp [ByteArray.data_append]
theorem text_take0 {l : List Int} {y : Int} (hk : 0 < l.length) (hy : y = l.getD 0 0) : commasL (l.take (0 + 1)) = commasL (l.take 0) ++ Lib.itoa y := by
  rw [take_snoc hk hy]
  simp [commasL]
theorem text_takeS {l : List Int} {k : Nat} {y : Int} (hk : k < l.length) (h0 : 0 < k) (hy : y = l.getD k 0) : commasL (l.take (k + 1)) = (commasL (l.take k) ++ [44]) ++ Lib.itoa y := by
  rw [take_snoc hk hy, commasL_snoc _ _ (by intro h; have := congrArg List.length h; rw [List.length_take, List.length_nil] at this; omega)]
  simp

set_option maxRecDepth 20000 in
set_option maxHeartbeats 2000000 in
theorem setText_any (v : Value) (l : List Int) (w : World) (hS : Sees w v l) (hl : l.length ≤ 64) (hc : catsP l) (hP : Pow w) :
    Calls Tryd.prog 21 #[v] w fun e w' => e = .returned (.string ⟨(commasL l).toArray⟩) ∧ Below w.heap.size w w' := by
  obtain ⟨b, off, ao, cap, rfl, hcap, _, hao, hcell⟩ := hS
  have HP := hid hP
  have HC := hid hc
  have HCE := hid hcell
  have HCB := hid (fun k => commasL_bound (l.take k) (catsP_take hc k).2)
  clear hP hc hcell
  go_enter Tryd.func21, Tryd.ntmps21
  go_wp2_with fail
  go_loopw [3, 4] (fun o i wr => ∃ (k : Nat), k ≤ l.length ∧ i = .int .i64 (k : Int) ∧ o = .string ⟨(commasL (l.take k)).toArray⟩ ∧ Below w.heap.size w wr) (fun _ i _ => l.length - (intOf i).toNat)
  case atStart => exact ⟨0, Nat.zero_le _, rfl, rfl, Below.refl _ _⟩
  case round =>
    obtain ⟨k, hk, rfl, rfl, hB⟩ := hrel
    have hwsz := hB.size
    by_cases hlt : k < l.length
    · have hlt' : (k : Int) < (l.length : Int) := by omega
      have hne : l ≠ [] := by intro h; rw [h] at hlt; simp at hlt
      obtain rfl := hao hne
      obtain ⟨y, hy⟩ : ∃ y, y = l.getD k 0 := ⟨_, rfl⟩
      have hcy : wr.cell? ⟨b, off + k, none⟩ = some (.int .i64 y) := by
        have h0 := HCE.out k hlt
        have hb := World.block_lt_of_cell? w _ h0
        rw [hB.cell hb, h0, hy]
      have hyc := HC.out.2 y (by rw [hy]; simp [List.getD, hlt])
      have hbd : (commasL (l.take k)).length ≤ 704 := by
        have := HCB.out k
        simp only [List.length_take] at this
        omega
      have hil := itoa_len hyc.1 hyc.2
      have hR := hid (itoa_call y wr hyc.1 hyc.2 (HP.out.below hB))
      have HY := hid hy
      have HB := hid hB
      clear hy hB hne hao
      obtain ⟨T, hT⟩ : ∃ T, T = (⟨(commasL (l.take k)).toArray⟩ : ByteArray) := ⟨_, rfl⟩
      obtain ⟨U, hU⟩ : ∃ U, U = (⟨(Lib.itoa y).toArray⟩ : ByteArray) := ⟨_, rfl⟩
      have hTs : T.size ≤ 704 := by rw [hT, Lib.size_eq]; exact hbd
      have hUs : U.size ≤ 10 := by rw [hU, Lib.size_eq]; exact hil
      rw [← hT]
      rw [← hU] at hR
      have n1 : ¬ 9223372036854775807 < T.size + 1 := by omega
      have n2 : ¬ 9223372036854775807 < T.size + 1 + U.size := by omega
      have n3 : ¬ 9223372036854775807 < T.size + U.size := by omega
      have HT := hid hT
      have HU := hid hU
      clear hT hU hbd hil
      by_cases h0 : 0 < k
      · have h0' : (0 : Int) < (k : Int) := by omega
        have HN : Hid ((T ++ ⟨#[44]⟩) ++ U = ⟨(commasL (l.take (k + 1))).toArray⟩) := by
          unfold Hid
          rw [HT.out, HU.out, text_takeS hlt h0 HY.out]
          rw [show (⟨#[44]⟩ : ByteArray) = ⟨[44].toArray⟩ from rfl, str_app, str_app]
        go_wp2_with fail
        refine hR.out.mono ?_
        clear hR
        rintro e w3 ⟨rfl, hB3⟩
        have HB3 := hid (HB.out.trans (hB3.mono hwsz))
        clear hB3
        go_wp2
        go_roundw
        case rel => exact ⟨k + 1, by omega, by go_num, by rw [← HN.out], HB3.out⟩
        case measure => simp [intOf]; omega
      · have h0' : decide ((0 : Int) < (k : Int)) = false := by simp; omega
        have h0a : ¬ (0 : Int) < (k : Int) := by omega
        have hk0 : k = 0 := by omega
        have HN : Hid (T ++ U = ⟨(commasL (l.take (k + 1))).toArray⟩) := by
          unfold Hid
          have hlt2 := hlt
          have HY2 := HY.out
          rw [HT.out, HU.out]
          rw [hk0] at hlt2 HY2 ⊢
          rw [text_take0 hlt2 HY2, str_app]
        clear hk0
        go_wp2_with fail
        refine hR.out.mono ?_
        clear hR
        rintro e w3 ⟨rfl, hB3⟩
        have HB3 := hid (HB.out.trans (hB3.mono hwsz))
        clear hB3
        go_wp2
        go_roundw
        case rel => exact ⟨k + 1, by omega, by go_num, by rw [← HN.out], HB3.out⟩
        case measure => simp [intOf]; omega
    · have hlt' : decide ((k : Int) < (l.length : Int)) = false := by simp; omega
      rw [List.take_of_length_le (by omega)]
      have HB := hid hB
      clear hB
      go_wp2
      go_ret
      exact ⟨rfl, HB.out⟩
end Go.Proofs.YtjgohajlabdloaaDoor
