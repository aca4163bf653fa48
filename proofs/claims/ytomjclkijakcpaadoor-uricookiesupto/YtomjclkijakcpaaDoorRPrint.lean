/-
  Print of the document.
-/
import Derived.Test.YtomjclkijakcpaaDoorPrint
import Derived.Test.YtomjclkijakcpaaDoorEncB
namespace Go.Proofs.YtomjclkijakcpaaDoor
open Go.RowKit
set_option linter.unusedVariables false

theorem rencode_list (l : List UInt8) (w : World) (hlen : 3 * l.length ≤ 140737488355328) :
    Calls Tryd.prog 19 #[.string ⟨l.toArray⟩] w fun e w' => e = .returned (.string ⟨(enc l).toArray⟩) ∧ Below w.heap.size w w' :=
  rencode_any ⟨l.toArray⟩ w (by rw [size_list]; exact hlen)
theorem str_app (a b : List UInt8) : (⟨a.toArray⟩ : ByteArray) ++ ⟨b.toArray⟩ = ⟨(a ++ b).toArray⟩ := by
  apply ByteArray.ext
  simp [ByteArray.data_append]

set_option maxRecDepth 20000 in
set_option maxHeartbeats 2000000 in
theorem rprint_any (v : Value) (l : List PairL) (w : World) (hS : SeesP w v l) (hbk : bulkL l ≤ 1048576) :
    Calls Tryd.prog 10 #[v] w fun e w' => e = .returned (.string ⟨(printL l).toArray⟩) ∧ Below w.heap.size w w' := by
  obtain ⟨b, off, ao, cap, rfl, hcap, _, hao, hcell⟩ := hS
  have hln := bulk_len l
  have HC := hid hcell
  clear hcell
  go_enter Tryd.func10, Tryd.ntmps10
  go_wp2_with fail
  go_loopw [3, 4] (fun u i wr => ∃ (k : Nat), k ≤ l.length ∧ i = .int .i64 (k : Int) ∧ u = .string ⟨(printL (l.take k)).toArray⟩ ∧ Below w.heap.size w wr) (fun _ i _ => l.length - (intOf i).toNat)
  case atStart => exact ⟨0, Nat.zero_le _, rfl, rfl, Below.refl _ _⟩
  case round =>
    obtain ⟨k, hk, rfl, rfl, hB⟩ := hrel
    have hsw := hB.size
    by_cases hlt : k < l.length
    · have hlt' : (k : Int) < (l.length : Int) := by omega
      obtain rfl := hao (by intro h; rw [h] at hlt; simp at hlt)
      obtain ⟨d1, d2⟩ := HC.out k hlt
      have hb1 := World.block_lt_of_cell? w _ d1
      have hb2 := World.block_lt_of_cell? w _ d2
      rw [← hB.cell hb1] at d1
      rw [← hB.cell hb2] at d2
      unfold strV at d1 d2
      have hpt := print_take hlt
      have hxl := print_pre l k
      have hg := bulk_get l k hlt
      obtain ⟨p, hp⟩ : ∃ p, p = l[k] := ⟨_, rfl⟩
      rw [← hp] at d1 d2 hpt hg
      have HE1 := hid (fun w => rencode_list p.1 w (by omega))
      have HE2 := hid (fun w => rencode_list p.2 w (by omega))
      have l1 := enc_len p.1
      have l2 := enc_len p.2
      obtain ⟨xs, hxs⟩ : ∃ xs, xs = printL (l.take k) := ⟨_, rfl⟩
      have hz0 : k = 0 → xs = [] := by
        intro h
        rw [hxs, h]
        rfl
      rw [← hxs] at hpt hxl ⊢
      obtain ⟨T, hT⟩ : ∃ T : ByteArray, T = ⟨xs.toArray⟩ := ⟨_, rfl⟩
      obtain ⟨A, hA⟩ : ∃ T : ByteArray, T = ⟨(enc p.1).toArray⟩ := ⟨_, rfl⟩
      obtain ⟨C, hC⟩ : ∃ T : ByteArray, T = ⟨(enc p.2).toArray⟩ := ⟨_, rfl⟩
      rw [← hT]
      rw [← hA] at HE1
      rw [← hC] at HE2
      have sT : T.size ≤ 3145728 := by rw [hT, size_list]; omega
      have sA : A.size ≤ 3145728 := by rw [hA, size_list]; omega
      have sC : C.size ≤ 3145728 := by rw [hC, size_list]; omega
      have HB := hid hB
      have HPT := hid hpt
      have HT := hid hT
      have HA := hid hA
      have HCC := hid hC
      clear hp hpt hB hxs hT hA hC l1 l2 hxl hg hao
      by_cases h0 : k = 0
      · have h0' : ¬ (0 : Int) < (k : Int) := by omega
        have HX := hid (hz0 h0)
        have HN : Hid (((T ++ A) ++ ⟨#[61]⟩) ++ C = ⟨(printL (l.take (k + 1))).toArray⟩) := by
          unfold Hid
          rw [HPT.out, if_pos h0, HT.out, HA.out, HCC.out, HX.out, show (⟨#[61]⟩ : ByteArray) = ⟨[61].toArray⟩ from rfl, str_app, str_app, str_app]
          simp
        have n1 : ¬ 9223372036854775807 < T.size + A.size := by omega
        have n2 : ¬ 9223372036854775807 < T.size + A.size + 1 := by omega
        have n3 : ¬ 9223372036854775807 < T.size + A.size + 1 + C.size := by omega
        clear h0 hz0 HPT HT HA HCC HX
        go_wp2_with fail
        go_region_held3 (fun w' => w'.cell? ⟨b, off + k * 2, none⟩ = some (.string ⟨p.1.toArray⟩) ∧ w'.cell? ⟨b, off + k * 2 + 1, none⟩ = some (.string ⟨p.2.toArray⟩)) (first | (refine ⟨?_, ?_⟩ <;> first | assumption | (simp [*]; done)))
          (first
            | (go_at_call 19
               refine (HE1.out _).mono ?_
               rintro e' w1 ⟨rfl, hB1⟩
               have hB1' : Below wr.heap.size wr w1 := (Below.drew (Below.refl wr.heap.size wr)).trans hB1
               have d3 : w1.cell? ⟨b, off + k * 2, none⟩ = some (.string ⟨p.1.toArray⟩) := (hB1'.cell (Nat.lt_of_lt_of_le hb1 hsw)).trans d1
               have d4 : w1.cell? ⟨b, off + k * 2 + 1, none⟩ = some (.string ⟨p.2.toArray⟩) := (hB1'.cell (Nat.lt_of_lt_of_le hb2 hsw)).trans d2
               have HB1 := hid (HB.out.trans (hB1'.mono hsw))
               clear hB1 hB1' HE1)
            | (go_at_call 19
               refine (HE2.out _).mono ?_
               rintro e' w2 ⟨rfl, hB2⟩
               have d5 : w2.cell? ⟨b, off + k * 2, none⟩ = some (.string ⟨p.1.toArray⟩) := (hB2.cell (Nat.lt_of_lt_of_le hb1 HB1.out.size)).trans d3
               have d6 : w2.cell? ⟨b, off + k * 2 + 1, none⟩ = some (.string ⟨p.2.toArray⟩) := (hB2.cell (Nat.lt_of_lt_of_le hb2 HB1.out.size)).trans d4
               have HB2 := hid (HB1.out.trans (hB2.mono HB1.out.size))
               clear hB2 HE2))
        all_goals
          go_wp2
          go_roundw
          case rel => exact ⟨k + 1, by omega, by go_num, by rw [← HN.out], HB2.out⟩
          case measure => simp [intOf]; omega
      · have h0' : (0 : Int) < (k : Int) := by omega
        have HN : Hid ((((T ++ ⟨#[38]⟩) ++ A) ++ ⟨#[61]⟩) ++ C = ⟨(printL (l.take (k + 1))).toArray⟩) := by
          unfold Hid
          rw [HPT.out, if_neg h0, HT.out, HA.out, HCC.out, show (⟨#[61]⟩ : ByteArray) = ⟨[61].toArray⟩ from rfl, show (⟨#[38]⟩ : ByteArray) = ⟨[38].toArray⟩ from rfl, str_app, str_app, str_app, str_app]
          simp
        have n0 : ¬ 9223372036854775807 < T.size + 1 := by omega
        have n1 : ¬ 9223372036854775807 < T.size + 1 + A.size := by omega
        have n2 : ¬ 9223372036854775807 < T.size + 1 + A.size + 1 := by omega
        have n3 : ¬ 9223372036854775807 < T.size + 1 + A.size + 1 + C.size := by omega
        clear hz0 HPT HT HA HCC
        go_wp2_with fail
        go_region_held3 (fun w' => w'.cell? ⟨b, off + k * 2, none⟩ = some (.string ⟨p.1.toArray⟩) ∧ w'.cell? ⟨b, off + k * 2 + 1, none⟩ = some (.string ⟨p.2.toArray⟩)) (first | (refine ⟨?_, ?_⟩ <;> first | assumption | (simp [*]; done)))
          (first
            | (go_at_call 19
               refine (HE1.out _).mono ?_
               rintro e' w1 ⟨rfl, hB1⟩
               have hB1' : Below wr.heap.size wr w1 := (Below.drew (Below.refl wr.heap.size wr)).trans hB1
               have d3 : w1.cell? ⟨b, off + k * 2, none⟩ = some (.string ⟨p.1.toArray⟩) := (hB1'.cell (Nat.lt_of_lt_of_le hb1 hsw)).trans d1
               have d4 : w1.cell? ⟨b, off + k * 2 + 1, none⟩ = some (.string ⟨p.2.toArray⟩) := (hB1'.cell (Nat.lt_of_lt_of_le hb2 hsw)).trans d2
               have HB1 := hid (HB.out.trans (hB1'.mono hsw))
               clear hB1 hB1' HE1)
            | (go_at_call 19
               refine (HE2.out _).mono ?_
               rintro e' w2 ⟨rfl, hB2⟩
               have d5 : w2.cell? ⟨b, off + k * 2, none⟩ = some (.string ⟨p.1.toArray⟩) := (hB2.cell (Nat.lt_of_lt_of_le hb1 HB1.out.size)).trans d3
               have d6 : w2.cell? ⟨b, off + k * 2 + 1, none⟩ = some (.string ⟨p.2.toArray⟩) := (hB2.cell (Nat.lt_of_lt_of_le hb2 HB1.out.size)).trans d4
               have HB2 := hid (HB1.out.trans (hB2.mono HB1.out.size))
               clear hB2 HE2))
        all_goals
          go_wp2
          go_roundw
          case rel => exact ⟨k + 1, by omega, by go_num, by rw [← HN.out], HB2.out⟩
          case measure => simp [intOf]; omega
    · have hlt' : ¬ (k : Int) < (l.length : Int) := by omega
      rw [List.take_of_length_le (by omega)]
      have HB := hid hB
      clear hB
      go_wp2
      go_ret
      exact ⟨rfl, HB.out⟩

end Go.Proofs.YtomjclkijakcpaaDoor
