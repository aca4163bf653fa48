/-
  The walk of UriBack.
-/
import Derived.Test.YtomjclkijakcpaaAwake
import Derived.Test.YtomjclkijakcpaaTarg
namespace Go.Proofs.Ytomjclkijakcpaa
open Go.RowKit
set_option linter.unusedVariables false

theorem decOut_enc (plus : Bool) (l : List UInt8) : decOut plus (enc l) = l ∧ decErr (enc l) = 0 ∧ decPl (enc l) = 0 := by
  rw [decOut, decErr, decPl, dec_enc, dec_enc]; simp
theorem enc_notbad (l : List UInt8) : ∀ c ∈ 47 :: enc l, ¬ badB c := by
  intro c hc
  rcases List.mem_cons.1 hc with rfl | hc
  · unfold badB; decide
  · have := enc_ok l c hc
    unfold encOk at this
    unfold badB
    omega
theorem firstBad_mem : ∀ (L : List UInt8), (∀ c ∈ L, ¬ badB c) → firstBad L = none
  | [], _ => rfl
  | b :: r, h => by
    have h0 : ¬ (b.toNat < 33 ∨ 126 < b.toNat ∨ b.toNat = 35) := h b (by simp)
    rw [firstBad, if_neg h0, firstBad_mem r (fun c hc => h c (by simp [hc]))]
    rfl
theorem tgt_back (l : List UInt8) (hl : (enc l).length < 1000) : tgt (47 :: enc l) = ⟨47 :: l, [], 0, 0⟩ := by
  have h1 : ¬ 1024 < (47 :: enc l).length := by simp; omega
  have h2 : standsV (47 :: enc l) = none := by
    rw [standsV, if_pos (by simp)]
    exact firstBad_mem _ (enc_notbad l)
  have h3 : (63 : UInt8) ∉ 47 :: enc l := by
    intro h
    rcases List.mem_cons.1 h with h | h
    · exact absurd h (by decide)
    · exact (enc_ok l _ h).2.2.2.2.1 rfl
  have h4 : dec false (47 :: enc l) = (47 :: l, none) := by
    rw [dec_plain false _ (by decide), dec_enc]
    rfl
  rw [tgt, if_neg h1, h2]
  simp only [cutC_none h3, h4, dec_nil, formL_nil]
  simp

set_option maxRecDepth 20000 in
set_option maxHeartbeats 2000000 in
theorem back_walk (s : ByteArray) (w : World) (hs : s.size ≤ 1048576) :
    Calls Try.prog 6 #[.string s] w fun e w' => e = .returned (.bool true) ∧ Below w.heap.size w w' := by
  have hel := enc_len s.data.toList
  rw [len_str] at hel
  have hE := encode_any s w (by omega)
  have HD := hid (fun plus w => decode_list (enc s.data.toList) plus w (by omega))
  have hDt := fun plus => decOut_enc plus s.data.toList
  have HDf := hid (fun w => (show Calls Try.prog 9 #[.string ⟨(enc s.data.toList).toArray⟩, .bool false] w _ from by
    have h := HD.out false w
    rw [(hDt false).1, (hDt false).2.1, (hDt false).2.2, str_list] at h
    exact h))
  have HDtr := hid (fun w => (show Calls Try.prog 9 #[.string ⟨(enc s.data.toList).toArray⟩, .bool true] w _ from by
    have h := HD.out true w
    rw [(hDt true).1, (hDt true).2.1, (hDt true).2.2, str_list] at h
    exact h))
  have HT := hid (fun (hl : (enc s.data.toList).length < 1000) w => (show Calls Try.prog 18 #[.string ⟨(47 :: enc s.data.toList).toArray⟩] w _ from by
    have h := target_any (47 :: enc s.data.toList) w (by simp; omega)
    rw [tgt_back s.data.toList hl] at h
    exact h))
  have HOK := hid (enc_ok s.data.toList)
  have HA := hid awake_any
  obtain ⟨L, hL⟩ : ∃ L, L = enc s.data.toList := ⟨_, rfl⟩
  rw [← hL] at hE HDf HDtr HT HOK hel
  obtain ⟨t, ht⟩ : ∃ t : ByteArray, t = ⟨L.toArray⟩ := ⟨_, rfl⟩
  have htz : t.size = L.length := by rw [ht, size_list]
  have htl : t.data.toList = L := by rw [ht]
  rw [← ht] at hE HDf HDtr
  have HTS := hid (show (⟨#[47]⟩ : ByteArray) ++ t = ⟨(47 :: L).toArray⟩ by rw [ht]; apply ByteArray.ext; simp [ByteArray.data_append])
  have HSS := hid (show (⟨#[47]⟩ : ByteArray) ++ s = ⟨(47 :: s.data.toList).toArray⟩ by apply ByteArray.ext; simp [ByteArray.data_append])
  have HTZ := hid htz
  have HTL := hid htl
  clear HD hDt hL ht htz htl
  go_enter Try.func6, Try.ntmps6
  go_wp2_with fail
  refine hE.mono ?_
  clear hE
  rintro e w1 ⟨rfl, hB⟩
  have HB1 := hid hB
  clear hB
  go_wp2_with fail
  refine (HDf.out _).mono ?_
  clear HDf
  rintro e w2 ⟨rfl, hB⟩
  have HB2 := hid (HB1.out.trans (hB.mono HB1.out.size))
  clear hB HB1
  go_wp2_with fail
  refine (HDtr.out _).mono ?_
  clear HDtr
  rintro e w3 ⟨rfl, hB⟩
  have HB3 := hid (HB2.out.trans (hB.mono HB2.out.size))
  clear hB HB2
  go_wp2_with fail
  go_loop [10] (fun i => ∃ (k : Nat), k ≤ L.length ∧ i = .int .i64 (k : Int)) (fun i => L.length - (intOf i).toNat)
  case atStart => exact ⟨0, Nat.zero_le _, rfl⟩
  case round =>
    obtain ⟨k, hk, rfl⟩ := hrel
    have htz := HTZ.out
    by_cases hlt : k < L.length
    · have hks : k < t.size := by omega
      have hks' : (k : Int) < (t.size : Int) := by omega
      have i1 := index_byte t .i64 (k : Int) k rfl hks
      have hok : encOk (t[k]'hks) := by
        refine HOK.out _ ?_
        have : t.data.toList[k]'(by rw [len_str]; exact hks) = t[k]'hks := rfl
        rw [← HTL.out, ← this]
        exact List.getElem_mem _
      obtain ⟨b, hb⟩ : ∃ b, b = t[k]'hks := ⟨_, rfl⟩
      rw [← hb] at i1 hok
      obtain ⟨h1, h2, _⟩ := hok
      have h1' : ¬ ((b.toNat : Nat) : Int) < 33 := by omega
      have h2' : ¬ (126 : Int) < ((b.toNat : Nat) : Int) := by omega
      clear hb htz
      go_wp2
      go_round
      case rel => exact ⟨k + 1, by omega, by go_num⟩
      case measure => simp [intOf]; omega
    · have hks' : ¬ (k : Int) < (t.size : Int) := by omega
      by_cases hsm : L.length < 1000
      · have hsm' : (t.size : Int) < 1000 := by omega
        have HT2 := hid (HT.out hsm)
        have n1 : ¬ 9223372036854775807 < 1 + t.size := by omega
        have n2 : ¬ 9223372036854775807 < 1 + s.size := by omega
        clear HT htz hk hlt hsm
        go_wp2_with fail
        rw [HTS.out]
        refine (HT2.out _).mono ?_
        clear HT2
        rintro e w4 ⟨v4, rfl, hO4, hB⟩
        have HB4 := hid (HB3.out.trans (hB.mono HB3.out.size))
        obtain ⟨ao4, cap4, rfl⟩ := hO4.shape
        clear hB HB3 hO4
        rw [← HSS.out]
        go_wp2_with fail
        refine (HA.out _).mono ?_
        clear HA
        rintro e w5 ⟨rfl, hB⟩
        have HB5 := hid (HB4.out.trans (hB.mono HB4.out.size))
        clear hB HB4
        go_wp2
        go_ret
        exact ⟨rfl, HB5.out⟩
      · have hsm' : ¬ (t.size : Int) < 1000 := by omega
        clear HT htz hk hlt hsm
        go_wp2_with fail
        refine (HA.out _).mono ?_
        clear HA
        rintro e w5 ⟨rfl, hB⟩
        have HB5 := hid (HB3.out.trans (hB.mono HB3.out.size))
        clear hB HB3
        go_wp2
        go_ret
        exact ⟨rfl, HB5.out⟩

end Go.Proofs.Ytomjclkijakcpaa
