/-
  Chunks of the document; ParseChunks: the walk.
-/
import Derived.Test.YtllhibdjopfcnaaGreatDoorRSize
import Derived.Test.YtllhibdjopfcnaaGreatDoorPAll
namespace Go.Proofs.YtllhibdjopfcnaaGreatDoor
open Go.RowKit
set_option linter.unusedVariables false

theorem str_join (a b : List UInt8) : (⟨a.toArray⟩ : ByteArray) ++ ⟨b.toArray⟩ = ⟨(a ++ b).toArray⟩ := by
  apply ByteArray.ext
  simp [ByteArray.data_append]
set_option maxRecDepth 20000 in
set_option maxHeartbeats 8000000 in
theorem rchunksN_any (L : List UInt8) (k : Nat) (w : World) (hs : L.length ≤ 140737488355328) (hk : k ≤ L.length) :
    Calls Tryz.prog 45 #[.string ⟨L.toArray⟩, .int .i64 (k : Int)] w fun e w' => e = .returned (chkV (chkT k (chunksL (L.length + 1) [] (L.drop k)))) ∧ w = w' := by
  have hLf := Left.start hk
  obtain ⟨T, hT⟩ : ∃ T, T = chunksL (L.length + 1) [] (L.drop k) := ⟨_, rfl⟩
  rw [← hT] at hLf ⊢
  obtain ⟨s, hse⟩ : ∃ s : ByteArray, s = ⟨L.toArray⟩ := ⟨_, rfl⟩
  have hsz : s.size = L.length := by rw [hse, size_list]
  have HSi := hid (fun (k : Nat) (hk : k ≤ L.length) => size_any L k w hk hs)
  have HEn := hid (fun (i n : Nat) (hi : i ≤ L.length) => ended_any L i n w hi hs)
  rw [← hse] at HSi HEn ⊢
  have f1 : ¬ (k : Int) < 0 := by omega
  have f2 : ¬ (s.size : Int) < (k : Int) := by omega
  have f2n : ¬ s.size < k := by omega
  have HLf := hid hLf
  have HSE := hid hse
  have HSZ := hid hsz
  clear hT hLf hse hsz
  go_enter Tryz.func45, Tryz.ntmps45
  go_wp2_with fail
  clear f1 f2 f2n
  go_loop [1, 8] (fun at' body => ∃ (c : Nat) (B : List UInt8), at' = .int .i64 (c : Int) ∧ body = .string ⟨B.toArray⟩ ∧ Left T L k c B) (fun at' _ => s.size + 1 - (intOf at').toNat)
  case atStart => exact ⟨k, [], rfl, rfl, HLf.out⟩
  case round =>
    obtain ⟨c, B, rfl, rfl, hL⟩ := hrel
    have hcL := hL.2.1
    have hkc := hL.1
    have hB16 := hL.2.2.1
    have hSi := HSi.out c hcL
    have HL := hid hL
    have hsz := HSZ.out
    clear hL
    rcases hz : sizeL (L.drop c) with (_ | st) | ⟨n, m⟩
    · rw [hz] at hSi
      simp only [szV] at hSi
      have HT := hid (HL.out.more hz)
      clear hz
      go_wp2_with fail
      refine hSi.mono ?_
      clear hSi
      rintro e w1 ⟨rfl, hw1⟩
      subst hw1
      go_wp2
      (try simp only [Exit.inBlock, Exit.then])
      refine bodyPost_ret (results_tmp4 rfl _ _ _) rfl ?_
      rw [HT.out]
      exact ⟨rfl, rfl⟩
    · rw [hz] at hSi
      simp only [szV] at hSi
      have h400 := sizeL_bad hz
      have HT := hid (HL.out.bad hz)
      clear hz
      go_wp2_with fail
      refine hSi.mono ?_
      clear hSi
      rintro e w1 ⟨rfl, hw1⟩
      subst hw1
      go_wp2
      (try simp only [Exit.inBlock, Exit.then])
      refine bodyPost_ret (results_tmp4 rfl _ _ _) rfl ?_
      rw [HT.out, h400]
      exact ⟨rfl, rfl⟩
    · rw [hz] at hSi
      simp only [szV] at hSi
      have hgm := sizeL_got hz
      rw [List.length_drop] at hgm
      obtain ⟨q, hq⟩ : ∃ q, q = c + m := ⟨_, rfl⟩
      rw [show (c : Int) + (m : Int) = (q : Int) by omega] at hSi
      have hqL : q ≤ L.length := by omega
      have f1 : ((q : Int) == -1) = false := by rw [beq_eq_false_iff_ne]; omega
      have f2 : ((q : Int) == -2) = false := by rw [beq_eq_false_iff_ne]; omega
      obtain ⟨bs, hbs⟩ : ∃ bs : ByteArray, bs = ⟨B.toArray⟩ := ⟨_, rfl⟩
      have hbz : bs.size = B.length := by rw [hbs, size_list]
      rw [← hbs]
      obtain ⟨r, hr⟩ : ∃ r : Nat, r = 16384 - bs.size := ⟨_, rfl⟩
      have hsub : (16384 : Int) - (bs.size : Int) = (r : Int) := by omega
      by_cases hbig : 16384 < n + B.length
      · have f3 : r < n := by omega
        have f3d : decide (r < n) = true := by simp; omega
        have HT := hid (HL.out.large hz hbig)
        clear hz hr hbz hq hgm hbs hsz
        go_wp2_with fail
        refine hSi.mono ?_
        clear hSi
        rintro e w1 ⟨rfl, hw1⟩
        subst hw1
        go_wp2
        (try simp only [Exit.inBlock, Exit.then])
        refine bodyPost_ret (results_tmp4 rfl _ _ _) rfl ?_
        rw [HT.out]
        exact ⟨rfl, rfl⟩
      · have f3 : ¬ r < n := by omega
        have f3d : decide (r < n) = false := by simp; omega
        obtain ⟨t, ht⟩ : ∃ t : Nat, t = s.size - q := ⟨_, rfl⟩
        have hsub2 : (s.size : Int) - (q : Int) = (t : Int) := by omega
        have ht47 : (t : Int) ≤ 140737488355328 := by omega
        have hs47 : (s.size : Int) ≤ 140737488355328 := by omega
        by_cases hlong : L.length < q + n
        · have f4 : t < n := by omega
          have f4d : decide (t < n) = true := by simp; omega
          have HT := hid (HL.out.short hz hbig (by omega))
          clear hz hr hbz hq hgm ht hlong hbig hbs hsz
          go_wp2_with fail
          refine hSi.mono ?_
          clear hSi
          rintro e w1 ⟨rfl, hw1⟩
          subst hw1
          go_wp2
          (try simp only [Exit.inBlock, Exit.then])
          refine bodyPost_ret (results_tmp4 rfl _ _ _) rfl ?_
          rw [HT.out]
          exact ⟨rfl, rfl⟩
        · have f4 : ¬ t < n := by omega
          have f4d : decide (t < n) = false := by simp; omega
          obtain ⟨e, he⟩ : ∃ e, e = q + n := ⟨_, rfl⟩
          have hadd : (q : Int) + (n : Int) = (e : Int) := by omega
          have hqe : (q : Int) ≤ (e : Int) := by omega
          have hes : (e : Int) ≤ (s.size : Int) := by omega
          have hx : s.extract q e = ⟨((L.drop q).take n).toArray⟩ := by
            rw [HSE.out, extract_list, show e - q = n by omega]
          have hxz : (s.extract q e).size ≤ 140737488355328 := by
            rw [hx, size_list, List.length_take]
            omega
          have hsmall : ¬ 9223372036854775807 < bs.size + (s.extract q e).size := by omega
          have hcat : bs ++ s.extract q e = ⟨(B ++ (L.drop q).take n).toArray⟩ := by rw [hbs, hx, str_join]
          have hE := HEn.out e 0 (by omega)
          have hLe := HL.out.eol hz hbig (by omega)
          rw [← hq, ← he] at hLe
          have HCAT := hid hcat
          have hkq := HL.out.1
          have HKE := hid (show k ≤ e ∧ c + 2 ≤ e + 2 ∧ e + 2 - k + k = e + 2 ∧ c < e ∧ q + 2 - k + k = q + 2 ∧ k ≤ q by omega)
          rcases eol_cases (L.drop e) with ⟨_, e3⟩ | ⟨_, _, e3⟩ | ⟨_, _, e3⟩
          · rw [e3] at hE
            simp only [eoV] at hE
            have he2 : e + 2 ≤ L.length := by
              have := eolL_got e3
              rw [List.length_drop] at this
              omega
            obtain ⟨e2, he2'⟩ : ∃ e2, e2 = e + 2 := ⟨_, rfl⟩
            rw [show (e : Int) + 2 = (e2 : Int) by omega] at hE
            have f5 : ((e2 : Int) == -1) = false := by rw [beq_eq_false_iff_ne]; omega
            have f6 : ((e2 : Int) == -2) = false := by rw [beq_eq_false_iff_ne]; omega
            by_cases hn0 : n = 0
            · have f7 : ((n : Int) == 0) = true := by rw [beq_iff_eq]; omega
              have HT := hid (hLe.2.2.1 hn0 e3)
              have HQ := hid (show q + 2 = e2 by omega)
              have HB0 : Hid (bs ++ s.extract q e = ⟨B.toArray⟩) := by
                unfold Hid
                rw [HCAT.out, hn0]
                simp
              clear hz hr hbz hq hgm ht hlong hbig he hx hxz hcat hLe e3 he2' hn0 hbs hsz
              go_wp2_with fail
              refine hSi.mono ?_
              clear hSi
              rintro e' w1 ⟨rfl, hw1⟩
              subst hw1
              go_wp2_with fail
              refine hE.mono ?_
              clear hE
              rintro e' w1 ⟨rfl, hw1⟩
              subst hw1
              go_wp2
              (try simp only [Exit.inBlock, Exit.then])
              refine bodyPost_ret (results_tmp4 rfl _ _ _) rfl ?_
              rw [HT.out, HB0.out]
              refine ⟨?_, rfl⟩
              have h1 := HQ.out
              have h2 := HKE.out
              have h3 : k + (q + 2 - k) = e2 := by omega
              rw [chkT, h3]
              rfl
            · have f7 : ((n : Int) == 0) = false := by rw [beq_eq_false_iff_ne]; omega
              have HN := hid (hLe.2.2.2 hn0 e3)
              have HE2 := hid he2'
              have HMe := hid (show c < e2 ∧ c ≤ s.size by omega)
              clear hz hr hbz hq hgm ht hlong hbig he hx hxz hcat hLe e3 he2' hn0 hbs hsz
              go_wp2_with fail
              refine hSi.mono ?_
              clear hSi
              rintro e' w1 ⟨rfl, hw1⟩
              subst hw1
              go_wp2_with fail
              refine hE.mono ?_
              clear hE
              rintro e' w1 ⟨rfl, hw1⟩
              subst hw1
              go_wp2
              go_round
              case rel => exact ⟨e2, _, rfl, by rw [HCAT.out], by rw [HE2.out]; exact HN.out⟩
              case measure => have := HMe.out; simp [intOf]; omega
          · rw [e3] at hE
            simp only [eoV] at hE
            have HT := hid (hLe.1 e3)
            clear hz hr hbz hq hgm ht hlong hbig he hx hxz hcat hLe e3 hbs hsz
            go_wp2_with fail
            refine hSi.mono ?_
            clear hSi
            rintro e' w1 ⟨rfl, hw1⟩
            subst hw1
            go_wp2_with fail
            refine hE.mono ?_
            clear hE
            rintro e' w1 ⟨rfl, hw1⟩
            subst hw1
            go_wp2
            (try simp only [Exit.inBlock, Exit.then])
            refine bodyPost_ret (results_tmp4 rfl _ _ _) rfl ?_
            rw [HT.out]
            exact ⟨rfl, rfl⟩
          · rw [e3] at hE
            simp only [eoV] at hE
            have HT := hid (hLe.2.1 _ e3)
            clear hz hr hbz hq hgm ht hlong hbig he hx hxz hcat hLe e3 hbs hsz
            go_wp2_with fail
            refine hSi.mono ?_
            clear hSi
            rintro e' w1 ⟨rfl, hw1⟩
            subst hw1
            go_wp2_with fail
            refine hE.mono ?_
            clear hE
            rintro e' w1 ⟨rfl, hw1⟩
            subst hw1
            go_wp2
            (try simp only [Exit.inBlock, Exit.then])
            refine bodyPost_ret (results_tmp4 rfl _ _ _) rfl ?_
            rw [HT.out]
            exact ⟨rfl, rfl⟩
set_option maxRecDepth 20000 in
theorem chunks_out (s : ByteArray) (at' : Int) (w : World) (h : at' < 0 ∨ (s.size : Int) < at') :
    Calls Tryz.prog 32 #[.string s, .int .i64 at'] w fun e w' => e = .returned (chkV ([], 0, false, 400)) ∧ w = w' := by
  rcases h with h | h
  · have f1 : decide (at' < 0) = true := by simp; omega
    go_enter Tryz.func32, Tryz.ntmps32
    go_wp2
    (try simp only [Exit.inBlock, Exit.then])
    refine bodyPost_ret (results_tmp4 rfl _ _ _) rfl ?_
    exact ⟨rfl, rfl⟩
  · have h2 : ¬ at' < 0 := by omega
    have f1 : decide (at' < 0) = false := by simp; omega
    have f2 : decide ((s.size : Int) < at') = true := by simp; omega
    go_enter Tryz.func32, Tryz.ntmps32
    go_wp2
    (try simp only [Exit.inBlock, Exit.then])
    refine bodyPost_ret (results_tmp4 rfl _ _ _) rfl ?_
    exact ⟨rfl, rfl⟩
set_option maxRecDepth 20000 in
theorem rchunks_out (s : ByteArray) (at' : Int) (w : World) (h : at' < 0 ∨ (s.size : Int) < at') :
    Calls Tryz.prog 45 #[.string s, .int .i64 at'] w fun e w' => e = .returned (chkV ([], 0, false, 400)) ∧ w = w' := by
  rcases h with h | h
  · have f1 : decide (at' < 0) = true := by simp; omega
    go_enter Tryz.func45, Tryz.ntmps45
    go_wp2
    (try simp only [Exit.inBlock, Exit.then])
    refine bodyPost_ret (results_tmp4 rfl _ _ _) rfl ?_
    exact ⟨rfl, rfl⟩
  · have h2 : ¬ at' < 0 := by omega
    have f1 : decide (at' < 0) = false := by simp; omega
    have f2 : decide ((s.size : Int) < at') = true := by simp; omega
    go_enter Tryz.func45, Tryz.ntmps45
    go_wp2
    (try simp only [Exit.inBlock, Exit.then])
    refine bodyPost_ret (results_tmp4 rfl _ _ _) rfl ?_
    exact ⟨rfl, rfl⟩
end Go.Proofs.YtllhibdjopfcnaaGreatDoor
