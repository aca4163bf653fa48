/-
  Target of the code.
-/
import Derived.Test.YtllhibdjopfcnaaGreatDoorFormB
import Derived.Test.YtllhibdjopfcnaaGreatDoorTMath
namespace Go.Proofs.YtllhibdjopfcnaaGreatDoor
open Go.RowKit
set_option linter.unusedVariables false

theorem results_tmp4 {fn : Func} {t u v x : Tmp} (h : fn.results = #[.tmp t, .tmp u, .tmp v, .tmp x]) (tmps : Array Value) (P : Program) (w : World) :
    (results fn tmps).run P w = .ok (.tuple #[tmps.getD t undef, tmps.getD u undef, tmps.getD v undef, tmps.getD x undef]) w := by
  simp [results, h]

theorem hasPrefix_slash (L : List UInt8) : Lib.hasPrefix L [47] = decide (L.head? = some 47) := by
  cases L with
  | nil => rfl
  | cons b r =>
    by_cases h : b = 47
    · subst h; simp [Lib.hasPrefix]
    · have h2 : ¬ (47 : UInt8) = b := fun e => h e.symm
      simp [Lib.hasPrefix, List.isPrefixOf, h, h2]
theorem getD_strN (s : ByteArray) (k : Nat) (h : k < s.size) : s.data.toList.getD k 0 = s[k] := by
  have hl : k < s.data.toList.length := by rw [len_str]; exact h
  simp only [List.getD, List.getElem?_eq_getElem hl, Option.getD_some]
  rfl

set_option maxRecDepth 20000 in
set_option maxHeartbeats 1000000 in
theorem stands_any (s : ByteArray) (w : World) (hs : s.size ≤ 140737488355328) :
    Calls Tryz.prog 54 #[.string s] w fun e w' => e = .returned (.tuple #[.int .i64 (((standsV s.data.toList).getD 0 : Nat) : Int), .bool (standsV s.data.toList).isNone]) ∧ w' = w := by
  have hP := Tryz.strings_HasPrefix s ⟨#[47]⟩ w
  rw [show (⟨#[47]⟩ : ByteArray).data.toList = [47] from rfl, hasPrefix_slash] at hP
  obtain ⟨V, hV⟩ : ∃ V, V = standsV s.data.toList := ⟨_, rfl⟩
  rw [← hV]
  have HV := hid hV
  clear hV
  by_cases hh : s.data.toList.head? = some 47
  · rw [decide_eq_true hh] at hP
    have HVV : Hid (V = firstBad s.data.toList) := by unfold Hid; rw [HV.out, standsV, if_pos hh]
    clear HV hh
    go_enter Tryz.func54, Tryz.ntmps54
    go_wp2_with fail
    refine hP.mono ?_
    clear hP
    rintro e w1 ⟨rfl, hw1⟩
    subst hw1
    go_wp2_with fail
    go_loop [10] (fun i => ∃ (k : Nat), k ≤ s.size ∧ i = .int .i64 (k : Int) ∧ ∀ j, j < k → ¬ badB (s.data.toList.getD j 0)) (fun i => s.size - (intOf i).toNat)
    case atStart => exact ⟨0, Nat.zero_le _, rfl, fun j hj => by omega⟩
    case round =>
      obtain ⟨k, hk, rfl, hno⟩ := hrel
      have HNo := hid hno
      clear hno
      by_cases hlt : k < s.size
      · have hlt' : (k : Int) < (s.size : Int) := by omega
        have i1 := index_byte s .i64 (k : Int) k rfl hlt
        have hll : k < s.data.toList.length := by rw [len_str]; exact hlt
        have hge : s.data.toList[k] = s[k] := rfl
        have HB : Hid (badB s[k] → V = some k) := by
          unfold Hid
          intro hb
          rw [HVV.out]
          exact firstBad_at _ k hll HNo.out (by rw [hge]; exact hb)
        have HG : Hid (¬ badB s[k] → ∀ j, j < k + 1 → ¬ badB (s.data.toList.getD j 0)) := by
          unfold Hid
          intro hb j hj
          by_cases hjk : j = k
          · subst hjk; rw [getD_strN s j hlt]; exact hb
          · exact HNo.out j (by omega)
        obtain ⟨b, hb⟩ : ∃ b, b = s[k] := ⟨_, rfl⟩
        rw [← hb] at i1 HB HG
        have lb := b.toNat_lt
        clear hb hll hge
        by_cases h1 : b.toNat < 33
        · have h1' : ((b.toNat : Nat) : Int) < 33 := by omega
          have HE := hid (HB.out (Or.inl h1))
          clear HB HG
          go_wp2
          go_ret2
          exact ⟨by rw [HE.out]; rfl, rfl⟩
        · have h1' : ¬ ((b.toNat : Nat) : Int) < 33 := by omega
          by_cases h2 : 126 < b.toNat
          · have h2' : (126 : Int) < ((b.toNat : Nat) : Int) := by omega
            have HE := hid (HB.out (Or.inr (Or.inl h2)))
            clear HB HG
            go_wp2
            go_ret2
            exact ⟨by rw [HE.out]; rfl, rfl⟩
          · have h2' : ¬ (126 : Int) < ((b.toNat : Nat) : Int) := by omega
            by_cases h3 : b.toNat = 35
            · have h3' : (((b.toNat : Nat) : Int) == 35) = true := by rw [beq_iff_eq]; omega
              have HE := hid (HB.out (Or.inr (Or.inr h3)))
              clear HB HG h3
              go_wp2
              go_ret2
              exact ⟨by rw [HE.out]; rfl, rfl⟩
            · have h3' : (((b.toNat : Nat) : Int) == 35) = false := by rw [beq_eq_false_iff_ne]; omega
              have HE := hid (HG.out (by unfold badB; omega))
              clear HB HG h3
              go_wp2
              go_round
              case rel => exact ⟨k + 1, by omega, by go_num, HE.out⟩
              case measure => simp [intOf]; omega
      · have hlt' : ¬ (k : Int) < (s.size : Int) := by omega
        have HE : Hid (V = none) := by
          unfold Hid
          rw [HVV.out]
          exact firstBad_none _ (fun j hj => HNo.out j (by rw [len_str] at hj; omega))
        clear HNo
        go_wp2
        go_ret2
        exact ⟨by rw [HE.out]; rfl, rfl⟩
  · rw [decide_eq_false hh] at hP
    have HE : Hid (V = some 0) := by unfold Hid; rw [HV.out, standsV, if_neg hh]
    clear HV hh
    go_enter Tryz.func54, Tryz.ntmps54
    go_wp2_with fail
    refine hP.mono ?_
    clear hP
    rintro e w1 ⟨rfl, hw1⟩
    subst hw1
    go_wp2
    go_ret2
    exact ⟨by rw [HE.out]; rfl, rfl⟩

theorem dec_some_any {L : List UInt8} {p : Nat} (h : (dec false L).2 = some p) : decErr L = 60 ∧ decPl L = p ∧ decOut false L = [] := by
  have h2 : (dec true L).2 = some p := by rw [dec_any true false]; exact h
  refine ⟨by rw [decErr, h2]; simp, by rw [decPl, h2]; rfl, by rw [decOut, h]; simp⟩
theorem dec_none_any {L : List UInt8} (h : (dec false L).2 = none) : decErr L = 0 ∧ decPl L = 0 ∧ decOut false L = (dec false L).1 := by
  have h2 : (dec true L).2 = none := by rw [dec_any true false]; exact h
  refine ⟨by rw [decErr, h2]; simp, by rw [decPl, h2]; rfl, by rw [decOut, h]; simp⟩
theorem formE_some' {L : List UInt8} {p : Nat} (h : (dec true L).2 = some p) : formE L = 60 ∧ formO L = [] ∧ decPl L = p := by
  rw [formE, formO, decPl, h]; simp
theorem formE_full {L : List UInt8} (h : (dec true L).2 = none) (h2 : 32 < (formL L).length) : formE L = 2 ∧ formO L = [] ∧ decPl L = 0 := by
  rw [formE, formO, decPl, h]; simp [h2]
theorem formE_ok {L : List UInt8} (h : (dec true L).2 = none) (h2 : ¬ 32 < (formL L).length) : formE L = 0 ∧ formO L = formL L ∧ decPl L = 0 := by
  rw [formE, formO, decPl, h]; simp [h2]

set_option maxRecDepth 20000 in
set_option maxHeartbeats 2000000 in
theorem target_any (l : List UInt8) (w : World) (hs : l.length ≤ 9223372036854775807) :
    Calls Tryz.prog 38 #[.string ⟨l.toArray⟩] w fun e w' => ∃ v', e = .returned (.tuple #[.string ⟨(tgt l).path.toArray⟩, v', .int .i64 (tgt l).err, .int .i64 ((tgt l).at' : Int)]) ∧ OwnsP w' w.heap.size v' (tgt l).query ∧ Below w.heap.size w w' := by
  obtain ⟨s, hse⟩ : ∃ s : ByteArray, s = ⟨l.toArray⟩ := ⟨_, rfl⟩
  have hsz : s.size = l.length := by rw [hse, size_list]
  obtain ⟨T, hT⟩ : ∃ T, T = tgt l := ⟨_, rfl⟩
  rw [← hT]
  by_cases hlong : 1024 < l.length
  · have hl' : (1024 : Int) < (s.size : Int) := by omega
    rw [tgt, if_pos hlong] at hT
    rw [hT, ← hse]
    clear hT hse hsz
    go_enter Tryz.func38, Tryz.ntmps38
    go_wp2
    (try simp only [Exit.inBlock, Exit.then])
    refine bodyPost_ret (results_tmp4 rfl _ _ _) rfl ?_
    exact ⟨_, rfl, OwnsP.nil _ _, Below.refl _ _⟩
  · have hl' : ¬ (1024 : Int) < (s.size : Int) := by omega
    rw [tgt, if_neg hlong] at hT
    have hSt := stands_any s w (by omega)
    have hCut := fun w => cut_any l 63 w (by omega)
    rw [← hse] at hCut
    rw [show s.data.toList = l by rw [hse]] at hSt
    obtain ⟨g1, _, g3⟩ := cutC_len 63 l
    rw [← hse]
    clear hse hsz
    cases hv : standsV l with
    | some p =>
      rw [hv] at hT hSt
      simp only at hT
      rw [hT]
      clear hT hv hCut g1 g3
      go_enter Tryz.func38, Tryz.ntmps38
      go_wp2_with fail
      refine hSt.mono ?_
      clear hSt
      rintro e w1 ⟨rfl, hw1⟩
      subst hw1
      go_wp2
      (try simp only [Exit.inBlock, Exit.then])
      refine bodyPost_ret (results_tmp4 rfl _ _ _) rfl ?_
      exact ⟨_, rfl, OwnsP.nil _ _, Below.refl _ _⟩
    | none =>
      rw [hv] at hT hSt
      simp only at hT
      have hDe := fun w => decode_list (cutC 63 l).1 false w (by omega)
      have hFo := fun w => form_any (cutC 63 l).2.1 w (by omega)
      obtain ⟨a, ha⟩ : ∃ x, x = (cutC 63 l).1 := ⟨_, rfl⟩
      obtain ⟨b, hb⟩ : ∃ x, x = (cutC 63 l).2.1 := ⟨_, rfl⟩
      obtain ⟨c, hc⟩ : ∃ x, x = (cutC 63 l).2.2 := ⟨_, rfl⟩
      rw [← ha, ← hb, ← hc] at hCut
      rw [← ha] at hDe g1
      rw [← hb] at hFo g3
      rw [← ha, ← hb] at hT
      have HC := hid hCut
      clear hv ha hb hc hCut
      cases hd : (dec false a).2 with
      | some p =>
        rw [hd] at hT
        simp only at hT
        obtain ⟨x1, x2, x3⟩ := dec_some_any hd
        rw [x1, x2, x3] at hDe
        rw [hT]
        have HD := hid hDe
        clear hT hd x1 x2 x3 hDe hFo
        go_enter Tryz.func38, Tryz.ntmps38
        go_wp2_with fail
        refine hSt.mono ?_
        clear hSt
        rintro e w1 ⟨rfl, hw1⟩
        subst hw1
        go_wp2_with fail
        refine (HC.out _).mono ?_
        clear HC
        rintro e w2 ⟨rfl, n, hw2⟩
        have HB2 : Hid (Below w1.heap.size w1 w2) := by unfold Hid; rw [hw2]; exact below_drewN' _ _ _
        clear hw2
        go_wp2_with fail
        refine (HD.out _).mono ?_
        clear HD
        rintro e w3 ⟨rfl, hB⟩
        have HB3 := hid (HB2.out.trans (hB.mono HB2.out.size))
        clear hB HB2
        go_wp2
        (try simp only [Exit.inBlock, Exit.then])
        refine bodyPost_ret (results_tmp4 rfl _ _ _) rfl ?_
        exact ⟨_, rfl, OwnsP.nil _ _, HB3.out⟩
      | none =>
        rw [hd] at hT
        simp only at hT
        obtain ⟨x1, x2, x3⟩ := dec_none_any hd
        rw [x1, x2, x3] at hDe
        have HD := hid hDe
        have HF : Hid (∀ w, Calls Tryz.prog 57 #[.string ⟨b.toArray⟩] w fun e w' => ∃ v', e = .returned (.tuple #[v', .int .i64 (formE b), .int .i64 (decPl b : Int)]) ∧ OwnsP w' w.heap.size v' (formO b) ∧ Below w.heap.size w w') := hid hFo
        have HSt := hid hSt
        have hal : a.length ≤ 1024 := by omega
        have hasz : (⟨a.toArray⟩ : ByteArray).size = a.length := size_list a
        clear hd x1 x2 x3 hDe hFo hSt
        have key : ∃ (E : Int) (D : Nat) (O : List PairL), formE b = E ∧ decPl b = D ∧ formO b = O ∧
            ((E = 60 ∧ D ≤ 1024 ∧ T = ⟨[], [], 60, a.length + 1 + D⟩) ∨ (E = 2 ∧ T = ⟨[], [], 2, 0⟩) ∨ (E = 0 ∧ T = ⟨(dec false a).1, O, 0, 0⟩)) := by
          cases hb2 : (dec true b).2 with
          | some p =>
            obtain ⟨y1, y2, y3⟩ := formE_some' hb2
            have := dec_place true b p hb2
            refine ⟨_, _, _, rfl, rfl, rfl, Or.inl ⟨y1, by omega, ?_⟩⟩
            rw [hT, hb2, y3]
          | none =>
            by_cases h32 : 32 < (formL b).length
            · obtain ⟨y1, y2, y3⟩ := formE_full hb2 h32
              refine ⟨_, _, _, rfl, rfl, rfl, Or.inr (Or.inl ⟨y1, ?_⟩)⟩
              rw [hT, hb2]
              simp [h32]
            · obtain ⟨y1, y2, y3⟩ := formE_ok hb2 h32
              refine ⟨_, _, _, rfl, rfl, rfl, Or.inr (Or.inr ⟨y1, ?_⟩)⟩
              rw [hT, hb2, y2]
              simp [h32]
        obtain ⟨E, D, O, k1, k2, k3, hcase⟩ := key
        rw [k1, k2, k3] at HF
        clear k1 k2 k3 hT
        rcases hcase with ⟨rfl, hD, hTe⟩ | ⟨rfl, hTe⟩ | ⟨rfl, hTe⟩
        all_goals
          rw [hTe]
          clear hTe
          go_enter Tryz.func38, Tryz.ntmps38
          go_wp2_with fail
          refine HSt.out.mono ?_
          clear HSt
          rintro e w1 ⟨rfl, hw1⟩
          subst hw1
          go_wp2_with fail
          refine (HC.out _).mono ?_
          clear HC
          rintro e w2 ⟨rfl, n, hw2⟩
          have HB2 : Hid (Below w1.heap.size w1 w2) := by unfold Hid; rw [hw2]; exact below_drewN' _ _ _
          clear hw2
          go_wp2_with fail
          refine (HD.out _).mono ?_
          clear HD
          rintro e w3 ⟨rfl, hB⟩
          have HB3 := hid (HB2.out.trans (hB.mono HB2.out.size))
          clear hB HB2
          go_wp2_with fail
          refine (HF.out _).mono ?_
          clear HF
          rintro e w4 ⟨v4, rfl, hO4, hB⟩
          have HB4 := hid (HB3.out.trans (hB.mono HB3.out.size))
          have HO4 := hid (hO4.le HB3.out.size)
          clear hO4 hB HB3
          go_wp2
          (try simp only [Exit.inBlock, Exit.then])
          refine bodyPost_ret (results_tmp4 rfl _ _ _) rfl ?_
          first
            | exact ⟨_, rfl, OwnsP.nil _ _, HB4.out⟩
            | exact ⟨_, rfl, HO4.out, HB4.out⟩
            | (refine ⟨_, ?_, OwnsP.nil _ _, HB4.out⟩; show Ending.returned _ = Ending.returned _; congr 3; omega)

end Go.Proofs.YtllhibdjopfcnaaGreatDoor
