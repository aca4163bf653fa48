/-
  The code's: names and values, which responses may be, plain ones.
-/
import Derived.Test.YtgkipeehmckbdaaDoorYCode
namespace Go.Proofs.YtgkipeehmckbdaaDoor
open Go.RowKit
set_option linter.unusedVariables false

set_option maxRecDepth 20000 in
set_option maxHeartbeats 1000000 in
theorem made_Ny (s : ByteArray) (w : World) (hs : s.size ≤ 140737488355328) :
    Calls Tryd.prog 42 #[.string s, .func (.func 43) #[] #[]] w fun e w' => e = .returned (.bool (s.data.toList.all isNy)) ∧ w = w' := by
  obtain ⟨V, hV⟩ : ∃ V, V = s.data.toList.all isNy := ⟨_, rfl⟩
  rw [← hV]
  have HV := hid hV
  clear hV
  go_enter Tryd.func42, Tryd.ntmps42
  go_wp2_with fail
  go_loop [8] (fun i => ∃ (k : Nat), k ≤ s.size ∧ i = .int .i64 (k : Int) ∧ (s.data.toList.take k).all isNy = true) (fun i => s.size - (intOf i).toNat)
  case atStart => exact ⟨0, Nat.zero_le _, rfl, by simp⟩
  case round =>
    obtain ⟨k, hk, rfl, hall⟩ := hrel
    have HA := hid hall
    clear hall
    by_cases hlt : k < s.size
    · have hlt' : (k : Int) < (s.size : Int) := by omega
      have i1 := index_byte s .i64 (k : Int) k rfl hlt
      have hll : k < s.data.toList.length := by rw [len_str]; exact hlt
      have hge : s.data.toList[k] = s[k] := rfl
      have HB : Hid (isNy s[k] = false → V = false) := by
        unfold Hid
        intro hb
        rw [HV.out, all_take_false hll (by rw [hge]; exact hb)]
      have HG : Hid (isNy s[k] = true → (s.data.toList.take (k + 1)).all isNy = true) := by
        unfold Hid
        intro hb
        rw [all_take_succ _ _ _ hll, HA.out, hge, hb]
        rfl
      have hC := isOfName_any s[k] w
      obtain ⟨b, hb⟩ : ∃ b, b = s[k] := ⟨_, rfl⟩
      rw [← hb] at i1 HB HG hC
      clear hb hll hge
      cases hp : isNy b with
      | true =>
        rw [hp] at hC
        have HE := hid (HG.out hp)
        clear HB HG
        go_wp2_with fail
        refine hC.mono ?_
        clear hC
        rintro e w1 ⟨rfl, hw1⟩
        subst hw1
        go_wp2
        go_round
        case rel => exact ⟨k + 1, by omega, by go_num, HE.out⟩
        case measure => simp [intOf]; omega
      | false =>
        rw [hp] at hC
        have HE := hid (HB.out hp)
        clear HB HG
        go_wp2_with fail
        refine hC.mono ?_
        clear hC
        rintro e w1 ⟨rfl, hw1⟩
        subst hw1
        go_wp2
        go_ret
        exact ⟨by rw [HE.out]; rfl, rfl⟩
    · have hlt' : ¬ (k : Int) < (s.size : Int) := by omega
      have HE : Hid (V = true) := by
        unfold Hid
        have := HA.out
        rw [List.take_of_length_le (by rw [len_str]; omega)] at this
        rw [HV.out, this]
      clear HA
      go_wp2
      go_ret
      exact ⟨by rw [HE.out]; rfl, rfl⟩
theorem madeL_Ny (l : List UInt8) (w : World) (hs : l.length ≤ 140737488355328) :
    Calls Tryd.prog 42 #[.string ⟨l.toArray⟩, .func (.func 43) #[] #[]] w fun e w' => e = .returned (.bool (l.all isNy)) ∧ w = w' := made_Ny ⟨l.toArray⟩ w (by rw [size_list]; exact hs)
set_option maxRecDepth 20000 in
set_option maxHeartbeats 1000000 in
theorem made_Vl (s : ByteArray) (w : World) (hs : s.size ≤ 140737488355328) :
    Calls Tryd.prog 42 #[.string s, .func (.func 45) #[] #[]] w fun e w' => e = .returned (.bool (s.data.toList.all isVl)) ∧ w = w' := by
  obtain ⟨V, hV⟩ : ∃ V, V = s.data.toList.all isVl := ⟨_, rfl⟩
  rw [← hV]
  have HV := hid hV
  clear hV
  go_enter Tryd.func42, Tryd.ntmps42
  go_wp2_with fail
  go_loop [8] (fun i => ∃ (k : Nat), k ≤ s.size ∧ i = .int .i64 (k : Int) ∧ (s.data.toList.take k).all isVl = true) (fun i => s.size - (intOf i).toNat)
  case atStart => exact ⟨0, Nat.zero_le _, rfl, by simp⟩
  case round =>
    obtain ⟨k, hk, rfl, hall⟩ := hrel
    have HA := hid hall
    clear hall
    by_cases hlt : k < s.size
    · have hlt' : (k : Int) < (s.size : Int) := by omega
      have i1 := index_byte s .i64 (k : Int) k rfl hlt
      have hll : k < s.data.toList.length := by rw [len_str]; exact hlt
      have hge : s.data.toList[k] = s[k] := rfl
      have HB : Hid (isVl s[k] = false → V = false) := by
        unfold Hid
        intro hb
        rw [HV.out, all_take_false hll (by rw [hge]; exact hb)]
      have HG : Hid (isVl s[k] = true → (s.data.toList.take (k + 1)).all isVl = true) := by
        unfold Hid
        intro hb
        rw [all_take_succ _ _ _ hll, HA.out, hge, hb]
        rfl
      have hC := isOfValue_any s[k] w
      obtain ⟨b, hb⟩ : ∃ b, b = s[k] := ⟨_, rfl⟩
      rw [← hb] at i1 HB HG hC
      clear hb hll hge
      cases hp : isVl b with
      | true =>
        rw [hp] at hC
        have HE := hid (HG.out hp)
        clear HB HG
        go_wp2_with fail
        refine hC.mono ?_
        clear hC
        rintro e w1 ⟨rfl, hw1⟩
        subst hw1
        go_wp2
        go_round
        case rel => exact ⟨k + 1, by omega, by go_num, HE.out⟩
        case measure => simp [intOf]; omega
      | false =>
        rw [hp] at hC
        have HE := hid (HB.out hp)
        clear HB HG
        go_wp2_with fail
        refine hC.mono ?_
        clear hC
        rintro e w1 ⟨rfl, hw1⟩
        subst hw1
        go_wp2
        go_ret
        exact ⟨by rw [HE.out]; rfl, rfl⟩
    · have hlt' : ¬ (k : Int) < (s.size : Int) := by omega
      have HE : Hid (V = true) := by
        unfold Hid
        have := HA.out
        rw [List.take_of_length_le (by rw [len_str]; omega)] at this
        rw [HV.out, this]
      clear HA
      go_wp2
      go_ret
      exact ⟨by rw [HE.out]; rfl, rfl⟩
theorem madeL_Vl (l : List UInt8) (w : World) (hs : l.length ≤ 140737488355328) :
    Calls Tryd.prog 42 #[.string ⟨l.toArray⟩, .func (.func 45) #[] #[]] w fun e w' => e = .returned (.bool (l.all isVl)) ∧ w = w' := made_Vl ⟨l.toArray⟩ w (by rw [size_list]; exact hs)

set_option maxRecDepth 20000 in
set_option maxHeartbeats 1000000 in
theorem isName_any (l : List UInt8) (w : World) (hs : l.length ≤ 140737488355328) :
    Calls Tryd.prog 32 #[.string ⟨l.toArray⟩] w fun e w' => e = .returned (.bool (nameY l)) ∧ w = w' := by
  have hM := madeL_Ny l w hs
  have hV : nameY l = (!decide (l = []) && (!decide (l = clS) && (!decide (l = cnS) && l.all isNy))) := rfl
  have q1 : (l != []) = !decide (l = []) := by rw [bne, eql_list]
  have q2 : (l != [99, 111, 110, 116, 101, 110, 116, 45, 108, 101, 110, 103, 116, 104]) = !decide (l = clS) := by rw [bne, eql_list]; rfl
  have q3 : (l != [99, 111, 110, 110, 101, 99, 116, 105, 111, 110]) = !decide (l = cnS) := by rw [bne, eql_list]; rfl
  have q4 : l.isEmpty = decide (l = []) := by cases l <;> rfl
  rw [hV]
  obtain ⟨A, hA⟩ : ∃ A, A = l.all isNy := ⟨_, rfl⟩
  rw [← hA] at hM ⊢
  by_cases h1 : l = []
  · subst h1
    clear hM hV q1 q2 q3 q4 hA
    go_enter Tryd.func32, Tryd.ntmps32
    go_wp2
    go_ret
    exact ⟨rfl, rfl⟩
  rw [decide_eq_false h1] at q1 q4 ⊢
  by_cases h2 : l = clS
  · subst h2
    clear hM hV q1 q2 q3 q4 hA h1
    go_enter Tryd.func32, Tryd.ntmps32
    unfold clS
    go_wp2
    go_ret
    exact ⟨rfl, rfl⟩
  rw [decide_eq_false h2] at q2 ⊢
  by_cases h3 : l = cnS
  · subst h3
    clear hM hV q1 q2 q3 q4 hA h1 h2
    go_enter Tryd.func32, Tryd.ntmps32
    unfold cnS
    go_wp2
    go_ret
    exact ⟨rfl, rfl⟩
  rw [decide_eq_false h3] at q3 ⊢
  have h2' : ¬ l = [99, 111, 110, 116, 101, 110, 116, 45, 108, 101, 110, 103, 116, 104] := h2
  have h3' : ¬ l = [99, 111, 110, 110, 101, 99, 116, 105, 111, 110] := h3
  have q5 : (l == [99, 111, 110, 116, 101, 110, 116, 45, 108, 101, 110, 103, 116, 104]) = false := by rw [eql_list]; exact decide_eq_false h2
  have q6 : (l == [99, 111, 110, 110, 101, 99, 116, 105, 111, 110]) = false := by rw [eql_list]; exact decide_eq_false h3
  have Q5 := hid q5
  have Q6 := hid q6
  clear hV hA h2 h3 q5 q6
  go_enter Tryd.func32, Tryd.ntmps32
  go_wp2_with fail
  refine hM.mono ?_
  clear hM
  rintro e w1 ⟨rfl, hw1⟩
  subst hw1
  go_wp2
  go_ret
  refine ⟨?_, rfl⟩
  show Ending.returned (.bool ((!l == [99, 111, 110, 116, 101, 110, 116, 45, 108, 101, 110, 103, 116, 104] && !l == [99, 111, 110, 110, 101, 99, 116, 105, 111, 110]) && A)) = _
  rw [Q5.out, Q6.out]
  rfl

theorem trim_list (l : List UInt8) (w : World) (hs : l.length ≤ 140737488355328) : Calls Tryd.prog 44 #[.string ⟨l.toArray⟩, .string ⟨#[32, 9]⟩] w fun e w' => e = .returned (.string ⟨(trimB l).toArray⟩) ∧ Below w.heap.size w w' :=
  Tryd.strings_Trim_blanks ⟨l.toArray⟩ w (by rw [size_list]; omega)
set_option maxRecDepth 20000 in
set_option maxHeartbeats 1000000 in
theorem isValue_any (l : List UInt8) (w : World) (hs : l.length ≤ 140737488355328) :
    Calls Tryd.prog 33 #[.string ⟨l.toArray⟩] w fun e w' => e = .returned (.bool (valueY l)) ∧ Below w.heap.size w w' := by
  have hT := trim_list l w hs
  have hM := fun w1 => madeL_Vl l w1 hs
  have hV : valueY l = (decide (trimB l = l) && l.all isVl) := rfl
  have q1 := eql_list (trimB l) l
  rw [hV]
  obtain ⟨T, hTe⟩ : ∃ T, T = trimB l := ⟨_, rfl⟩
  rw [← hTe] at hT q1 ⊢
  obtain ⟨A, hA⟩ : ∃ A, A = l.all isVl := ⟨_, rfl⟩
  rw [← hA] at hM ⊢
  by_cases h1 : T = l
  · rw [decide_eq_true h1] at q1 ⊢
    clear hV hTe hA
    go_enter Tryd.func33, Tryd.ntmps33
    go_wp2_with fail
    refine hT.mono ?_
    clear hT
    rintro e w1 ⟨rfl, hB1⟩
    have HB1 := hid hB1
    have hM1 := hM w1
    clear hB1 hM
    go_wp2_with fail
    refine hM1.mono ?_
    clear hM1
    rintro e w2 ⟨rfl, hw2⟩
    subst hw2
    go_wp2
    go_ret
    exact ⟨rfl, HB1.out⟩
  · rw [decide_eq_false h1] at q1 ⊢
    clear hV hTe hA hM
    go_enter Tryd.func33, Tryd.ntmps33
    go_wp2_with fail
    refine hT.mono ?_
    clear hT
    rintro e w1 ⟨rfl, hB1⟩
    have HB1 := hid hB1
    clear hB1
    go_wp2
    go_ret
    exact ⟨rfl, HB1.out⟩

set_option maxRecDepth 20000 in
set_option maxHeartbeats 8000000 in
theorem mayBe_any (r : RespL) (v : Value) (w : World) (hS : SeesP w v r.2.1) (hb : ∀ p ∈ r.2.1, p.1.length ≤ 1000000000 ∧ p.2.length ≤ 1000000000) (hl : r.2.1.length ≤ 1000000000) :
    Calls Tryd.prog 18 #[rspV r v] w fun e w' => e = .returned (.bool (mayY r)) ∧ Below w.heap.size w w' := by
  obtain ⟨n, fs, T, c⟩ := r
  obtain ⟨M, hM⟩ : ∃ M, M = mayY (n, fs, T, c) := ⟨_, rfl⟩
  rw [← hM]
  have HM : Hid (M = (decide (200 ≤ n ∧ n ≤ 599 ∧ fs.length ≤ 32 ∧ T.length ≤ 1048576) && fs.all fieldY)) := by unfold Hid; rw [hM]; rfl
  simp only [rspV] at hS hb hl ⊢
  have hB0 := below_alloc w (.cells #[.int .i64 n, v, .string ⟨T.toArray⟩, .bool c] 24)
  have hH0 := RspAt.new w (.int .i64 n) v (.string ⟨T.toArray⟩) (.bool c)
  obtain ⟨w0, hw0⟩ : ∃ w0, w0 = w.alloc (.cells #[.int .i64 n, v, .string ⟨T.toArray⟩, .bool c] 24) := ⟨_, rfl⟩
  rw [← hw0] at hB0 hH0
  obtain ⟨bb, off, ao, cap, rfl, hcap, _, hao, hcell⟩ := hS
  have HW0 := hid hw0
  have HH0 := hid hH0
  have HB0 := hid hB0
  have HC := hid hcell
  have HBd := hid hb
  have hTs : (⟨T.toArray⟩ : ByteArray).size = T.length := size_list T
  obtain ⟨s, hse⟩ : ∃ s : ByteArray, s = ⟨T.toArray⟩ := ⟨_, rfl⟩
  rw [← hse] at hTs HH0 HW0
  obtain ⟨z0, z1, z2, z3, _, _, _, _⟩ := HH0.out.cells
  clear hM hw0 hH0 hB0 hcell hb
  have hstop : ¬ (200 ≤ n ∧ n ≤ 599 ∧ fs.length ≤ 32 ∧ T.length ≤ 1048576) → M = false := by
    intro h
    rw [HM.out, decide_eq_false h]
    rfl
  rw [← hse]
  clear hse
  have HSt := hid hstop
  clear hstop
  by_cases g1 : n < 200
  · have HE := hid (HSt.out (by omega))
    clear HSt hTs
    go_enter Tryd.func18, Tryd.ntmps18
    go_wp2_with (first | rw [← HW0.out] | fail)
    go_ret
    exact ⟨by rw [HE.out]; rfl, HB0.out⟩
  by_cases g2 : 599 < n
  · have HE := hid (HSt.out (by omega))
    clear HSt hTs
    go_enter Tryd.func18, Tryd.ntmps18
    go_wp2_with (first | rw [← HW0.out] | fail)
    go_ret
    exact ⟨by rw [HE.out]; rfl, HB0.out⟩
  by_cases g3 : 32 < fs.length
  · have HE := hid (HSt.out (by omega))
    have g3' : (32 : Int) < (fs.length : Int) := by omega
    clear HSt hTs
    go_enter Tryd.func18, Tryd.ntmps18
    go_wp2_with (first | rw [← HW0.out] | fail)
    go_ret
    exact ⟨by rw [HE.out]; rfl, HB0.out⟩
  have g3' : ¬ (32 : Int) < (fs.length : Int) := by omega
  by_cases g4 : 1048576 < T.length
  · have HE := hid (HSt.out (by omega))
    have g4' : (1048576 : Int) < (s.size : Int) := by omega
    clear HSt hTs
    go_enter Tryd.func18, Tryd.ntmps18
    go_wp2_with (first | rw [← HW0.out] | fail)
    go_ret
    exact ⟨by rw [HE.out]; rfl, HB0.out⟩
  have g4' : ¬ (1048576 : Int) < (s.size : Int) := by omega
  have HMa : Hid (M = fs.all fieldY) := by
    unfold Hid
    rw [HM.out, decide_eq_true (by omega)]
    rfl
  clear HSt hTs HM
  go_enter Tryd.func18, Tryd.ntmps18
  go_wp2_with (first | rw [← HW0.out] | fail)
  go_loopw [28] (fun i wr => ∃ (k : Nat), k ≤ fs.length ∧ i = .int .i64 (k : Int) ∧ (fs.take k).all fieldY = true ∧ Below w0.heap.size w0 wr) (fun i _ => fs.length - (intOf i).toNat)
  case atStart => exact ⟨0, Nat.zero_le _, rfl, by simp, Below.refl _ _⟩
  case round =>
    obtain ⟨k, hk, rfl, hall, hB⟩ := hrel
    have hB0r := HB0.out.trans (hB.mono HB0.out.size)
    have hsb := hB0r.size
    have hsw := hB.size
    have HBw := hid hB
    by_cases hlt : k < fs.length
    · have hlt' : (k : Int) < (fs.length : Int) := by omega
      obtain rfl := hao (by intro h; rw [h] at hlt; simp at hlt)
      obtain ⟨d1, d2⟩ := HC.out k hlt
      have d1 := (hB0r.cell (World.block_lt_of_cell? w _ d1)).trans d1
      have d2 := (hB0r.cell (World.block_lt_of_cell? w _ d2)).trans d2
      unfold strV at d1 d2
      obtain ⟨hp1, hp2⟩ := HBd.out _ (List.getElem_mem hlt)
      have HNo : Hid (fieldY fs[k] = false → M = false) := by
        unfold Hid
        intro hf
        rw [HMa.out, List.all_eq_false]
        exact ⟨fs[k], List.getElem_mem hlt, by rw [hf]; simp⟩
      have HYes : Hid (fieldY fs[k] = true → (fs.take (k + 1)).all fieldY = true) := by
        unfold Hid
        intro hf
        rw [List.take_succ_eq_append_getElem hlt, List.all_append, hall]
        simp [hf]
      obtain ⟨P, hP⟩ : ∃ P, P = fs[k] := ⟨_, rfl⟩
      rw [← hP] at d1 d2 hp1 hp2 HNo HYes
      obtain ⟨P1, P2⟩ := P
      simp only at d1 d2 hp1 hp2
      have hBz := below_alloc wr (.cells #[.string ⟨P1.toArray⟩, .string ⟨P2.toArray⟩] 45)
      have pz1 : (wr.alloc (.cells #[.string ⟨P1.toArray⟩, .string ⟨P2.toArray⟩] 45)).cell? ⟨wr.heap.size, 0, none⟩ = some (.string ⟨P1.toArray⟩) := by simp
      have pz2 : (wr.alloc (.cells #[.string ⟨P1.toArray⟩, .string ⟨P2.toArray⟩] 45)).cell? ⟨wr.heap.size, 1, none⟩ = some (.string ⟨P2.toArray⟩) := by simp
      have hNa := fun W => isName_any P1 W (by omega)
      have hVa := fun W => isValue_any P2 W (by omega)
      have hfy : fieldY (P1, P2) = (nameY P1 && valueY P2) := rfl
      rw [hfy] at HNo HYes
      obtain ⟨D1, hD1⟩ : ∃ d, d = nameY P1 := ⟨_, rfl⟩
      obtain ⟨D5, hD5⟩ : ∃ d, d = valueY P2 := ⟨_, rfl⟩
      rw [← hD1] at hNa HNo HYes
      rw [← hD5] at hVa HNo HYes
      have HB := hid hB0r
      clear hD1 hD5 hfy hP hB hB0r hall HMa HC HBd
      obtain ⟨wz, hwz⟩ : ∃ wz, wz = wr.alloc (.cells #[.string ⟨P1.toArray⟩, .string ⟨P2.toArray⟩] 45) := ⟨_, rfl⟩
      rw [← hwz] at hBz pz1 pz2
      have HWZ := hid hwz
      have hNa := hNa wz
      have hVa := hVa wz
      clear hwz
      cases D1 with
      | false =>
        have HE := hid (HNo.out rfl)
        have HBz := hid (HB.out.trans (hBz.mono hsb))
        clear HNo HYes hVa hBz
        go_wp2_with (first | rw [← HWZ.out] | fail)
        refine hNa.mono ?_
        clear hNa
        rintro e w2 ⟨rfl, hw2⟩
        subst hw2
        go_wp2
        go_ret
        exact ⟨by rw [HE.out]; rfl, HBz.out⟩
      | true =>
        go_wp2_with (first | rw [← HWZ.out] | fail)
        refine hNa.mono ?_
        clear hNa
        rintro e w2 ⟨rfl, hw2⟩
        subst hw2
        go_wp2_with fail
        refine hVa.mono ?_
        clear hVa
        rintro e w3 ⟨rfl, hB3⟩
        have hB4 : Below wr.heap.size wr w3 := hBz.trans (hB3.mono hBz.size)
        have HB4 := hid (HB.out.trans (hB4.mono hsb))
        have HB5 := hid (HBw.out.trans (hB4.mono hsw))
        clear hB3 hB4 hBz
        cases D5 with
        | false =>
          have HE := hid (HNo.out rfl)
          clear HNo HYes
          go_wp2
          go_ret
          exact ⟨by rw [HE.out]; rfl, HB4.out⟩
        | true =>
          have HE := hid (HYes.out rfl)
          clear HNo HYes
          go_wp2
          go_roundw
          case rel => exact ⟨k + 1, by omega, by go_num, HE.out, HB5.out⟩
          case measure => simp [intOf]; omega
    · have hlt' : ¬ (k : Int) < (fs.length : Int) := by omega
      have HE : Hid (M = true) := by
        unfold Hid
        rw [HMa.out, ← hall, List.take_of_length_le (by omega)]
      have HB := hid hB0r
      clear hall hB hB0r
      go_wp2
      go_ret
      exact ⟨by rw [HE.out]; rfl, HB.out⟩

set_option maxRecDepth 20000 in
set_option maxHeartbeats 2000000 in
theorem plain_any (n : Int) (T : List UInt8) (c : Bool) (w : World) :
    Calls Tryd.prog 12 #[.int .i64 n, .string ⟨T.toArray⟩, .bool c] w fun e w' => e = .returned (rspV (n, [], T, c) (.slice none 0 0)) ∧ Below w.heap.size w w' := by
  have hH := RspAt.new w (.int .i64 0) (.slice none 0 0) (.string ⟨#[]⟩) (.bool false)
  have hB := below_alloc w (.cells #[.int .i64 0, .slice none 0 0, .string ⟨#[]⟩, .bool false] 24)
  obtain ⟨w1, hw1⟩ : ∃ w1, w1 = w.alloc (.cells #[.int .i64 0, .slice none 0 0, .string ⟨#[]⟩, .bool false] 24) := ⟨_, rfl⟩
  rw [← hw1] at hH hB
  have HW := hid hw1
  have hFr := fresh_any T w1
  have HH := hid hH
  have HB := hid hB
  clear hw1 hH hB
  go_enter Tryd.func12, Tryd.ntmps12
  go_wp2_with (first | rw [← HW.out] | fail)
  refine hFr.mono ?_
  clear hFr
  rintro e w2 ⟨rfl, hB2⟩
  have hH2 := HH.out.below hB2 HH.out.lt
  have hB02 := HB.out.trans (hB2.mono HB.out.size)
  have HF0 := hid (hH2.store0 (x := .int .i64 n))
  have HF1 := hid (HF0.out.store1 (x := .slice none 0 0))
  have HF2 := hid (HF1.out.store2 (x := .string ⟨T.toArray⟩))
  have HF := hid (HF2.out.store3 (x := .bool c))
  obtain ⟨q0, q1, q2, q3, z0, z1, z2, z3⟩ := hH2.cells
  have HKF : Hid (Below w.heap.size w ((((w2.setCell ⟨w.heap.size, 0, none⟩ (.int .i64 n)).setCell ⟨w.heap.size, 1, none⟩ (.slice none 0 0)).setCell ⟨w.heap.size, 2, none⟩ (.string ⟨T.toArray⟩)).setCell ⟨w.heap.size, 3, none⟩ (.bool c))) := by
    unfold Hid
    exact (((hB02.setCell (p := ⟨w.heap.size, 0, none⟩) (by simp) _).setCell (p := ⟨w.heap.size, 1, none⟩) (by simp) _).setCell (p := ⟨w.heap.size, 2, none⟩) (by simp) _).setCell (p := ⟨w.heap.size, 3, none⟩) (by simp) _
  clear hB2 hH2 hB02 HF0 HF1 HF2
  go_wp2
  obtain ⟨y0, y1, y2, y3, _, _, _, _⟩ := HF.out.cells
  refine bodyPost_ret (v := rspV (n, [], T, c) (.slice none 0 0)) (by simp [results, Tryd.results12, go_sem, y0, y1, y2, y3]) rfl ?_
  exact ⟨rfl, HKF.out⟩
end Go.Proofs.YtgkipeehmckbdaaDoor
