/-
  HeadLetters, where what it reads is of bulk at most 1048576: for every such head and text of blanks the law HeadLetters returns true: letters of names and blanks around values change nothing. The listed tables are tied to the program.
-/
import Derived.Test.YtfdjnkjiffdbfaaGreatDoorRPrint
import Derived.Test.YtfdjnkjiffdbfaaGreatDoorPow
import Derived.Test.YtfdjnkjiffdbfaaGreatDoorRTrim
import Derived.Test.YtfdjnkjiffdbfaaGreatDoorFrameHZ
namespace Go.Proofs.YtfdjnkjiffdbfaaGreatDoor
open Go.RowKit
set_option linter.unusedVariables false

theorem tr_false {bl : List UInt8} {t : List UInt8} {k : Nat} (h : k < t.length) : tr bl false k (t.drop k) = t[k] :: tr bl (decide (t[k] = 10)) (k + 1) (t.drop (k + 1)) := by
  rw [List.drop_eq_getElem_cons h, tr]
theorem tr_true {bl : List UInt8} {t : List UInt8} {k : Nat} (h : k < t.length) : tr bl true k (t.drop k) = if upB k t[k] = 58 then 58 :: (bl ++ tr bl false (k + 1) (t.drop (k + 1))) else upB k t[k] :: tr bl true (k + 1) (t.drop (k + 1)) := by
  rw [List.drop_eq_getElem_cons h, tr]
theorem byteI (b : UInt8) (n : Nat) (hn : n < 256) : ((b.toNat : Int) == (n : Int)) = decide (b = UInt8.ofNat n) := by
  by_cases h : b = UInt8.ofNat n
  · rw [decide_eq_true h, h, beq_iff_eq]
    simp
    omega
  · rw [decide_eq_false h, beq_eq_false_iff_ne]
    intro e
    apply h
    have e' : b.toNat = n := by omega
    rw [← e']
    simp
theorem dw_none {p : UInt8 → Bool} : ∀ {l : List UInt8}, l.dropWhile p = [] → ∀ x ∈ l, p x = true
  | [], _, x, hx => by cases hx
  | a :: l, h, x, hx => by
    rw [List.dropWhile_cons] at h
    cases ha : p a with
    | false => rw [ha] at h; simp at h
    | true =>
      rw [ha] at h
      rcases List.mem_cons.1 hx with rfl | hx
      · exact ha
      · exact dw_none (by simpa using h) x hx
theorem dw_hd {p : UInt8 → Bool} : ∀ {l : List UInt8} {a : UInt8} {r : List UInt8}, l.dropWhile p = a :: r → p a = false
  | [], _, _, h => by simp at h
  | b :: l, a, r, h => by
    rw [List.dropWhile_cons] at h
    cases hb : p b with
    | false =>
      rw [hb] at h
      simp at h
      rw [← h.1]
      exact hb
    | true => rw [hb] at h; exact dw_hd (by simpa using h)
/-- What is nothing but blanks. -/
theorem trim_nil {l : List UInt8} (h : Lib.trimS l [32, 9] = []) : ∀ x ∈ l, [32, 9].contains x = true := by
  unfold Lib.trimS Lib.trimRightS Lib.trimLeftS at h
  have h1 := dw_none h
  cases hd : l.reverse.dropWhile (fun x => [32, 9].contains x) with
  | nil =>
    intro x hx
    exact dw_none hd x (List.mem_reverse.2 hx)
  | cons a r =>
    have h2 := dw_hd hd
    have h3 := h1 a (by rw [hd]; simp)
    rw [h3] at h2
    cases h2
set_option maxRecDepth 20000 in
set_option maxHeartbeats 16000000 in
theorem letters_walk (h : HeadL) (v : Value) (bl : List UInt8) (w : World) (hM : ML w) (hPw : Pow w) (hm0 : -9223372036854775808 ≤ h.2.2.1) (hm1 : h.2.2.1 ≤ 9223372036854775807) (hS : SeesP w v h.2.2.2) (hl : h.2.2.2.length ≤ 1048576) (hb : ∀ p ∈ h.2.2.2, p.1.length ≤ 1048576 ∧ p.2.length ≤ 1048576)
    (h1 : h.1.length ≤ 1048576) (h2 : h.2.1.length ≤ 1048576) (hbl : bl.length ≤ 1048576) :
    Calls Tryz.prog 6 #[.agg #[strV h.1, strV h.2.1, .int .i64 h.2.2.1, v], .string ⟨bl.toArray⟩] w fun e w' => e = .returned (.bool true) ∧ Below w.heap.size w w' := by
  have HPr := hid (fun w1 (hb1 : Below w.heap.size w w1) => print_any h (Lib.itoa h.2.2.1) v w1 (hM.below hb1 hM.lt) (hS.below hb1) hl hb h1 h2 (itoa_len _ hm0 hm1) (itoa_dig _) (fun W hW => itoa_any hm0 hm1 hPw W (hb1.trans (hW.mono hb1.size))))
  have HRp := hid (fun w1 (hb1 : Below w.heap.size w w1) => rprint_any h v w1 (hS.below hb1) hl hb h1 h2)
  have HTm := hid (fun w1 => rtrim_any bl w1 (by omega))
  have hps := fun t (e : prnL h = some t) => (print_some e).2
  have hlet := fun t (e : prnL h = some t) (hx : ∀ c ∈ bl, [32, 9].contains c = true) => letters e hx
  have hSm := fun v1 w1 (hs1 : SeesP w1 v1 h.2.2.2) (hb1 : Below w.heap.size w w1) => rsame7_any h h v1 v w1 hs1 (hS.below hb1) (by omega)
  rw [sameL_self] at hSm
  obtain ⟨P, hPe⟩ : ∃ P, P = prnL h := ⟨_, rfl⟩
  rw [← hPe] at HPr HRp hps hlet
  obtain ⟨A, B, m, fs⟩ := h
  simp only [strV] at HPr HRp hps hSm hS hlet ⊢
  have HSm := hid hSm
  have HA := hid awake_any
  have HM := hid hM
  have hgl := hM.lt
  have hB0 := below_alloc w (.cells #[.string ⟨A.toArray⟩, .string ⟨B.toArray⟩, .int .i64 m, v] 24)
  have hH0 := HeadAt.new w (.string ⟨A.toArray⟩) (.string ⟨B.toArray⟩) (.int .i64 m) v
  obtain ⟨w0, hw0⟩ : ∃ w0, w0 = w.alloc (.cells #[.string ⟨A.toArray⟩, .string ⟨B.toArray⟩, .int .i64 m, v] 24) := ⟨_, rfl⟩
  rw [← hw0] at hH0 hB0
  have HW0 := hid hw0
  have HB0 := hid hB0
  have HH0 := hid hH0
  have hPr := HPr.out w0 hB0
  obtain ⟨z0, z1, z2, z3, _, _, _, _⟩ := hH0.cells
  clear hw0 hH0 hB0 hM hPw hm0 hm1 hS hl hb h1 h2 hPe hSm HPr
  cases P with
  | none =>
    simp only [Option.getD_none, Option.isSome_none] at hPr HRp
    clear hps HSm HTm hlet
    go_enter Tryz.func6, Tryz.ntmps6
    go_wp2_with (first | rw [← HW0.out] | fail)
    refine hPr.mono ?_
    clear hPr
    rintro e w1 ⟨rfl, hB1⟩
    have hH1 := HH0.out.below hB1 HH0.out.lt
    have hB01 := HB0.out.trans (hB1.mono HB0.out.size)
    have hRp := HRp.out w1 hB01
    have HB1 := hid hB01
    obtain ⟨p0, p1, p2, p3, _, _, _, _⟩ := hH1.cells
    clear hH1 hB1 hB01 HRp
    go_wp2_with fail
    refine hRp.mono ?_
    clear hRp
    rintro e w2 ⟨rfl, hB2⟩
    have hB02 := HB1.out.trans (hB2.mono HB1.out.size)
    have hA := HA.out w2 (HM.out.below hB02 hgl)
    have HB2 := hid hB02
    clear hB2 hB02 HA
    go_wp2_with fail
    refine hA.mono ?_
    clear hA
    rintro e w3 ⟨rfl, hB3⟩
    have HB3 := hid (HB2.out.trans (hB3.mono HB2.out.size))
    clear hB3
    go_wp2
    go_ret
    exact ⟨rfl, HB3.out⟩
  | some t =>
    have hpt := hps t rfl
    have ht : t.length ≤ 4096 := by
      obtain ⟨_, raws, r⟩ := parse_ok hpt
      exact r.s4096
    have hlt0 := hlet t rfl
    simp only [Option.getD_some, Option.isSome_some] at hPr HRp
    clear hps hpt hlet
    cases hT : Lib.trimS bl [32, 9] with
    | cons x r =>
      rw [hT] at HTm
      obtain ⟨s, hs⟩ : ∃ s : ByteArray, s = ⟨(x :: r).toArray⟩ := ⟨_, rfl⟩
      have hse : s.toList.isEmpty = false := by rw [hs]; rw [ByteArray.toList_eq]; rfl
      rw [← hs] at HTm
      clear hs hT HSm hlt0
      go_enter Tryz.func6, Tryz.ntmps6
      go_wp2_with (first | rw [← HW0.out] | fail)
      refine hPr.mono ?_
      clear hPr
      rintro e w1 ⟨rfl, hB1⟩
      have hH1 := HH0.out.below hB1 HH0.out.lt
      have hB01 := HB0.out.trans (hB1.mono HB0.out.size)
      have hRp := HRp.out w1 hB01
      have HB1 := hid hB01
      obtain ⟨p0, p1, p2, p3, _, _, _, _⟩ := hH1.cells
      clear hH1 hB1 hB01 HRp
      go_wp2_with fail
      refine (HTm.out _).mono ?_
      clear HTm
      rintro e w9 ⟨rfl, hw9⟩
      subst hw9
      go_wp2_with fail
      refine hRp.mono ?_
      clear hRp
      rintro e w2 ⟨rfl, hB2⟩
      have hB02 := HB1.out.trans (hB2.mono HB1.out.size)
      have hA := HA.out w2 (HM.out.below hB02 hgl)
      have HB2 := hid hB02
      clear hB2 hB02 HA
      go_wp2_with fail
      refine hA.mono ?_
      clear hA
      rintro e w3 ⟨rfl, hB3⟩
      have HB3 := hid (HB2.out.trans (hB3.mono HB2.out.size))
      clear hB3
      go_wp2
      go_ret
      exact ⟨rfl, HB3.out⟩
    | nil =>
      have HL := hid (hlt0 (trim_nil hT))
      rw [hT] at HTm
      clear hT hlt0
      obtain ⟨TR, hTR⟩ : ∃ TR, TR = tr bl false 0 t := ⟨_, rfl⟩
      rw [← hTR] at HL
      have HTR0 := hid hTR
      clear hTR HRp
      go_enter Tryz.func6, Tryz.ntmps6
      go_wp2_with (first | rw [← HW0.out] | fail)
      refine hPr.mono ?_
      clear hPr
      rintro e w1 ⟨rfl, hB1⟩
      have HH1 := hid (HH0.out.below hB1 HH0.out.lt)
      have HB1 := hid (HB0.out.trans (hB1.mono HB0.out.size))
      clear hB1 HH0 HB0
      go_wp2_with fail
      refine (HTm.out _).mono ?_
      clear HTm
      rintro e w9 ⟨rfl, hw9⟩
      subst w9
      go_wp2_with fail
      go_loopw [9, 10, 11] (fun u nv i wr => ∃ (k : Nat) (nb : Bool) (out : List UInt8), k ≤ t.length ∧ i = .int .i64 (k : Int) ∧ nv = .bool nb ∧ OwnsB wr w1.heap.size u out ∧ out.length ≤ k * 1048577 ∧ out ++ tr bl nb k (t.drop k) = TR ∧ Below w1.heap.size w1 wr) (fun _ _ i _ => t.length - (intOf i).toNat)
      case atStart => exact ⟨0, false, [], Nat.zero_le _, rfl, rfl, OwnsB.nil _ _, by simp, by rw [HTR0.out]; rfl, Below.refl _ _⟩
      case round =>
        obtain ⟨k, nb, out, hk, rfl, rfl, hO, hol, htr, hB⟩ := hrel
        have hsw : w1.heap.size ≤ wr.heap.size := hB.size
        obtain ⟨ao, cap, rfl⟩ := OwnsB.shape hO
        have HO := hid hO
        have HB := hid hB
        clear hO hB
        by_cases hlt : k < t.length
        · have hlt' : (k : Int) < (t.length : Int) := by omega
          have hkb : k * 1048577 ≤ 4096 * 1048577 := Nat.mul_le_mul_right _ (by omega)
          have i1 := index_byte (⟨t.toArray⟩ : ByteArray) .i64 (k : Int) k rfl (by rw [size_list]; exact hlt)
          rw [show (⟨t.toArray⟩ : ByteArray)[k]'(by rw [size_list]; exact hlt) = t[k] from rfl] at i1
          have htf := tr_false (bl := bl) hlt
          have htt := tr_true (bl := bl) hlt
          obtain ⟨c, hc⟩ : ∃ c, c = t[k] := ⟨_, rfl⟩
          rw [← hc] at i1 htf htt
          have hcl := byteL c
          clear hc
          cases nb with
          | false =>
            rw [htf] at htr
            clear htf htt
            by_cases h10 : c = 10
            · have f10 : ((c.toNat : Int) == 10) = true := by rw [h10]; rfl
              rw [decide_eq_true h10] at htr
              have HTR : Hid (out ++ [c] ++ tr bl true (k + 1) (t.drop (k + 1)) = TR) := by unfold Hid; rw [← htr]; simp
              clear htr h10
              go_wp2_with (first
                | (at_builtin
                   refine wpList_appN rowBytes rfl _ _ rfl w1.heap.size (.slice ao out.length cap) (out.map UInt8.toNat) rfl (OwnsB.below HO.out (below_alloc wr _)) _ [(c).toNat] rfl (sees_b1 _ _ _ (rfl)) (by simp; omega) (by simp; omega) ?_
                   intro v4 w4 hO4 hG4
                   have HO4 : Hid (OwnsB w4 w1.heap.size v4 (out ++ [c])) := by
                     unfold Hid OwnsB
                     simpa using hO4
                   have HB4 := hid (below_grownBy (HB.out.trans ((below_alloc wr _).mono hsw)) hG4 (OwnsB.block HO.out) (by simp; omega))
                   clear hO4 hG4)
                | fail)
              go_roundw
              case rel => exact ⟨k + 1, true, out ++ [c], by omega, by go_num, rfl, HO4.out, by simp; omega, HTR.out, HB4.out⟩
              case measure => simp [intOf]; omega
            · have f10 : ((c.toNat : Int) == 10) = false := by rw [show (10 : Int) = ((10 : Nat) : Int) from rfl, byteI c 10 (by decide), decide_eq_false]; exact h10
              rw [decide_eq_false h10] at htr
              have HTR : Hid (out ++ [c] ++ tr bl false (k + 1) (t.drop (k + 1)) = TR) := by unfold Hid; rw [← htr]; simp
              clear htr h10
              go_wp2_with (first
                | (at_builtin
                   refine wpList_appN rowBytes rfl _ _ rfl w1.heap.size (.slice ao out.length cap) (out.map UInt8.toNat) rfl (OwnsB.below HO.out (below_alloc wr _)) _ [(c).toNat] rfl (sees_b1 _ _ _ (rfl)) (by simp; omega) (by simp; omega) ?_
                   intro v4 w4 hO4 hG4
                   have HO4 : Hid (OwnsB w4 w1.heap.size v4 (out ++ [c])) := by
                     unfold Hid OwnsB
                     simpa using hO4
                   have HB4 := hid (below_grownBy (HB.out.trans ((below_alloc wr _).mono hsw)) hG4 (OwnsB.block HO.out) (by simp; omega))
                   clear hO4 hG4)
                | fail)
              go_roundw
              case rel => exact ⟨k + 1, false, out ++ [c], by omega, by go_num, rfl, HO4.out, by simp; omega, HTR.out, HB4.out⟩
              case measure => simp [intOf]; omega
          | true =>
            have hnot58 : ∀ e : UInt8, e = 58 → ((e.toNat : Int) == 58) = true := by intro e h; rw [h]; rfl
            have hno : ∀ (e : UInt8) (n : Nat), n < 256 → e ≠ UInt8.ofNat n → ((e.toNat : Int) == (n : Int)) = false := by intro e n hn h; rw [byteI e n hn, decide_eq_false h]
            rw [htt] at htr
            clear htf htt
            by_cases g1 : 97 ≤ c.toNat
            · have f1 : decide ((97 : Int) ≤ ((c.toNat : Nat) : Int)) = true := by simp; omega
              have c58 : c ≠ 58 := by intro e; rw [e] at g1; exact absurd g1 (by decide)
              have c10 : c ≠ 10 := by intro e; rw [e] at g1; exact absurd g1 (by decide)
              have q58 : ((c.toNat : Int) == 58) = false := hno c 58 (by decide) c58
              have q10 : ((c.toNat : Int) == 10) = false := hno c 10 (by decide) c10
              by_cases g2 : c.toNat ≤ 122
              · have f2 : decide (((c.toNat : Nat) : Int) ≤ 122) = true := by simp; omega
                by_cases g3 : k % 2 = 0
                · have f3a : ((k : Int) % 2 == 0) = true := by rw [beq_iff_eq]; omega
                  have f3b : (Int.tmod (k : Int) 2 == 0) = true := by rw [beq_iff_eq, Int.tmod_eq_emod_of_nonneg (by omega)]; omega
                  have hu : upB k c = c - 32 := by unfold upB; rw [if_pos ⟨by simp only [isSm, decide_eq_true_eq]; exact ⟨g1, g2⟩, g3⟩]
                  have hsub : (c - 32).toNat = c.toNat - 32 := by rw [UInt8.toNat_sub_of_le]; · rfl
                                                                  · rw [UInt8.le_iff_toNat_le]; exact Nat.le_trans (by decide) g1
                  rw [hu] at htr
                  obtain ⟨e, he⟩ : ∃ e, e = c - 32 := ⟨_, rfl⟩
                  rw [← he] at htr hsub
                  have hval : (c.toNat : Int) - 32 = (e.toNat : Int) := by rw [hsub]; omega
                  have hel := byteL e
                  have e58 : e ≠ 58 := by intro h; rw [h] at hsub; have : (58 : UInt8).toNat = 58 := rfl; omega
                  have e10 : e ≠ 10 := by intro h; rw [h] at hsub; have : (10 : UInt8).toNat = 10 := rfl; omega
                  have r58 : ((e.toNat : Int) == 58) = false := hno e 58 (by decide) e58
                  have r10 : ((e.toNat : Int) == 10) = false := hno e 10 (by decide) e10
                  rw [if_neg e58] at htr
                  have HTR : Hid (out ++ [e] ++ tr bl true (k + 1) (t.drop (k + 1)) = TR) := by unfold Hid; rw [← htr]; simp
                  clear htr he hu hno hnot58 e58 e10 c58 c10 g3 hsub
                  go_wp2_with (first
                    | (at_builtin
                       refine wpList_appN rowBytes rfl _ _ rfl w1.heap.size (.slice ao out.length cap) (out.map UInt8.toNat) rfl (OwnsB.below HO.out (below_alloc wr _)) _ [(e).toNat] rfl (sees_b1 _ _ _ (rfl)) (by simp; omega) (by simp; omega) ?_
                       intro v4 w4 hO4 hG4
                       have HO4 : Hid (OwnsB w4 w1.heap.size v4 (out ++ [e])) := by
                         unfold Hid OwnsB
                         simpa using hO4
                       have HB4 := hid (below_grownBy (HB.out.trans ((below_alloc wr _).mono hsw)) hG4 (OwnsB.block HO.out) (by simp; omega))
                       clear hO4 hG4)
                    | fail)
                  go_roundw
                  case rel => exact ⟨k + 1, true, out ++ [e], by omega, by go_num, rfl, HO4.out, by simp; omega, HTR.out, HB4.out⟩
                  case measure => simp [intOf]; omega
                · have f3a : ((k : Int) % 2 == 0) = false := by rw [beq_eq_false_iff_ne]; omega
                  have f3b : (Int.tmod (k : Int) 2 == 0) = false := by rw [beq_eq_false_iff_ne, Int.tmod_eq_emod_of_nonneg (by omega)]; omega
                  have hu : upB k c = c := by unfold upB; rw [if_neg (fun h => g3 h.2)]
                  rw [hu, if_neg c58] at htr
                  have HTR : Hid (out ++ [c] ++ tr bl true (k + 1) (t.drop (k + 1)) = TR) := by unfold Hid; rw [← htr]; simp
                  clear htr hu hno hnot58 c58 c10 g3
                  go_wp2_with (first
                    | (at_builtin
                       refine wpList_appN rowBytes rfl _ _ rfl w1.heap.size (.slice ao out.length cap) (out.map UInt8.toNat) rfl (OwnsB.below HO.out (below_alloc wr _)) _ [(c).toNat] rfl (sees_b1 _ _ _ (rfl)) (by simp; omega) (by simp; omega) ?_
                       intro v4 w4 hO4 hG4
                       have HO4 : Hid (OwnsB w4 w1.heap.size v4 (out ++ [c])) := by
                         unfold Hid OwnsB
                         simpa using hO4
                       have HB4 := hid (below_grownBy (HB.out.trans ((below_alloc wr _).mono hsw)) hG4 (OwnsB.block HO.out) (by simp; omega))
                       clear hO4 hG4)
                    | fail)
                  go_roundw
                  case rel => exact ⟨k + 1, true, out ++ [c], by omega, by go_num, rfl, HO4.out, by simp; omega, HTR.out, HB4.out⟩
                  case measure => simp [intOf]; omega
              · have f2 : decide (((c.toNat : Nat) : Int) ≤ 122) = false := by simp; omega
                have hu : upB k c = c := by unfold upB; rw [if_neg (fun h => by have := h.1; simp only [isSm, decide_eq_true_eq] at this; omega)]
                rw [hu, if_neg c58] at htr
                have HTR : Hid (out ++ [c] ++ tr bl true (k + 1) (t.drop (k + 1)) = TR) := by unfold Hid; rw [← htr]; simp
                clear htr hu hno hnot58 c58 c10
                go_wp2_with (first
                  | (at_builtin
                     refine wpList_appN rowBytes rfl _ _ rfl w1.heap.size (.slice ao out.length cap) (out.map UInt8.toNat) rfl (OwnsB.below HO.out (below_alloc wr _)) _ [(c).toNat] rfl (sees_b1 _ _ _ (rfl)) (by simp; omega) (by simp; omega) ?_
                     intro v4 w4 hO4 hG4
                     have HO4 : Hid (OwnsB w4 w1.heap.size v4 (out ++ [c])) := by
                       unfold Hid OwnsB
                       simpa using hO4
                     have HB4 := hid (below_grownBy (HB.out.trans ((below_alloc wr _).mono hsw)) hG4 (OwnsB.block HO.out) (by simp; omega))
                     clear hO4 hG4)
                  | fail)
                go_roundw
                case rel => exact ⟨k + 1, true, out ++ [c], by omega, by go_num, rfl, HO4.out, by simp; omega, HTR.out, HB4.out⟩
                case measure => simp [intOf]; omega
            · have f1 : decide ((97 : Int) ≤ ((c.toNat : Nat) : Int)) = false := by simp; omega
              have hu : upB k c = c := by unfold upB; rw [if_neg (fun h => by have := h.1; simp only [isSm, decide_eq_true_eq] at this; omega)]
              rw [hu] at htr
              by_cases c58 : c = 58
              · have q58 : ((c.toNat : Int) == 58) = true := hnot58 c c58
                rw [if_pos c58] at htr
                have HTR : Hid (out ++ [58] ++ bl ++ tr bl false (k + 1) (t.drop (k + 1)) = TR) := by unfold Hid; rw [← htr]; simp
                clear htr hu hno hnot58 f1 g1 hcl
                subst c58
                rw [show (58 : UInt8).toNat = 58 from rfl] at i1 q58
                clear q58
                go_wp2_with (first
                  | (at_builtin
                     refine wpList_appN rowBytes rfl _ _ rfl w1.heap.size (.slice ao out.length cap) (out.map UInt8.toNat) rfl (OwnsB.below HO.out (below_alloc wr _)) _ [(58 : UInt8).toNat] rfl (sees_b1 _ _ _ rfl) (by simp; omega) (by simp; omega) ?_
                     intro v4 w4 hO4 hG4
                     have HO4 : Hid (OwnsB w4 w1.heap.size v4 (out ++ [58])) := by
                       unfold Hid OwnsB
                       simpa using hO4
                     have HB4 := hid (below_grownBy (HB.out.trans ((below_alloc wr _).mono hsw)) hG4 (OwnsB.block HO.out) (by simp; omega))
                     obtain ⟨ao4, n4, cap4, rfl⟩ : ∃ ao n cap, v4 = .slice ao n cap := by obtain ⟨ao, cap, h⟩ := OwnsB.shape HO4.out; exact ⟨ao, _, cap, h⟩
                     clear hO4 hG4 HO)
                  | (at_builtin
                     refine wpList_appStr rfl _ _ rfl w1.heap.size (.slice ao4 n4 cap4) (out ++ [58]) rfl HO4.out bl rfl (by simp; omega) (by have := HB4.out.size; omega) ?_
                     intro v5 w5 hO5 hG5
                     have HO5 := hid hO5
                     have HB5 := hid (below_grownBy HB4.out hG5 (OwnsB.block HO4.out) HB4.out.size)
                     clear hO5 hG5)
                  | fail)
                go_roundw
                case rel => exact ⟨k + 1, false, out ++ [58] ++ bl, by omega, by go_num, rfl, HO5.out, by simp; omega, HTR.out, HB5.out⟩
                case measure => simp [intOf]; omega
              · have q58 : ((c.toNat : Int) == 58) = false := hno c 58 (by decide) c58
                rw [if_neg c58] at htr
                have HTR : Hid (out ++ [c] ++ tr bl true (k + 1) (t.drop (k + 1)) = TR) := by unfold Hid; rw [← htr]; simp
                by_cases c10 : c = 10
                · have q10 : ((c.toNat : Int) == 10) = true := by rw [c10]; rfl
                  clear htr hu hno hnot58 c58 c10
                  go_wp2_with (first
                    | (at_builtin
                       refine wpList_appN rowBytes rfl _ _ rfl w1.heap.size (.slice ao out.length cap) (out.map UInt8.toNat) rfl (OwnsB.below HO.out (below_alloc wr _)) _ [(c).toNat] rfl (sees_b1 _ _ _ (rfl)) (by simp; omega) (by simp; omega) ?_
                       intro v4 w4 hO4 hG4
                       have HO4 : Hid (OwnsB w4 w1.heap.size v4 (out ++ [c])) := by
                         unfold Hid OwnsB
                         simpa using hO4
                       have HB4 := hid (below_grownBy (HB.out.trans ((below_alloc wr _).mono hsw)) hG4 (OwnsB.block HO.out) (by simp; omega))
                       clear hO4 hG4)
                    | fail)
                  go_roundw
                  case rel => exact ⟨k + 1, true, out ++ [c], by omega, by go_num, rfl, HO4.out, by simp; omega, HTR.out, HB4.out⟩
                  case measure => simp [intOf]; omega
                · have q10 : ((c.toNat : Int) == 10) = false := hno c 10 (by decide) c10
                  clear htr hu hno hnot58 c58 c10
                  go_wp2_with (first
                    | (at_builtin
                       refine wpList_appN rowBytes rfl _ _ rfl w1.heap.size (.slice ao out.length cap) (out.map UInt8.toNat) rfl (OwnsB.below HO.out (below_alloc wr _)) _ [(c).toNat] rfl (sees_b1 _ _ _ (rfl)) (by simp; omega) (by simp; omega) ?_
                       intro v4 w4 hO4 hG4
                       have HO4 : Hid (OwnsB w4 w1.heap.size v4 (out ++ [c])) := by
                         unfold Hid OwnsB
                         simpa using hO4
                       have HB4 := hid (below_grownBy (HB.out.trans ((below_alloc wr _).mono hsw)) hG4 (OwnsB.block HO.out) (by simp; omega))
                       clear hO4 hG4)
                    | fail)
                  go_roundw
                  case rel => exact ⟨k + 1, true, out ++ [c], by omega, by go_num, rfl, HO4.out, by simp; omega, HTR.out, HB4.out⟩
                  case measure => simp [intOf]; omega
        · have hke : k = t.length := by omega
          subst hke
          rw [List.drop_length] at htr
          have hout : out = TR := by
            rw [← htr]
            cases nb <;> simp [tr]
          subst hout
          have HKB := hid (Nat.mul_le_mul_right 1048577 ht)
          have hol2 : out.length ≤ 4294971392 := by have := HKB.out; omega
          clear hol htr HTR0
          have hcv := HO.out.conv
          have hBw := HB1.out.trans (HB.out.mono HB1.out.size)
          have hP2 := parse_any out wr (HM.out.below hBw hgl) (by omega)
          have HH2 := hid (HH1.out.below HB.out HH1.out.lt)
          have HBw := hid hBw
          clear hBw HH1 HB1 HB HO
          obtain ⟨PT, hPT⟩ : ∃ PT, PT = parseL out := ⟨_, rfl⟩
          rw [← hPT] at hP2
          rw [← hPT] at HL
          clear hPT
          by_cases hbig : 8 < bl.length ∨ 4096 < out.length ∨ 900 < t.length
          · obtain ⟨⟨a1, a2, a3, a4⟩, st, pl⟩ := PT
            simp only [strV] at hP2
            have HBIG := hid hbig
            clear HL HSm hbig
            go_wp2_with fail
            refine hP2.mono ?_
            clear hP2
            rintro e w3 ⟨v3, rfl, hO3, hB3⟩
            obtain ⟨ao3, cap3, rfl⟩ := hO3.shape
            have HB3 := hid ((HBw.out.trans (hB3.mono HBw.out.size)))
            clear hO3 hB3 HBw HH2
            have hbg := HBIG.out
            by_cases q1 : 8 < bl.length
            · have f1 : decide ((8 : Int) < (bl.length : Int)) = true := by simp; omega
              clear hbg
              go_wp2_with fail
              obtain ⟨wy, hwy⟩ : ∃ wy, wy = w3.alloc (.cells #[.string ⟨a1.toArray⟩, .string ⟨a2.toArray⟩, .int .i64 a3, .slice ao3 a4.length cap3] 24) := ⟨_, rfl⟩
              have hby := HB3.out.trans ((below_alloc w3 (.cells #[.string ⟨a1.toArray⟩, .string ⟨a2.toArray⟩, .int .i64 a3, .slice ao3 a4.length cap3] 24)).mono HB3.out.size)
              rw [← hwy] at hby ⊢
              have hA := HA.out wy (HM.out.below hby hgl)
              have HB4 := hid hby
              clear hby hwy HA
              refine hA.mono ?_
              clear hA
              rintro e w5 ⟨rfl, hB5⟩
              have HB5 := hid (HB4.out.trans (hB5.mono HB4.out.size))
              clear hB5
              go_wp2
              go_ret
              exact ⟨rfl, HB5.out⟩
            · have f1 : decide ((8 : Int) < (bl.length : Int)) = false := by simp; omega
              by_cases q2 : 4096 < out.length
              · have f2 : decide ((4096 : Int) < (out.length : Int)) = true := by simp; omega
                clear hbg
                go_wp2_with fail
                obtain ⟨wy, hwy⟩ : ∃ wy, wy = w3.alloc (.cells #[.string ⟨a1.toArray⟩, .string ⟨a2.toArray⟩, .int .i64 a3, .slice ao3 a4.length cap3] 24) := ⟨_, rfl⟩
                have hby := HB3.out.trans ((below_alloc w3 (.cells #[.string ⟨a1.toArray⟩, .string ⟨a2.toArray⟩, .int .i64 a3, .slice ao3 a4.length cap3] 24)).mono HB3.out.size)
                rw [← hwy] at hby ⊢
                have hA := HA.out wy (HM.out.below hby hgl)
                have HB4 := hid hby
                clear hby hwy HA
                refine hA.mono ?_
                clear hA
                rintro e w5 ⟨rfl, hB5⟩
                have HB5 := hid (HB4.out.trans (hB5.mono HB4.out.size))
                clear hB5
                go_wp2
                go_ret
                exact ⟨rfl, HB5.out⟩
              · have f2 : decide ((4096 : Int) < (out.length : Int)) = false := by simp; omega
                have f3 : decide ((900 : Int) < (t.length : Int)) = true := by simp; omega
                clear hbg
                go_wp2_with fail
                obtain ⟨wy, hwy⟩ : ∃ wy, wy = w3.alloc (.cells #[.string ⟨a1.toArray⟩, .string ⟨a2.toArray⟩, .int .i64 a3, .slice ao3 a4.length cap3] 24) := ⟨_, rfl⟩
                have hby := HB3.out.trans ((below_alloc w3 (.cells #[.string ⟨a1.toArray⟩, .string ⟨a2.toArray⟩, .int .i64 a3, .slice ao3 a4.length cap3] 24)).mono HB3.out.size)
                rw [← hwy] at hby ⊢
                have hA := HA.out wy (HM.out.below hby hgl)
                have HB4 := hid hby
                clear hby hwy HA
                refine hA.mono ?_
                clear hA
                rintro e w5 ⟨rfl, hB5⟩
                have HB5 := hid (HB4.out.trans (hB5.mono HB4.out.size))
                clear hB5
                go_wp2
                go_ret
                exact ⟨rfl, HB5.out⟩
          · have hh := HL.out (by omega) (by omega) (by omega)
            subst hh
            have f1 : decide ((8 : Int) < (bl.length : Int)) = false := by simp; omega
            have f2 : decide ((4096 : Int) < (out.length : Int)) = false := by simp; omega
            have f3 : decide ((900 : Int) < (t.length : Int)) = false := by simp; omega
            simp only [strV] at hP2
            clear HL hbig
            go_wp2_with fail
            refine hP2.mono ?_
            clear hP2
            rintro e w3 ⟨v3, rfl, hO3, hB3⟩
            obtain ⟨ao3, cap3, rfl⟩ := hO3.shape
            have hb3 := below_alloc w3 (.cells #[.string ⟨A.toArray⟩, .string ⟨B.toArray⟩, .int .i64 m, .slice ao3 fs.length cap3] 24)
            have hHn := HeadAt.new w3 (.string ⟨A.toArray⟩) (.string ⟨B.toArray⟩) (.int .i64 m) (.slice ao3 fs.length cap3)
            obtain ⟨wy, hwy⟩ : ∃ wy, wy = w3.alloc (.cells #[.string ⟨A.toArray⟩, .string ⟨B.toArray⟩, .int .i64 m, .slice ao3 fs.length cap3] 24) := ⟨_, rfl⟩
            rw [← hwy] at hb3 hHn
            have HWY := hid hwy
            have hB03 := HBw.out.trans (hB3.mono HBw.out.size)
            have hB0y := hB03.trans (hb3.mono hB03.size)
            have HBy := hid hB0y
            have hHo := (HH2.out.below hB3 HH2.out.lt).below hb3 (HH2.out.below hB3 HH2.out.lt).lt
            have hC := HSm.out _ wy (hO3.below hb3).sees hB0y
            obtain ⟨q0, q1, q2, q3, _, _, _, _⟩ := hHn.cells
            obtain ⟨s0, s1, s2, s3, _, _, _, _⟩ := hHo.cells
            clear hwy hb3 hHn hHo hO3 hB3 hB03 hB0y HBw HH2 HSm
            go_wp2_with (first | rw [← HWY.out] | fail)
            refine hC.mono ?_
            clear hC
            rintro e w4 ⟨rfl, hB4⟩
            have hB04 := HBy.out.trans (hB4.mono HBy.out.size)
            have hA := HA.out w4 (HM.out.below hB04 hgl)
            have HB4 := hid hB04
            clear hB4 hB04 HA
            go_wp2_with fail
            refine hA.mono ?_
            clear hA
            rintro e w5 ⟨rfl, hB5⟩
            have HB5 := hid (HB4.out.trans (hB5.mono HB4.out.size))
            clear hB5
            go_wp2
            go_ret
            exact ⟨rfl, HB5.out⟩
theorem letters_all (h : HeadL) (v : Value) (nm : ByteArray) (w : World) (hM : ML w) (hPw : Pow w) (hm0 : -9223372036854775808 ≤ h.2.2.1) (hm1 : h.2.2.1 ≤ 9223372036854775807) (hS : SeesP w v h.2.2.2) (hl : h.2.2.2.length ≤ 1048576) (hb : ∀ p ∈ h.2.2.2, p.1.length ≤ 1048576 ∧ p.2.length ≤ 1048576)
    (h1 : h.1.length ≤ 1048576) (h2 : h.2.1.length ≤ 1048576) (hn : nm.size ≤ 1048576) :
    Calls Tryz.prog 6 #[.agg #[strV h.1, strV h.2.1, .int .i64 h.2.2.1, v], .string nm] w fun e w' => e = .returned (.bool true) ∧ Below w.heap.size w w' := by
  obtain ⟨N, rfl⟩ : ∃ L : List UInt8, nm = ⟨L.toArray⟩ := ⟨nm.data.toList, by simp⟩
  rw [size_list] at hn
  exact letters_walk h v N w hM hPw hm0 hm1 hS hl hb h1 h2 hn
end Go.Proofs.YtfdjnkjiffdbfaaGreatDoor

namespace Go.Proofs.YtfdjnkjiffdbfaaGreatDoor.headLetters
open Go.ChangeShapes Go.WideShapes Go.ChangeAt Go.RowKit Go.ChangeMaps
set_option linter.unusedVariables false

set_option maxRecDepth 100000 in
theorem contract (H : Type) (enc : TypeId × Value → H) (W : World) (base : Nat) (args : Array Value) (ds gs : List (DataW H)) (before : List MemPlace)
    (hval : ∀ (j : Nat) t v, Tryz.f6.params[j]? = some t → args[j]? = some v → Value.okWide Tryz.prog W .any base t v)
    (hW : DataW.Whole enc Tryz.prog Tryz.f6.params.toList Rows.headLettersSpec.vars false W args.toList ds gs before) (hk : Rows.uptoSmall H (ds ++ gs) = true) (hM : ML W) (hL : laidMetH Tryz.prog Rows.headLettersUptoRow.laid W) :
    Calls Tryz.prog 6 args W fun e W' => ∃ v, e = .returned v ∧ Rows.headLettersSpec.post enc Tryz.prog Tryz.f6 false true false false W args v W' := by
  have hW' := hW
  obtain ⟨p, q, hA0, hV, rfl, hfz, hnd⟩ := hW
  have hA : DataW.TrodAll enc Tryz.prog W 0 (fun _ => true) true Tryz.f6.params.toList args.toList ds p := hA0
  rw [Tryz.params6] at hA hval
  obtain ⟨v0, vs0, d0, ds0, p0, q0, hargs, rfl, rfl, h0, r0⟩ := trodAll_cons hA
  obtain ⟨v1, vs1, d1, ds1, p1, q1, rfl, rfl, rfl, h1, r1⟩ := trodAll_cons r0
  obtain ⟨rfl, rfl, rfl⟩ := trodAll_nil r1
  obtain rfl : args = #[v0, v1] := by cases args; simp_all
  obtain ⟨rfl, rfl⟩ := trodVars_none hV
  obtain ⟨hd0, u0, hv0, hx0, bx0⟩ := head_arg (hval 0 24 v0 rfl rfl) h0
  have bk0 : headBulk hd0 ≤ 1048576 := bulk_head hk (j := 0) rfl bx0
  have lt0 : ∀ x ∈ p0, x.block < W.heap.size := by obtain ⟨m, hm⟩ := h0; exact DataW.trod_lt m _ _ _ hm
  subst hv0
  obtain ⟨s1, rfl, rfl, rfl, ml1⟩ := open_string Tryz.underlying9 (hval 1 9 v1 rfl rfl) h1
  have bk1 : s1.size ≤ 1048576 := by have h := str_small hk (j := 1) rfl; rw [Array.length_toList] at h; exact h
  clear hA0
  refine (letters_all hd0 u0 s1 W hM (pow_laid hL) (int_bounds hx0.2).1 (int_bounds hx0.2).2 hx0.1 (headBulk_few bk0).1 (headBulk_few bk0).2.1 (headBulk_few bk0).2.2.1 (headBulk_few bk0).2.2.2 bk1).mono fun e W' ⟨he, bel⟩ => ?_
  subst he
  exact ⟨_, rfl, _, _, _, [], _, [], hW', trodAll_mk1 (shut_bool Tryz.underlying4 _), (trodAll_cons_mk (Below.trod laidOut (by kernel_rfl) (of_decide_eq_true (by kernel_rfl)) h0 bel lt0) (trodAll_cons_mk (shut_string Tryz.underlying9 ml1) trodAll_mk0)), rfl, bel.frame _, fun h => by cases h⟩

theorem reads (os : Os) {H : Type} (enc : TypeId × Value → H) : ∃ places, DataW.whole enc Tryz.prog (({ World.holding Tryz.prog os ⟨#[], #[], []⟩ with heap := (((((World.holding Tryz.prog os ⟨#[], #[], []⟩).heap.modify 5 layRanges).modify 4 layFirst).modify 1 layPow).modify 2 layB32).modify 3 layB64 } : World).forCall (fun _ _ => 0) ⟨#[], #[.agg #[.string { data := #[] }, .string { data := #[] }, .int .i64 0, .slice none 0 0], .string { data := #[] }], []⟩).memory Tryz.f6.params.toList Rows.headLettersSpec.vars false (#[.agg #[.string { data := #[] }, .string { data := #[] }, .int .i64 0, .slice none 0 0], .string { data := #[] }] : Array Value).toList 8 = some ([.agg [.lit (.string []), .lit (.string []), .lit (.int .i64 0), .nil], .lit (.string [])], [], places) :=
  ⟨[], by kernel_rfl⟩

set_option maxRecDepth 100000 in
theorem lifted (os : Os) (started : os.Started) (H : Type) (enc : TypeId × Value → H) (F : Stop.Interp) :
    ReturnsInHanded {} Tryz.checked os 6 .any ((Rows.OpenSpec.upto Rows.headLettersSpec).preRow enc Tryz.prog Tryz.f6 Rows.headLettersUptoRow.domain false Rows.headLettersUptoRow.laid) (((Rows.OpenSpec.upto Rows.headLettersSpec).at F).post enc Tryz.prog Tryz.f6 false true false false) := by
  obtain ⟨places, hx⟩ := reads os enc
  refine returnsInHanded_of_row (C := Tryz.checked) (s := Rows.OpenSpec.upto Rows.headLettersSpec) own started (by kernel_rfl) Tryz.func6
    (witness_row_at (enc := enc) (C := Tryz.checked) false { World.holding Tryz.prog os ⟨#[], #[], []⟩ with heap := (((((World.holding Tryz.prog os ⟨#[], #[], []⟩).heap.modify 5 layRanges).modify 4 layFirst).modify 1 layPow).modify 2 layB32).modify 3 layB64 } #[.agg #[.string { data := #[] }, .string { data := #[] }, .int .i64 0, .slice none 0 0], .string { data := #[] }] rfl (by kernel_rfl) (by kernel_rfl) (by kernel_rfl)
      (OpenSpec.preRow_of_cond 8 hx (by kernel_rfl) (fun k hk => by cases hk; kernel_rfl) (by kernel_rfl) (laid_met os _))) ?_
  intro W base args ds gs before hval hW _ hcond hz hL hsh _
  exact contract H enc W base args ds gs before hval hW (hcond _ rfl) (ml_of hsh) hL

theorem said : Rows.HeadLettersUptoSaid :=
  OpenClaim.holds_of_cond 6 Tryz.f6 rfl rfl rfl rfl rfl rfl rfl ⟨rfl, rfl, rfl, rfl, rfl⟩ rfl rfl rfl rfl rfl (by kernel_rfl) Tryz.func6 (by kernel_rfl)
    (of_decide_eq_true (by kernel_rfl)) (by unfold Func.isWrapper; first | (rw [if_pos (by decide +kernel)]; kernel_rfl) | (rw [if_neg (by decide +kernel)]; exact ⟨rfl, rfl⟩))
    (fun os started H enc _ F => by rw [OpenClaim.pre_eq_preRow]; exact lifted os started H enc F)

theorem plain (f : FuncId) (fn : Func) (hf : Tryz.pinned.checked.prog.funcNamed "cloister/cloisterlaw07.HeadLetters" = some f) (hfn : Tryz.pinned.checked.prog.funcs[f]? = some fn) :
    false = Tryz.pinned.checked.prog.looks [] ∧ ∀ (j : Nat) t, fn.params[j]? = some t → Tryz.pinned.checked.prog.wantsStandIn t = false := by
  obtain rfl : f = 6 := Option.some.inj ((show Tryz.prog.funcNamed "cloister/cloisterlaw07.HeadLetters" = some 6 by kernel_rfl).symm.trans hf) |>.symm
  obtain rfl : fn = Tryz.f6 := (Option.some.inj (Tryz.func6.symm.trans hfn)).symm
  refine ⟨by kernel_rfl, fun j t ht => ?_⟩
  rw [Tryz.params6] at ht
  have hm := Array.mem_of_getElem? ht
  simp only [List.mem_toArray, List.mem_cons, List.not_mem_nil, or_false] at hm
  rcases hm with rfl | rfl
  · exact (show Tryz.prog.wantsStandIn 24 = false by kernel_rfl)
  · exact (show Tryz.prog.wantsStandIn 9 = false by kernel_rfl)

theorem card : Rows.HeadLettersUptoCardSaid :=
  Claim7.holds_tied_plain_at .later [] _ _ _ _ said (fun _ h => by cases h) (by kernel_rfl) (fun _ h => by cases h) headLettersUpto_row_tie rfl ⟨rfl, rfl⟩ (by kernel_rfl) rfl plain (by kernel_rfl)

end Go.Proofs.YtfdjnkjiffdbfaaGreatDoor.headLetters
namespace Go.Proofs.YtfdjnkjiffdbfaaGreatDoor
theorem headLettersUpto_holds : Rows.HeadLettersUptoCardSaid := headLetters.card
end Go.Proofs.YtfdjnkjiffdbfaaGreatDoor
