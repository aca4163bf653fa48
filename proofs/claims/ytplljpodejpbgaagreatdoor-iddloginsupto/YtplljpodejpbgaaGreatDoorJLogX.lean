/-
  IddLogins, where what is handed in is of bulk at most 1048576: for every list of words and of truths the law IddLogins returns true: a session begins only by a word that has the user's digest, no token is two users', who has eight sessions loses the eldest. Its condition: the arguments are of bulk at most 1048576 (the second form); with 2^32 logins and more a token's number begins anew, and no machine bears so many.
-/
import Derived.Test.YtplljpodejpbgaaGreatDoorJLogQ
import Derived.Test.YtplljpodejpbgaaGreatDoorCards
import Derived.Test.YtplljpodejpbgaaGreatDoorTie
import Derived.WalkKit
import Derived.ProofKit
import Derived.OpenShut
import Derived.ShutString
import Derived.ChangeOld
import Derived.ChangeMaps5
import Derived.Below
import Derived.JoinedCond
import Derived.SizedLaws
import Derived.LaidLaws
import Derived.Deep.DeepHandedRow
import Derived.Lib.LaidTab
import Derived.Lib.LaidU8
import Derived.Lib.SmallJoins
import Derived.Deep.Grids
import Derived.Deep.Strs

namespace Go.Proofs.YtplljpodejpbgaaGreatDoor
open Go.RowKit
set_option linter.unusedVariables false
set_option linter.unusedSimpArgs false
set_option maxRecDepth 100000

/-- The slice v reads n truths in the world w. -/
def SeesB (w : World) (v : Value) (n : Nat) (B : Nat → Bool) : Prop :=
  ∃ b off ao cap, v = .slice ao n cap ∧ n ≤ cap ∧ (n ≠ 0 → ao = some ⟨b, off, none⟩) ∧ ∀ j, j < n → w.cell? ⟨b, off + j, none⟩ = some (.bool (B j))

/-- The slice v reads texts in the world w. -/
def SeesW (w : World) (v : Value) (ws : List ByteArray) : Prop :=
  ∃ b off ao cap, v = .slice ao ws.length cap ∧ ws.length ≤ cap ∧ (ws.length ≠ 0 → ao = some ⟨b, off, none⟩) ∧ ∀ j, j < ws.length → w.cell? ⟨b, off + j, none⟩ = some (.string (ws.getD j ByteArray.empty))

set_option maxHeartbeats 8000000 in
theorem logins_walk (vw vf : Value) (ws : List ByteArray) (m : Nat) (Bf : Nat → Bool) (w : World) (hT : Tb w) (hW : SeesW w vw ws) (hwl : ws.length ≤ 1048576) (hws : ∀ s ∈ ws, s.size ≤ 1048576) (hO : SeesB w vf m Bf) :
    Calls Tryz.prog 4 #[vw, vf] w fun e w' => e = .returned (.bool true) ∧ Below w.heap.size w w' := by
  obtain ⟨bw, ow, aw, cw, rfl, hcw0, haw, hcellw⟩ := hW
  obtain ⟨bf, of, af, cf, rfl, hcf, haf, hcellf⟩ := hO
  have htw := hid (two_any w)
  have HT := hid hT
  have HCWS := hid hcellw
  have HCFS := hid hcellf
  have HAWX := hid haw
  have HAFX := hid haf
  have HWS := hid hws
  have HAW : Hid (∀ wr, Below w.heap.size w wr → Calls Tryz.prog 10 #[] wr fun e w' => e = .returned (.bool true) ∧ Below wr.heap.size wr w') := fun wr hr => awake_any wr (hT.below hr)
  have heq1 : ∀ d, (binOp .eql 27 (.pointer (some d)) (.pointer none)) = (binOp .eql 27 (.pointer (some d)) (.pointer none)) := fun _ => rfl
  clear hT hcellw hcellf haw haf hws heq1
  have heq1 := eqlD_some_nil
  go_enter Tryz.func4, Tryz.ntmps4
  go_wp2_with fail
  refine htw.out.mono ?_
  clear htw
  rintro e w1 ⟨B1, rfl, ho1, hb1⟩
  have HNW := hid (new_srl B1 w w1 ho1)
  have HB1 := hid hb1
  clear ho1 hb1
  go_wp2_with fail
  refine HNW.out.mono ?_
  clear HNW
  rintro e w2 ⟨P, rfl, hS2, hb2, hF2⟩
  obtain ⟨B, hB⟩ : ∃ B, B = w2.heap.size := ⟨_, rfl⟩
  have H0 : Hid (LgP P w w2 B [] (.slice none 0 0) (.slice none 0 0)) := by
    have b2 := HB1.out.trans (hb2.mono HB1.out.size)
    have h9 : w2.ownsRow B 9 1 (.slice none 0 0) 0 [] := ⟨rfl, Or.inl ⟨rfl, rfl⟩⟩
    have h3 : w2.ownsRow B 3 1 (.slice none 0 0) 0 [] := ⟨rfl, Or.inl ⟨rfl, rfl⟩⟩
    exact hid ⟨hS2, fun k hk => Nat.le_trans HB1.out.size (hF2 k hk), fun k hk => by rw [hB]; exact hS2.lt k hk, b2, by omega, by rw [hB]; exact b2.size, h9, h3, fun u hu => by simp at hu⟩
  clear hS2 hb2 hF2 HB1 hB
  go_wp2
  go_loopw [9, 7, 8] (fun i v7 v8 wr => ∃ (k : Nat) (lu : List Nat), k ≤ ws.length ∧ i = .int .i64 (k : Int) ∧ Hid (lu.length ≤ k ∧ LgP P w wr B lu v7 v8)) (fun i _ _ _ => ws.length - (intOf i).toNat)
  case atStart => exact ⟨0, [], by omega, rfl, hid ⟨by simp, H0.out⟩⟩
  case round =>
    obtain ⟨k, lu, hk, rfl, HI⟩ := hrel
    have hlk := HI.out.1
    have HL := hid HI.out.2
    clear HI H0 heq1
    obtain ⟨t7a, t7c, ht7⟩ := row_shape HL.out.tk
    obtain ⟨t8a, t8c, ht8⟩ := row_shape HL.out.wh
    subst ht7 ht8
    obtain ⟨n, hn⟩ : ∃ n, lu.length = n := ⟨_, rfl⟩
    rw [hn]
    rw [hn] at hlk
    have HNN := hid hn
    clear hn
    by_cases hgo : k < ws.length ∧ k < m
    · obtain ⟨hkw, hkm⟩ := hgo
      have hi1 : (k : Int) < (ws.length : Int) := by omega
      have hi2 : (k : Int) < (m : Int) := by omega
      obtain rfl := HAWX.out (by omega)
      obtain rfl := HAFX.out (by omega)
      have hc0 := HCWS.out k hkw
      have hcf0 := HCFS.out k hkm
      obtain ⟨wd, hwdE⟩ : ∃ wd, wd = ws.getD k ByteArray.empty := ⟨_, rfl⟩
      have hwd : wd.size ≤ 140737488351232 := by
        have hmem : wd ∈ ws := by rw [hwdE]; simp [List.getD, hkw]
        have := HWS.out wd hmem
        omega
      rw [← hwdE] at hc0
      have hbw : bw < w.heap.size := World.block_lt_of_cell? w _ hc0
      have HCW := hid hc0
      have hcw := (HL.out.bel.cell (p := ⟨bw, ow + k, none⟩) hbw).trans hc0
      have hcf1 := (HL.out.bel.cell (p := ⟨bf, of + k, none⟩) (World.block_lt_of_cell? w _ hcf0)).trans hcf0
      obtain ⟨q, hq⟩ : ∃ q, q = Bf k := ⟨_, rfl⟩
      rw [← hq] at hcf1
      have hkcw : k < cw := by omega
      have hkcf : k < cf := by omega
      clear hc0 hcf0 hq hwdE
      cases q with
      | true =>
        by_cases hg : strOf (saltOf (saltR true) wd) = digR true
        · have HLg : Hid (Calls Tryz.prog 16 #[.pointer (some ⟨P.d, 0, none⟩), .string { data := #[97] }, .string wd] wr fun e w' => e = .returned (.tuple #[.string (tokOf [] lu.length), .int .i64 0, .int .i64 0]) ∧ SrP P w' (lu ++ [0]) ∧ Gr (mineD P.d P.ub P.mb P.vg) wr w') := hid (login_yesP P w wr HT.out HL.out.bel lu HL.out.srv HL.out.hF true wd hwd (by have := HNN.out; omega) hg)
          obtain ⟨tk, htk⟩ : ∃ tk, tk = tokOf [] n := ⟨_, rfl⟩
          obtain ⟨dg, hdg⟩ : ∃ dg, dg = digR true := ⟨_, rfl⟩
          rw [HNN.out, ← htk] at HLg
          have HDG := hid hdg
          have HTK := hid htk
          have hgs : strOf (saltOf ({ data := #[115] } : ByteArray) wd) = dg := by rw [hdg]; exact hg
          have HGS := hid hgs
          clear htk hdg hg hgs
          go_wp2_with fail
          refine HLg.out.mono ?_
          clear HLg hcw
          rintro e w5 ⟨rfl, hS5, hG5⟩
          obtain ⟨b5, o7, o8, s5⟩ := HL.out.log hG5
          have HB5 := hid b5
          have HO7 := hid o7
          have HO8 := hid o8
          have HS5 := hid hS5
          have hcw := (b5.cell (p := ⟨bw, ow + k, none⟩) hbw).trans HCW.out
          have HSa := hid (rsalted_any { data := #[115] } wd w5 (by decide) hwd)
          clear hS5 hG5 b5 o7 o8
          rw [HGS.out] at HSa
          go_wp2_with fail
          refine HSa.out.mono ?_
          clear HSa hcw
          rintro e w6 ⟨rfl, hb6⟩
          have HB6 := hid hb6
          have htw := hid (two_any w6)
          clear hb6
          go_wp2_with fail
          refine htw.out.mono ?_
          clear htw
          rintro e w7 ⟨Bt, rfl, ho7, hb7⟩
          have hcd := ho7.cells (g := Bt) rfl 2 _ (uC_get twoL 0 _ rfl).2.2.1
          rw [addr_add] at hcd
          have hcd' : w7.cell? ⟨Bt, 2, none⟩ = some (.string dg) := by rw [HDG.out]; simpa [digR] using hcd
          have HB57 := hid (HB6.out.trans (hb7.mono HB6.out.size))
          have hs57 := HB57.out.size
          have HO77 := hid (ownsRow_same HO7.out fun j hj => HB57.out.block j (ownsRow_lt HO7.out hj))
          have HO87 := hid (ownsRow_same HO8.out fun j hj => HB57.out.block j (ownsRow_lt HO8.out hj))
          have HS57 := hid (HS5.out.same fun j hj => HB57.out.block j (HS5.out.lt j hj))
          have HBB7 := hid (HB5.out.trans (HB57.out.mono HB5.out.size))
          have sB7 : B ≤ w7.heap.size := by omega
          rw [HNN.out] at HO77 HO87
          clear ho7 hb7 hcd HB6 HB57 HO7 HO8 HS5 HB5 hs57
          go_wp2
          go_loopw [18] (fun x18 wx => ∃ k2 : Nat, k2 ≤ n ∧ x18 = .int .i64 (k2 : Int) ∧ Hid (wx = w7)) (fun x18 _ => n - (intOf x18).toNat)
          case atStart => exact ⟨0, by omega, rfl, hid rfl⟩
          case round =>
            obtain ⟨k2, hk2, rfl, HE⟩ := hrel
            have hE := HE.out
            subst hE
            by_cases hkn : k2 < n
            · have hknI : (k2 : Int) < (n : Int) := by omega
              have hct : ∃ g, t7a = some ⟨g, 0, none⟩ ∧ n ≤ t7c ∧ wr.cell? ⟨g, k2, none⟩ = some (.string (tokOf [] k2)) := by
                rcases HO77.out.2 with ⟨_, h0⟩ | ⟨g, cap', cur, hv, _, _, hc, _⟩
                · omega
                · simp at hv
                  obtain ⟨rfl, rfl⟩ := hv
                  have := HO77.out.cells (g := g) rfl k2 (.string (tokOf [] k2)) (by simp [tkC, hkn])
                  rw [addr_add, Nat.zero_add] at this
                  exact ⟨g, rfl, hc, this⟩
              obtain ⟨g, rfl, hc7, hcl⟩ := hct
              obtain ⟨tk2, htk2⟩ : ∃ t, t = tokOf [] k2 := ⟨_, rfl⟩
              rw [← htk2] at hcl
              have hne : ¬ tk2 = tk := fun e => by
                rw [htk2, HTK.out] at e
                have := tokOf_ne (by omega) (by omega) e
                omega
              have hne' : (tk2.toList == tk.toList) = false := Bool.eq_false_iff.2 fun h => hne ((beq_text _ _).1 h)
              have hkc : k2 < t7c := by omega
              clear htk2
              go_wp2
              go_roundw
              case rel => exact ⟨k2 + 1, by omega, by go_num, hid (by first | rfl | trivial)⟩
              case measure => simp [intOf]; omega
            · have hknI : ¬ (k2 : Int) < (n : Int) := by omega
              go_wp2_with
                (at_builtin
                 first
                   | (refine wpList_appK Tryz.underlying39 infoStr1 rfl (by decide) rfl _ _ rfl B (.slice t7a n t7c) n (tkC n) rfl (ownsRow_same HO77.out fun j hj => heap_alloc_old wr _ (ownsRow_lt HO77.out hj)) (.slice (some ⟨wr.heap.size, 0, none⟩) 1 1) 1 [.string tk] rfl (seesK_one _ wr 9) (fun y hy => by simp at hy; subst hy; rfl) (by omega) (by simp only [maxLen]; omega) (by simp; omega) ?_
                      intro v7' w8 h7' g8
                      obtain ⟨a7', c7', hv7⟩ := row_shape h7'
                      subst hv7
                      have s8 : wr.heap.size < w8.heap.size := by have := g8.size; simp at this; omega
                      have k8 : ∀ j, j < wr.heap.size → (Value.slice t7a n t7c).ownBlock ≠ some j → w8.heap[j]? = wr.heap[j]? := fun j hj hn => by
                        rw [g8.block j (by simp; omega) (fun e => hn e.symm), heap_alloc_old wr _ hj]
                      have HO88 : Hid (w8.ownsRow B 3 1 (.slice t8a n t8c) n (whC lu)) := hid (ownsRow_same HO87.out fun j hj => k8 j (ownsRow_lt HO87.out hj) (fun e => by
                        obtain ⟨c1, e1⟩ := ownsRow_ty HO77.out e
                        obtain ⟨c2, e2⟩ := ownsRow_ty HO87.out hj
                        rw [e1] at e2
                        simp at e2))
                      have H7 := hid h7'
                      have G8 := hid g8
                      have sB8 : B ≤ w8.heap.size := by omega
                      clear h7' g8 k8)
                   | (refine wpList_appK Tryz.underlying23 infoInt1 rfl (by decide) rfl _ _ rfl B (.slice t8a n t8c) n (whC lu) rfl (ownsRow_same HO88.out fun j hj => heap_alloc_old w8 _ (ownsRow_lt HO88.out hj)) (.slice (some ⟨w8.heap.size, 0, none⟩) 1 1) 1 [.int .i64 0] rfl (seesK_one _ w8 3) (fun y hy => by simp at hy; subst hy; rfl) (by omega) (by simp only [maxLen]; omega) (by simp; omega) ?_
                      intro v8' w9 h8' g9
                      obtain ⟨a8', c8', hv8⟩ := row_shape h8'
                      subst hv8))
              have HN : Hid (LgP P w w9 B (lu ++ [0]) (.slice a7' (n + 1) c7') (.slice a8' (n + 1) c8')) := by
                have e7 := H7.out
                have e8 := G8.out
                have e9 := HO77.out
                rw [HTK.out] at e7 e8
                have hL := HL.out
                rw [HNN.out] at hL
                exact hid (hL.app (u := 0) (by decide) HNN.out HS57.out HBB7.out sB7 HO87.out e7 e8 e9 h8' g9)
              have hll : (lu ++ [0]).length ≤ k + 1 := by have := HNN.out; rw [List.length_append]; simp; omega
              clear h8' g9 H7 G8 HO88 HO77 HO87 HS57 HBB7 HTK
              have HT0 : Hid (Calls Tryz.prog 18 #[.pointer (some ⟨P.d, 0, none⟩), .int .i64 0] w9 fun e w' => ∃ ao m cap, e = .returned (.slice ao m cap) ∧ m ≤ 8 ∧ Below w9.heap.size w9 w') := hid (toks_srl w9 (lu ++ [0]) P.d _ HN.out.srv.srl (by omega) 0 (by decide))
              go_wp2_with fail
              refine HT0.out.mono ?_
              clear HT0
              rintro e wt1 ⟨ao1, m1, cp1, rfl, hm1, hbt1⟩
              have HG1 := hid (HN.out.below hbt1)
              have HT1 : Hid (Calls Tryz.prog 18 #[.pointer (some ⟨P.d, 0, none⟩), .int .i64 1] wt1 fun e w' => ∃ ao m cap, e = .returned (.slice ao m cap) ∧ m ≤ 8 ∧ Below wt1.heap.size wt1 w') := hid (toks_srl wt1 (lu ++ [0]) P.d _ HG1.out.srv.srl (by omega) 1 (by decide))
              have hm1' : ¬ (8 : Int) < (m1 : Int) := by omega
              clear hbt1
              go_wp2_with fail
              refine HT1.out.mono ?_
              clear HT1
              rintro e wt2 ⟨ao2, m2, cp2, rfl, hm2, hbt2⟩
              have HG2 := hid (HG1.out.below hbt2)
              have hm2' : ¬ (8 : Int) < (m2 : Int) := by omega
              clear hbt2 HG1
              go_wp2
              go_roundw
              case rel => exact ⟨k + 1, (lu ++ [0]), by omega, by go_num, hid ⟨hll, HG2.out⟩⟩
              case measure => simp [intOf]; omega
        · have HLg : Hid (Calls Tryz.prog 16 #[.pointer (some ⟨P.d, 0, none⟩), .string { data := #[97] }, .string wd] wr fun e w' => e = .returned (.tuple #[.string ⟨#[]⟩, .int .i64 0, .int .i64 21]) ∧ Below wr.heap.size wr w') := hid (login_bad w wr HT.out HL.out.bel lu P.d _ HL.out.srv.srl true wd hwd hg)
          obtain ⟨dg, hdg⟩ : ∃ dg, dg = digR true := ⟨_, rfl⟩
          have HDG := hid hdg
          obtain ⟨S1, hS1⟩ : ∃ S1, S1 = strOf (saltOf ({ data := #[115] } : ByteArray) wd) := ⟨_, rfl⟩
          have hne : ¬ S1 = dg := by rw [hdg, hS1]; exact hg
          have hne' : (S1.toList == dg.toList) = false := Bool.eq_false_iff.2 fun h => hne ((beq_text _ _).1 h)
          have HSS := hid hS1
          clear hdg hg hS1
          go_wp2_with fail
          refine HLg.out.mono ?_
          clear HLg hcw
          rintro e w5 ⟨rfl, hb5⟩
          have HL5 := hid (HL.out.below hb5)
          have hcw := (HL5.out.bel.cell (p := ⟨bw, ow + k, none⟩) hbw).trans HCW.out
          have HSa := hid (rsalted_any { data := #[115] } wd w5 (by decide) hwd)
          clear hb5
          rw [← HSS.out] at HSa
          go_wp2_with fail
          refine HSa.out.mono ?_
          clear HSa hcw
          rintro e w6 ⟨rfl, hb6⟩
          have HL6 := hid (HL5.out.below hb6)
          have htw := hid (two_any w6)
          clear hb6 HL5
          go_wp2_with fail
          refine htw.out.mono ?_
          clear htw
          rintro e w7 ⟨Bt, rfl, ho7, hb7⟩
          have hcd := ho7.cells (g := Bt) rfl 2 _ (uC_get twoL 0 _ rfl).2.2.1
          rw [addr_add] at hcd
          have hcd' : w7.cell? ⟨Bt, 2, none⟩ = some (.string dg) := by rw [HDG.out]; simpa [digR] using hcd
          have HL7 := hid (HL6.out.below hb7)
          have hlk' : lu.length ≤ k + 1 := by have := HNN.out; omega
          clear ho7 hb7 hcd HL6
          have HT0 : Hid (Calls Tryz.prog 18 #[.pointer (some ⟨P.d, 0, none⟩), .int .i64 0] w7 fun e w' => ∃ ao m cap, e = .returned (.slice ao m cap) ∧ m ≤ 8 ∧ Below w7.heap.size w7 w') := hid (toks_srl w7 lu P.d _ HL7.out.srv.srl (by have := HNN.out; omega) 0 (by decide))
          go_wp2_with fail
          refine HT0.out.mono ?_
          clear HT0
          rintro e wt1 ⟨ao1, m1, cp1, rfl, hm1, hbt1⟩
          have HG1 := hid (HL7.out.below hbt1)
          have HT1 : Hid (Calls Tryz.prog 18 #[.pointer (some ⟨P.d, 0, none⟩), .int .i64 1] wt1 fun e w' => ∃ ao m cap, e = .returned (.slice ao m cap) ∧ m ≤ 8 ∧ Below wt1.heap.size wt1 w') := hid (toks_srl wt1 lu P.d _ HG1.out.srv.srl (by have := HNN.out; omega) 1 (by decide))
          have hm1' : ¬ (8 : Int) < (m1 : Int) := by omega
          clear hbt1
          go_wp2_with fail
          refine HT1.out.mono ?_
          clear HT1
          rintro e wt2 ⟨ao2, m2, cp2, rfl, hm2, hbt2⟩
          have HG2 := hid (HG1.out.below hbt2)
          have hm2' : ¬ (8 : Int) < (m2 : Int) := by omega
          clear hbt2 HG1
          go_wp2
          go_roundw
          case rel => exact ⟨k + 1, lu, by omega, by go_num, hid ⟨hlk', by have h := HG2.out; rw [HNN.out] at h; exact h⟩⟩
          case measure => simp [intOf]; omega
      | false =>
        by_cases hg : strOf (saltOf (saltR false) wd) = digR false
        · have HLg : Hid (Calls Tryz.prog 16 #[.pointer (some ⟨P.d, 0, none⟩), .string { data := #[98] }, .string wd] wr fun e w' => e = .returned (.tuple #[.string (tokOf [] lu.length), .int .i64 1, .int .i64 0]) ∧ SrP P w' (lu ++ [1]) ∧ Gr (mineD P.d P.ub P.mb P.vg) wr w') := hid (login_yesP P w wr HT.out HL.out.bel lu HL.out.srv HL.out.hF false wd hwd (by have := HNN.out; omega) hg)
          obtain ⟨tk, htk⟩ : ∃ tk, tk = tokOf [] n := ⟨_, rfl⟩
          obtain ⟨dg, hdg⟩ : ∃ dg, dg = digR false := ⟨_, rfl⟩
          rw [HNN.out, ← htk] at HLg
          have HDG := hid hdg
          have HTK := hid htk
          have hgs : strOf (saltOf ({ data := #[116] } : ByteArray) wd) = dg := by rw [hdg]; exact hg
          have HGS := hid hgs
          clear htk hdg hg hgs
          go_wp2_with fail
          refine HLg.out.mono ?_
          clear HLg hcw
          rintro e w5 ⟨rfl, hS5, hG5⟩
          obtain ⟨b5, o7, o8, s5⟩ := HL.out.log hG5
          have HB5 := hid b5
          have HO7 := hid o7
          have HO8 := hid o8
          have HS5 := hid hS5
          have hcw := (b5.cell (p := ⟨bw, ow + k, none⟩) hbw).trans HCW.out
          have HSa := hid (rsalted_any { data := #[116] } wd w5 (by decide) hwd)
          clear hS5 hG5 b5 o7 o8
          rw [HGS.out] at HSa
          go_wp2_with fail
          refine HSa.out.mono ?_
          clear HSa hcw
          rintro e w6 ⟨rfl, hb6⟩
          have HB6 := hid hb6
          have htw := hid (two_any w6)
          clear hb6
          go_wp2_with fail
          refine htw.out.mono ?_
          clear htw
          rintro e w7 ⟨Bt, rfl, ho7, hb7⟩
          have hcd := ho7.cells (g := Bt) rfl 6 _ (uC_get twoL 1 _ rfl).2.2.1
          rw [addr_add] at hcd
          have hcd' : w7.cell? ⟨Bt, 6, none⟩ = some (.string dg) := by rw [HDG.out]; simpa [digR] using hcd
          have HB57 := hid (HB6.out.trans (hb7.mono HB6.out.size))
          have hs57 := HB57.out.size
          have HO77 := hid (ownsRow_same HO7.out fun j hj => HB57.out.block j (ownsRow_lt HO7.out hj))
          have HO87 := hid (ownsRow_same HO8.out fun j hj => HB57.out.block j (ownsRow_lt HO8.out hj))
          have HS57 := hid (HS5.out.same fun j hj => HB57.out.block j (HS5.out.lt j hj))
          have HBB7 := hid (HB5.out.trans (HB57.out.mono HB5.out.size))
          have sB7 : B ≤ w7.heap.size := by omega
          rw [HNN.out] at HO77 HO87
          clear ho7 hb7 hcd HB6 HB57 HO7 HO8 HS5 HB5 hs57
          go_wp2
          go_loopw [18] (fun x18 wx => ∃ k2 : Nat, k2 ≤ n ∧ x18 = .int .i64 (k2 : Int) ∧ Hid (wx = w7)) (fun x18 _ => n - (intOf x18).toNat)
          case atStart => exact ⟨0, by omega, rfl, hid rfl⟩
          case round =>
            obtain ⟨k2, hk2, rfl, HE⟩ := hrel
            have hE := HE.out
            subst hE
            by_cases hkn : k2 < n
            · have hknI : (k2 : Int) < (n : Int) := by omega
              have hct : ∃ g, t7a = some ⟨g, 0, none⟩ ∧ n ≤ t7c ∧ wr.cell? ⟨g, k2, none⟩ = some (.string (tokOf [] k2)) := by
                rcases HO77.out.2 with ⟨_, h0⟩ | ⟨g, cap', cur, hv, _, _, hc, _⟩
                · omega
                · simp at hv
                  obtain ⟨rfl, rfl⟩ := hv
                  have := HO77.out.cells (g := g) rfl k2 (.string (tokOf [] k2)) (by simp [tkC, hkn])
                  rw [addr_add, Nat.zero_add] at this
                  exact ⟨g, rfl, hc, this⟩
              obtain ⟨g, rfl, hc7, hcl⟩ := hct
              obtain ⟨tk2, htk2⟩ : ∃ t, t = tokOf [] k2 := ⟨_, rfl⟩
              rw [← htk2] at hcl
              have hne : ¬ tk2 = tk := fun e => by
                rw [htk2, HTK.out] at e
                have := tokOf_ne (by omega) (by omega) e
                omega
              have hne' : (tk2.toList == tk.toList) = false := Bool.eq_false_iff.2 fun h => hne ((beq_text _ _).1 h)
              have hkc : k2 < t7c := by omega
              clear htk2
              go_wp2
              go_roundw
              case rel => exact ⟨k2 + 1, by omega, by go_num, hid (by first | rfl | trivial)⟩
              case measure => simp [intOf]; omega
            · have hknI : ¬ (k2 : Int) < (n : Int) := by omega
              go_wp2_with
                (at_builtin
                 first
                   | (refine wpList_appK Tryz.underlying39 infoStr1 rfl (by decide) rfl _ _ rfl B (.slice t7a n t7c) n (tkC n) rfl (ownsRow_same HO77.out fun j hj => heap_alloc_old wr _ (ownsRow_lt HO77.out hj)) (.slice (some ⟨wr.heap.size, 0, none⟩) 1 1) 1 [.string tk] rfl (seesK_one _ wr 9) (fun y hy => by simp at hy; subst hy; rfl) (by omega) (by simp only [maxLen]; omega) (by simp; omega) ?_
                      intro v7' w8 h7' g8
                      obtain ⟨a7', c7', hv7⟩ := row_shape h7'
                      subst hv7
                      have s8 : wr.heap.size < w8.heap.size := by have := g8.size; simp at this; omega
                      have k8 : ∀ j, j < wr.heap.size → (Value.slice t7a n t7c).ownBlock ≠ some j → w8.heap[j]? = wr.heap[j]? := fun j hj hn => by
                        rw [g8.block j (by simp; omega) (fun e => hn e.symm), heap_alloc_old wr _ hj]
                      have HO88 : Hid (w8.ownsRow B 3 1 (.slice t8a n t8c) n (whC lu)) := hid (ownsRow_same HO87.out fun j hj => k8 j (ownsRow_lt HO87.out hj) (fun e => by
                        obtain ⟨c1, e1⟩ := ownsRow_ty HO77.out e
                        obtain ⟨c2, e2⟩ := ownsRow_ty HO87.out hj
                        rw [e1] at e2
                        simp at e2))
                      have H7 := hid h7'
                      have G8 := hid g8
                      have sB8 : B ≤ w8.heap.size := by omega
                      clear h7' g8 k8)
                   | (refine wpList_appK Tryz.underlying23 infoInt1 rfl (by decide) rfl _ _ rfl B (.slice t8a n t8c) n (whC lu) rfl (ownsRow_same HO88.out fun j hj => heap_alloc_old w8 _ (ownsRow_lt HO88.out hj)) (.slice (some ⟨w8.heap.size, 0, none⟩) 1 1) 1 [.int .i64 1] rfl (seesK_one _ w8 3) (fun y hy => by simp at hy; subst hy; rfl) (by omega) (by simp only [maxLen]; omega) (by simp; omega) ?_
                      intro v8' w9 h8' g9
                      obtain ⟨a8', c8', hv8⟩ := row_shape h8'
                      subst hv8))
              have HN : Hid (LgP P w w9 B (lu ++ [1]) (.slice a7' (n + 1) c7') (.slice a8' (n + 1) c8')) := by
                have e7 := H7.out
                have e8 := G8.out
                have e9 := HO77.out
                rw [HTK.out] at e7 e8
                have hL := HL.out
                rw [HNN.out] at hL
                exact hid (hL.app (u := 1) (by decide) HNN.out HS57.out HBB7.out sB7 HO87.out e7 e8 e9 h8' g9)
              have hll : (lu ++ [1]).length ≤ k + 1 := by have := HNN.out; rw [List.length_append]; simp; omega
              clear h8' g9 H7 G8 HO88 HO77 HO87 HS57 HBB7 HTK
              have HT0 : Hid (Calls Tryz.prog 18 #[.pointer (some ⟨P.d, 0, none⟩), .int .i64 0] w9 fun e w' => ∃ ao m cap, e = .returned (.slice ao m cap) ∧ m ≤ 8 ∧ Below w9.heap.size w9 w') := hid (toks_srl w9 (lu ++ [1]) P.d _ HN.out.srv.srl (by omega) 0 (by decide))
              go_wp2_with fail
              refine HT0.out.mono ?_
              clear HT0
              rintro e wt1 ⟨ao1, m1, cp1, rfl, hm1, hbt1⟩
              have HG1 := hid (HN.out.below hbt1)
              have HT1 : Hid (Calls Tryz.prog 18 #[.pointer (some ⟨P.d, 0, none⟩), .int .i64 1] wt1 fun e w' => ∃ ao m cap, e = .returned (.slice ao m cap) ∧ m ≤ 8 ∧ Below wt1.heap.size wt1 w') := hid (toks_srl wt1 (lu ++ [1]) P.d _ HG1.out.srv.srl (by omega) 1 (by decide))
              have hm1' : ¬ (8 : Int) < (m1 : Int) := by omega
              clear hbt1
              go_wp2_with fail
              refine HT1.out.mono ?_
              clear HT1
              rintro e wt2 ⟨ao2, m2, cp2, rfl, hm2, hbt2⟩
              have HG2 := hid (HG1.out.below hbt2)
              have hm2' : ¬ (8 : Int) < (m2 : Int) := by omega
              clear hbt2 HG1
              go_wp2
              go_roundw
              case rel => exact ⟨k + 1, (lu ++ [1]), by omega, by go_num, hid ⟨hll, HG2.out⟩⟩
              case measure => simp [intOf]; omega
        · have HLg : Hid (Calls Tryz.prog 16 #[.pointer (some ⟨P.d, 0, none⟩), .string { data := #[98] }, .string wd] wr fun e w' => e = .returned (.tuple #[.string ⟨#[]⟩, .int .i64 0, .int .i64 21]) ∧ Below wr.heap.size wr w') := hid (login_bad w wr HT.out HL.out.bel lu P.d _ HL.out.srv.srl false wd hwd hg)
          obtain ⟨dg, hdg⟩ : ∃ dg, dg = digR false := ⟨_, rfl⟩
          have HDG := hid hdg
          obtain ⟨S1, hS1⟩ : ∃ S1, S1 = strOf (saltOf ({ data := #[116] } : ByteArray) wd) := ⟨_, rfl⟩
          have hne : ¬ S1 = dg := by rw [hdg, hS1]; exact hg
          have hne' : (S1.toList == dg.toList) = false := Bool.eq_false_iff.2 fun h => hne ((beq_text _ _).1 h)
          have HSS := hid hS1
          clear hdg hg hS1
          go_wp2_with fail
          refine HLg.out.mono ?_
          clear HLg hcw
          rintro e w5 ⟨rfl, hb5⟩
          have HL5 := hid (HL.out.below hb5)
          have hcw := (HL5.out.bel.cell (p := ⟨bw, ow + k, none⟩) hbw).trans HCW.out
          have HSa := hid (rsalted_any { data := #[116] } wd w5 (by decide) hwd)
          clear hb5
          rw [← HSS.out] at HSa
          go_wp2_with fail
          refine HSa.out.mono ?_
          clear HSa hcw
          rintro e w6 ⟨rfl, hb6⟩
          have HL6 := hid (HL5.out.below hb6)
          have htw := hid (two_any w6)
          clear hb6 HL5
          go_wp2_with fail
          refine htw.out.mono ?_
          clear htw
          rintro e w7 ⟨Bt, rfl, ho7, hb7⟩
          have hcd := ho7.cells (g := Bt) rfl 6 _ (uC_get twoL 1 _ rfl).2.2.1
          rw [addr_add] at hcd
          have hcd' : w7.cell? ⟨Bt, 6, none⟩ = some (.string dg) := by rw [HDG.out]; simpa [digR] using hcd
          have HL7 := hid (HL6.out.below hb7)
          have hlk' : lu.length ≤ k + 1 := by have := HNN.out; omega
          clear ho7 hb7 hcd HL6
          have HT0 : Hid (Calls Tryz.prog 18 #[.pointer (some ⟨P.d, 0, none⟩), .int .i64 0] w7 fun e w' => ∃ ao m cap, e = .returned (.slice ao m cap) ∧ m ≤ 8 ∧ Below w7.heap.size w7 w') := hid (toks_srl w7 lu P.d _ HL7.out.srv.srl (by have := HNN.out; omega) 0 (by decide))
          go_wp2_with fail
          refine HT0.out.mono ?_
          clear HT0
          rintro e wt1 ⟨ao1, m1, cp1, rfl, hm1, hbt1⟩
          have HG1 := hid (HL7.out.below hbt1)
          have HT1 : Hid (Calls Tryz.prog 18 #[.pointer (some ⟨P.d, 0, none⟩), .int .i64 1] wt1 fun e w' => ∃ ao m cap, e = .returned (.slice ao m cap) ∧ m ≤ 8 ∧ Below wt1.heap.size wt1 w') := hid (toks_srl wt1 lu P.d _ HG1.out.srv.srl (by have := HNN.out; omega) 1 (by decide))
          have hm1' : ¬ (8 : Int) < (m1 : Int) := by omega
          clear hbt1
          go_wp2_with fail
          refine HT1.out.mono ?_
          clear HT1
          rintro e wt2 ⟨ao2, m2, cp2, rfl, hm2, hbt2⟩
          have HG2 := hid (HG1.out.below hbt2)
          have hm2' : ¬ (8 : Int) < (m2 : Int) := by omega
          clear hbt2 HG1
          go_wp2
          go_roundw
          case rel => exact ⟨k + 1, lu, by omega, by go_num, hid ⟨hlk', by have h := HG2.out; rw [HNN.out] at h; exact h⟩⟩
          case measure => simp [intOf]; omega
    · have hex : (¬ (k : Int) < (ws.length : Int)) ∨ ((k : Int) < (ws.length : Int) ∧ ¬ (k : Int) < (m : Int)) := by omega
      clear hgo
      rcases hex with hx1 | ⟨hx1, hx2⟩
      · obtain ⟨W, hW⟩ : ∃ W, W = wr.alloc (.cells #[.int .i64 0, .int .i64 0] 57) := ⟨_, rfl⟩
        have HLW := hid (HL.out.below (w' := W) (by rw [hW]; exact below_alloc wr _))
        rw [HNN.out] at HLW
        obtain ⟨G, hGE⟩ : ∃ G, G = wr.heap.size := ⟨_, rfl⟩
        have hq0 : W.heap[G]? = some (.cells (arrV (whoF lu) n n) 57 (0, 0)) := by
          unfold arrV
          rw [cntF_last, cntF_last, hW, hGE]
          exact heap_alloc_new wr _
        have HQ0 := hid hq0
        have hGB : B ≤ G := by rw [hGE]; exact HL.out.sz
        have HW := hid hW
        have HGE := hid hGE
        have HGB := hid hGB
        clear hW hGE hq0 hGB HL HT HCWS HCFS HWS
        go_wp2_with fail
        rw [← HW.out, ← HGE.out]
        clear HW HGE
        go_loopw [20] (fun x20 wx => ∃ c : Int, x20 = .int .i64 c ∧ Hid (∃ K : Nat, K ≤ n ∧ c = (K : Int) - 1 ∧ LgP P w wx B lu (.slice t7a n t7c) (.slice t8a n t8c) ∧ wx.heap[G]? = some (.cells (arrV (whoF lu) n K) 57 (0, 0)))) (fun x20 _ => (intOf x20 + 1).toNat)
        case atStart => exact ⟨_, rfl, hid ⟨n, Nat.le_refl _, rfl, HLW.out, HQ0.out⟩⟩
        case round =>
          obtain ⟨c, rfl, HI2⟩ := hrel
          obtain ⟨K, hK, hcK, hLr, hqr⟩ := HI2.out
          clear HI2 HLW HQ0
          by_cases hc0 : 0 ≤ c
          · obtain ⟨y, hy⟩ : ∃ y : Nat, K = y + 1 := ⟨K - 1, by omega⟩
            subst hy
            obtain rfl : c = (y : Int) := by omega
            have hyn : y < n := by omega
            have hyl : y < lu.length := by have := HNN.out; omega
            obtain ⟨g7, ⟨d7, e7, hd7⟩, hc7⟩ := hLr.tok y hyl
            obtain ⟨g8, ⟨d8, e8, hd8⟩, hc8⟩ := hLr.who y hyl
            simp only [Value.slice.injEq] at e7 e8
            obtain ⟨rfl, hx7, rfl⟩ := e7
            obtain ⟨rfl, hx8, rfl⟩ := e8
            clear hx7 hx8
            have hl7 : y < t7c := by omega
            have hl8 : y < t8c := by omega
            have hU2 := hLr.lt2 y hyl
            have HWho := hid (who_srl wr lu P.d _ hLr.srv.srl (by have := HNN.out; omega) y hyl)
            have HNL := hid (cntF_later (whoF lu) n y)
            rw [HNN.out] at HWho
            obtain ⟨U, hU⟩ : ∃ U, U = whoF lu y := ⟨_, rfl⟩
            obtain ⟨tk, htk⟩ : ∃ tk, tk = tokOf [] y := ⟨_, rfl⟩
            rw [← htk] at hc7 HWho
            rw [← hU] at hc8 HWho hU2 HNL
            have hU2' : (U : Int) < 2 := by omega
            have hg8 : g8 < wr.heap.size := World.block_lt_of_cell? wr _ hc8
            have hGl : G < wr.heap.size := (Array.getElem?_eq_some_iff.1 hqr).1
            have HL8 := hid hc8
            have HLr := hid hLr
            have HQr := hid hqr
            have HUU := hid hU
            clear hc8 hLr hqr hU htk hd7 hd8 hcK hc0
            go_wp2_with fail
            refine HWho.out.mono ?_
            clear HWho hc7
            rintro e w5 ⟨a, er, rfl, hww, hb5⟩
            have hc8 := (hb5.cell (p := ⟨g8, 0 + y, none⟩) hg8).trans (by simpa using HL8.out)
            have hc8' : w5.cell? ⟨g8, y, none⟩ = some (.int .i64 (U : Int)) := by simpa using hc8
            have HL5 := hid (HLr.out.below hb5)
            have HQ5 := hid ((hb5.block G hGl).trans HQr.out)
            obtain ⟨hcu, hfu⟩ := arr_cell HQ5.out U hU2
            obtain ⟨C, hC⟩ : ∃ C, C = cntF (whoF lu) n (y + 1) U := ⟨_, rfl⟩
            have hCn : C ≤ 1048576 := by rw [hC]; have := cntF_le (whoF lu) n (y + 1) U; omega
            have hcw1 : IntKind.i64.wrap ((C : Int) + 1) = (C : Int) + 1 := by rw [IntKind.wrap_i64]; omega
            have HSt : Hid (LgP P w (w5.setCell ⟨G, U, none⟩ (.int .i64 ((C : Int) + 1))) B lu (.slice (some ⟨g7, 0, none⟩) n t7c) (.slice (some ⟨g8, 0, none⟩) n t8c) ∧ (w5.setCell ⟨G, U, none⟩ (.int .i64 ((C : Int) + 1))).heap[G]? = some (.cells (arrV (whoF lu) n y) 57 (0, 0))) := by
              rw [hC]
              exact hid ⟨HL5.out.keep (gr_set _ _ _ _) HGB.out HQ5.out (by decide) (by decide), arr_step HQ5.out hyn HUU.out.symm hU2⟩
            have hww2 : (C < 8 ∧ a = (U : Int) ∧ er = 0) ∨ (¬ C < 8 ∧ er ≠ 0) := by
              rw [hC, ← HNL.out]
              exact hww
            rw [← hC] at hcu
            clear hb5 hc8 hww hC
            rcases hww2 with ⟨h8, ha, her⟩ | ⟨h8, her⟩
            · subst ha her
              have h8' : (C : Int) < 8 := by omega
              go_wp2
              go_roundw
              case rel => first | exact ⟨_, rfl, hid ⟨y, by omega, rfl, HSt.out⟩⟩ | ((repeat apply Exists.intro); exact ⟨⟨_, rfl, hid ⟨y, by omega, rfl, HSt.out⟩⟩, rfl⟩)
              case measure => simp [intOf]
            · have h8' : ¬ (C : Int) < 8 := by omega
              have her' : (er == 0) = false := by simpa using her
              go_wp2
              go_roundw
              case rel => first | exact ⟨_, rfl, hid ⟨y, by omega, rfl, HSt.out⟩⟩ | ((repeat apply Exists.intro); exact ⟨⟨_, rfl, hid ⟨y, by omega, rfl, HSt.out⟩⟩, rfl⟩)
              case measure => simp [intOf]
          · have hcl : ¬ (0 : Int) ≤ c := hc0
            have hbel := hLr.bel
            have haw := HAW.out wr hbel
            have HBL := hid hbel
            clear hLr hqr hbel hcK
            go_wp2_with fail
            refine haw.mono ?_
            clear haw
            rintro e w6 ⟨rfl, hb6⟩
            have HX := hid (HBL.out.trans (hb6.mono HBL.out.size))
            clear hb6
            go_wp2
            go_ret
            exact ⟨rfl, HX.out⟩
      · obtain ⟨W, hW⟩ : ∃ W, W = wr.alloc (.cells #[.int .i64 0, .int .i64 0] 57) := ⟨_, rfl⟩
        have HLW := hid (HL.out.below (w' := W) (by rw [hW]; exact below_alloc wr _))
        rw [HNN.out] at HLW
        obtain ⟨G, hGE⟩ : ∃ G, G = wr.heap.size := ⟨_, rfl⟩
        have hq0 : W.heap[G]? = some (.cells (arrV (whoF lu) n n) 57 (0, 0)) := by
          unfold arrV
          rw [cntF_last, cntF_last, hW, hGE]
          exact heap_alloc_new wr _
        have HQ0 := hid hq0
        have hGB : B ≤ G := by rw [hGE]; exact HL.out.sz
        have HW := hid hW
        have HGE := hid hGE
        have HGB := hid hGB
        clear hW hGE hq0 hGB HL HT HCWS HCFS HWS
        go_wp2_with fail
        rw [← HW.out, ← HGE.out]
        clear HW HGE
        go_loopw [20] (fun x20 wx => ∃ c : Int, x20 = .int .i64 c ∧ Hid (∃ K : Nat, K ≤ n ∧ c = (K : Int) - 1 ∧ LgP P w wx B lu (.slice t7a n t7c) (.slice t8a n t8c) ∧ wx.heap[G]? = some (.cells (arrV (whoF lu) n K) 57 (0, 0)))) (fun x20 _ => (intOf x20 + 1).toNat)
        case atStart => exact ⟨_, rfl, hid ⟨n, Nat.le_refl _, rfl, HLW.out, HQ0.out⟩⟩
        case round =>
          obtain ⟨c, rfl, HI2⟩ := hrel
          obtain ⟨K, hK, hcK, hLr, hqr⟩ := HI2.out
          clear HI2 HLW HQ0
          by_cases hc0 : 0 ≤ c
          · obtain ⟨y, hy⟩ : ∃ y : Nat, K = y + 1 := ⟨K - 1, by omega⟩
            subst hy
            obtain rfl : c = (y : Int) := by omega
            have hyn : y < n := by omega
            have hyl : y < lu.length := by have := HNN.out; omega
            obtain ⟨g7, ⟨d7, e7, hd7⟩, hc7⟩ := hLr.tok y hyl
            obtain ⟨g8, ⟨d8, e8, hd8⟩, hc8⟩ := hLr.who y hyl
            simp only [Value.slice.injEq] at e7 e8
            obtain ⟨rfl, hx7, rfl⟩ := e7
            obtain ⟨rfl, hx8, rfl⟩ := e8
            clear hx7 hx8
            have hl7 : y < t7c := by omega
            have hl8 : y < t8c := by omega
            have hU2 := hLr.lt2 y hyl
            have HWho := hid (who_srl wr lu P.d _ hLr.srv.srl (by have := HNN.out; omega) y hyl)
            have HNL := hid (cntF_later (whoF lu) n y)
            rw [HNN.out] at HWho
            obtain ⟨U, hU⟩ : ∃ U, U = whoF lu y := ⟨_, rfl⟩
            obtain ⟨tk, htk⟩ : ∃ tk, tk = tokOf [] y := ⟨_, rfl⟩
            rw [← htk] at hc7 HWho
            rw [← hU] at hc8 HWho hU2 HNL
            have hU2' : (U : Int) < 2 := by omega
            have hg8 : g8 < wr.heap.size := World.block_lt_of_cell? wr _ hc8
            have hGl : G < wr.heap.size := (Array.getElem?_eq_some_iff.1 hqr).1
            have HL8 := hid hc8
            have HLr := hid hLr
            have HQr := hid hqr
            have HUU := hid hU
            clear hc8 hLr hqr hU htk hd7 hd8 hcK hc0
            go_wp2_with fail
            refine HWho.out.mono ?_
            clear HWho hc7
            rintro e w5 ⟨a, er, rfl, hww, hb5⟩
            have hc8 := (hb5.cell (p := ⟨g8, 0 + y, none⟩) hg8).trans (by simpa using HL8.out)
            have hc8' : w5.cell? ⟨g8, y, none⟩ = some (.int .i64 (U : Int)) := by simpa using hc8
            have HL5 := hid (HLr.out.below hb5)
            have HQ5 := hid ((hb5.block G hGl).trans HQr.out)
            obtain ⟨hcu, hfu⟩ := arr_cell HQ5.out U hU2
            obtain ⟨C, hC⟩ : ∃ C, C = cntF (whoF lu) n (y + 1) U := ⟨_, rfl⟩
            have hCn : C ≤ 1048576 := by rw [hC]; have := cntF_le (whoF lu) n (y + 1) U; omega
            have hcw1 : IntKind.i64.wrap ((C : Int) + 1) = (C : Int) + 1 := by rw [IntKind.wrap_i64]; omega
            have HSt : Hid (LgP P w (w5.setCell ⟨G, U, none⟩ (.int .i64 ((C : Int) + 1))) B lu (.slice (some ⟨g7, 0, none⟩) n t7c) (.slice (some ⟨g8, 0, none⟩) n t8c) ∧ (w5.setCell ⟨G, U, none⟩ (.int .i64 ((C : Int) + 1))).heap[G]? = some (.cells (arrV (whoF lu) n y) 57 (0, 0))) := by
              rw [hC]
              exact hid ⟨HL5.out.keep (gr_set _ _ _ _) HGB.out HQ5.out (by decide) (by decide), arr_step HQ5.out hyn HUU.out.symm hU2⟩
            have hww2 : (C < 8 ∧ a = (U : Int) ∧ er = 0) ∨ (¬ C < 8 ∧ er ≠ 0) := by
              rw [hC, ← HNL.out]
              exact hww
            rw [← hC] at hcu
            clear hb5 hc8 hww hC
            rcases hww2 with ⟨h8, ha, her⟩ | ⟨h8, her⟩
            · subst ha her
              have h8' : (C : Int) < 8 := by omega
              go_wp2
              go_roundw
              case rel => first | exact ⟨_, rfl, hid ⟨y, by omega, rfl, HSt.out⟩⟩ | ((repeat apply Exists.intro); exact ⟨⟨_, rfl, hid ⟨y, by omega, rfl, HSt.out⟩⟩, rfl⟩)
              case measure => simp [intOf]
            · have h8' : ¬ (C : Int) < 8 := by omega
              have her' : (er == 0) = false := by simpa using her
              go_wp2
              go_roundw
              case rel => first | exact ⟨_, rfl, hid ⟨y, by omega, rfl, HSt.out⟩⟩ | ((repeat apply Exists.intro); exact ⟨⟨_, rfl, hid ⟨y, by omega, rfl, HSt.out⟩⟩, rfl⟩)
              case measure => simp [intOf]
          · have hcl : ¬ (0 : Int) ≤ c := hc0
            have hbel := hLr.bel
            have haw := HAW.out wr hbel
            have HBL := hid hbel
            clear hLr hqr hbel hcK
            go_wp2_with fail
            refine haw.mono ?_
            clear haw
            rintro e w6 ⟨rfl, hb6⟩
            have HX := hid (HBL.out.trans (hb6.mono HBL.out.size))
            clear hb6
            go_wp2
            go_ret
            exact ⟨rfl, HX.out⟩
end Go.Proofs.YtplljpodejpbgaaGreatDoor

namespace Go.Proofs.YtplljpodejpbgaaGreatDoor
open Go.ChangeShapes Go.WideShapes Go.ChangeAt Go.RowKit Go.Joins
set_option linter.unusedVariables false

theorem own : ownKnob Tryz.prog.godebug = none := by kernel_rfl
theorem laidOut : laidOutB Tryz.prog = true := by kernel_rfl
theorem gRo : Tryz.prog.globalNamed "cloister/sha.rounds" = some 0 := by kernel_rfl
theorem gRoType : (Tryz.prog.globals[0]?).map (·.type) = some 167 := by kernel_rfl
theorem cellsRo : Tryz.prog.cellsOf 167 = 64 := by kernel_rfl
theorem cellsR1 : Tryz.prog.cellsOf 138 = 1 := by kernel_rfl
theorem gTab : Tryz.prog.globalNamed "internal/strconv.uint64pow10" = some 1 := by kernel_rfl
theorem gTabType : (Tryz.prog.globals[1]?).map (·.type) = some 191 := by kernel_rfl
theorem cellsPo : Tryz.prog.cellsOf 191 = 20 := by kernel_rfl
theorem cellsU : Tryz.prog.cellsOf 154 = 1 := by kernel_rfl
def K0z : List Int := K0.map fun (x : Nat) => (x : Int)
/-- What the rows' list gives: the table of powers lies below all that is made, and sha's words lie. -/
theorem tb_laid {W : World} (h : laidMetH Tryz.prog [("math/bits.deBruijn32tab", Rows.laid_math_bits_deBruijn32tab), ("math/bits.deBruijn64tab", Rows.laid_math_bits_deBruijn64tab), ("internal/strconv.uint64pow10", Rows.laid_internal_strconv_uint64pow10), ("cloister/sha.rounds", Rows.laid_cloister_sha_rounds)] W) : Tb W := by
  have h' : laidMet Tryz.prog [("math/bits.deBruijn32tab", Rows.laid_math_bits_deBruijn32tab), ("math/bits.deBruijn64tab", Rows.laid_math_bits_deBruijn64tab), ("internal/strconv.uint64pow10", Rows.laid_internal_strconv_uint64pow10), ("cloister/sha.rounds", Rows.laid_cloister_sha_rounds)] W := h
  obtain ⟨ps, ⟨_, _, _, _, _, q1, _, _, _, _, h2, _⟩, _⟩ := h'
  obtain ⟨_, _, _, _, _, q2, _, _, _, _, h3, _⟩ := h2
  obtain ⟨g', t', cs, fuel, p, q, hg', ht', hvar, hd, h4, _⟩ := h3
  obtain ⟨g'', t'', cs', fuel', p', q', hg'', ht'', hvar', hd', _, _⟩ := h4
  obtain rfl := Option.some.inj (gTab.symm.trans hg')
  obtain rfl := Option.some.inj (gTabType.symm.trans ht')
  obtain rfl := Option.some.inj (gRo.symm.trans hg'')
  obtain rfl := Option.some.inj (gRoType.symm.trans ht'')
  constructor
  · have ht : Lib.TabIs Tryz.prog W "cloister/sha.rounds" .u32 K0z := by
      unfold Lib.TabIs
      rw [hvar', ← Lib.cells_of_tab (k := .u32) (zs := K0z) Tryz.underlying167 Tryz.underlying138 cellsR1 cellsRo hd']
    intro j hj
    have hc := ht.cell gRo j hj
    rw [hc]
    have hl : j < K0.length := hj
    simp [K0z, List.getD, hl]
  · refine Lib.tabBelow_of_tabIs ?_
    unfold Lib.TabIs
    rw [hvar, ← Lib.cells_of_tab (k := .u64) (zs := Lib.pow10Tab) Tryz.underlying191 Tryz.underlying154 cellsU cellsPo hd]

def layRounds : Obj → Obj
  | .cells _ t frozen => .cells (cellsN .u32 K0).toArray t frozen
  | o => o
def zPow : List Int := [1, 10, 100, 1000, 10000, 100000, 1000000, 10000000, 100000000, 1000000000, 10000000000, 100000000000, 1000000000000, 10000000000000, 100000000000000, 1000000000000000, 10000000000000000, 100000000000000000, 1000000000000000000, 10000000000000000000]
def layPow : Obj → Obj
  | .cells _ t frozen => .cells (zPow.map fun z => Value.int .u64 z).toArray t frozen
  | o => o
def zB32 : List Int := [0, 1, 28, 2, 29, 14, 24, 3, 30, 22, 20, 15, 25, 17, 4, 8, 31, 27, 13, 23, 21, 19, 16, 7, 26, 12, 18, 6, 11, 5, 10, 9]
def layB32 : Obj → Obj
  | .cells _ t frozen => .cells (zB32.map fun z => Value.int .u8 z).toArray t frozen
  | o => o
def zB64 : List Int := [0, 1, 56, 2, 57, 49, 28, 3, 61, 58, 42, 50, 38, 29, 17, 4, 62, 47, 59, 36, 45, 43, 51, 22, 53, 39, 33, 30, 24, 18, 12, 5, 63, 55, 48, 27, 60, 41, 37, 16, 46, 35, 44, 21, 52, 32, 23, 11, 54, 26, 40, 15, 34, 20, 31, 10, 25, 14, 19, 9, 13, 8, 7, 6]
def layB64 : Obj → Obj
  | .cells _ t frozen => .cells (zB64.map fun z => Value.int .u8 z).toArray t frozen
  | o => o
theorem laid_met (os : Os) (args : Array Value) : laidMet Tryz.prog [("math/bits.deBruijn32tab", Rows.laid_math_bits_deBruijn32tab), ("math/bits.deBruijn64tab", Rows.laid_math_bits_deBruijn64tab), ("internal/strconv.uint64pow10", Rows.laid_internal_strconv_uint64pow10), ("cloister/sha.rounds", Rows.laid_cloister_sha_rounds)] (({ World.holding Tryz.prog os ⟨#[], #[], []⟩ with heap := ((((World.holding Tryz.prog os ⟨#[], #[], []⟩).heap.modify 0 layRounds).modify 1 layPow).modify 3 layB32).modify 4 layB64 } : World).forCall (fun _ _ => 0) ⟨#[], args, []⟩).memory :=
  laidMet_of_run' 8 (by kernel_rfl) (by kernel_rfl)
end Go.Proofs.YtplljpodejpbgaaGreatDoor
namespace Go.Proofs.YtplljpodejpbgaaGreatDoor
open Go.ChangeShapes Go.WideShapes Go.ChangeAt Go.RowKit Go.ChangeMaps
set_option linter.unusedVariables false
theorem bulk_one {H : Type} (d : DataW H) : 1 ≤ Rows.uptoBulk d := by
  cases d with
  | lit l => cases l <;> simp [Rows.uptoBulk]
  | nil => simp [Rows.uptoBulk]
  | ptr d => simp [Rows.uptoBulk]
  | slice elems spare => simp [Rows.uptoBulk]
  | agg parts => simp [Rows.uptoBulk]
  | iface t d => simp [Rows.uptoBulk]
  | map entries => simp [Rows.uptoBulk]
  | held h => simp [Rows.uptoBulk]
theorem bulk_length {H : Type} (l : List (DataW H)) : l.length ≤ Rows.uptoBulkAll l := by
  induction l with
  | nil => simp [Rows.uptoBulkAll]
  | cons x r ih => have := bulk_one x; simp only [Rows.uptoBulkAll, List.length_cons]; omega
theorem bulk_mem {H : Type} (d : DataW H) : ∀ ds : List (DataW H), d ∈ ds → Rows.uptoBulk d ≤ Rows.uptoBulkAll ds
  | [], h => by cases h
  | e :: r, h => by
    rw [Rows.uptoBulkAll]
    rcases List.mem_cons.1 h with rfl | h
    · omega
    · have := bulk_mem d r h
      omega
theorem str_small {H : Type} {ds : List (DataW H)} {j : Nat} {l : List UInt8} (hk : Rows.uptoSmall H ds = true) (hj : ds[j]? = some (.lit (.string l))) : l.length ≤ 1048576 := by
  have h1 : Rows.uptoBulkAll ds ≤ 1048576 := of_decide_eq_true hk
  have h2 := bulk_mem _ ds (List.mem_of_getElem? hj)
  rw [Rows.uptoBulk] at h2
  omega
theorem bulk_small {H : Type} {ds : List (DataW H)} {j : Nat} {d : DataW H} (hk : Rows.uptoSmall H ds = true) (hj : ds[j]? = some d) : Rows.uptoBulk d ≤ 1048576 := by
  have h1 : Rows.uptoBulkAll ds ≤ 1048576 := of_decide_eq_true hk
  have h2 := bulk_mem _ ds (List.mem_of_getElem? hj)
  omega
theorem strs_at {W : World} {a : Addr} {ss : List ByteArray} (h : ∀ i, i < ss.length → W.cell? (a.add i) = some (.string (ss.getD i ByteArray.empty))) (hp : 0 < ss.length) :
    ∃ b off, a = ⟨b, off, none⟩ ∧ ∀ j, j < ss.length → W.cell? ⟨b, off + j, none⟩ = some (.string (ss.getD j ByteArray.empty)) := by
  obtain ⟨b, off, spot⟩ := a
  have hspot : spot = none := by simpa [Addr.add] using World.cell?_spot (h 0 hp)
  subst hspot
  exact ⟨b, off, rfl, fun j hj => by rw [← addr_add]; exact h j hj⟩
/-- A slice of texts among the data. -/
theorem texts_cell {H : Type} {enc : TypeId × Value → H} {W : World} {v : Value} {x : DataW H × List MemPlace} {fuel : Nat}
    (h : DataW.trod enc Tryz.prog W 0 (fun _ => true) true fuel 39 [v] = some x) : ∃ xs, SeesW W v xs ∧ xs.length ≤ Rows.uptoBulk x.1 ∧ ∀ s ∈ xs, s.size ≤ Rows.uptoBulk x.1 := by
  rcases open_strings Tryz.underlying39 Tryz.underlying9 (by kernel_rfl) h with ⟨hcs, hx⟩ | ⟨a, len, cap, zs, hcs, _, hl, hm, hz, hx, hcell, hwz⟩
  · simp only [List.cons.injEq, and_true] at hcs
    subst hcs
    exact ⟨[], ⟨0, 0, none, 0, rfl, Nat.le_refl _, fun h => absurd rfl h, fun j hj => by simp at hj⟩, by simp, fun s hs => by simp at hs⟩
  · simp only [List.cons.injEq, and_true] at hcs
    subst hcs
    have hz' : zs.length = cap := by simpa using hz
    have hlen : (zs.take len).length = len := by rw [List.length_take]; omega
    refine ⟨zs.take len, ?_, ?_, fun s hs => ?_⟩
    · by_cases h0 : len = 0
      · subst h0
        exact ⟨0, 0, some a, cap, rfl, Nat.zero_le _, fun h => absurd (by simp) h, fun j hj => by simp at hj⟩
      · obtain ⟨b, off, rfl, hc⟩ := strs_at hcell (by omega)
        refine ⟨b, off, _, cap, by rw [hlen], by omega, fun _ => rfl, fun j hj => ?_⟩
        have hj' : j < len := by omega
        have hjz : j < zs.length := by omega
        rw [hc j hjz]
        simp [List.getD, hjz, hj']
    · rw [hlen, hx]
      have e : (strs (H := H) (zs.take len)).length = len := by simp only [strs, List.length_map, List.length_take]; omega
      have h2 := bulk_length (strs (H := H) (zs.take len))
      simp only [Rows.uptoBulk]
      omega
    · rw [hx]
      have hmem : (DataW.lit (H := H) (.string s.data.toList)) ∈ strs (H := H) (zs.take len) := List.mem_map.2 ⟨s, hs, rfl⟩
      have h2 := bulk_mem _ _ hmem
      simp only [Rows.uptoBulk, Array.length_toList] at h2 ⊢
      have e : s.data.size = s.size := rfl
      omega
/-- A slice of truths among the data. -/
theorem bools_cell {H : Type} {enc : TypeId × Value → H} {W : World} {v : Value} {x : DataW H × List MemPlace} {fuel : Nat}
    (h : DataW.trod enc Tryz.prog W 0 (fun _ => true) true fuel 48 [v] = some x) : ∃ m B, SeesB W v m B := by
  rcases Go.Deep.open_bools Tryz.underlying48 Tryz.underlying4 (by kernel_rfl) h with ⟨hcs, hx⟩ | ⟨a, len, cap, B, hcs, _, hl, hm, hx, hcell⟩
  · simp only [List.cons.injEq, and_true] at hcs
    subst hcs
    exact ⟨0, fun _ => false, 0, 0, none, 0, rfl, Nat.le_refl _, fun h => absurd rfl h, fun j hj => absurd hj (by omega)⟩
  · simp only [List.cons.injEq, and_true] at hcs
    subst hcs
    refine ⟨len, B, ?_⟩
    by_cases h0 : len = 0
    · subst h0
      exact ⟨0, 0, some a, cap, rfl, Nat.zero_le _, fun h => absurd rfl h, fun j hj => absurd hj (by omega)⟩
    · obtain ⟨b, off, spot⟩ := a
      have hspot : spot = none := by simpa [Addr.add] using World.cell?_spot (hcell 0 (by omega))
      subst hspot
      refine ⟨b, off, _, cap, rfl, hl, fun _ => rfl, fun j hj => ?_⟩
      have := hcell j (by omega)
      rwa [addr_add] at this
end Go.Proofs.YtplljpodejpbgaaGreatDoor
namespace Go.Proofs.YtplljpodejpbgaaGreatDoor.iddLogins
open Go.ChangeShapes Go.WideShapes Go.ChangeAt Go.RowKit Go.ChangeMaps
set_option linter.unusedVariables false

set_option maxRecDepth 100000 in
theorem contract (H : Type) (enc : TypeId × Value → H) (W : World) (base : Nat) (args : Array Value) (ds gs : List (DataW H)) (before : List MemPlace)
    (hval : ∀ (j : Nat) t v, Tryz.f4.params[j]? = some t → args[j]? = some v → Value.okWide Tryz.prog W .any base t v)
    (hW : DataW.Whole enc Tryz.prog Tryz.f4.params.toList Rows.iddLoginsSpec.vars false W args.toList ds gs before)
    (hk : Rows.uptoSmall H (ds ++ gs) = true) (hL : laidMetH Tryz.prog Rows.iddLoginsUptoRow.laid W) :
    Calls Tryz.prog 4 args W fun e W' => ∃ v, e = .returned v ∧ Rows.iddLoginsSpec.post enc Tryz.prog Tryz.f4 false true false false W args v W' := by
  have hW' := hW
  obtain ⟨p, q, hA0, hV, rfl, hfz, hnd⟩ := hW
  have hA : DataW.TrodAll enc Tryz.prog W 0 (fun _ => true) true Tryz.f4.params.toList args.toList ds p := hA0
  rw [Tryz.params4] at hA hval
  obtain ⟨v0, vs0, d0, ds0, p0, q0, hargs, rfl, rfl, h0, r0⟩ := trodAll_cons hA
  obtain ⟨v1, vs1, d1, ds1, p1, q1, rfl, rfl, rfl, h1, r1⟩ := trodAll_cons r0
  obtain ⟨rfl, rfl, rfl⟩ := trodAll_nil r1
  obtain rfl : args = #[v0, v1] := by cases args; simp_all
  obtain ⟨rfl, rfl⟩ := trodVars_none hV
  obtain ⟨a0, n0, c0, rfl⟩ := okWide_slice Tryz.underlying39 (hval 0 39 v0 rfl rfl)
  have h0' := h0
  obtain ⟨fu0, hf0⟩ := h0'
  obtain ⟨l0, hx0, sl0, ss0⟩ := texts_cell hf0
  have bk0 := bulk_small hk (j := 0) rfl
  have lt0 : ∀ x ∈ p0, x.block < W.heap.size := by obtain ⟨m, hm⟩ := h0; exact DataW.trod_lt m _ _ _ hm
  obtain ⟨a1, n1, c1, rfl⟩ := okWide_slice Tryz.underlying48 (hval 1 48 v1 rfl rfl)
  have h1' := h1
  obtain ⟨fu1, hf1⟩ := h1'
  obtain ⟨m1, B1, hx1⟩ := bools_cell hf1
  have lt1 : ∀ x ∈ p1, x.block < W.heap.size := by obtain ⟨m, hm⟩ := h1; exact DataW.trod_lt m _ _ _ hm
  clear hA0
  refine (logins_walk _ _ l0 m1 B1 W (tb_laid hL) hx0 (Nat.le_trans sl0 bk0) (fun s hs => Nat.le_trans (ss0 s hs) bk0) hx1).mono fun e W' ⟨he, bel⟩ => ?_
  subst he
  exact ⟨_, rfl, _, _, _, [], _, [], hW', trodAll_mk1 (shut_bool Tryz.underlying4 _), (trodAll_cons_mk (Below.trod laidOut (by kernel_rfl) (of_decide_eq_true (by kernel_rfl)) h0 bel lt0) (trodAll_cons_mk (Below.trod laidOut (by kernel_rfl) (of_decide_eq_true (by kernel_rfl)) h1 bel lt1) trodAll_mk0)), rfl, bel.frame _, fun h => by cases h⟩

theorem reads (os : Os) {H : Type} (enc : TypeId × Value → H) : ∃ places, DataW.whole enc Tryz.prog (({ World.holding Tryz.prog os ⟨#[], #[], []⟩ with heap := ((((World.holding Tryz.prog os ⟨#[], #[], []⟩).heap.modify 0 layRounds).modify 1 layPow).modify 3 layB32).modify 4 layB64 } : World).forCall (fun _ _ => 0) ⟨#[], #[.slice none 0 0, .slice none 0 0], []⟩).memory Tryz.f4.params.toList Rows.iddLoginsSpec.vars false (#[.slice none 0 0, .slice none 0 0] : Array Value).toList 8 = some ([.nil, .nil], [], places) :=
  ⟨[], by kernel_rfl⟩

set_option maxRecDepth 100000 in
theorem lifted (os : Os) (started : os.Started) (H : Type) (enc : TypeId × Value → H) (F : Stop.Interp) :
    ReturnsInHanded {} Tryz.checked os 4 .any ((Rows.OpenSpec.upto Rows.iddLoginsSpec).preRow enc Tryz.prog Tryz.f4 Rows.iddLoginsUptoRow.domain false Rows.iddLoginsUptoRow.laid) (((Rows.OpenSpec.upto Rows.iddLoginsSpec).at F).post enc Tryz.prog Tryz.f4 false true false false) := by
  obtain ⟨places, hx⟩ := reads os enc
  refine returnsInHanded_of_row (C := Tryz.checked) (s := Rows.OpenSpec.upto Rows.iddLoginsSpec) own started (by kernel_rfl) Tryz.func4
    (witness_row_at (enc := enc) (C := Tryz.checked) false { World.holding Tryz.prog os ⟨#[], #[], []⟩ with heap := ((((World.holding Tryz.prog os ⟨#[], #[], []⟩).heap.modify 0 layRounds).modify 1 layPow).modify 3 layB32).modify 4 layB64 } #[.slice none 0 0, .slice none 0 0] rfl (by kernel_rfl) (by kernel_rfl) (by kernel_rfl)
      (OpenSpec.preRow_of_cond 8 hx (by kernel_rfl) (fun k hk => by cases hk; kernel_rfl) (by kernel_rfl) (laid_met os _))) ?_
  intro W base args ds gs before hval hW _ hcond hz hL hsh _
  exact contract H enc W base args ds gs before hval hW (hcond _ rfl) hL

theorem said : Rows.IddLoginsUptoSaid :=
  OpenClaim.holds_of_cond 4 Tryz.f4 rfl rfl rfl rfl rfl rfl rfl ⟨rfl, rfl, rfl, rfl, rfl⟩ rfl rfl rfl rfl rfl (by kernel_rfl) Tryz.func4 (by kernel_rfl)
    (of_decide_eq_true (by kernel_rfl)) (by unfold Func.isWrapper; first | (rw [if_pos (by decide +kernel)]; kernel_rfl) | (rw [if_neg (by decide +kernel)]; exact ⟨rfl, rfl⟩))
    (fun os started H enc _ F => by rw [OpenClaim.pre_eq_preRow]; exact lifted os started H enc F)

theorem plain (f : FuncId) (fn : Func) (hf : Tryz.pinned.checked.prog.funcNamed "cloister/cloisterlaw17.IddLogins" = some f) (hfn : Tryz.pinned.checked.prog.funcs[f]? = some fn) :
    true = Tryz.pinned.checked.prog.looks [] ∧ ∀ (j : Nat) t, fn.params[j]? = some t → Tryz.pinned.checked.prog.wantsStandIn t = false := by
  obtain rfl : f = 4 := Option.some.inj ((show Tryz.prog.funcNamed "cloister/cloisterlaw17.IddLogins" = some 4 by kernel_rfl).symm.trans hf) |>.symm
  obtain rfl : fn = Tryz.f4 := (Option.some.inj (Tryz.func4.symm.trans hfn)).symm
  refine ⟨by kernel_rfl, fun j t ht => ?_⟩
  rw [Tryz.params4] at ht
  have hm := Array.mem_of_getElem? ht
  simp only [List.mem_toArray, List.mem_cons, List.not_mem_nil, or_false] at hm
  rcases hm with rfl | rfl
  · exact (show Tryz.prog.wantsStandIn 39 = false by kernel_rfl)
  · exact (show Tryz.prog.wantsStandIn 48 = false by kernel_rfl)

theorem card : Rows.IddLoginsUptoCardSaid :=
  Claim7.holds_tied_plain_at .later [] _ _ _ _ said (fun _ h => by cases h) (by kernel_rfl) (fun _ h => by cases h) iddLoginsUpto_row_tie rfl ⟨rfl, rfl⟩ (by kernel_rfl) rfl plain (by kernel_rfl)

end Go.Proofs.YtplljpodejpbgaaGreatDoor.iddLogins
namespace Go.Proofs.YtplljpodejpbgaaGreatDoor
theorem iddLoginsUpto_holds : Rows.IddLoginsUptoCardSaid := iddLogins.card
end Go.Proofs.YtplljpodejpbgaaGreatDoor
