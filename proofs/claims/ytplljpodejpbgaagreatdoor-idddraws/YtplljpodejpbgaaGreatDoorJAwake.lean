/-
  What must come, whatever the arguments are.
-/
import Derived.Test.YtplljpodejpbgaaGreatDoorJWho
import Derived.Test.YtplljpodejpbgaaGreatDoorJNew
import Derived.Test.YtplljpodejpbgaaGreatDoorJSha
namespace Go.Proofs.YtplljpodejpbgaaGreatDoor
open Go.RowKit
set_option linter.unusedVariables false
set_option linter.unusedSimpArgs false
set_option maxRecDepth 100000

theorem dig_good (s t : ByteArray) : (strOf (saltOf s t)).size = 64 ∧ (unhexOf (bytesOf (strOf (saltOf s t)))).isSome = true := by
  refine ⟨saltOf_len s t, ?_⟩
  unfold saltOf
  rw [bytesOf_strOf (hexOf_lt (digest_lt _ _ _)), unhex_hex _ (digest_lt _ _ _)]
  rfl
theorem two_one (n s : ByteArray) (w : ByteArray) (op : Bool) (hn : n.size = 1) (hv : visB n = true) (hs : s.size = 1) : oneB ⟨n, s, strOf (saltOf s w), op⟩ = true := by
  obtain ⟨h1, h2⟩ := dig_good s w
  simp only [oneB, hn, hv, hs, h1, h2]
  decide
theorem two_may : mayB twoL = true := by
  have h1 := two_one { data := #[97] } tS tOne true rfl (by decide) rfl
  have h2 := two_one { data := #[98] } tT tTwo false rfl (by decide) rfl
  have hc : Lib.containsS [({ data := #[97] } : ByteArray)] { data := #[98] } = false := by
    cases h : Lib.containsS [({ data := #[97] } : ByteArray)] { data := #[98] } with
    | false => rfl
    | true =>
      have := (Lib.containsS_iff _ _).1 h
      simp at this
  have hc0 : Lib.containsS [] ({ data := #[97] } : ByteArray) = false := by
    cases h : Lib.containsS [] ({ data := #[97] } : ByteArray) with
    | false => rfl
    | true =>
      have := (Lib.containsS_iff _ _).1 h
      simp at this
  show (decide (1 ≤ 2) && decide (2 ≤ 16) && mayTo twoL 2) = true
  have m0 : mayTo twoL 1 = true := by
    show (true && (oneB ⟨{ data := #[97] }, tS, digA, true⟩ && !Lib.containsS [] { data := #[97] })) = true
    rw [show oneB ⟨{ data := #[97] }, tS, digA, true⟩ = true from h1, hc0]
    rfl
  have m1 : mayTo twoL 2 = true := by
    show (mayTo twoL 1 && (oneB ⟨{ data := #[98] }, tT, digB, false⟩ && !Lib.containsS [{ data := #[97] }] { data := #[98] })) = true
    rw [m0, show oneB ⟨{ data := #[98] }, tT, digB, false⟩ = true from h2, hc]
    rfl
  rw [m1]
  rfl
theorem two_sizes : ∀ u ∈ twoL, u.name.size ≤ 140737488355328 ∧ u.salt.size ≤ 140737488355328 ∧ u.digest.size ≤ 140737488355328 := by
  intro u hu
  simp only [twoL, List.mem_cons, List.not_mem_nil, or_false] at hu
  rcases hu with rfl | rfl
  · exact ⟨by decide, by decide, by show digA.size ≤ _; unfold digA; rw [saltOf_len]; decide⟩
  · exact ⟨by decide, by decide, by show digB.size ≤ _; unfold digB; rw [saltOf_len]; decide⟩
theorem own_a : (accOf twoL 0).own = [1, 2] := by
  show sd (sd ([] ++ [2 * ((0 : Nat) : Int) + 2]) ++ [2 * ((0 : Nat) : Int) + 1]) = [1, 2]
  refine sd_of (by simp) fun x => ?_
  rw [List.mem_append, mem_sd]
  simp
  omega
theorem own_b : (accOf twoL 1).own = [4] := by
  show sd ([] ++ [2 * ((1 : Nat) : Int) + 2]) = [4]
  exact sd_of (by simp) fun x => by simp
/-- The law's two users, made. -/
structure TwoAt (us : List (Acc × Value)) (v0 v1 : Value) : Prop where
  len : us.length = 2
  a : us[0]? = some (accOf twoL 0, v0)
  b : us[1]? = some (accOf twoL 1, v1)
theorem UsTo.two {us : List (Acc × Value)} (h : UsTo twoL twoL.length us) : ∃ v0 v1, TwoAt us v0 v1 := by
  obtain ⟨v0, h0⟩ := h.done 0 (by decide)
  obtain ⟨v1, h1⟩ := h.done 1 (by decide)
  exact ⟨v0, v1, h.len, h0, h1⟩
theorem TwoAt.nameB {us : List (Acc × Value)} {v0 v1 : Value} (h : TwoAt us v0 v1) : nameTo us { data := #[98] } us.length = some 1 := by
  have hne : ¬ (accOf twoL 0).name = { data := #[98] } := by
    show ¬ ({ data := #[97] } : ByteArray) = { data := #[98] }
    simp
  have n1 : nameTo us { data := #[98] } 1 = none := by
    rw [nameTo, nameTo, h.a]
    simp only
    rw [if_neg hne]
  rw [h.len, nameTo, n1, h.b]
  simp only
  rw [if_pos (show (accOf twoL 1).name = { data := #[98] } from rfl)]
theorem TwoAt.nameA {us : List (Acc × Value)} {v0 v1 : Value} (h : TwoAt us v0 v1) : nameTo us { data := #[97] } us.length = some 0 := by
  have n1 : nameTo us { data := #[97] } 1 = some 0 := by
    rw [nameTo, nameTo, h.a]
    simp only
    rw [if_pos (show (accOf twoL 0).name = { data := #[97] } from rfl)]
  exact nameTo_some n1 _ (by rw [h.len]; decide)

theorem sees_two (w : World) (x y : Int) : Sees (w.alloc (.cells #[.int .i64 x, .int .i64 y] 3)) (.slice (some ⟨w.heap.size, 0, none⟩) 2 2) [x, y] := by
  refine ⟨w.heap.size, 0, _, 2, rfl, Nat.le_refl _, (fun h => by cases h), fun _ => rfl, fun j hj => ?_⟩
  rw [Nat.zero_add]
  have hj2 : j < 2 := hj
  refine cell_of_list (cs := [.int .i64 x, .int .i64 y]) (heap_alloc_new w _) ?_
  match j, hj2 with
  | 0, _ => rfl
  | 1, _ => rfl
set_option maxHeartbeats 4000000 in
theorem awake_any (w : World) (hT : Tb w) : Calls Tryz.prog 10 #[] w fun e w' => e = .returned (.bool true) ∧ Below w.heap.size w w' := by
  have htw := hid (two_any w)
  have HT := hid hT
  clear hT
  go_enter Tryz.func10, Tryz.ntmps10
  go_wp2_with fail
  refine htw.out.mono ?_
  rintro e w1 ⟨B, rfl, ho1, hb1⟩
  have HB1 := hid hb1
  obtain ⟨W, hW⟩ : ∃ W, W = w1.alloc (.cells #[.int .i64 7] 3) := ⟨_, rfl⟩
  have hbW : Below w1.heap.size w1 W := by rw [hW]; exact below_alloc w1 _
  have hD : Sees W (.slice (some ⟨w1.heap.size, 0, none⟩) 1 1) [7] := by rw [hW]; exact sees_one w1 7
  have hnw := new_yes (.slice (some ⟨B, 0, none⟩) 2 2) (.slice (some ⟨w1.heap.size, 0, none⟩) 1 1) twoL [7] W ((sees_of_row ho1).below hbW) hD two_may two_sizes (by decide)
  have HNW := hid hnw
  have HW := hid hW
  have HBW := hid (hb1.trans (hbW.mono hb1.size))
  clear htw ho1 hb1 hbW hD hnw hW
  go_wp2_with fail
  rw [← HW.out]
  refine HNW.out.mono ?_
  rintro e w2 ⟨d, ub, mb, us, vd, vg, rfl, hI, hU, hb2, hm⟩
  obtain ⟨v0, v1, hTw⟩ := hU.two
  have HB2 := hid (HBW.out.trans (hb2.mono HBW.out.size))
  have heq := eqlD_some_nil ⟨d, 0, none⟩
  have hl := login_ok w2 (HT.out.below HB2.out) d ub mb us vd [7] 0 [] vg _ hI { data := #[98] } tTwo 1 _ hTw.b hTw.nameB (by show tT.size ≤ 32; decide) (by decide) rfl (by decide) (by decide) (fun x hx => by simp at hx) (by intro x hx; simp at hx; subst hx; decide)
  have HL := hid hl
  have HTW := hid hTw
  have HM : Hid (∀ k, mineD d ub mb vg k → w.heap.size ≤ k) := fun k hk => Nat.le_trans HBW.out.size (hm k hk)
  clear hl hI hU hb2 hTw hm HNW HW HB1
  go_wp2_with fail
  refine HL.out.mono ?_
  rintro e w3 ⟨rfl, hI3, hG3⟩
  have HB3 := hid (HB2.out.trans (hG3.below HM.out HB2.out.size))
  obtain ⟨tk1, htk⟩ : ∃ t, t = tokOf [7] 0 := ⟨_, rfl⟩
  have hts : tk1.size = 32 := by rw [htk, tokOf_size]
  rw [← htk] at hI3 ⊢
  have hl := login_deny w3 (HT.out.below HB3.out) d ub mb us vd [7] 1 _ vg _ hI3 { data := #[98] } tOne (by decide) (Or.inr ⟨1, _, HTW.out.b, HTW.out.nameB, by show tT.size ≤ 32; decide, words_apart⟩)
  have HL2 := hid hl
  have HI3 := hid hI3
  clear hl hI3 hG3 htk HL
  go_wp2_with fail
  refine HL2.out.mono ?_
  rintro e w4 ⟨rfl, hb4⟩
  have hI4 := HI3.out.below hb4
  have HB4 := hid (HB3.out.trans (hb4.mono HB3.out.size))
  have hwh := who_any w4 d ub mb us vd [7] 1 _ vg _ hI4 tk1 (by rw [hts]; decide)
  have HWH := hid hwh
  have HI4 := hid hI4
  clear hwh hI4 hb4 HL2 HI3
  go_wp2_with fail
  refine HWH.out.mono ?_
  rintro e w5 ⟨a, er, rfl, hwl, hb5⟩
  have hae : a = 1 ∧ er = 0 := by
    rcases hwl with ⟨s, hs, _, h1, h2⟩ | ⟨h1, _⟩
    · simp at hs
      subst hs
      exact ⟨h1, h2⟩
    · exact absurd rfl (h1 ⟨tk1, 1, 0⟩ (by simp))
  obtain ⟨rfl, rfl⟩ := hae
  have hI5 := HI4.out.below hb5
  have HB5 := hid (HB4.out.trans (hb5.mono HB4.out.size))
  have ho := own_any w5 d ub mb us vd [7] 1 _ vg _ hI5 0 _ HTW.out.a (by rw [own_a]; decide)
  rw [own_a] at ho
  have HO := hid ho
  have HI5 := hid hI5
  have hts' : ((tk1.size : Int) == 32) = true := by rw [hts]; rfl
  clear hwl hb5 hI5 ho HWH HI4
  go_wp2_with fail
  refine HO.out.mono ?_
  rintro e w6 ⟨v6, rfl, ho6, hb6⟩
  have HB6 := hid (HB5.out.trans (hb6.mono HB5.out.size))
  have hI6 := HI5.out.below hb6
  have HS6 := hid ho6.sees
  have HI6 := hid hI6
  clear hb6 ho6 hI6 HO HI5
  obtain ⟨X6, hX6⟩ : ∃ X, X = w6.alloc (.cells #[.int .i64 1, .int .i64 2] 3) := ⟨_, rfl⟩
  have hbx : Below w6.heap.size w6 X6 := by rw [hX6]; exact below_alloc w6 _
  have hsm := same_any v6 (.slice (some ⟨w6.heap.size, 0, none⟩) 2 2) [1, 2] [1, 2] X6 (HS6.out.below hbx) (by rw [hX6]; exact sees_two w6 1 2) (by decide) (by decide)
  rw [show decide (([1, 2] : List Int) = [1, 2]) = true from rfl] at hsm
  have HSM := hid hsm
  have HX6 := hid hX6
  have HBX := hid (HB6.out.trans (hbx.mono HB6.out.size))
  have HIX := hid (HI6.out.below hbx)
  clear hsm hX6 hbx HS6 HI6
  go_wp2_with fail
  rw [← HX6.out]
  refine HSM.out.mono ?_
  rintro e w7 ⟨rfl, hb7⟩
  have HB7 := hid (HBX.out.trans (hb7.mono HBX.out.size))
  have hI7 := HIX.out.below hb7
  have ho := own_any w7 d ub mb us vd [7] 1 _ vg _ hI7 1 _ HTW.out.b (by rw [own_b]; decide)
  rw [own_b] at ho
  have HO := hid ho
  clear hb7 hI7 ho HSM HX6 HIX HBX
  go_wp2_with fail
  refine HO.out.mono ?_
  rintro e w8 ⟨v8, rfl, ho8, hb8⟩
  have HB8 := hid (HB7.out.trans (hb8.mono HB7.out.size))
  obtain ⟨X8, hX8⟩ : ∃ X, X = w8.alloc (.cells #[.int .i64 4] 3) := ⟨_, rfl⟩
  have hbx : Below w8.heap.size w8 X8 := by rw [hX8]; exact below_alloc w8 _
  have hsm := same_any v8 (.slice (some ⟨w8.heap.size, 0, none⟩) 1 1) [4] [4] X8 (ho8.sees.below hbx) (by rw [hX8]; exact sees_one w8 4) (by decide) (by decide)
  rw [show decide (([4] : List Int) = [4]) = true from rfl] at hsm
  have HSM := hid hsm
  have HX8 := hid hX8
  have HBX := hid (HB8.out.trans (hbx.mono HB8.out.size))
  clear hsm hX8 hbx ho8 hb8 HO
  go_wp2_with fail
  rw [← HX8.out]
  refine HSM.out.mono ?_
  rintro e w9 ⟨rfl, hb9⟩
  have HB9 := hid (HBX.out.trans (hb9.mono HBX.out.size))
  clear hb9 HSM HX8
  go_wp2
  go_ret
  exact ⟨rfl, HB9.out⟩
end Go.Proofs.YtplljpodejpbgaaGreatDoor
