/-
  IddLogins: what its loops keep.
-/
import Derived.Test.YtplljpodejpbgaaGreatDoorJWho
import Derived.Test.YtplljpodejpbgaaGreatDoorJNew
import Derived.Test.YtplljpodejpbgaaGreatDoorJSha
import Derived.Test.YtplljpodejpbgaaGreatDoorJLogin
import Derived.Test.YtplljpodejpbgaaGreatDoorXUnhex
namespace Go.Proofs.YtplljpodejpbgaaGreatDoor
open Go.RowKit
set_option linter.unusedVariables false
set_option linter.unusedSimpArgs false
set_option maxRecDepth 100000

theorem dig_good (s t : ByteArray) : (strOf (saltOf s t)).size = 64 ∧ (unhexOf (bytesOf (strOf (saltOf s t)))).isSome = true := by
  refine ⟨saltOf_len s t, ?_⟩
  unfold saltOf
  rw [bytesOf_strOf (hexOf_lt (digest_lt _ _ _)), unhex_hex _ (digest_lt _ _ _)]
  rfl
theorem two_one (n s : ByteArray) (w : ByteArray) (op : Bool) (hn : n.size = 1) (hv : visB n = true) (hs : s.size = 1) : oneB ⟨n, s, strOf (saltOf s w), op⟩ = true := by
  obtain ⟨h1, h2⟩ := dig_good s w
  simp only [oneB, hn, hv, hs, h1, h2]
  decide
theorem two_may : mayB twoL = true := by
  have h1 := two_one { data := #[97] } tS tOne true rfl (by decide) rfl
  have h2 := two_one { data := #[98] } tT tTwo false rfl (by decide) rfl
  have hc : Lib.containsS [({ data := #[97] } : ByteArray)] { data := #[98] } = false := by
    cases h : Lib.containsS [({ data := #[97] } : ByteArray)] { data := #[98] } with
    | false => rfl
    | true =>
      have := (Lib.containsS_iff _ _).1 h
      simp at this
  have hc0 : Lib.containsS [] ({ data := #[97] } : ByteArray) = false := by
    cases h : Lib.containsS [] ({ data := #[97] } : ByteArray) with
    | false => rfl
    | true =>
      have := (Lib.containsS_iff _ _).1 h
      simp at this
  show (decide (1 ≤ 2) && decide (2 ≤ 16) && mayTo twoL 2) = true
  have m0 : mayTo twoL 1 = true := by
    show (true && (oneB ⟨{ data := #[97] }, tS, digA, true⟩ && !Lib.containsS [] { data := #[97] })) = true
    rw [show oneB ⟨{ data := #[97] }, tS, digA, true⟩ = true from h1, hc0]
    rfl
  have m1 : mayTo twoL 2 = true := by
    show (mayTo twoL 1 && (oneB ⟨{ data := #[98] }, tT, digB, false⟩ && !Lib.containsS [{ data := #[97] }] { data := #[98] })) = true
    rw [m0, show oneB ⟨{ data := #[98] }, tT, digB, false⟩ = true from h2, hc]
    rfl
  rw [m1]
  rfl
theorem two_sizes : ∀ u ∈ twoL, u.name.size ≤ 140737488355328 ∧ u.salt.size ≤ 140737488355328 ∧ u.digest.size ≤ 140737488355328 := by
  intro u hu
  simp only [twoL, List.mem_cons, List.not_mem_nil, or_false] at hu
  rcases hu with rfl | rfl
  · exact ⟨by decide, by decide, by show digA.size ≤ _; unfold digA; rw [saltOf_len]; decide⟩
  · exact ⟨by decide, by decide, by show digB.size ≤ _; unfold digB; rw [saltOf_len]; decide⟩
theorem own_a : (accOf twoL 0).own = [1, 2] := by
  show sd (sd ([] ++ [2 * ((0 : Nat) : Int) + 2]) ++ [2 * ((0 : Nat) : Int) + 1]) = [1, 2]
  refine sd_of (by simp) fun x => ?_
  rw [List.mem_append, mem_sd]
  simp
  omega
theorem own_b : (accOf twoL 1).own = [4] := by
  show sd ([] ++ [2 * ((1 : Nat) : Int) + 2]) = [4]
  exact sd_of (by simp) fun x => by simp
/-- The law's two users, made. -/
structure TwoAt (us : List (Acc × Value)) (v0 v1 : Value) : Prop where
  len : us.length = 2
  a : us[0]? = some (accOf twoL 0, v0)
  b : us[1]? = some (accOf twoL 1, v1)
theorem UsTo.two {us : List (Acc × Value)} (h : UsTo twoL twoL.length us) : ∃ v0 v1, TwoAt us v0 v1 := by
  obtain ⟨v0, h0⟩ := h.done 0 (by decide)
  obtain ⟨v1, h1⟩ := h.done 1 (by decide)
  exact ⟨v0, v1, h.len, h0, h1⟩
theorem TwoAt.nameB {us : List (Acc × Value)} {v0 v1 : Value} (h : TwoAt us v0 v1) : nameTo us { data := #[98] } us.length = some 1 := by
  have hne : ¬ (accOf twoL 0).name = { data := #[98] } := by
    show ¬ ({ data := #[97] } : ByteArray) = { data := #[98] }
    simp
  have n1 : nameTo us { data := #[98] } 1 = none := by
    rw [nameTo, nameTo, h.a]
    simp only
    rw [if_neg hne]
  rw [h.len, nameTo, n1, h.b]
  simp only
  rw [if_pos (show (accOf twoL 1).name = { data := #[98] } from rfl)]
theorem TwoAt.nameA {us : List (Acc × Value)} {v0 v1 : Value} (h : TwoAt us v0 v1) : nameTo us { data := #[97] } us.length = some 0 := by
  have n1 : nameTo us { data := #[97] } 1 = some 0 := by
    rw [nameTo, nameTo, h.a]
    simp only
    rw [if_pos (show (accOf twoL 0).name = { data := #[97] } from rfl)]
  exact nameTo_some n1 _ (by rw [h.len]; decide)

theorem sees_two (w : World) (x y : Int) : Sees (w.alloc (.cells #[.int .i64 x, .int .i64 y] 3)) (.slice (some ⟨w.heap.size, 0, none⟩) 2 2) [x, y] := by
  refine ⟨w.heap.size, 0, _, 2, rfl, Nat.le_refl _, (fun h => by cases h), fun _ => rfl, fun j hj => ?_⟩
  rw [Nat.zero_add]
  have hj2 : j < 2 := hj
  refine cell_of_list (cs := [.int .i64 x, .int .i64 y]) (heap_alloc_new w _) ?_
  match j, hj2 with
  | 0, _ => rfl
  | 1, _ => rfl
set_option maxHeartbeats 4000000 in
theorem awake_any (w : World) (hT : Tb w) : Calls Tryz.prog 10 #[] w fun e w' => e = .returned (.bool true) ∧ Below w.heap.size w w' := by
  have htw := hid (two_any w)
  have HT := hid hT
  clear hT
  go_enter Tryz.func10, Tryz.ntmps10
  go_wp2_with fail
  refine htw.out.mono ?_
  rintro e w1 ⟨B, rfl, ho1, hb1⟩
  have HB1 := hid hb1
  obtain ⟨W, hW⟩ : ∃ W, W = w1.alloc (.cells #[.int .i64 7] 3) := ⟨_, rfl⟩
  have hbW : Below w1.heap.size w1 W := by rw [hW]; exact below_alloc w1 _
  have hD : Sees W (.slice (some ⟨w1.heap.size, 0, none⟩) 1 1) [7] := by rw [hW]; exact sees_one w1 7
  have hnw := new_yes (.slice (some ⟨B, 0, none⟩) 2 2) (.slice (some ⟨w1.heap.size, 0, none⟩) 1 1) twoL [7] W ((sees_of_row ho1).below hbW) hD two_may two_sizes (by decide)
  have HNW := hid hnw
  have HW := hid hW
  have HBW := hid (hb1.trans (hbW.mono hb1.size))
  clear htw ho1 hb1 hbW hD hnw hW
  go_wp2_with fail
  rw [← HW.out]
  refine HNW.out.mono ?_
  rintro e w2 ⟨d, ub, mb, us, vd, vg, rfl, hI, hU, hb2, hm⟩
  obtain ⟨v0, v1, hTw⟩ := hU.two
  have HB2 := hid (HBW.out.trans (hb2.mono HBW.out.size))
  have heq := eqlD_some_nil ⟨d, 0, none⟩
  have hl := login_ok w2 (HT.out.below HB2.out) d ub mb us vd [7] 0 [] vg _ hI { data := #[98] } tTwo 1 _ hTw.b hTw.nameB (by show tT.size ≤ 32; decide) (by decide) rfl (by decide) (by decide) (fun x hx => by simp at hx) (by intro x hx; simp at hx; subst hx; decide)
  have HL := hid hl
  have HTW := hid hTw
  have HM : Hid (∀ k, mineD d ub mb vg k → w.heap.size ≤ k) := fun k hk => Nat.le_trans HBW.out.size (hm k hk)
  clear hl hI hU hb2 hTw hm HNW HW HB1
  go_wp2_with fail
  refine HL.out.mono ?_
  rintro e w3 ⟨rfl, hI3, hG3⟩
  have HB3 := hid (HB2.out.trans (hG3.below HM.out HB2.out.size))
  obtain ⟨tk1, htk⟩ : ∃ t, t = tokOf [7] 0 := ⟨_, rfl⟩
  have hts : tk1.size = 32 := by rw [htk, tokOf_size]
  rw [← htk] at hI3 ⊢
  have hl := login_deny w3 (HT.out.below HB3.out) d ub mb us vd [7] 1 _ vg _ hI3 { data := #[98] } tOne (by decide) (Or.inr ⟨1, _, HTW.out.b, HTW.out.nameB, by show tT.size ≤ 32; decide, words_apart⟩)
  have HL2 := hid hl
  have HI3 := hid hI3
  clear hl hI3 hG3 htk HL
  go_wp2_with fail
  refine HL2.out.mono ?_
  rintro e w4 ⟨rfl, hb4⟩
  have hI4 := HI3.out.below hb4
  have HB4 := hid (HB3.out.trans (hb4.mono HB3.out.size))
  have hwh := who_any w4 d ub mb us vd [7] 1 _ vg _ hI4 tk1 (by rw [hts]; decide)
  have HWH := hid hwh
  have HI4 := hid hI4
  clear hwh hI4 hb4 HL2 HI3
  go_wp2_with fail
  refine HWH.out.mono ?_
  rintro e w5 ⟨a, er, rfl, hwl, hb5⟩
  have hae : a = 1 ∧ er = 0 := by
    rcases hwl with ⟨s, hs, _, h1, h2⟩ | ⟨h1, _⟩
    · simp at hs
      subst hs
      exact ⟨h1, h2⟩
    · exact absurd rfl (h1 ⟨tk1, 1, 0⟩ (by simp))
  obtain ⟨rfl, rfl⟩ := hae
  have hI5 := HI4.out.below hb5
  have HB5 := hid (HB4.out.trans (hb5.mono HB4.out.size))
  have ho := own_any w5 d ub mb us vd [7] 1 _ vg _ hI5 0 _ HTW.out.a (by rw [own_a]; decide)
  rw [own_a] at ho
  have HO := hid ho
  have HI5 := hid hI5
  have hts' : ((tk1.size : Int) == 32) = true := by rw [hts]; rfl
  clear hwl hb5 hI5 ho HWH HI4
  go_wp2_with fail
  refine HO.out.mono ?_
  rintro e w6 ⟨v6, rfl, ho6, hb6⟩
  have HB6 := hid (HB5.out.trans (hb6.mono HB5.out.size))
  have hI6 := HI5.out.below hb6
  have HS6 := hid ho6.sees
  have HI6 := hid hI6
  clear hb6 ho6 hI6 HO HI5
  obtain ⟨X6, hX6⟩ : ∃ X, X = w6.alloc (.cells #[.int .i64 1, .int .i64 2] 3) := ⟨_, rfl⟩
  have hbx : Below w6.heap.size w6 X6 := by rw [hX6]; exact below_alloc w6 _
  have hsm := same_any v6 (.slice (some ⟨w6.heap.size, 0, none⟩) 2 2) [1, 2] [1, 2] X6 (HS6.out.below hbx) (by rw [hX6]; exact sees_two w6 1 2) (by decide) (by decide)
  rw [show decide (([1, 2] : List Int) = [1, 2]) = true from rfl] at hsm
  have HSM := hid hsm
  have HX6 := hid hX6
  have HBX := hid (HB6.out.trans (hbx.mono HB6.out.size))
  have HIX := hid (HI6.out.below hbx)
  clear hsm hX6 hbx HS6 HI6
  go_wp2_with fail
  rw [← HX6.out]
  refine HSM.out.mono ?_
  rintro e w7 ⟨rfl, hb7⟩
  have HB7 := hid (HBX.out.trans (hb7.mono HBX.out.size))
  have hI7 := HIX.out.below hb7
  have ho := own_any w7 d ub mb us vd [7] 1 _ vg _ hI7 1 _ HTW.out.b (by rw [own_b]; decide)
  rw [own_b] at ho
  have HO := hid ho
  clear hb7 hI7 ho HSM HX6 HIX HBX
  go_wp2_with fail
  refine HO.out.mono ?_
  rintro e w8 ⟨v8, rfl, ho8, hb8⟩
  have HB8 := hid (HB7.out.trans (hb8.mono HB7.out.size))
  obtain ⟨X8, hX8⟩ : ∃ X, X = w8.alloc (.cells #[.int .i64 4] 3) := ⟨_, rfl⟩
  have hbx : Below w8.heap.size w8 X8 := by rw [hX8]; exact below_alloc w8 _
  have hsm := same_any v8 (.slice (some ⟨w8.heap.size, 0, none⟩) 1 1) [4] [4] X8 (ho8.sees.below hbx) (by rw [hX8]; exact sees_one w8 4) (by decide) (by decide)
  rw [show decide (([4] : List Int) = [4]) = true from rfl] at hsm
  have HSM := hid hsm
  have HX8 := hid hX8
  have HBX := hid (HB8.out.trans (hbx.mono HB8.out.size))
  clear hsm hX8 hbx ho8 hb8 HO
  go_wp2_with fail
  rw [← HX8.out]
  refine HSM.out.mono ?_
  rintro e w9 ⟨rfl, hb9⟩
  have HB9 := hid (HBX.out.trans (hb9.mono HBX.out.size))
  clear hb9 HSM HX8
  go_wp2
  go_ret
  exact ⟨rfl, HB9.out⟩
end Go.Proofs.YtplljpodejpbgaaGreatDoor

namespace Go.Proofs.YtplljpodejpbgaaGreatDoor
open Go.RowKit Go.Maps
set_option linter.unusedVariables false
set_option linter.unusedSimpArgs false
set_option maxRecDepth 100000

def dropS (ss : List Ses) (t : ByteArray) : List Ses := ss.filter fun s => decide (s.token ≠ t)
theorem dropS_sub {ss : List Ses} {t : ByteArray} {x : Ses} (h : x ∈ dropS ss t) : x ∈ ss := (List.mem_filter.1 h).1
theorem keyB_ne {a b : ByteArray} (h : a ≠ b) : keyB a ≠ keyB b := by unfold keyB; intro e; simp at e; exact h (tok_inj (by rw [e]))
theorem MapIs.del {D : DataW Unit} {ss : List Ses} (hM : MapIs D ss) (t : ByteArray) : MapIs (D.del (keyB t)) (dropS ss t) := by
  refine ⟨fun x => ?_, fun y hy z => ?_, ?_⟩
  · by_cases e : x = t.data.toList
    · subst e
      rw [show (Lit.string t.data.toList) = keyB t from rfl, Maps.has_del_same]
      refine ⟨fun h => (by cases h), ?_⟩
      rintro ⟨s, hs, he⟩
      have := (List.mem_filter.1 hs).2
      simp at this
      exact absurd (tok_inj he) this
    · rw [Maps.has_del_other (by unfold keyB; simpa using e), hM.has x]
      constructor
      · rintro ⟨y, hy, rfl⟩
        exact ⟨y, List.mem_filter.2 ⟨hy, by simp; intro h; exact e (by rw [h])⟩, rfl⟩
      · rintro ⟨y, hy, he⟩
        exact ⟨y, dropS_sub hy, he⟩
  · have hn := (List.mem_filter.1 hy).2
    simp at hn
    rw [Maps.atKey_del_other (keyB_ne hn)]
    exact hM.at_ y (dropS_sub hy) z
  · exact (List.Sublist.map _ List.filter_sublist).nodup hM.nd
/-- A session is out of the map; all else stays. -/
theorem drop_fin {w w6 : World} {d ub mb : Nat} {us : List (Acc × Value)} {vd : Value} {dr : List Int} {n : Nat} {ss : List Ses} {vg : Value} {gs : List Gra} (h : IdAt w d ub mb us vd dr n ss vg gs) (t : ByteArray) {k : Nat} {D : DataW Unit}
    (hm : w6.ownsMap Tryz.prog 9 sesR mb k (D.del (keyB t))) (hk : k ≤ n) (hM : MapIs D ss) (hG : w.grownBy w6 (some mb)) :
    IdAt w6 d ub mb us vd dr n (dropS ss t) vg gs ∧ Gr (mineD d ub mb vg) w w6 := by
  obtain ⟨n1, n2, n3, n4, n5⟩ := h.apart
  have ho : ∀ k, k < w.heap.size → k ≠ mb → w6.heap[k]? = w.heap[k]? := fun k hk e2 => hG.block k hk (fun e => e2 (by simpa using e))
  have h3 : ∀ {v : Value} {xs : List Int}, Owns w 0 v xs → Owns w6 0 v xs := fun hv => ownsRow_same hv fun j hj => by
    obtain ⟨cur, hc⟩ := ownsRow_ty hv hj
    exact ho j (ownsRow_lt hv hj) (fun e => n5 j cur hc (Or.inr (Or.inr (Or.inl e))))
  refine ⟨⟨?_, ?_, fun p hp => h3 (h.own p hp), h.rises, h3 h.dra, ⟨k, _, hm, hk, hM.del t⟩, fun s hs => h.low s (dropS_sub hs), h.ord.filter _, ?_, h.n1, h.n2⟩, ?_⟩
  · rw [ho d h.ltd n2]; exact h.lies
  · rw [ho ub h.ltu n3]; exact h.row
  · exact ownsRow_same h.gra fun j hj => ho j (ownsRow_lt h.gra hj) (n4 j hj).2.2
  · exact ⟨hG.os, hG.tape, hG.output, hG.size, fun k hk hm => ho k hk (fun e => hm (Or.inr (Or.inr (Or.inl e))))⟩

set_option maxHeartbeats 4000000 in
theorem login_over (w0 w : World) (hT : Tb w0) (hb0 : Below w0.heap.size w0 w) (d ub mb : Nat) (us : List (Acc × Value)) (vd : Value) (dr : List Int) (n : Nat) (ss : List Ses) (vg : Value) (gs : List Gra) (h : IdAt w d ub mb us vd dr n ss vg gs) (hm0 : ∀ k, mineD d ub mb vg k → w0.heap.size ≤ k) (name word : ByteArray) (u : Nat) (p : Acc × Value)
    (hp : us[u]? = some p) (hu : nameTo us name us.length = some u) (hsa : p.1.salt.size ≤ 32) (hwd : word.size ≤ 140737488351232) (hdg : strOf (saltOf p.1.salt word) = p.1.digest) (t0 : ByteArray) (tr : List ByteArray) (hts : toksOf ss u = t0 :: tr) (hlt : 8 ≤ (toksOf ss u).length) (h0s : t0.size ≤ maxLen) (hn : n ≤ 1099511627776) (hnew : ∀ x ∈ ss, x.token ≠ tokOf dr n)
    (hdr : ∀ x ∈ dr, -9223372036854775808 ≤ x ∧ x ≤ 9223372036854775807) :
    Calls Tryz.prog 16 #[.pointer (some ⟨d, 0, none⟩), .string name, .string word] w fun e w' => e = .returned (.tuple #[.string (tokOf dr n), .int .i64 (u : Int), .int .i64 0]) ∧
      IdAt w' d ub mb us vd dr (n + 1) ((dropS ss t0) ++ [⟨tokOf dr n, u, n⟩]) vg gs ∧ Gr (mineD d ub mb vg) w w' := by
  have hgi := hid (dgiven_yes d w h.cells.1)
  have hna := named_any w d ub mb us vd dr n ss vg gs h name
  rw [hu] at hna
  have HNA := hid hna
  have HP := hid h
  have HT := hid hT
  have HUS := hid hp
  have hlu := (List.getElem?_eq_some_iff.1 hp).1
  have hlu2 := h.n2
  have hlui : (u : Int) < (us.length : Int) := by omega
  have hltl : (8 : Int) ≤ ((toksOf ss (u : Int)).length : Int) := by omega
  have HM0 := hid hm0
  have HB0 := hid hb0
  have HTS := hid hts
  have HNEW := hid (show ∀ x ∈ dropS ss t0, x.token ≠ tokOf dr n from fun x hx => hnew x (dropS_sub hx))
  obtain ⟨tk1, htk⟩ : ∃ t, t = tokOf dr n := ⟨_, rfl⟩
  have HTK := hid htk
  unfold namedV at HNA
  clear hna h hT hp hu htk hm0 hb0 hts hnew
  go_enter Tryz.func16, Tryz.ntmps16
  go_wp2_with fail
  refine hgi.out.mono ?_
  rintro e w1 ⟨rfl, hw⟩
  subst w1
  go_wp2_with fail
  refine HNA.out.mono ?_
  rintro e w1 ⟨rfl, hb1⟩
  have hI1 := HP.out.below hb1
  have HB1 := hid hb1
  obtain ⟨c0, c1, c2, c3, c4, c5⟩ := hI1.cells
  obtain ⟨a0, a1, a2, a3, a4⟩ := hI1.acc HUS.out
  have hkn := knows_any p.1.name p.1.salt p.1.digest word (p.1.made : Int) p.2 w1 ((HT.out.below (HB0.out.trans (hb1.mono HB0.out.size))).r) hsa hwd
  have HKN := hid hkn
  have HI1 := hid hI1
  clear hb1 hgi HNA hI1 hkn
  go_wp2_with fail
  refine HKN.out.mono ?_
  rintro e w2 ⟨bb, rfl, hbb, hb2⟩
  have hbt : bb = true := hbb.2 hdg
  subst hbt
  have hI2 := HI1.out.below hb2
  have HB2 := hid (HB1.out.trans (hb2.mono HB1.out.size))
  have hso := sessionsOf_any w2 d ub mb us vd dr n ss vg gs hI2 (u : Int) hn
  have HI2 := hid hI2
  have HSO := hid hso
  clear hbb hb2 HKN HI1 hI2 hso HB1 c0 c1 c2 c3 c4 c5 a0 a1 a2 a3 a4
  go_wp2_with fail
  refine HSO.out.mono ?_
  rintro e w3 ⟨vl, rfl, hol, hb3⟩
  obtain ⟨g, cl, cur, rfl, hg2, hgc, hcap, hcm, hcs, htk0⟩ : ∃ g cap cur, vl = .slice (some ⟨g, 0, none⟩) (toksOf ss (u : Int)).length cap ∧ w2.heap.size ≤ g ∧ w3.heap[g]? = some (.cells cur 9 (0, 0)) ∧ (toksOf ss (u : Int)).length ≤ cap ∧ cap ≤ maxLen ∧ cur.size = cap * 1 ∧ cur.toList.take ((toksOf ss (u : Int)).length * 1) = tC (toksOf ss (u : Int)) := by
    rcases hol.2 with ⟨hv, hz⟩ | ⟨g, cap, cur, hv, r⟩
    · have := hol.1
      rw [hz] at this
      simp [tC] at this
      omega
    · exact ⟨g, cap, cur, hv, r⟩
  have hc0 : w3.cell? ⟨g, 0, none⟩ = some (.string t0) := by
    have h1 : (cur.toList.take ((toksOf ss (u : Int)).length * 1))[0]? = (tC (toksOf ss (u : Int)))[0]? := by rw [htk0]
    rw [List.getElem?_take_of_lt (by omega), HTS.out] at h1
    simp only [World.cell?, hgc]
    simp only [Option.isSome_none, Bool.false_eq_true, if_false]
    rw [← Array.getElem?_toList, h1]
    rfl
  obtain ⟨L, hL⟩ : ∃ L, L = (toksOf ss (u : Int)).length := ⟨_, rfl⟩
  rw [← hL] at hltl hcap ⊢
  have hL0 : 0 < L := by omega
  have hL1 : (0 : Int) < (L : Int) := by omega
  have HL := hid hL
  clear hL
  have hI3 := HI2.out.below hb3
  have HB3 := hid (HB2.out.trans (hb3.mono HB2.out.size))
  have hgl := (Array.getElem?_eq_some_iff.1 hgc).1
  have hgm : g ≠ mb := by
    obtain ⟨kk, D, ⟨es, ck, hm, _⟩, _⟩ := hI3.map
    exact map_ne hgc hm
  have hclm := hcm
  have HI3 := hid hI3
  clear hol hb3 HSO HI2 hI3 HB2 hgc htk0 hcs hg2
  go_wp2_with fail
  obtain ⟨V, hV⟩ : ∃ V, V = w3.drew := ⟨_, rfl⟩
  have hIV : IdAt V d ub mb us vd dr n ss vg gs := by rw [hV]; exact HI3.out.below (Below.drew (Below.refl _ _))
  have HBV : Hid (Below w.heap.size w V) := by rw [hV]; exact hid (Below.drew HB3.out)
  obtain ⟨k, D, hm, hkn, hM⟩ := hIV.map
  obtain ⟨w6, hrun, hm6, hT6⟩ := hm.drop keyS Tryz.underlying71 (keyT t0 h0s) 0
  have hG6 := hT6.grown
  obtain ⟨c0, c1, c2, c3, c4, c5⟩ := hIV.cells
  have hdm := hIV.apart.2.1
  have hS5 : V.cell? ⟨d, 4, none⟩ = some (.map (some mb)) ∧ V.cell? ⟨g, 0, none⟩ = some (.string t0) := ⟨c4, by rw [hV]; exact hc0⟩
  have hd6 : w6.heap[d]? = V.heap[d]? := hG6.block d hIV.ltd (fun e => hdm (by simpa using e))
  have hg6 : w6.heap[g]? = V.heap[g]? := hG6.block g (by rw [hV]; exact hgl) (fun e => hgm (by simpa using e))
  have hS6 : w6.cell? ⟨d, 4, none⟩ = some (.map (some mb)) ∧ w6.cell? ⟨g, 0, none⟩ = some (.string t0) := ⟨by simpa only [World.cell?, hd6] using c4, by simpa only [World.cell?, hg6] using hS5.2⟩
  have HF := hid (drop_fin hIV t0 hm6 hkn hM hG6)
  clear hIV hm hM hm6 hd6 hg6 hG6 hT6 c0 c1 c2 c3 c4 c5 hdm hgm hgl hc0
  have HV := hid hV
  subst hV
  refine wp_region_noPanic ?_
  refine wp_region_held_drew (S := fun X => X.cell? ⟨d, 4, none⟩ = some (.map (some mb)) ∧ X.cell? ⟨g, 0, none⟩ = some (.string t0)) (by kernel_rfl) ?_ (fun hHeld => ?_)
  · first | (with_reducible exact hS6) | exact hS5
  refine wpAnyH_take (i := 0) (oi := { dst := some 40, op := Op.move (Operand.tmp 0), type := 27, pos := "session.go:29", after := #[], guard := none }) (v := (.pointer (some ⟨d, 0, none⟩))) rfl (by kernel_rfl) (by kernel_rfl) (by kernel_rfl) (fun _ _ _ h => h) (Or.inl ⟨by rfl, ?_⟩) (by assumption) ?_
  · intro w hSw
    try dsimp only at hSw
    go_simp
  try simp only [Act.put, List.setIfInBounds_toArray, List.set_cons_zero, List.set_cons_succ]
  refine wpAnyH_take (i := 1) (oi := { dst := some 41, op := Op.nilCheck (Operand.tmp 40), type := 0, pos := "session.go:29", after := #[{ on := 0, ground := Ground.data }], guard := none }) (v := (.pointer (some ⟨d, 0, none⟩))) rfl (by kernel_rfl) (by kernel_rfl) (by kernel_rfl) (fun _ _ _ h => h) (Or.inl ⟨by rfl, ?_⟩) (by assumption) ?_
  · intro w hSw
    try dsimp only at hSw
    go_simp
  try simp only [Act.put, List.setIfInBounds_toArray, List.set_cons_zero, List.set_cons_succ]
  refine wpAnyH_take (i := 2) (oi := { dst := some 42, op := Op.fieldAddr 73 (Operand.tmp 41) 4, type := 0, pos := "session.go:29", after := #[{ on := 1, ground := Ground.data }], guard := none }) (v := (.pointer (some ⟨d, 4, none⟩))) rfl (by kernel_rfl) (by kernel_rfl) (by kernel_rfl) (fun _ _ _ h => h) (Or.inl ⟨by rfl, ?_⟩) (by assumption) ?_
  · intro w hSw
    try dsimp only at hSw
    go_simp
  try simp only [Act.put, List.setIfInBounds_toArray, List.set_cons_zero, List.set_cons_succ]
  refine wpAnyH_take (i := 3) (oi := { dst := some 43, op := Op.load 71 (Operand.tmp 42), type := 71, pos := "session.go:29", after := #[{ on := 2, ground := Ground.data }], guard := none }) (v := (.map (some mb))) rfl (by kernel_rfl) (by kernel_rfl) (by kernel_rfl) (fun _ _ _ h => h) (Or.inl ⟨by rfl, ?_⟩) (by assumption) ?_
  · intro w hSw
    try dsimp only at hSw
    go_simp
  try simp only [Act.put, List.setIfInBounds_toArray, List.set_cons_zero, List.set_cons_succ]
  refine wpAnyH_take (i := 4) (oi := { dst := some 44, op := Op.move (Operand.tmp 10), type := 39, pos := "session.go:29", after := #[], guard := none }) (v := (.slice (some ⟨g, 0, none⟩) L cl)) rfl (by kernel_rfl) (by kernel_rfl) (by kernel_rfl) (fun _ _ _ h => h) (Or.inl ⟨by rfl, ?_⟩) (by assumption) ?_
  · intro w hSw
    try dsimp only at hSw
    go_simp
  try simp only [Act.put, List.setIfInBounds_toArray, List.set_cons_zero, List.set_cons_succ]
  refine wpAnyH_take (i := 5) (oi := { dst := some 45, op := Op.indexAddr 39 (Operand.tmp 44) (Operand.const (Value.int IntKind.i64 0)), type := 0, pos := "session.go:29", after := #[{ on := 4, ground := Ground.data }], guard := none }) (v := (.pointer (some ⟨g, 0, none⟩))) rfl (by kernel_rfl) (by kernel_rfl) (by kernel_rfl) (fun _ _ _ h => h) (Or.inl ⟨by rfl, ?_⟩) (by assumption) ?_
  · intro w hSw
    try dsimp only at hSw
    go_simp
  try simp only [Act.put, List.setIfInBounds_toArray, List.set_cons_zero, List.set_cons_succ]
  refine wpAnyH_take (i := 6) (oi := { dst := some 46, op := Op.load 9 (Operand.tmp 45), type := 9, pos := "session.go:29", after := #[{ on := 5, ground := Ground.data }], guard := none }) (v := (.string t0)) rfl (by kernel_rfl) (by kernel_rfl) (by kernel_rfl) (fun _ _ _ h => h) (Or.inl ⟨by rfl, ?_⟩) (by assumption) ?_
  · intro w hSw
    try dsimp only at hSw
    go_simp
  try simp only [Act.put, List.setIfInBounds_toArray, List.set_cons_zero, List.set_cons_succ]
  refine wpAnyH_ready (rs := [7]) (by kernel_rfl) (by simp) ?_
  refine AllReadyH.cons (o := { dst := none, op := Op.call { callee := Callee.builtin Builtin.delete, args := #[Operand.tmp 43, Operand.tmp 46], argTypes := #[71, 9] }, type := 0, pos := "session.go:29", after := #[{ on := 3, ground := Ground.data }, { on := 6, ground := Ground.data }], guard := none }) rfl (fun K hK => ?_) AllReadyH.nil
  go_simp
  refine hK.out _ _ ?_ (fun hHeld => ?_)
  · first | (with_reducible exact hS6) | exact hS5
  clear hK K
  try simp only [Act.put, List.setIfInBounds_toArray, List.set_cons_zero, List.set_cons_succ]
  refine wpAnyH_done (by kernel_rfl) ?_ _
  refine NoPanic.normal ?_
  have HG3 : Hid (Gr (mineD d ub mb vg) w w6) := hid ((Gr.of_below HBV.out (mineD d ub mb vg)).trans HF.out.2 (fun _ _ hx => hx))
  have HI4 := hid HF.out.1
  clear HF hS5 hS6 hrun HV HBV HB3 HI3 hHeld
  have hnt := nextToken_any w6 (HT.out.below (HB0.out.trans (HG3.out.below HM0.out HB0.out.size))) d ub mb us vd dr n _ vg gs HI4.out hdr (by omega)
  rw [← HTK.out] at hnt
  have HNT := hid hnt
  clear hnt
  go_wp2_with fail
  refine HNT.out.mono ?_
  rintro e w5 ⟨rfl, hb5⟩
  have hI5 := HI4.out.below hb5
  have HB5 := hid (HG3.out.trans (Gr.of_below hb5 (mineD d ub mb vg)) (fun _ _ hx => hx))
  have HI5 := hid hI5
  clear hb5 HNT HI4 hI5 HG3
  go_wp2_with fail
  obtain ⟨V, hV⟩ : ∃ V, V = w5.drew := ⟨_, rfl⟩
  have hIV : IdAt V d ub mb us vd dr n (dropS ss t0) vg gs := by rw [hV]; exact HI5.out.below (Below.drew (Below.refl _ _))
  have HBV : Hid (Gr (mineD d ub mb vg) w V) := by rw [hV]; exact hid (HB5.out.trans (Gr.of_below (Below.drew (Below.refl _ _)) (mineD d ub mb vg)) (fun _ _ hx => hx))
  obtain ⟨k, D, hm, hkn, hM⟩ := hIV.map
  have hsz : tk1.size ≤ maxLen := by rw [HTK.out, tokOf_size]; decide
  obtain ⟨w6, hrun, hm6, hG6⟩ := hm.update keyS Tryz.underlying71 (by simp only [maxLen]; omega) (keyT tk1 hsz) (sesR_mk (u : Int) (n : Int))
  obtain ⟨es, hes⟩ := hm.isMap
  have hM6 := hM.put ⟨es, hes⟩ ⟨tk1, u, n⟩ (fun x hx => by rw [HTK.out]; exact HNEW.out x hx)
  obtain ⟨c0, c1, c2, c3, c4, c5⟩ := hIV.cells
  have hdm := hIV.apart.2.1
  have hS5 : V.cell? ⟨d, 4, none⟩ = some (.map (some mb)) ∧ V.cell? ⟨d, 3, none⟩ = some (.int .i64 (n : Int)) := ⟨c4, c3⟩
  have hd6 : w6.heap[d]? = V.heap[d]? := hG6.block d hIV.ltd (fun e => hdm (by simpa using e))
  have hS6 : w6.cell? ⟨d, 4, none⟩ = some (.map (some mb)) ∧ w6.cell? ⟨d, 3, none⟩ = some (.int .i64 (n : Int)) := ⟨by simpa only [World.cell?, hd6] using c4, by simpa only [World.cell?, hd6] using c3⟩
  have hf6 : w6.frozen? ⟨d, 3, none⟩ = false := by simpa only [World.frozen?, hd6] using (hIV.warm 3).1
  have HF := hid (login_fin hIV ⟨tk1, u, n⟩ hm6 hkn hM6 rfl hG6 rfl)
  have c36 := hS6.2
  clear hIV hm hM hes hm6 hM6 hd6 hG6 c0 c1 c2 c3 c4 c5 hdm
  have HV := hid hV
  subst hV
  refine wp_region_noPanic ?_
  refine wp_region_held_drew (S := fun X => X.cell? ⟨d, 4, none⟩ = some (.map (some mb)) ∧ X.cell? ⟨d, 3, none⟩ = some (.int .i64 (n : Int))) (by kernel_rfl) ?_ (fun hHeld => ?_)
  · first | (with_reducible exact hS6) | exact hS5
  refine wpAnyH_take (i := 0) (oi := { dst := some 49, op := Op.move (Operand.tmp 0), type := 27, pos := "session.go:32", after := #[], guard := none }) (v := (.pointer (some ⟨d, 0, none⟩))) rfl (by kernel_rfl) (by kernel_rfl) (by kernel_rfl) (fun _ _ _ h => h) (Or.inl ⟨by rfl, ?_⟩) (by assumption) ?_
  · intro w hSw
    try dsimp only at hSw
    go_simp
  try simp only [Act.put, List.setIfInBounds_toArray, List.set_cons_zero, List.set_cons_succ]
  refine wpAnyH_take (i := 1) (oi := { dst := some 50, op := Op.nilCheck (Operand.tmp 49), type := 0, pos := "session.go:32", after := #[{ on := 0, ground := Ground.data }], guard := none }) (v := (.pointer (some ⟨d, 0, none⟩))) rfl (by kernel_rfl) (by kernel_rfl) (by kernel_rfl) (fun _ _ _ h => h) (Or.inl ⟨by rfl, ?_⟩) (by assumption) ?_
  · intro w hSw
    try dsimp only at hSw
    go_simp
  try simp only [Act.put, List.setIfInBounds_toArray, List.set_cons_zero, List.set_cons_succ]
  refine wpAnyH_take (i := 2) (oi := { dst := some 51, op := Op.fieldAddr 73 (Operand.tmp 50) 4, type := 0, pos := "session.go:32", after := #[{ on := 1, ground := Ground.data }], guard := none }) (v := (.pointer (some ⟨d, 4, none⟩))) rfl (by kernel_rfl) (by kernel_rfl) (by kernel_rfl) (fun _ _ _ h => h) (Or.inl ⟨by rfl, ?_⟩) (by assumption) ?_
  · intro w hSw
    try dsimp only at hSw
    go_simp
  try simp only [Act.put, List.setIfInBounds_toArray, List.set_cons_zero, List.set_cons_succ]
  refine wpAnyH_take (i := 3) (oi := { dst := some 52, op := Op.load 71 (Operand.tmp 51), type := 71, pos := "session.go:32", after := #[{ on := 2, ground := Ground.data }], guard := none }) (v := (.map (some mb))) rfl (by kernel_rfl) (by kernel_rfl) (by kernel_rfl) (fun _ _ _ h => h) (Or.inl ⟨by rfl, ?_⟩) (by assumption) ?_
  · intro w hSw
    try dsimp only at hSw
    go_simp
  try simp only [Act.put, List.setIfInBounds_toArray, List.set_cons_zero, List.set_cons_succ]
  refine wpAnyH_take (i := 4) (oi := { dst := some 53, op := Op.move (Operand.tmp 6), type := 9, pos := "session.go:32", after := #[], guard := none }) (v := (.string tk1)) rfl (by kernel_rfl) (by kernel_rfl) (by kernel_rfl) (fun _ _ _ h => h) (Or.inl ⟨by rfl, ?_⟩) (by assumption) ?_
  · intro w hSw
    try dsimp only at hSw
    go_simp
  try simp only [Act.put, List.setIfInBounds_toArray, List.set_cons_zero, List.set_cons_succ]
  refine wpAnyH_take (i := 5) (oi := { dst := some 54, op := Op.move (Operand.tmp 7), type := 3, pos := "session.go:32", after := #[], guard := none }) (v := (.int .i64 (u : Int))) rfl (by kernel_rfl) (by kernel_rfl) (by kernel_rfl) (fun _ _ _ h => h) (Or.inl ⟨by rfl, ?_⟩) (by assumption) ?_
  · intro w hSw
    try dsimp only at hSw
    go_simp
  try simp only [Act.put, List.setIfInBounds_toArray, List.set_cons_zero, List.set_cons_succ]
  refine wpAnyH_take (i := 6) (oi := { dst := some 55, op := Op.move (Operand.tmp 0), type := 27, pos := "session.go:32", after := #[], guard := none }) (v := (.pointer (some ⟨d, 0, none⟩))) rfl (by kernel_rfl) (by kernel_rfl) (by kernel_rfl) (fun _ _ _ h => h) (Or.inl ⟨by rfl, ?_⟩) (by assumption) ?_
  · intro w hSw
    try dsimp only at hSw
    go_simp
  try simp only [Act.put, List.setIfInBounds_toArray, List.set_cons_zero, List.set_cons_succ]
  refine wpAnyH_take (i := 7) (oi := { dst := some 56, op := Op.nilCheck (Operand.tmp 55), type := 0, pos := "session.go:32", after := #[{ on := 6, ground := Ground.data }], guard := none }) (v := (.pointer (some ⟨d, 0, none⟩))) rfl (by kernel_rfl) (by kernel_rfl) (by kernel_rfl) (fun _ _ _ h => h) (Or.inl ⟨by rfl, ?_⟩) (by assumption) ?_
  · intro w hSw
    try dsimp only at hSw
    go_simp
  try simp only [Act.put, List.setIfInBounds_toArray, List.set_cons_zero, List.set_cons_succ]
  refine wpAnyH_take (i := 8) (oi := { dst := some 57, op := Op.fieldAddr 73 (Operand.tmp 56) 3, type := 0, pos := "session.go:32", after := #[{ on := 7, ground := Ground.data }], guard := none }) (v := (.pointer (some ⟨d, 3, none⟩))) rfl (by kernel_rfl) (by kernel_rfl) (by kernel_rfl) (fun _ _ _ h => h) (Or.inl ⟨by rfl, ?_⟩) (by assumption) ?_
  · intro w hSw
    try dsimp only at hSw
    go_simp
  try simp only [Act.put, List.setIfInBounds_toArray, List.set_cons_zero, List.set_cons_succ]
  refine wpAnyH_take (i := 9) (oi := { dst := some 58, op := Op.load 3 (Operand.tmp 57), type := 3, pos := "session.go:32", after := #[{ on := 8, ground := Ground.data }], guard := none }) (v := (.int .i64 (n : Int))) rfl (by kernel_rfl) (by kernel_rfl) (by kernel_rfl) (fun _ _ _ h => h) (Or.inl ⟨by rfl, ?_⟩) (by assumption) ?_
  · intro w hSw
    try dsimp only at hSw
    go_simp
  try simp only [Act.put, List.setIfInBounds_toArray, List.set_cons_zero, List.set_cons_succ]
  refine wpAnyH_take (i := 10) (oi := { dst := some 59, op := Op.build 99 #[(0, Operand.tmp 54), (1, Operand.tmp 58)], type := 99, pos := "session.go:32", after := #[{ on := 5, ground := Ground.data }, { on := 9, ground := Ground.data }], guard := none }) (v := (.agg #[.int .i64 (u : Int), .int .i64 (n : Int)])) rfl (by kernel_rfl) (by kernel_rfl) (by kernel_rfl) (fun _ _ _ h => h) (Or.inl ⟨by rfl, ?_⟩) (by assumption) ?_
  · intro w hSw
    try dsimp only at hSw
    go_simp
  try simp only [Act.put, List.setIfInBounds_toArray, List.set_cons_zero, List.set_cons_succ]
  refine wpAnyH_ready (rs := [11]) (by kernel_rfl) (by simp) ?_
  refine AllReadyH.cons (o := { dst := none, op := Op.mapUpdate 71 (Operand.tmp 52) (Operand.tmp 53) (Operand.tmp 59), type := 0, pos := "session.go:32", after := #[{ on := 3, ground := Ground.data }, { on := 4, ground := Ground.data }, { on := 10, ground := Ground.data }, { on := 0, ground := Ground.phase }, { on := 1, ground := Ground.phase }, { on := 2, ground := Ground.phase }, { on := 3, ground := Ground.phase }, { on := 4, ground := Ground.phase }, { on := 5, ground := Ground.phase }, { on := 6, ground := Ground.phase }, { on := 7, ground := Ground.phase }, { on := 8, ground := Ground.phase }, { on := 9, ground := Ground.phase }, { on := 10, ground := Ground.phase }], guard := none }) rfl (fun K hK => ?_) AllReadyH.nil
  go_simp
  refine hK.out _ _ ?_ (fun hHeld => ?_)
  · first | (with_reducible exact hS6) | exact hS5
  clear hK K
  try simp only [Act.put, List.setIfInBounds_toArray, List.set_cons_zero, List.set_cons_succ]
  refine wpAnyH_done (by kernel_rfl) ?_ _
  refine NoPanic.normal ?_
  obtain ⟨Z, hZ⟩ : ∃ Z, Z = w6.setCell ⟨d, 3, none⟩ (.int .i64 ((n : Int) + 1)) := ⟨_, rfl⟩
  rw [← hZ] at HF
  have HZ := hid hZ
  have hft := freshText_any tk1 Z
  have HFT := hid hft
  clear hft hZ hS5 hS6 hrun
  have hnw : (n : Int) ≤ 1099511627776 := by omega
  go_wp2_with fail
  rw [← HZ.out]
  refine HFT.out.mono ?_
  rintro e w7 ⟨rfl, hb7⟩
  have hI7 := HF.out.1.below hb7
  have hG7 : Gr (mineD d ub mb vg) w w7 := ((show Gr (mineD d ub mb vg) w w5.drew from HBV.out).trans HF.out.2 (fun _ _ hx => hx)).trans (Gr.of_below hb7 (mineD d ub mb vg)) (fun _ _ hx => hx)
  rw [HTK.out] at hI7
  have HI7 := hid hI7
  have HG7 := hid hG7
  clear hb7 HFT hI7 hG7
  go_wp2
  go_ret3
  exact ⟨by rw [← HTK.out]; rfl, HI7.out, HG7.out⟩
end Go.Proofs.YtplljpodejpbgaaGreatDoor

namespace Go.Proofs.YtplljpodejpbgaaGreatDoor
open Go.RowKit
set_option linter.unusedVariables false
set_option linter.unusedSimpArgs false
set_option maxRecDepth 100000

theorem num4_inj {a b : Nat} (ha : a < 4294967296) (hb : b < 4294967296) (h : strOf (hexOf (num4 a)) = strOf (hexOf (num4 b))) : a = b := by
  have h1 : hexOf (num4 a) = hexOf (num4 b) := by
    rw [← bytesOf_strOf (hexOf_lt (num4_lt a)), h, bytesOf_strOf (hexOf_lt (num4_lt b))]
  have h2 : some (num4 a) = some (num4 b) := by
    rw [← unhex_hex (num4 a) (num4_lt a), h1, unhex_hex (num4 b) (num4_lt b)]
  have h3 : num4 a = num4 b := by simpa using h2
  simp only [num4, List.cons.injEq, and_true] at h3
  obtain ⟨e1, e2, e3, e4⟩ := h3
  omega
def tokH (dr : List Int) (n : Nat) : ByteArray := strOf ((hexOf (digest H0 K0 (bytesOf (seedOf dr n)))).take 24)
theorem tokH_len (dr : List Int) (n : Nat) : (tokH dr n).data.toList.length = 24 := by
  have h1 : (tokH dr n).size = 24 := by
    unfold tokH
    rw [strOf_size, List.length_take, hexOf_len, digest_len H0_words]
    rfl
  rw [Array.length_toList]
  exact h1
theorem bapp_inj {a b c d : ByteArray} (h : a ++ b = c ++ d) (hl : a.data.toList.length = c.data.toList.length) : b = d := by
  have h1 : (a ++ b).data.toList = (c ++ d).data.toList := by rw [h]
  rw [ByteArray.data_append, ByteArray.data_append, Array.toList_append, Array.toList_append] at h1
  exact tok_inj (List.append_inj_right h1 hl)
/-- Tokens of unlike numbers are unlike, whatever the draws are. -/
theorem tokOf_ne {dr : List Int} {a b : Nat} (ha : a < 4294967296) (hb : b < 4294967296) (h : tokOf dr a = tokOf dr b) : a = b := by
  have h' : tokH dr a ++ strOf (hexOf (num4 a)) = tokH dr b ++ strOf (hexOf (num4 b)) := h
  exact num4_inj ha hb (bapp_inj h' (by rw [tokH_len, tokH_len]))

/-- There are no more sessions than logins. -/
theorem sess_len {n : Nat} : ∀ {ss : List Ses}, ss.Pairwise (fun a b => a.login < b.login) → (∀ s ∈ ss, s.login < n) → ss.length ≤ n := by
  have key : ∀ (ss : List Ses) (m : Nat), ss.Pairwise (fun a b => a.login < b.login) → (∀ s ∈ ss, m ≤ s.login ∧ s.login < n) → m ≤ n → ss.length ≤ n - m := by
    intro ss
    induction ss with
    | nil => intro m _ _ _; simp
    | cons x r ih =>
      intro m hp hb hm
      obtain ⟨h1, h2⟩ := List.pairwise_cons.1 hp
      have hx := hb x (by simp)
      have := ih (x.login + 1) h2 (fun s hs => ⟨h1 s hs, (hb s (by simp [hs])).2⟩) (by omega)
      rw [List.length_cons]
      omega
  intro ss hp hl
  have := key ss 0 hp (fun s hs => ⟨Nat.zero_le _, hl s hs⟩) (Nat.zero_le _)
  omega
theorem set_as_was {cur : Array Value} {k : Nat} {v : Value} (h : cur[k]? = some v) : cur.setIfInBounds k v = cur := by
  apply Array.ext_getElem?
  intro j
  rw [Array.getElem?_setIfInBounds]
  by_cases e : k = j
  · subst e
    obtain ⟨hl, hv⟩ := Array.getElem?_eq_some_iff.1 h
    simp [hl, hv]
  · simp [e]
set_option maxHeartbeats 2000000 in
theorem tokens_any (w : World) (d ub mb : Nat) (us : List (Acc × Value)) (vd : Value) (dr : List Int) (n : Nat) (ss : List Ses) (vg : Value) (gs : List Gra) (h : IdAt w d ub mb us vd dr n ss vg gs) (u : Nat) (hu : u < us.length) (hn : n ≤ 1099511627776) :
    Calls Tryz.prog 18 #[.pointer (some ⟨d, 0, none⟩), .int .i64 (u : Int)] w fun e w' => ∃ v, e = .returned v ∧ w'.ownsRow w.heap.size 9 1 v (toksOf ss (u : Int)).length (tC (toksOf ss (u : Int))) ∧ Below w.heap.size w w' := by
  have hiu := hid (isUser_yes w d ub mb us vd dr n ss vg gs h u hu)
  have hso := hid (sessionsOf_any w d ub mb us vd dr n ss vg gs h (u : Int) hn)
  have htl : (toksOf ss (u : Int)).length ≤ n := by
    have h1 : (toksOf ss (u : Int)).length ≤ ss.length := by
      unfold toksOf
      rw [List.length_map]
      exact List.length_filter_le _ _
    have h2 := sess_len h.ord h.low
    omega
  obtain ⟨ts, hts⟩ : ∃ ts, ts = toksOf ss (u : Int) := ⟨_, rfl⟩
  rw [← hts] at hso htl ⊢
  have HTL := hid (show ts.length ≤ 1099511627776 by omega)
  clear h hts htl
  go_enter Tryz.func18, Tryz.ntmps18
  go_wp2_with fail
  refine hiu.out.mono ?_
  rintro e w1 ⟨rfl, hw⟩
  subst w1
  go_wp2_with fail
  refine hso.out.mono ?_
  rintro e w1 ⟨v, rfl, hO, hb1⟩
  obtain ⟨at_, ct, rfl⟩ := row_shape hO
  have HB1 := hid hb1
  have HO1 := hid hO
  clear hO hb1 hiu hso
  go_wp2
  go_loopw [6, 7, 17] (fun _ _ i wr => ∃ k : Nat, k ≤ ts.length ∧ i = .int .i64 k ∧ Hid (wr.ownsRow w.heap.size 9 1 (.slice at_ ts.length ct) ts.length (tC ts)) ∧ Hid (RowKit.Below w.heap.size w wr)) (fun _ _ i _ => ts.length - (intOf i).toNat)
  case atStart => exact ⟨0, Nat.zero_le _, rfl, HO1.out, HB1.out⟩
  case round =>
    obtain ⟨k, hk, rfl, HO, HB⟩ := hrel
    clear HO1 HB1
    by_cases hlt : k < ts.length
    · have hi : (k : Int) < (ts.length : Int) := by omega
      obtain ⟨t, ht⟩ : ∃ t, ts[k]? = some t := ⟨_, List.getElem?_eq_getElem hlt⟩
      obtain ⟨g, cap, cur, hv, hbase, hg, hcap, hcm, hcs, htk⟩ : ∃ g cap cur, Value.slice at_ ts.length ct = .slice (some ⟨g, 0, none⟩) ts.length cap ∧ w.heap.size ≤ g ∧ wr.heap[g]? = some (.cells cur 9 (0, 0)) ∧ ts.length ≤ cap ∧ cap ≤ maxLen ∧ cur.size = cap * 1 ∧ cur.toList.take (ts.length * 1) = tC ts := by
        rcases HO.out.2 with ⟨hv, hz⟩ | r
        · omega
        · exact r
      simp only [Value.slice.injEq, true_and] at hv
      obtain ⟨rfl, rfl⟩ := hv
      have hck : cur[k]? = some (.string t) := by
        have h1 : (cur.toList.take (ts.length * 1))[k]? = (tC ts)[k]? := by rw [htk]
        rw [List.getElem?_take_of_lt (by omega)] at h1
        rw [← Array.getElem?_toList, h1]
        simp [tC, ht]
      have hkb : (k : Int) ≤ 1099511627776 := by have := HTL.out; omega
      have hcell : wr.cell? ⟨g, k, none⟩ = some (.string t) := by simp [World.cell?, hg, hck]
      have hgl := (Array.getElem?_eq_some_iff.1 hg).1
      have hft := hid (freshText_any t wr)
      have HG := hid hg
      have HCK := hid hck
      have HT1 := hid hcs
      have HT2 := hid htk
      clear hg hck hcs htk
      go_wp2_with fail
      refine hft.out.mono ?_
      rintro e w2 ⟨rfl, hb2⟩
      have hg2 : w2.heap[g]? = some (.cells cur 9 (0, 0)) := (hb2.block g hgl).trans HG.out
      have hc2 : w2.cell? ⟨g, k, none⟩ = some (.string t) := (hb2.cell (p := ⟨g, k, none⟩) hgl).trans hcell
      have hf2 : w2.frozen? ⟨g, k, none⟩ = false := by simp [World.frozen?, hg2]
      have hs2 : (w2.setCell ⟨g, k, none⟩ (.string t)).heap[g]? = some (.cells cur 9 (0, 0)) := by
        have := heap_setCell_same w2 g k _ _ (.string t) hg2
        rw [set_as_was HCK.out] at this
        exact this
      have HO2 : Hid ((w2.setCell ⟨g, k, none⟩ (.string t)).ownsRow w.heap.size 9 1 (.slice (some ⟨g, 0, none⟩) ts.length ct) ts.length (tC ts)) :=
        ⟨HO.out.1, Or.inr ⟨g, ct, cur, rfl, hbase, hs2, hcap, hcm, HT1.out, HT2.out⟩⟩
      have HB2 : Hid (RowKit.Below w.heap.size w (w2.setCell ⟨g, k, none⟩ (.string t))) := (HB.out.trans (hb2.mono HB.out.size)).setCell hbase _
      clear hft hb2 hs2 hg2 HO HB HG HCK HT1 HT2 hcell
      go_wp2
      go_roundw
      case rel => exact ⟨k + 1, by omega, by go_num, HO2, HB2⟩
      case measure => simp [intOf]; omega
    · have hi : ¬ (k : Int) < (ts.length : Int) := by omega
      go_wp2
      go_ret
      exact ⟨_, rfl, HO.out, HB.out⟩
end Go.Proofs.YtplljpodejpbgaaGreatDoor

namespace Go.Proofs.YtplljpodejpbgaaGreatDoor
open Go.RowKit
set_option linter.unusedVariables false
set_option linter.unusedSimpArgs false

/-- How many of the logins behind the login k are the same user's. -/
def later (f : Nat → Nat) (n k : Nat) : Nat := (List.range n).countP fun j => decide (k < j ∧ f j = f k)
def leftU (f : Nat → Nat) (n u : Nat) : List Nat := (List.range n).filter fun k => decide (f k = u ∧ later f n k < 8)
theorem later_mono {f : Nat → Nat} {n k j : Nat} (hk : k < j) (hf : f j = f k) : later f n j ≤ later f n k := by
  unfold later
  refine List.countP_mono_left fun x _ hx => ?_
  simp only [decide_eq_true_eq] at hx ⊢
  exact ⟨by omega, by rw [hx.2, hf]⟩
theorem later_left {f : Nat → Nat} {n u k : Nat} (hk : k ∈ leftU f n u) : later f n k = ((leftU f n u).filter fun j => decide (k < j)).length := by
  have h1 := List.mem_filter.1 hk
  have h2 := h1.2
  simp only [decide_eq_true_eq] at h2
  unfold leftU
  rw [List.filter_filter, ← List.countP_eq_length_filter]
  conv => lhs; unfold later
  refine List.countP_congr fun j hj => ?_
  simp only [Bool.and_eq_true, decide_eq_true_eq]
  constructor
  · rintro ⟨a, b⟩
    have := later_mono (n := n) a b
    exact ⟨a, by rw [b, h2.1], by omega⟩
  · rintro ⟨a, b, c⟩
    exact ⟨a, by rw [b, h2.1]⟩
theorem leftU_sorted (f : Nat → Nat) (n u : Nat) : (leftU f n u).Pairwise (· < ·) := List.Pairwise.filter _ List.pairwise_lt_range
theorem leftU_head {f : Nat → Nat} {n u h : Nat} {t : List Nat} (e : leftU f n u = h :: t) : later f n h = t.length ∧ ∀ k ∈ t, later f n k < t.length := by
  have hs := leftU_sorted f n u
  rw [e] at hs
  obtain ⟨h1, h2⟩ := List.pairwise_cons.1 hs
  constructor
  · rw [later_left (u := u) (by rw [e]; simp), e, List.filter_cons, if_neg (by simp)]
    rw [List.filter_eq_self.2 (fun a ha => by simpa using h1 a ha)]
  · intro k hk
    have hhk := h1 k hk
    rw [later_left (u := u) (by rw [e]; simp [hk]), e, List.filter_cons, if_neg (by simp; omega)]
    exact List.length_filter_lt_length_iff_exists.2 ⟨k, hk, by simp⟩
theorem leftU_le (f : Nat → Nat) (n u : Nat) : (leftU f n u).length ≤ 8 := by
  cases e : leftU f n u with
  | nil => simp
  | cons h t =>
    have h1 := (leftU_head e).1
    have hm : h ∈ leftU f n u := by rw [e]; simp
    have h2 := (List.mem_filter.1 hm).2
    simp only [decide_eq_true_eq] at h2
    rw [List.length_cons]
    omega
theorem later_succ {f : Nat → Nat} {n k : Nat} (hk : k < n) : later f (n + 1) k = later f n k + (if f n = f k then 1 else 0) := by
  unfold later
  rw [List.range_succ, List.countP_append]
  by_cases e : f n = f k
  · simp [List.countP_cons, e, hk]
  · simp [List.countP_cons, e, hk]

/-- The sessions that are left of n logins. -/
def leftS (dr : List Int) (f : Nat → Nat) (n : Nat) : List Ses := ((List.range n).filter fun k => decide (later f n k < 8)).map fun k => ⟨tokOf dr k, f k, k⟩
theorem toks_left (dr : List Int) (f : Nat → Nat) (n u : Nat) : toksOf (leftS dr f n) (u : Int) = (leftU f n u).map (tokOf dr) := by
  unfold toksOf leftS leftU
  rw [List.filter_map, List.map_map, List.filter_filter]
  rw [List.filter_congr (q := fun k => decide (f k = u ∧ later f n k < 8)) (fun x _ => by
    simp only [Function.comp]
    rw [← Bool.decide_and]
    refine decide_eq_decide.2 ?_
    constructor
    · rintro ⟨a, b⟩
      exact ⟨by omega, b⟩
    · rintro ⟨a, b⟩
      exact ⟨by omega, b⟩)]
  rfl
theorem toks_left_le (dr : List Int) (f : Nat → Nat) (n u : Nat) : (toksOf (leftS dr f n) (u : Int)).length ≤ 8 := by
  rw [toks_left, List.length_map]
  exact leftU_le f n u
theorem leftS_succ (dr : List Int) (f : Nat → Nat) (n : Nat) (p : Nat → Bool) (hp : ∀ k, k < n → (decide (later f (n + 1) k < 8)) = (decide (later f n k < 8) && p k)) (hq : ∀ k, k < n → later f n k < 8 → ((⟨tokOf dr k, f k, k⟩ : Ses) ∈ leftS dr f n)) :
    leftS dr f (n + 1) = (((List.range n).filter fun k => (decide (later f n k < 8) && p k)).map fun k => (⟨tokOf dr k, f k, k⟩ : Ses)) ++ [⟨tokOf dr n, f n, n⟩] := by
  have h0 : later f (n + 1) n = 0 := by
    unfold later
    rw [List.countP_eq_zero]
    intro x hx
    have := List.mem_range.1 hx
    simp
    intro h
    omega
  unfold leftS
  rw [List.range_succ, List.filter_append, List.map_append]
  congr 1
  · rw [List.filter_congr (fun x hx => hp x (List.mem_range.1 hx))]
  · simp [h0]
theorem left_mem {dr : List Int} {f : Nat → Nat} {n : Nat} {s : Ses} : s ∈ leftS dr f n ↔ ∃ k, k < n ∧ later f n k < 8 ∧ s = ⟨tokOf dr k, f k, k⟩ := by
  unfold leftS
  simp only [List.mem_map, List.mem_filter, List.mem_range, decide_eq_true_eq]
  constructor
  · rintro ⟨k, ⟨a, b⟩, rfl⟩
    exact ⟨k, a, b, rfl⟩
  · rintro ⟨k, a, b, rfl⟩
    exact ⟨k, ⟨a, b⟩, rfl⟩
/-- A login where fewer than eight sessions of the user are there. -/
theorem left_few {dr : List Int} {f : Nat → Nat} {n : Nat} (h : (toksOf (leftS dr f n) (f n : Int)).length < 8) : leftS dr f (n + 1) = leftS dr f n ++ [⟨tokOf dr n, f n, n⟩] := by
  rw [toks_left, List.length_map] at h
  rw [leftS_succ dr f n (fun _ => true) (fun k hk => ?_) (fun k a b => left_mem.2 ⟨k, a, b, rfl⟩)]
  · unfold leftS
    simp
  · rw [later_succ hk, Bool.and_true]
    by_cases e : f n = f k
    · rw [if_pos e]
      refine decide_eq_decide.2 ⟨fun a => by omega, fun a => ?_⟩
      have hm : k ∈ leftU f n (f n) := List.mem_filter.2 ⟨List.mem_range.2 hk, by simp [e, a]⟩
      cases e2 : leftU f n (f n) with
      | nil => rw [e2] at hm; simp at hm
      | cons x t =>
        obtain ⟨h1, h2⟩ := leftU_head e2
        rw [e2, List.length_cons] at h
        rw [e2] at hm
        rcases List.mem_cons.1 hm with rfl | hm
        · omega
        · have := h2 k hm; omega
    · rw [if_neg e]; rfl
/-- A login for which the eldest must end. -/
theorem left_over {dr : List Int} {f : Nat → Nat} {n : Nat} (hn : n ≤ 4294967296) {t0 : ByteArray} {tr : List ByteArray} (ht : toksOf (leftS dr f n) (f n : Int) = t0 :: tr) (h : 8 ≤ (toksOf (leftS dr f n) (f n : Int)).length) :
    leftS dr f (n + 1) = dropS (leftS dr f n) t0 ++ [⟨tokOf dr n, f n, n⟩] := by
  have hle := leftU_le f n (f n)
  rw [toks_left] at ht
  rw [toks_left, List.length_map] at h
  cases e2 : leftU f n (f n) with
  | nil => rw [e2] at ht; simp at ht
  | cons x t =>
    obtain ⟨h1, h2⟩ := leftU_head e2
    rw [e2, List.length_cons] at h hle
    rw [e2, List.map_cons] at ht
    simp only [List.cons.injEq] at ht
    obtain ⟨rfl, _⟩ := ht
    have hxm : x ∈ leftU f n (f n) := by rw [e2]; simp
    have hx := List.mem_filter.1 hxm
    have hx1 := List.mem_range.1 hx.1
    have hx2 := hx.2
    simp only [decide_eq_true_eq] at hx2
    rw [leftS_succ dr f n (fun k => decide (k ≠ x)) (fun k hk => ?_) (fun k a b => left_mem.2 ⟨k, a, b, rfl⟩)]
    · congr 1
      unfold dropS leftS
      rw [List.filter_map, List.filter_filter]
      refine congrArg (List.map _) (List.filter_congr fun k hk => ?_)
      have hk' := List.mem_range.1 hk
      simp only [Function.comp]
      rw [Bool.and_comm]
      refine congrArg (· && _) ?_
      exact decide_eq_decide.2 ⟨fun a b => a (tokOf_ne (by omega) (by omega) b), fun a b => a (by rw [b])⟩
    · rw [later_succ hk, ← Bool.decide_and]
      refine decide_eq_decide.2 ?_
      by_cases e : f n = f k
      · rw [if_pos e]
        constructor
        · intro a
          refine ⟨by omega, fun b => ?_⟩
          rw [b] at a
          omega
        · rintro ⟨a, b⟩
          have hm : k ∈ leftU f n (f n) := List.mem_filter.2 ⟨List.mem_range.2 hk, by simp [e, a]⟩
          rw [e2] at hm
          rcases List.mem_cons.1 hm with rfl | hm
          · exact absurd rfl b
          · have := h2 k hm; omega
      · rw [if_neg e]
        constructor
        · intro a
          exact ⟨a, fun b => e (by rw [b]; exact hx2.1.symm)⟩
        · rintro ⟨a, b⟩
          exact a
end Go.Proofs.YtplljpodejpbgaaGreatDoor

namespace Go.Proofs.YtplljpodejpbgaaGreatDoor
open Go.RowKit
set_option linter.unusedVariables false
set_option linter.unusedSimpArgs false
set_option maxRecDepth 100000

theorem later_congr {f g : Nat → Nat} {n k : Nat} (h : ∀ j, j < n → f j = g j) (hk : k < n) : later f n k = later g n k := by
  unfold later
  refine List.countP_congr fun j hj => ?_
  have := List.mem_range.1 hj
  simp only [decide_eq_true_eq]
  rw [h j this, h k hk]
theorem leftS_congr {dr : List Int} {f g : Nat → Nat} {n : Nat} (h : ∀ j, j < n → f j = g j) : leftS dr f n = leftS dr g n := by
  unfold leftS
  rw [List.filter_congr (q := fun k => decide (later g n k < 8)) (fun k hk => by rw [later_congr h (List.mem_range.1 hk)])]
  refine List.map_congr_left fun k hk => ?_
  rw [h k (List.mem_range.1 (List.mem_filter.1 hk).1)]
/-- The users of the logins. -/
def whoF (us : List Nat) (k : Nat) : Nat := us.getD k 0
theorem leftS_snoc (dr : List Int) (us : List Nat) (u : Nat) : leftS dr (whoF (us ++ [u])) us.length = leftS dr (whoF us) us.length :=
  leftS_congr fun j hj => by
    unfold whoF
    simp [List.getD, List.getElem?_append_left hj]
theorem whoF_last (us : List Nat) (u : Nat) : whoF (us ++ [u]) us.length = u := by
  unfold whoF
  simp [List.getD]

structure SrvL (w : World) (lu : List Nat) (d : Nat) (F : Nat → Prop) (ub mb : Nat) (us : List (Acc × Value)) (vd : Value) (vg : Value) (gs : List Gra) (v0 v1 : Value) : Prop where
  at_ : IdAt w d ub mb us vd [] lu.length (leftS [] (whoF lu) lu.length) vg gs
  two : TwoAt us v0 v1
  F : F = mineD d ub mb vg
def Srl (w : World) (lu : List Nat) (d : Nat) (F : Nat → Prop) : Prop := ∃ ub mb us vd vg gs v0 v1, SrvL w lu d F ub mb us vd vg gs v0 v1
theorem Srl.below {w w' : World} {lu : List Nat} {d : Nat} {F : Nat → Prop} (h : Srl w lu d F) (hb : Below w.heap.size w w') : Srl w' lu d F := by
  obtain ⟨ub, mb, us, vd, vg, gs, v0, v1, h⟩ := h
  exact ⟨ub, mb, us, vd, vg, gs, v0, v1, h.at_.below hb, h.two, h.F⟩

def nameR (q : Bool) : ByteArray := if q then { data := #[97] } else { data := #[98] }
def saltR (q : Bool) : ByteArray := if q then tS else tT
def digR (q : Bool) : ByteArray := if q then digA else digB
def userR (q : Bool) : Nat := if q then 0 else 1
theorem two_r {us : List (Acc × Value)} {v0 v1 : Value} (h : TwoAt us v0 v1) (q : Bool) : ∃ p : Acc × Value, us[userR q]? = some p ∧ nameTo us (nameR q) us.length = some (userR q) ∧ p.1.salt = saltR q ∧ p.1.digest = digR q := by
  cases q with
  | true => exact ⟨_, h.a, h.nameA, rfl, rfl⟩
  | false => exact ⟨_, h.b, h.nameB, rfl, rfl⟩
theorem saltR_le (q : Bool) : (saltR q).size ≤ 32 := by cases q <;> decide
theorem login_yes (w0 w : World) (hT : Tb w0) (hb0 : Below w0.heap.size w0 w) (lu : List Nat) (d : Nat) (F : Nat → Prop) (h : Srl w lu d F) (hF : ∀ k, F k → w0.heap.size ≤ k) (q : Bool) (word : ByteArray) (hw : word.size ≤ 140737488351232) (hn : lu.length < 1048576)
    (hg : strOf (saltOf (saltR q) word) = digR q) :
    Calls Tryz.prog 16 #[.pointer (some ⟨d, 0, none⟩), .string (nameR q), .string word] w fun e w' => e = .returned (.tuple #[.string (tokOf [] lu.length), .int .i64 (userR q : Int), .int .i64 0]) ∧ Srl w' (lu ++ [userR q]) d F ∧ Gr F w w' := by
  obtain ⟨ub, mb, us, vd, vg, gs, v0, v1, h⟩ := h
  obtain ⟨p, hp, hu, hs, hd⟩ := two_r h.two q
  have hs32 : p.1.salt.size ≤ 32 := by rw [hs]; exact saltR_le q
  have hgg : strOf (saltOf p.1.salt word) = p.1.digest := by rw [hs, hd]; exact hg
  have hnew : ∀ x ∈ leftS [] (whoF lu) lu.length, x.token ≠ tokOf [] lu.length := fun x hx e => by
    obtain ⟨k, hk, _, rfl⟩ := left_mem.1 hx
    have := tokOf_ne (by omega) (by omega) e
    omega
  have hF' : ∀ k, mineD d ub mb vg k → w0.heap.size ≤ k := by
    have := hF
    rw [h.F] at this
    exact this
  have hat := h.at_
  rw [← leftS_snoc [] lu (userR q)] at hat hnew
  have hl : whoF (lu ++ [userR q]) lu.length = userR q := whoF_last lu (userR q)
  have hlen : (lu ++ [userR q]).length = lu.length + 1 := by simp
  by_cases hlt : (toksOf (leftS [] (whoF (lu ++ [userR q])) lu.length) (userR q : Int)).length < 8
  · refine (login_ok w (hT.below hb0) d ub mb us vd [] lu.length _ vg gs hat (nameR q) word (userR q) p hp hu hs32 hw hgg hlt (by omega) hnew (fun x hx => by simp at hx)).mono ?_
    rintro e w' ⟨rfl, hI, hG⟩
    have e1 := left_few (dr := []) (f := whoF (lu ++ [userR q])) (n := lu.length) (by rw [hl]; exact hlt)
    rw [hl] at e1
    rw [← e1, ← hlen] at hI
    exact ⟨rfl, ⟨ub, mb, us, vd, vg, gs, v0, v1, hI, h.two, h.F⟩, by rw [h.F]; exact hG⟩
  · obtain ⟨t0, tr, hts⟩ : ∃ t0 tr, toksOf (leftS [] (whoF (lu ++ [userR q])) lu.length) (userR q : Int) = t0 :: tr := by
      cases hh : toksOf (leftS [] (whoF (lu ++ [userR q])) lu.length) (userR q : Int) with
      | nil => rw [hh] at hlt; simp at hlt
      | cons a b => exact ⟨a, b, rfl⟩
    have h0 : t0.size ≤ maxLen := by
      have hm : t0 ∈ toksOf (leftS [] (whoF (lu ++ [userR q])) lu.length) (userR q : Int) := by rw [hts]; simp
      unfold toksOf at hm
      obtain ⟨x, hx, rfl⟩ := List.mem_map.1 hm
      obtain ⟨k, hk, _, rfl⟩ := left_mem.1 (List.mem_filter.1 hx).1
      show (tokOf [] k).size ≤ maxLen
      rw [tokOf_size]
      decide
    refine (login_over w0 w hT hb0 d ub mb us vd [] lu.length _ vg gs hat hF' (nameR q) word (userR q) p hp hu hs32 hw hgg t0 tr hts (by omega) h0 (by omega) hnew (fun x hx => by simp at hx)).mono ?_
    rintro e w' ⟨rfl, hI, hG⟩
    have e1 := left_over (dr := []) (f := whoF (lu ++ [userR q])) (n := lu.length) (by omega) (t0 := t0) (tr := tr) (by rw [hl]; exact hts) (by rw [hl]; omega)
    rw [hl] at e1
    rw [← e1, ← hlen] at hI
    exact ⟨rfl, ⟨ub, mb, us, vd, vg, gs, v0, v1, hI, h.two, h.F⟩, by rw [h.F]; exact hG⟩
theorem toks_srl (w : World) (lu : List Nat) (d : Nat) (F : Nat → Prop) (h : Srl w lu d F) (hn : lu.length ≤ 1048576) (u : Nat) (hu : u < 2) :
    Calls Tryz.prog 18 #[.pointer (some ⟨d, 0, none⟩), .int .i64 (u : Int)] w fun e w' => ∃ ao m cap, e = .returned (.slice ao m cap) ∧ m ≤ 8 ∧ Below w.heap.size w w' := by
  obtain ⟨ub, mb, us, vd, vg, gs, v0, v1, h⟩ := h
  refine (tokens_any w d ub mb us vd [] lu.length _ vg gs h.at_ u (by rw [h.two.len]; exact hu) (by omega)).mono ?_
  rintro e w' ⟨v, rfl, hO, hb⟩
  obtain ⟨ao, cap, rfl⟩ := row_shape hO
  exact ⟨ao, _, cap, rfl, toks_left_le [] (whoF lu) lu.length u, hb⟩
/-- Who, of a token that was told: it is there just if fewer than eight logins of the same user came behind it. -/
theorem who_srl (w : World) (lu : List Nat) (d : Nat) (F : Nat → Prop) (h : Srl w lu d F) (hn : lu.length ≤ 1048576) (k : Nat) (hk : k < lu.length) :
    Calls Tryz.prog 19 #[.pointer (some ⟨d, 0, none⟩), .string (tokOf [] k)] w fun e w' => ∃ a er, e = .returned (.tuple #[.int .i64 a, .int .i64 er]) ∧ ((later (whoF lu) lu.length k < 8 ∧ a = (whoF lu k : Int) ∧ er = 0) ∨ (¬ later (whoF lu) lu.length k < 8 ∧ er ≠ 0)) ∧ Below w.heap.size w w' := by
  obtain ⟨ub, mb, us, vd, vg, gs, v0, v1, h⟩ := h
  refine (who_any w d ub mb us vd [] lu.length _ vg gs h.at_ (tokOf [] k) (by rw [tokOf_size]; decide)).mono ?_
  rintro e w' ⟨a, er, rfl, hw, hb⟩
  refine ⟨a, er, rfl, ?_, hb⟩
  rcases hw with ⟨s, hs, ht, h1, h2⟩ | ⟨h1, h2⟩
  · obtain ⟨j, hj, hl, rfl⟩ := left_mem.1 hs
    have := tokOf_ne (by omega) (by omega) ht
    subst this
    exact Or.inl ⟨hl, h1, h2⟩
  · refine Or.inr ⟨fun hl => h1 ⟨tokOf [] k, whoF lu k, k⟩ (left_mem.2 ⟨k, hk, hl, rfl⟩) rfl, ?_⟩
    have := h2.2
    omega
end Go.Proofs.YtplljpodejpbgaaGreatDoor

namespace Go.Proofs.YtplljpodejpbgaaGreatDoor
open Go.RowKit
set_option linter.unusedVariables false
set_option linter.unusedSimpArgs false
set_option maxRecDepth 100000

/-- The server's parts, which no login turns. -/
structure Prm where
  d : Nat
  ub : Nat
  mb : Nat
  us : List (Acc × Value)
  vd : Value
  vg : Value
  gs : List Gra
  v0 : Value
  v1 : Value
def SrP (P : Prm) (w : World) (lu : List Nat) : Prop := IdAt w P.d P.ub P.mb P.us P.vd [] lu.length (leftS [] (whoF lu) lu.length) P.vg P.gs ∧ TwoAt P.us P.v0 P.v1
def Prm.has (P : Prm) (k : Nat) : Prop := mineD P.d P.ub P.mb P.vg k ∨ (∃ p ∈ P.us, p.2.ownBlock = some k) ∨ P.vd.ownBlock = some k
theorem SrP.srl {P : Prm} {w : World} {lu : List Nat} (h : SrP P w lu) : Srl w lu P.d (mineD P.d P.ub P.mb P.vg) := ⟨P.ub, P.mb, P.us, P.vd, P.vg, P.gs, P.v0, P.v1, h.1, h.2, rfl⟩
theorem SrP.lt {P : Prm} {w : World} {lu : List Nat} (h : SrP P w lu) (k : Nat) (hk : P.has k) : k < w.heap.size := by
  rcases hk with (rfl | rfl | rfl | hk) | ⟨p, hp, hk⟩ | hk
  · exact h.1.ltd
  · exact h.1.ltu
  · exact h.1.ltm
  · exact ownsRow_lt h.1.gra hk
  · exact ownsRow_lt (h.1.own p hp) hk
  · exact ownsRow_lt h.1.dra hk
theorem SrP.same {P : Prm} {w w' : World} {lu : List Nat} (h : SrP P w lu) (hk : ∀ k, P.has k → w'.heap[k]? = w.heap[k]?) : SrP P w' lu := by
  obtain ⟨h, h2⟩ := h
  refine ⟨⟨?_, ?_, ?_, h.rises, ?_, ?_, h.low, h.ord, ?_, h.n1, h.n2⟩, h2⟩
  · rw [hk P.d (Or.inl (Or.inl rfl))]; exact h.lies
  · rw [hk P.ub (Or.inl (Or.inr (Or.inl rfl)))]; exact h.row
  · exact fun p hp => ownsRow_same (h.own p hp) fun j hj => hk j (Or.inr (Or.inl ⟨p, hp, hj⟩))
  · exact ownsRow_same h.dra fun j hj => hk j (Or.inr (Or.inr hj))
  · obtain ⟨k, D, hm, r⟩ := h.map
    exact ⟨k, D, map_same hm (hk P.mb (Or.inl (Or.inr (Or.inr (Or.inl rfl))))), r⟩
  · exact ownsRow_same h.gra fun j hj => hk j (Or.inl (Or.inr (Or.inr (Or.inr hj))))
/-- The law's server, new. -/
theorem new_srl (B : Nat) (w0 w : World) (ho : w.ownsRow w0.heap.size 55 4 (.slice (some ⟨B, 0, none⟩) 2 2) 2 (uC twoL)) :
    Calls Tryz.prog 8 #[.slice (some ⟨B, 0, none⟩) 2 2, .slice none 0 0] w fun e w' => ∃ P : Prm, e = .returned (.tuple #[.pointer (some ⟨P.d, 0, none⟩), .int .i64 0]) ∧ SrP P w' [] ∧ Below w.heap.size w w' ∧ ∀ k, mineD P.d P.ub P.mb P.vg k → w.heap.size ≤ k := by
  refine (new_yes (.slice (some ⟨B, 0, none⟩) 2 2) (.slice none 0 0) twoL [] w (sees_of_row ho) ⟨0, 0, none, 0, rfl, Nat.le_refl _, fun _ => rfl, fun h => absurd rfl h, fun j hj => by simp at hj⟩ two_may two_sizes (by simp)).mono ?_
  rintro e w' ⟨d, ub, mb, us, vd, vg, rfl, hI, hU, hb, hm⟩
  obtain ⟨v0, v1, hTw⟩ := hU.two
  exact ⟨⟨d, ub, mb, us, vd, vg, _, v0, v1⟩, rfl, ⟨hI, hTw⟩, hb, hm⟩
theorem login_yesP (P : Prm) (w0 w : World) (hT : Tb w0) (hb0 : Below w0.heap.size w0 w) (lu : List Nat) (h : SrP P w lu) (hF : ∀ k, mineD P.d P.ub P.mb P.vg k → w0.heap.size ≤ k) (q : Bool) (word : ByteArray) (hw : word.size ≤ 140737488351232) (hn : lu.length < 1048576)
    (hg : strOf (saltOf (saltR q) word) = digR q) :
    Calls Tryz.prog 16 #[.pointer (some ⟨P.d, 0, none⟩), .string (nameR q), .string word] w fun e w' => e = .returned (.tuple #[.string (tokOf [] lu.length), .int .i64 (userR q : Int), .int .i64 0]) ∧ SrP P w' (lu ++ [userR q]) ∧ Gr (mineD P.d P.ub P.mb P.vg) w w' := by
  obtain ⟨d, ub, mb, us, vd, vg, gs, v0, v1⟩ := P
  obtain ⟨hat, htwo⟩ := h
  simp only at hat htwo hF ⊢
  obtain ⟨p, hp, hu, hs, hd⟩ := two_r htwo q
  have hs32 : p.1.salt.size ≤ 32 := by rw [hs]; exact saltR_le q
  have hgg : strOf (saltOf p.1.salt word) = p.1.digest := by rw [hs, hd]; exact hg
  have hnew : ∀ x ∈ leftS [] (whoF lu) lu.length, x.token ≠ tokOf [] lu.length := fun x hx e => by
    obtain ⟨k, hk, _, rfl⟩ := left_mem.1 hx
    have := tokOf_ne (by omega) (by omega) e
    omega
  rw [← leftS_snoc [] lu (userR q)] at hat hnew
  have hl : whoF (lu ++ [userR q]) lu.length = userR q := whoF_last lu (userR q)
  have hlen : (lu ++ [userR q]).length = lu.length + 1 := by simp
  by_cases hlt : (toksOf (leftS [] (whoF (lu ++ [userR q])) lu.length) (userR q : Int)).length < 8
  · refine (login_ok w (hT.below hb0) d ub mb us vd [] lu.length _ vg gs hat (nameR q) word (userR q) p hp hu hs32 hw hgg hlt (by omega) hnew (fun x hx => by simp at hx)).mono ?_
    rintro e w' ⟨rfl, hI, hG⟩
    have e1 := left_few (dr := []) (f := whoF (lu ++ [userR q])) (n := lu.length) (by rw [hl]; exact hlt)
    rw [hl] at e1
    rw [← e1, ← hlen] at hI
    exact ⟨rfl, ⟨hI, htwo⟩, hG⟩
  · obtain ⟨t0, tr, hts⟩ : ∃ t0 tr, toksOf (leftS [] (whoF (lu ++ [userR q])) lu.length) (userR q : Int) = t0 :: tr := by
      cases hh : toksOf (leftS [] (whoF (lu ++ [userR q])) lu.length) (userR q : Int) with
      | nil => rw [hh] at hlt; simp at hlt
      | cons a b => exact ⟨a, b, rfl⟩
    have h0 : t0.size ≤ maxLen := by
      have hm : t0 ∈ toksOf (leftS [] (whoF (lu ++ [userR q])) lu.length) (userR q : Int) := by rw [hts]; simp
      unfold toksOf at hm
      obtain ⟨x, hx, rfl⟩ := List.mem_map.1 hm
      obtain ⟨k, hk, _, rfl⟩ := left_mem.1 (List.mem_filter.1 hx).1
      show (tokOf [] k).size ≤ maxLen
      rw [tokOf_size]
      decide
    refine (login_over w0 w hT hb0 d ub mb us vd [] lu.length _ vg gs hat hF (nameR q) word (userR q) p hp hu hs32 hw hgg t0 tr hts (by omega) h0 (by omega) hnew (fun x hx => by simp at hx)).mono ?_
    rintro e w' ⟨rfl, hI, hG⟩
    have e1 := left_over (dr := []) (f := whoF (lu ++ [userR q])) (n := lu.length) (by omega) (t0 := t0) (tr := tr) (by rw [hl]; exact hts) (by rw [hl]; omega)
    rw [hl] at e1
    rw [← e1, ← hlen] at hI
    exact ⟨rfl, ⟨hI, htwo⟩, hG⟩
/-- A login that is refused. -/
theorem login_bad (w0 w : World) (hT : Tb w0) (hb0 : Below w0.heap.size w0 w) (lu : List Nat) (d : Nat) (F : Nat → Prop) (h : Srl w lu d F) (q : Bool) (word : ByteArray) (hw : word.size ≤ 140737488351232) (hg : strOf (saltOf (saltR q) word) ≠ digR q) :
    Calls Tryz.prog 16 #[.pointer (some ⟨d, 0, none⟩), .string (nameR q), .string word] w fun e w' => e = .returned (.tuple #[.string ⟨#[]⟩, .int .i64 0, .int .i64 21]) ∧ Below w.heap.size w w' := by
  obtain ⟨ub, mb, us, vd, vg, gs, v0, v1, h⟩ := h
  obtain ⟨p, hp, hu, hs, hd⟩ := two_r h.two q
  exact login_deny w (hT.below hb0) d ub mb us vd [] lu.length _ vg gs h.at_ (nameR q) word hw (Or.inr ⟨userR q, p, hp, hu, by rw [hs]; exact saltR_le q, by rw [hs, hd]; exact hg⟩)

/-- The tokens that were told, and whose they are. -/
def tkC (n : Nat) : List Value := (List.range n).map fun k => .string (tokOf [] k)
def whC (lu : List Nat) : List Value := lu.map fun (u : Nat) => .int .i64 (u : Int)
theorem tkC_succ (n : Nat) : tkC n ++ [.string (tokOf [] n)] = tkC (n + 1) := by simp [tkC, List.range_succ]
theorem whC_succ (lu : List Nat) (u : Nat) : whC lu ++ [.int .i64 (u : Int)] = whC (lu ++ [u]) := by simp [whC]
structure LgP (P : Prm) (w0 w : World) (B : Nat) (lu : List Nat) (v7 v8 : Value) : Prop where
  srv : SrP P w lu
  hF : ∀ k, mineD P.d P.ub P.mb P.vg k → w0.heap.size ≤ k
  hB : ∀ k, P.has k → k < B
  bel : Below w0.heap.size w0 w
  sz : B ≤ w.heap.size
  lo : w0.heap.size ≤ B
  tk : w.ownsRow B 9 1 v7 lu.length (tkC lu.length)
  wh : w.ownsRow B 3 1 v8 lu.length (whC lu)
  two : ∀ u ∈ lu, u < 2
section
variable {P : Prm} {w0 w w' : World} {B : Nat} {lu : List Nat} {v7 v8 : Value}
theorem LgP.below (h : LgP P w0 w B lu v7 v8) (hb : Below w.heap.size w w') : LgP P w0 w' B lu v7 v8 :=
  ⟨h.srv.same fun k hk => hb.block k (h.srv.lt k hk), h.hF, h.hB, h.bel.trans (hb.mono h.bel.size), Nat.le_trans h.sz hb.size, h.lo, ownsRow_same h.tk fun j hj => hb.block j (ownsRow_lt h.tk hj), ownsRow_same h.wh fun j hj => hb.block j (ownsRow_lt h.wh hj), h.two⟩
/-- A block that is none of them is turned. -/
theorem LgP.keep (h : LgP P w0 w B lu v7 v8) {g : Nat} (hG : Gr (fun k => k = g) w w') (hg : B ≤ g) {c : Array Value} {t : TypeId} (hc : w.heap[g]? = some (.cells c t (0, 0))) (h3 : t ≠ 3) (h9 : t ≠ 9) : LgP P w0 w' B lu v7 v8 := by
  refine ⟨h.srv.same fun k hk => hG.block k (h.srv.lt k hk) (fun e => ?_), h.hF, h.hB, h.bel.trans (hG.below (fun k hk => ?_) h.bel.size), Nat.le_trans h.sz hG.size, h.lo, ownsRow_same h.tk fun j hj => hG.block j (ownsRow_lt h.tk hj) (fun e => ?_), ownsRow_same h.wh fun j hj => hG.block j (ownsRow_lt h.wh hj) (fun e => ?_), h.two⟩
  · have := h.hB k hk; omega
  · have := h.lo; omega
  · subst e
    obtain ⟨cur, hk⟩ := ownsRow_ty h.tk hj
    rw [hc] at hk; simp at hk; exact h9 hk.2
  · subst e
    obtain ⟨cur, hk⟩ := ownsRow_ty h.wh hj
    rw [hc] at hk; simp at hk; exact h3 hk.2
/-- A login that came through: the server is turned. -/
theorem LgP.log (h : LgP P w0 w B lu v7 v8) (hG : Gr (mineD P.d P.ub P.mb P.vg) w w') : Below w0.heap.size w0 w' ∧ w'.ownsRow B 9 1 v7 lu.length (tkC lu.length) ∧ w'.ownsRow B 3 1 v8 lu.length (whC lu) ∧ B ≤ w'.heap.size :=
  ⟨h.bel.trans (hG.below h.hF h.bel.size), ownsRow_same h.tk fun j hj => hG.block j (ownsRow_lt h.tk hj) (fun e => by have := h.hB j (Or.inl e); have := ownsRow_ge h.tk hj; omega), ownsRow_same h.wh fun j hj => hG.block j (ownsRow_lt h.wh hj) (fun e => by have := h.hB j (Or.inl e); have := ownsRow_ge h.wh hj; omega), Nat.le_trans h.sz hG.size⟩
/-- What is told is laid behind the rows. -/
theorem LgP.app {w1 w2 w4 : World} {u : Nat} {n : Nat} (hu : u < 2) (h : LgP P w0 w B lu v7 v8) (hn : lu.length = n) (hS : SrP P w1 (lu ++ [u])) (hb1 : Below w0.heap.size w0 w1) (hs1 : B ≤ w1.heap.size) (h8 : w1.ownsRow B 3 1 v8 n (whC lu)) {v7' v8' : Value}
    (h7 : w2.ownsRow B 9 1 v7' (n + 1) (tkC n ++ [.string (tokOf [] n)])) (g2 : (w1.alloc (.cells #[.string (tokOf [] n)] 9)).grownBy w2 v7.ownBlock) (o7 : w1.ownsRow B 9 1 v7 n (tkC n))
    (h8' : w4.ownsRow B 3 1 v8' (n + 1) (whC lu ++ [.int .i64 (u : Int)])) (g4 : (w2.alloc (.cells #[.int .i64 (u : Int)] 3)).grownBy w4 v8.ownBlock) : LgP P w0 w4 B (lu ++ [u]) v7' v8' := by
  have k12 : ∀ k, k < w1.heap.size → v7.ownBlock ≠ some k → w2.heap[k]? = w1.heap[k]? := fun k hk hn => by
    rw [g2.block k (by simp; omega) (fun e => hn e.symm), heap_alloc_old w1 _ hk]
  have s12 : w1.heap.size < w2.heap.size := by have := g2.size; simp at this; omega
  have k24 : ∀ k, k < w2.heap.size → v8.ownBlock ≠ some k → w4.heap[k]? = w2.heap[k]? := fun k hk hn => by
    rw [g4.block k (by simp; omega) (fun e => hn e.symm), heap_alloc_old w2 _ hk]
  have s24 : w2.heap.size < w4.heap.size := by have := g4.size; simp at this; omega
  have low : ∀ k, k < B → w4.heap[k]? = w1.heap[k]? := fun k hk => by
    rw [k24 k (by omega) (fun e => by have := ownsRow_ge h8 e; omega), k12 k (by omega) (fun e => by have := ownsRow_ge o7 e; omega)]
  refine ⟨hS.same fun k hk => low k (h.hB k hk), h.hF, h.hB, ⟨?_, ?_, ?_, ?_, fun k hk => ?_⟩, by omega, h.lo, ?_, ?_, fun x hx => ?_⟩
  · exact (g4.os.trans g2.os).trans hb1.os
  · exact (g4.tape.trans g2.tape).trans hb1.tape
  · exact (g4.output.trans g2.output).trans hb1.output
  · have := hb1.size; omega
  · rw [low k (by have := h.lo; omega)]; exact hb1.block k hk
  · rw [List.length_append, hn, show [u].length = 1 from rfl, ← tkC_succ]
    refine ownsRow_same h7 fun j hj => k24 j (ownsRow_lt h7 hj) (fun e => ?_)
    obtain ⟨c1, e1⟩ := ownsRow_ty h7 hj
    have l1 := ownsRow_lt h8 e
    obtain ⟨c2, e2⟩ := ownsRow_ty h8 e
    by_cases hq : v7.ownBlock = some j
    · obtain ⟨c3, e3⟩ := ownsRow_ty o7 hq
      rw [e3] at e2; simp at e2
    · rw [k12 j l1 hq, e2] at e1; simp at e1
  · rw [List.length_append, hn, show [u].length = 1 from rfl, ← whC_succ]
    exact h8'
  · rcases List.mem_append.1 hx with hx | hx
    · exact h.two x hx
    · simp at hx; omega
theorem LgP.tok (h : LgP P w0 w B lu v7 v8) (k : Nat) (hk : k < lu.length) : ∃ g, (∃ c, v7 = .slice (some ⟨g, 0, none⟩) lu.length c ∧ lu.length ≤ c) ∧ w.cell? ⟨g, k, none⟩ = some (.string (tokOf [] k)) := by
  rcases h.tk.2 with ⟨_, h0⟩ | ⟨g, cap', cur, hv, _, _, hc, _⟩
  · omega
  · have := h.tk.cells (g := g) (by rw [hv]; rfl) k (.string (tokOf [] k)) (by simp [tkC, hk])
    rw [addr_add, Nat.zero_add] at this
    exact ⟨g, ⟨cap', hv, hc⟩, this⟩
theorem LgP.who (h : LgP P w0 w B lu v7 v8) (k : Nat) (hk : k < lu.length) : ∃ g, (∃ c, v8 = .slice (some ⟨g, 0, none⟩) lu.length c ∧ lu.length ≤ c) ∧ w.cell? ⟨g, k, none⟩ = some (.int .i64 (whoF lu k : Int)) := by
  rcases h.wh.2 with ⟨_, h0⟩ | ⟨g, cap', cur, hv, _, _, hc, _⟩
  · omega
  · have := h.wh.cells (g := g) (by rw [hv]; rfl) k (.int .i64 (whoF lu k : Int)) (by simp [whC, whoF, List.getD, hk])
    rw [addr_add, Nat.zero_add] at this
    exact ⟨g, ⟨cap', hv, hc⟩, this⟩
theorem LgP.lt2 (h : LgP P w0 w B lu v7 v8) (k : Nat) (hk : k < lu.length) : whoF lu k < 2 := by
  refine h.two _ ?_
  unfold whoF
  simp [List.getD, hk]
end
/-- How many from k on are u's. -/
def cntF (f : Nat → Nat) (n k u : Nat) : Nat := (List.range n).countP fun j => decide (k ≤ j ∧ f j = u)
theorem cntF_last (f : Nat → Nat) (n u : Nat) : cntF f n n u = 0 := by
  unfold cntF
  rw [List.countP_eq_zero]
  intro j hj
  have := List.mem_range.1 hj
  simp
  omega
theorem cntF_le (f : Nat → Nat) (n k u : Nat) : cntF f n k u ≤ n := by
  unfold cntF
  exact Nat.le_trans List.countP_le_length (by simp)
theorem cntF_later (f : Nat → Nat) (n k : Nat) : later f n k = cntF f n (k + 1) (f k) := by
  unfold later cntF
  refine List.countP_congr fun j _ => ?_
  simp only [decide_eq_true_eq]
  omega
theorem cntF_step (f : Nat → Nat) (n k u : Nat) (hk : k < n) : cntF f n k u = cntF f n (k + 1) u + (if f k = u then 1 else 0) := by
  unfold cntF
  have e : ∀ m, k < m → (List.range m).countP (fun j => decide (k ≤ j ∧ f j = u)) = (List.range m).countP (fun j => decide (k + 1 ≤ j ∧ f j = u)) + (if f k = u then 1 else 0) := by
    intro m
    induction m with
    | zero => intro h; omega
    | succ m ih =>
      intro h
      rw [List.range_succ, List.countP_append, List.countP_append]
      by_cases h2 : k < m
      · rw [ih h2]
        have : ([m].countP fun j => decide (k ≤ j ∧ f j = u)) = ([m].countP fun j => decide (k + 1 ≤ j ∧ f j = u)) := by
          refine List.countP_congr fun j hj => ?_
          simp at hj
          subst hj
          simp only [decide_eq_true_eq]
          omega
        rw [this]
        omega
      · have hm : m = k := by omega
        subst hm
        have z : ∀ c : Nat, m ≤ c → (List.range m).countP (fun j => decide (c ≤ j ∧ f j = u)) = 0 := fun c hc => by
          rw [List.countP_eq_zero]
          intro j hj
          have := List.mem_range.1 hj
          simp
          omega
        rw [z m (Nat.le_refl _), z (m + 1) (by omega)]
        by_cases hf : f m = u <;> simp [hf]
  exact e n hk
theorem infoStr1 : (Tryz.prog.info? 9).map (fun i => (i.zero, i.size, i.bytes)) = some (some (.string ⟨#[]⟩), 1, 16) := by kernel_rfl
theorem infoInt1 : (Tryz.prog.info? 3).map (fun i => (i.zero, i.size, i.bytes)) = some (some (.int .i64 0), 1, 8) := by kernel_rfl
theorem seesK_one (k : Value) (w : World) (t : TypeId) : SeesK 1 (w.alloc (.cells #[k] t)) (.slice (some ⟨w.heap.size, 0, none⟩) 1 1) 1 [k] := by
  refine ⟨by simp, w.heap.size, 0, _, 1, rfl, Nat.le_refl _, (fun h => by cases h), fun _ => rfl, fun j hj => ?_⟩
  have : j = 0 := by simp at hj; omega
  subst this
  have h := heap_alloc_new w (.cells #[k] t)
  simp only [World.cell?, h]
  rfl
def arrV (f : Nat → Nat) (n k : Nat) : Array Value := #[.int .i64 (cntF f n k 0 : Int), .int .i64 (cntF f n k 1 : Int)]
theorem arr_cell {w : World} {G : Nat} {f : Nat → Nat} {n k : Nat} {t : TypeId} (h : w.heap[G]? = some (.cells (arrV f n k) t (0, 0))) (u : Nat) (hu : u < 2) : w.cell? ⟨G, u, none⟩ = some (.int .i64 (cntF f n k u : Int)) ∧ w.frozen? ⟨G, u, none⟩ = false := by
  have : u = 0 ∨ u = 1 := by omega
  rcases this with rfl | rfl
  · constructor
    · simp only [World.cell?, h]; rfl
    · simp [World.frozen?, h]
  · constructor
    · simp only [World.cell?, h]; rfl
    · simp [World.frozen?, h]
theorem arr_step {w : World} {G : Nat} {f : Nat → Nat} {n k u : Nat} {t : TypeId} (h : w.heap[G]? = some (.cells (arrV f n (k + 1)) t (0, 0))) (hk : k < n) (hf : f k = u) (hu : u < 2) : (w.setCell ⟨G, u, none⟩ (.int .i64 ((cntF f n (k + 1) u : Int) + 1))).heap[G]? = some (.cells (arrV f n k) t (0, 0)) := by
  rw [heap_setCell_same w G u _ _ _ h]
  have e0 := cntF_step f n k 0 hk
  have e1 := cntF_step f n k 1 hk
  rw [hf] at e0 e1
  have : u = 0 ∨ u = 1 := by omega
  rcases this with rfl | rfl
  · simp only [arrV, e0, e1]
    simp
  · simp only [arrV, e0, e1]
    simp
theorem gr_set (w : World) (G j : Nat) (v : Value) : Gr (fun k => k = G) w (w.setCell ⟨G, j, none⟩ v) :=
  ⟨rfl, rfl, rfl, by simp, fun k _ hn => heap_setCell_other w _ k v hn⟩
end Go.Proofs.YtplljpodejpbgaaGreatDoor
