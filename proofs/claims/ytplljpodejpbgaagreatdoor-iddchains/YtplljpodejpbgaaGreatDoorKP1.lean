/-
  Whose a token is; what somebody owns; a login that is refused.
-/
import Derived.Test.YtplljpodejpbgaaGreatDoorJGrant
import Derived.Test.YtplljpodejpbgaaGreatDoorJBase
import Derived.Test.YtplljpodejpbgaaGreatDoorXSalt
import Derived.Test.YtplljpodejpbgaaGreatDoorJSes
import Derived.Test.YtplljpodejpbgaaGreatDoorJText
namespace Go.Proofs.YtplljpodejpbgaaGreatDoor
open Go.RowKit
set_option linter.unusedVariables false
set_option linter.unusedSimpArgs false
set_option maxRecDepth 100000

/-- The first account of that name: its number. -/
def nameTo (us : List (Acc × Value)) (s : ByteArray) : Nat → Option Nat
  | 0 => none
  | k + 1 => match nameTo us s k with
    | some j => some j
    | none => match us[k]? with
      | some p => if p.1.name = s then some k else none
      | none => none
theorem nameTo_some {us : List (Acc × Value)} {s : ByteArray} {k j : Nat} (h : nameTo us s k = some j) : ∀ n, k ≤ n → nameTo us s n = some j
  | 0, hk => by
    have : k = 0 := by omega
    subst this; exact h
  | n + 1, hk => by
    by_cases he : k = n + 1
    · subst he; exact h
    · rw [nameTo, nameTo_some h n (by omega)]
def nameV : Option Nat → Value
  | some j => .int .i64 (j : Int)
  | none => .int .i64 (-1)
theorem beq_text (a b : ByteArray) : (a.toList == b.toList) = true ↔ a = b := by
  rw [beq_iff_eq, ByteArray.toList_eq, ByteArray.toList_eq]
  constructor
  · intro h
    obtain ⟨⟨x⟩⟩ := a
    obtain ⟨⟨y⟩⟩ := b
    simp at h
    rw [h]
  · intro h
    rw [h]

set_option maxHeartbeats 400000 in
theorem namedF_any (n s g x : ByteArray) (made : Int) (vo : Value) (c : Nat) (w : World) (hc : w.cell? ⟨c, 0, none⟩ = some (.string x)) :
    Calls Tryz.prog 70 #[.agg #[.string n, .string s, .string g, .int .i64 made, vo], .pointer (some ⟨c, 0, none⟩)] w fun e w' => ∃ b, e = .returned (.bool b) ∧ (b = true ↔ n = x) ∧ Below w.heap.size w w' := by
  have hlt := World.block_lt_of_cell? w _ hc
  simp only at hlt
  go_enter Tryz.func70, Tryz.ntmps70
  go_wp2
  go_ret
  exact ⟨_, rfl, beq_text n x, below_alloc w _⟩

set_option maxHeartbeats 2000000 in
theorem indexF_any (us : List (Acc × Value)) (ub c : Nat) (x : ByteArray) (w : World) (hl : us.length ≤ 16) (h0 : 0 < us.length) (hr : w.heap[ub]? = some (.cells (aC us).toArray 86 (0, 0))) (hc : w.cell? ⟨c, 0, none⟩ = some (.string x)) :
    Calls Tryz.prog 69 #[.slice (some ⟨ub, 0, none⟩) us.length us.length, .func (.func 70) #[] #[.pointer (some ⟨c, 0, none⟩)]] w fun e w' => e = .returned (nameV (nameTo us x us.length)) ∧ Below w.heap.size w w' := by
  have HR := hid hr
  have HC := hid hc
  have HL := hid (Array.getElem?_eq_some_iff.1 hr).1
  clear hr hc
  go_enter Tryz.func69, Tryz.ntmps69
  go_wp2
  go_loopw [5, 8] (fun _ i wr => ∃ k : Nat, k ≤ us.length ∧ i = .int .i64 k ∧ Hid (nameTo us x k = none) ∧ Hid (Below w.heap.size w wr)) (fun _ i _ => us.length - (intOf i).toNat)
  case atStart => exact ⟨0, Nat.zero_le _, rfl, rfl, Below.refl _ _⟩
  case round =>
    obtain ⟨k, hk, rfl, HN, HB⟩ := hrel
    by_cases hlt : k < us.length
    · obtain ⟨p, hp⟩ : ∃ p, us[k]? = some p := ⟨_, List.getElem?_eq_getElem hlt⟩
      have hrow := (HB.out.block ub HL.out).trans HR.out
      obtain ⟨a0, a1, a2, a3, a4⟩ := aC_get us k p hp
      have a0 := cell_of_list hrow a0
      have a1 := cell_of_list hrow a1
      have a2 := cell_of_list hrow a2
      have a3 := cell_of_list hrow a3
      have a4 := cell_of_list hrow a4
      have hcl := namedF_any p.1.name p.1.salt p.1.digest x (p.1.made : Int) p.2 c wr ((HB.out.cell (World.block_lt_of_cell? w _ HC.out)).trans HC.out)
      have HS : Hid (nameTo us x (k + 1) = if p.1.name = x then some k else none) := by
        show nameTo us x (k + 1) = _
        rw [nameTo, HN.out, hp]
      have hsw := HB.out.size
      have hkl : (k : Int) < (us.length : Int) := by omega
      obtain ⟨⟨nm, sl, dg, md, ow⟩, vo⟩ := p
      simp only at a0 a1 a2 a3 a4 hcl HS
      have HCL := hid hcl
      clear hrow hp hcl
      go_wp2_with fail
      refine HCL.out.mono ?_
      rintro e w1 ⟨b, rfl, hbi, hb1⟩
      have HB1 := hid (HB.out.trans (hb1.mono hsw))
      clear hb1 HCL
      cases b with
      | true =>
        have hn := hbi.1 rfl
        rw [hn, if_pos rfl] at HS
        have HE := hid (nameTo_some HS.out us.length (by omega))
        clear hbi hn
        go_wp2
        go_ret
        exact ⟨by rw [HE.out]; rfl, HB1.out⟩
      | false =>
        have hn : ¬ nm = x := fun h => by have := hbi.2 h; cases this
        rw [if_neg hn] at HS
        clear hbi hn
        go_wp2
        go_roundw
        case rel => exact ⟨k + 1, by omega, by go_num, HS, HB1⟩
        case measure => simp [intOf]; omega
    · have hk' : k = us.length := by omega
      subst hk'
      go_wp2
      go_ret
      exact ⟨by rw [HN.out]; rfl, HB.out⟩

def namedV (o : Option Nat) : Value := match o with
  | some j => .tuple #[.int .i64 (j : Int), .bool true]
  | none => .tuple #[.int .i64 (-1), .bool false]
theorem nameTo_lt {us : List (Acc × Value)} {s : ByteArray} : ∀ {k j : Nat}, nameTo us s k = some j → j < us.length ∧ ∃ p, us[j]? = some p ∧ p.1.name = s
  | 0, j, h => by simp [nameTo] at h
  | k + 1, j, h => by
    rw [nameTo] at h
    cases hk : nameTo us s k with
    | some i =>
      rw [hk] at h
      simp at h
      subst h
      exact nameTo_lt hk
    | none =>
      rw [hk] at h
      cases hp : us[k]? with
      | none => rw [hp] at h; simp at h
      | some p =>
        rw [hp] at h
        simp only at h
        by_cases e : p.1.name = s
        · rw [if_pos e] at h
          simp at h
          subst h
          exact ⟨(List.getElem?_eq_some_iff.1 hp).1, p, hp, e⟩
        · rw [if_neg e] at h
          cases h
set_option maxHeartbeats 1000000 in
theorem named_any (w : World) (d ub mb : Nat) (us : List (Acc × Value)) (vd : Value) (dr : List Int) (n : Nat) (ss : List Ses) (vg : Value) (gs : List Gra) (h : IdAt w d ub mb us vd dr n ss vg gs) (x : ByteArray) :
    Calls Tryz.prog 51 #[.pointer (some ⟨d, 0, none⟩), .string x] w fun e w' => e = .returned (namedV (nameTo us x us.length)) ∧ Below w.heap.size w w' := by
  obtain ⟨c0, c1, c2, c3, c4, c5⟩ := h.cells
  have hltd := h.ltd
  obtain ⟨W, hW⟩ : ∃ W, W = w.alloc (.cells #[.string x] 9) := ⟨_, rfl⟩
  have hbW : Below w.heap.size w W := by rw [hW]; exact below_alloc w _
  have hx : W.cell? ⟨w.heap.size, 0, none⟩ = some (.string x) := by rw [hW]; simp
  have hi := indexF_any us ub w.heap.size x W h.n2 h.n1 ((hbW.block ub h.ltu).trans h.row) hx
  have HI := hid hi
  have HB := hid hbW
  have HW := hid hW
  clear h hi hbW hW hx
  cases ho : nameTo us x us.length with
  | none =>
    rw [ho] at HI
    unfold nameV at HI
    unfold namedV
    clear ho
    go_enter Tryz.func51, Tryz.ntmps51
    go_wp2_with fail
    rw [← HW.out]
    refine HI.out.mono ?_
    rintro e w1 ⟨rfl, hb1⟩
    have HB1 := hid (HB.out.trans (hb1.mono HB.out.size))
    clear hb1 HI HW
    go_wp2
    go_ret2
    exact ⟨rfl, HB1.out⟩
  | some j =>
    rw [ho] at HI
    unfold nameV at HI
    unfold namedV
    have hj0 : (0 : Int) ≤ (j : Int) := by omega
    clear ho
    go_enter Tryz.func51, Tryz.ntmps51
    go_wp2_with fail
    rw [← HW.out]
    refine HI.out.mono ?_
    rintro e w1 ⟨rfl, hb1⟩
    have HB1 := hid (HB.out.trans (hb1.mono HB.out.size))
    clear hb1 HI HW
    go_wp2
    go_ret2
    exact ⟨rfl, HB1.out⟩
end Go.Proofs.YtplljpodejpbgaaGreatDoor

namespace Go.Proofs.YtplljpodejpbgaaGreatDoor
open Go.RowKit
set_option linter.unusedVariables false
set_option linter.unusedSimpArgs false
set_option maxRecDepth 100000

set_option maxHeartbeats 1000000 in
theorem knows_any (name salt digest word : ByteArray) (made : Int) (vo : Value) (w : World) (hR : Rounds w) (hs : salt.size ≤ 32) (hm : word.size ≤ 140737488351232) :
    Calls Tryz.prog 52 #[.agg #[.string name, .string salt, .string digest, .int .i64 made, vo], .string word] w fun e w' => ∃ b, e = .returned (.bool b) ∧ (b = true ↔ strOf (saltOf salt word) = digest) ∧ Below w.heap.size w w' := by
  obtain ⟨W, hW⟩ : ∃ W, W = w.alloc (.cells #[.string name, .string salt, .string digest, .int .i64 made, vo] 86) := ⟨_, rfl⟩
  have hbW : Below w.heap.size w W := by rw [hW]; exact below_alloc w _
  have y : W.heap[w.heap.size]? = some (.cells #[.string name, .string salt, .string digest, .int .i64 made, vo] 86 (0, 0)) := by rw [hW]; exact heap_alloc_new w _
  have hlt := (Array.getElem?_eq_some_iff.1 y).1
  have c1 : W.cell? ⟨w.heap.size, 1, none⟩ = some (.string salt) := by simp [World.cell?, y]
  have c2 : W.cell? ⟨w.heap.size, 2, none⟩ = some (.string digest) := by simp [World.cell?, y]
  obtain ⟨t, ht⟩ : ∃ t, t = strOf (saltOf salt word) := ⟨_, rfl⟩
  have h1 := salted_any salt word W (hR.below hbW hR.pos) hs hm
  rw [← ht] at h1
  have H1 := hid h1
  have HT := hid ht
  clear h1 ht
  have HB := hid hbW
  have HW := hid hW
  have HC := hid c2
  clear hbW hW y hR c2
  go_enter Tryz.func52, Tryz.ntmps52
  go_wp2_with fail
  rw [← HW.out]
  clear HW
  go_wp2_with fail
  refine H1.out.mono ?_
  rintro e w1 ⟨rfl, hb1⟩
  have c2 := (hb1.cell (p := ⟨w.heap.size, 2, none⟩) hlt).trans HC.out
  have HB1 := hid (HB.out.trans (hb1.mono HB.out.size))
  clear hb1 H1
  go_wp2
  go_ret
  refine ⟨_, rfl, ?_, HB1.out⟩
  rw [← HT.out, beq_iff_eq, ByteArray.toList_eq, ByteArray.toList_eq]
  constructor
  · intro h
    obtain ⟨⟨a⟩⟩ := t
    obtain ⟨⟨b⟩⟩ := digest
    simp at h
    rw [h]
  · intro h
    rw [h]
end Go.Proofs.YtplljpodejpbgaaGreatDoor

namespace Go.Proofs.YtplljpodejpbgaaGreatDoor
open Go.RowKit Go.Maps
set_option linter.unusedVariables false
set_option linter.unusedSimpArgs false
set_option maxRecDepth 100000

theorem tokOf_size (dr : List Int) (n : Nat) : (tokOf dr n).size = 32 := by
  unfold tokOf
  rw [ByteArray.size_append', strOf_size, strOf_size, List.length_take, hexOf_len, hexOf_len, digest_len H0_words]
  rfl
/-- The map holds one session more; the number of logins is one more. -/
theorem login_fin {w w6 Z : World} {d ub mb : Nat} {us : List (Acc × Value)} {vd : Value} {dr : List Int} {n : Nat} {ss : List Ses} {vg : Value} {gs : List Gra} (h : IdAt w d ub mb us vd dr n ss vg gs) {k : Nat} {D : DataW Unit} (s : Ses)
    (hm : w6.ownsMap Tryz.prog 9 sesR mb (k + 1) D) (hk : k ≤ n) (hM : MapIs D (ss ++ [s])) (hl : s.login = n) (hG : w.grownBy w6 (some mb)) (hZ : Z = w6.setCell ⟨d, 3, none⟩ (.int .i64 ((n : Int) + 1))) :
    IdAt Z d ub mb us vd dr (n + 1) (ss ++ [s]) vg gs ∧ Gr (mineD d ub mb vg) w Z := by
  obtain ⟨n1, n2, n3, n4, n5⟩ := h.apart
  have ho : ∀ k, k < w.heap.size → k ≠ d → k ≠ mb → Z.heap[k]? = w.heap[k]? := fun k hk e1 e2 => by
    rw [hZ, heap_setCell_other _ _ _ _ (by simpa using e1)]
    exact hG.block k hk (fun e => e2 (by simpa using e))
  have h3 : ∀ {v : Value} {xs : List Int}, Owns w 0 v xs → Owns Z 0 v xs := fun hv => ownsRow_same hv fun j hj => by
    obtain ⟨cur, hc⟩ := ownsRow_ty hv hj
    exact ho j (ownsRow_lt hv hj) (fun e => n5 j cur hc (Or.inl e)) (fun e => n5 j cur hc (Or.inr (Or.inr (Or.inl e))))
  have hd6 : w6.heap[d]? = w.heap[d]? := hG.block d h.ltd (fun e => n2 (by simpa using e))
  refine ⟨⟨?_, ?_, fun p hp => h3 (h.own p hp), h.rises, h3 h.dra, ⟨k + 1, D, ?_, by omega, hM⟩, ?_, ?_, ?_, h.n1, h.n2⟩, ?_⟩
  · have hs := heap_setCell_same w6 d 3 _ _ (.int .i64 ((n : Int) + 1)) (hd6.trans h.lies)
    rw [hZ, hs]
    rfl
  · rw [ho ub h.ltu n1.symm n3]; exact h.row
  · exact map_same hm (by rw [hZ]; exact heap_setCell_other _ _ _ _ (by simpa using n2.symm))
  · intro x hx
    rcases List.mem_append.1 hx with hx | hx
    · have := h.low x hx; omega
    · simp at hx; subst hx; omega
  · refine List.pairwise_append.2 ⟨h.ord, by simp, fun a ha b hb => ?_⟩
    simp at hb
    subst hb
    have := h.low a ha
    omega
  · exact ownsRow_same h.gra fun j hj => ho j (ownsRow_lt h.gra hj) (n4 j hj).1 (n4 j hj).2.2
  · exact ⟨by rw [hZ]; exact hG.os, by rw [hZ]; exact hG.tape, by rw [hZ]; exact hG.output, by rw [hZ]; simpa using hG.size, fun k hk hm => ho k hk (fun e => hm (Or.inl e)) (fun e => hm (Or.inr (Or.inr (Or.inl e))))⟩

set_option maxHeartbeats 4000000 in
theorem login_ok (w : World) (hT : Tb w) (d ub mb : Nat) (us : List (Acc × Value)) (vd : Value) (dr : List Int) (n : Nat) (ss : List Ses) (vg : Value) (gs : List Gra) (h : IdAt w d ub mb us vd dr n ss vg gs) (name word : ByteArray) (u : Nat) (p : Acc × Value)
    (hp : us[u]? = some p) (hu : nameTo us name us.length = some u) (hsa : p.1.salt.size ≤ 32) (hwd : word.size ≤ 140737488351232) (hdg : strOf (saltOf p.1.salt word) = p.1.digest) (hlt : (toksOf ss u).length < 8) (hn : n ≤ 1099511627776) (hnew : ∀ x ∈ ss, x.token ≠ tokOf dr n)
    (hdr : ∀ x ∈ dr, -9223372036854775808 ≤ x ∧ x ≤ 9223372036854775807) :
    Calls Tryz.prog 16 #[.pointer (some ⟨d, 0, none⟩), .string name, .string word] w fun e w' => e = .returned (.tuple #[.string (tokOf dr n), .int .i64 (u : Int), .int .i64 0]) ∧
      IdAt w' d ub mb us vd dr (n + 1) (ss ++ [⟨tokOf dr n, u, n⟩]) vg gs ∧ Gr (mineD d ub mb vg) w w' := by
  have hgi := hid (dgiven_yes d w h.cells.1)
  have hna := named_any w d ub mb us vd dr n ss vg gs h name
  rw [hu] at hna
  have HNA := hid hna
  have HP := hid h
  have HT := hid hT
  have HUS := hid hp
  have hlu := (List.getElem?_eq_some_iff.1 hp).1
  have hlu2 := h.n2
  have hlui : (u : Int) < (us.length : Int) := by omega
  have hltl : ¬ ((8 : Int) ≤ ((toksOf ss (u : Int)).length : Int)) := by omega
  obtain ⟨tk1, htk⟩ : ∃ t, t = tokOf dr n := ⟨_, rfl⟩
  have HTK := hid htk
  unfold namedV at HNA
  clear hna h hT hp hu htk
  go_enter Tryz.func16, Tryz.ntmps16
  go_wp2_with fail
  refine hgi.out.mono ?_
  rintro e w1 ⟨rfl, hw⟩
  subst w1
  go_wp2_with fail
  refine HNA.out.mono ?_
  rintro e w1 ⟨rfl, hb1⟩
  have hI1 := HP.out.below hb1
  have HB1 := hid hb1
  obtain ⟨c0, c1, c2, c3, c4, c5⟩ := hI1.cells
  obtain ⟨a0, a1, a2, a3, a4⟩ := hI1.acc HUS.out
  have hkn := knows_any p.1.name p.1.salt p.1.digest word (p.1.made : Int) p.2 w1 ((HT.out.below hb1).r) hsa hwd
  have HKN := hid hkn
  have HI1 := hid hI1
  clear hb1 hgi HNA hI1 hkn
  go_wp2_with fail
  refine HKN.out.mono ?_
  rintro e w2 ⟨bb, rfl, hbb, hb2⟩
  have hbt : bb = true := hbb.2 hdg
  subst hbt
  have hI2 := HI1.out.below hb2
  have HB2 := hid (HB1.out.trans (hb2.mono HB1.out.size))
  have hso := sessionsOf_any w2 d ub mb us vd dr n ss vg gs hI2 (u : Int) hn
  have HI2 := hid hI2
  have HSO := hid hso
  clear hbb hb2 HKN HI1 hI2 hso HB1 c0 c1 c2 c3 c4 c5 a0 a1 a2 a3 a4
  go_wp2_with fail
  refine HSO.out.mono ?_
  rintro e w3 ⟨vl, rfl, hol, hb3⟩
  obtain ⟨al, cl, rfl⟩ := row_shape hol
  have hI3 := HI2.out.below hb3
  have HB3 := hid (HB2.out.trans (hb3.mono HB2.out.size))
  have hnt := nextToken_any w3 (HT.out.below HB3.out) d ub mb us vd dr n ss vg gs hI3 hdr (by omega)
  rw [← HTK.out] at hnt
  have HI3 := hid hI3
  have HNT := hid hnt
  clear hol hb3 HSO HI2 hI3 hnt HB2
  go_wp2_with fail
  refine HNT.out.mono ?_
  rintro e w5 ⟨rfl, hb5⟩
  have hI5 := HI3.out.below hb5
  have HB5 := hid (HB3.out.trans (hb5.mono HB3.out.size))
  have HI5 := hid hI5
  clear hb5 HNT HI3 hI5 HB3
  go_wp2_with fail
  obtain ⟨V, hV⟩ : ∃ V, V = w5.drew := ⟨_, rfl⟩
  have hIV : IdAt V d ub mb us vd dr n ss vg gs := by rw [hV]; exact HI5.out.below (Below.drew (Below.refl _ _))
  have HBV : Hid (Below w.heap.size w V) := by rw [hV]; exact hid (Below.drew HB5.out)
  obtain ⟨k, D, hm, hkn, hM⟩ := hIV.map
  have hsz : tk1.size ≤ maxLen := by rw [HTK.out, tokOf_size]; decide
  obtain ⟨w6, hrun, hm6, hG6⟩ := hm.update keyS Tryz.underlying71 (by simp only [maxLen]; omega) (keyT tk1 hsz) (sesR_mk (u : Int) (n : Int))
  obtain ⟨es, hes⟩ := hm.isMap
  have hM6 := hM.put ⟨es, hes⟩ ⟨tk1, u, n⟩ (fun x hx => by rw [HTK.out]; exact hnew x hx)
  obtain ⟨c0, c1, c2, c3, c4, c5⟩ := hIV.cells
  have hdm := hIV.apart.2.1
  have hS5 : V.cell? ⟨d, 4, none⟩ = some (.map (some mb)) ∧ V.cell? ⟨d, 3, none⟩ = some (.int .i64 (n : Int)) := ⟨c4, c3⟩
  have hd6 : w6.heap[d]? = V.heap[d]? := hG6.block d hIV.ltd (fun e => hdm (by simpa using e))
  have hS6 : w6.cell? ⟨d, 4, none⟩ = some (.map (some mb)) ∧ w6.cell? ⟨d, 3, none⟩ = some (.int .i64 (n : Int)) := ⟨by simpa only [World.cell?, hd6] using c4, by simpa only [World.cell?, hd6] using c3⟩
  have hf6 : w6.frozen? ⟨d, 3, none⟩ = false := by simpa only [World.frozen?, hd6] using (hIV.warm 3).1
  have HF := hid (login_fin hIV ⟨tk1, u, n⟩ hm6 hkn hM6 rfl hG6 rfl)
  have c36 := hS6.2
  clear hIV hm hM hes hm6 hM6 hd6 hG6 c0 c1 c2 c3 c4 c5 hdm
  have HV := hid hV
  subst hV
  refine wp_region_noPanic ?_
  refine wp_region_held_drew (S := fun X => X.cell? ⟨d, 4, none⟩ = some (.map (some mb)) ∧ X.cell? ⟨d, 3, none⟩ = some (.int .i64 (n : Int))) (by kernel_rfl) ?_ (fun hHeld => ?_)
  · first | (with_reducible exact hS6) | exact hS5
  refine wpAnyH_take (i := 0) (oi := { dst := some 49, op := Op.move (Operand.tmp 0), type := 27, pos := "session.go:32", after := #[], guard := none }) (v := (.pointer (some ⟨d, 0, none⟩))) rfl (by kernel_rfl) (by kernel_rfl) (by kernel_rfl) (fun _ _ _ h => h) (Or.inl ⟨by rfl, ?_⟩) (by assumption) ?_
  · intro w hSw
    try dsimp only at hSw
    go_simp
  try simp only [Act.put, List.setIfInBounds_toArray, List.set_cons_zero, List.set_cons_succ]
  refine wpAnyH_take (i := 1) (oi := { dst := some 50, op := Op.nilCheck (Operand.tmp 49), type := 0, pos := "session.go:32", after := #[{ on := 0, ground := Ground.data }], guard := none }) (v := (.pointer (some ⟨d, 0, none⟩))) rfl (by kernel_rfl) (by kernel_rfl) (by kernel_rfl) (fun _ _ _ h => h) (Or.inl ⟨by rfl, ?_⟩) (by assumption) ?_
  · intro w hSw
    try dsimp only at hSw
    go_simp
  try simp only [Act.put, List.setIfInBounds_toArray, List.set_cons_zero, List.set_cons_succ]
  refine wpAnyH_take (i := 2) (oi := { dst := some 51, op := Op.fieldAddr 73 (Operand.tmp 50) 4, type := 0, pos := "session.go:32", after := #[{ on := 1, ground := Ground.data }], guard := none }) (v := (.pointer (some ⟨d, 4, none⟩))) rfl (by kernel_rfl) (by kernel_rfl) (by kernel_rfl) (fun _ _ _ h => h) (Or.inl ⟨by rfl, ?_⟩) (by assumption) ?_
  · intro w hSw
    try dsimp only at hSw
    go_simp
  try simp only [Act.put, List.setIfInBounds_toArray, List.set_cons_zero, List.set_cons_succ]
  refine wpAnyH_take (i := 3) (oi := { dst := some 52, op := Op.load 71 (Operand.tmp 51), type := 71, pos := "session.go:32", after := #[{ on := 2, ground := Ground.data }], guard := none }) (v := (.map (some mb))) rfl (by kernel_rfl) (by kernel_rfl) (by kernel_rfl) (fun _ _ _ h => h) (Or.inl ⟨by rfl, ?_⟩) (by assumption) ?_
  · intro w hSw
    try dsimp only at hSw
    go_simp
  try simp only [Act.put, List.setIfInBounds_toArray, List.set_cons_zero, List.set_cons_succ]
  refine wpAnyH_take (i := 4) (oi := { dst := some 53, op := Op.move (Operand.tmp 6), type := 9, pos := "session.go:32", after := #[], guard := none }) (v := (.string tk1)) rfl (by kernel_rfl) (by kernel_rfl) (by kernel_rfl) (fun _ _ _ h => h) (Or.inl ⟨by rfl, ?_⟩) (by assumption) ?_
  · intro w hSw
    try dsimp only at hSw
    go_simp
  try simp only [Act.put, List.setIfInBounds_toArray, List.set_cons_zero, List.set_cons_succ]
  refine wpAnyH_take (i := 5) (oi := { dst := some 54, op := Op.move (Operand.tmp 7), type := 3, pos := "session.go:32", after := #[], guard := none }) (v := (.int .i64 (u : Int))) rfl (by kernel_rfl) (by kernel_rfl) (by kernel_rfl) (fun _ _ _ h => h) (Or.inl ⟨by rfl, ?_⟩) (by assumption) ?_
  · intro w hSw
    try dsimp only at hSw
    go_simp
  try simp only [Act.put, List.setIfInBounds_toArray, List.set_cons_zero, List.set_cons_succ]
  refine wpAnyH_take (i := 6) (oi := { dst := some 55, op := Op.move (Operand.tmp 0), type := 27, pos := "session.go:32", after := #[], guard := none }) (v := (.pointer (some ⟨d, 0, none⟩))) rfl (by kernel_rfl) (by kernel_rfl) (by kernel_rfl) (fun _ _ _ h => h) (Or.inl ⟨by rfl, ?_⟩) (by assumption) ?_
  · intro w hSw
    try dsimp only at hSw
    go_simp
  try simp only [Act.put, List.setIfInBounds_toArray, List.set_cons_zero, List.set_cons_succ]
  refine wpAnyH_take (i := 7) (oi := { dst := some 56, op := Op.nilCheck (Operand.tmp 55), type := 0, pos := "session.go:32", after := #[{ on := 6, ground := Ground.data }], guard := none }) (v := (.pointer (some ⟨d, 0, none⟩))) rfl (by kernel_rfl) (by kernel_rfl) (by kernel_rfl) (fun _ _ _ h => h) (Or.inl ⟨by rfl, ?_⟩) (by assumption) ?_
  · intro w hSw
    try dsimp only at hSw
    go_simp
  try simp only [Act.put, List.setIfInBounds_toArray, List.set_cons_zero, List.set_cons_succ]
  refine wpAnyH_take (i := 8) (oi := { dst := some 57, op := Op.fieldAddr 73 (Operand.tmp 56) 3, type := 0, pos := "session.go:32", after := #[{ on := 7, ground := Ground.data }], guard := none }) (v := (.pointer (some ⟨d, 3, none⟩))) rfl (by kernel_rfl) (by kernel_rfl) (by kernel_rfl) (fun _ _ _ h => h) (Or.inl ⟨by rfl, ?_⟩) (by assumption) ?_
  · intro w hSw
    try dsimp only at hSw
    go_simp
  try simp only [Act.put, List.setIfInBounds_toArray, List.set_cons_zero, List.set_cons_succ]
  refine wpAnyH_take (i := 9) (oi := { dst := some 58, op := Op.load 3 (Operand.tmp 57), type := 3, pos := "session.go:32", after := #[{ on := 8, ground := Ground.data }], guard := none }) (v := (.int .i64 (n : Int))) rfl (by kernel_rfl) (by kernel_rfl) (by kernel_rfl) (fun _ _ _ h => h) (Or.inl ⟨by rfl, ?_⟩) (by assumption) ?_
  · intro w hSw
    try dsimp only at hSw
    go_simp
  try simp only [Act.put, List.setIfInBounds_toArray, List.set_cons_zero, List.set_cons_succ]
  refine wpAnyH_take (i := 10) (oi := { dst := some 59, op := Op.build 99 #[(0, Operand.tmp 54), (1, Operand.tmp 58)], type := 99, pos := "session.go:32", after := #[{ on := 5, ground := Ground.data }, { on := 9, ground := Ground.data }], guard := none }) (v := (.agg #[.int .i64 (u : Int), .int .i64 (n : Int)])) rfl (by kernel_rfl) (by kernel_rfl) (by kernel_rfl) (fun _ _ _ h => h) (Or.inl ⟨by rfl, ?_⟩) (by assumption) ?_
  · intro w hSw
    try dsimp only at hSw
    go_simp
  try simp only [Act.put, List.setIfInBounds_toArray, List.set_cons_zero, List.set_cons_succ]
  refine wpAnyH_ready (rs := [11]) (by kernel_rfl) (by simp) ?_
  refine AllReadyH.cons (o := { dst := none, op := Op.mapUpdate 71 (Operand.tmp 52) (Operand.tmp 53) (Operand.tmp 59), type := 0, pos := "session.go:32", after := #[{ on := 3, ground := Ground.data }, { on := 4, ground := Ground.data }, { on := 10, ground := Ground.data }, { on := 0, ground := Ground.phase }, { on := 1, ground := Ground.phase }, { on := 2, ground := Ground.phase }, { on := 3, ground := Ground.phase }, { on := 4, ground := Ground.phase }, { on := 5, ground := Ground.phase }, { on := 6, ground := Ground.phase }, { on := 7, ground := Ground.phase }, { on := 8, ground := Ground.phase }, { on := 9, ground := Ground.phase }, { on := 10, ground := Ground.phase }], guard := none }) rfl (fun K hK => ?_) AllReadyH.nil
  go_simp
  refine hK.out _ _ ?_ (fun hHeld => ?_)
  · first | (with_reducible exact hS6) | exact hS5
  clear hK K
  try simp only [Act.put, List.setIfInBounds_toArray, List.set_cons_zero, List.set_cons_succ]
  refine wpAnyH_done (by kernel_rfl) ?_ _
  refine NoPanic.normal ?_
  obtain ⟨Z, hZ⟩ : ∃ Z, Z = w6.setCell ⟨d, 3, none⟩ (.int .i64 ((n : Int) + 1)) := ⟨_, rfl⟩
  rw [← hZ] at HF
  have HZ := hid hZ
  have hft := freshText_any tk1 Z
  have HFT := hid hft
  clear hft hZ hS5 hS6 hrun
  have hnw : (n : Int) ≤ 1099511627776 := by omega
  go_wp2_with fail
  rw [← HZ.out]
  refine HFT.out.mono ?_
  rintro e w7 ⟨rfl, hb7⟩
  have hI7 := HF.out.1.below hb7
  have hG7 : Gr (mineD d ub mb vg) w w7 := ((Gr.of_below (show Below w.heap.size w w5.drew from HBV.out) _).trans HF.out.2 (fun _ _ hx => hx)).trans (Gr.of_below hb7 (mineD d ub mb vg)) (fun _ _ hx => hx)
  rw [HTK.out] at hI7
  have HI7 := hid hI7
  have HG7 := hid hG7
  clear hb7 HFT hI7 hG7
  go_wp2
  go_ret3
  exact ⟨by rw [← HTK.out]; rfl, HI7.out, HG7.out⟩
end Go.Proofs.YtplljpodejpbgaaGreatDoor

namespace Go.Proofs.YtplljpodejpbgaaGreatDoor
open Go.RowKit Go.Maps
set_option linter.unusedVariables false
set_option linter.unusedSimpArgs false
set_option maxRecDepth 100000

set_option maxHeartbeats 1000000 in
theorem isUser_yes (w : World) (d ub mb : Nat) (us : List (Acc × Value)) (vd : Value) (dr : List Int) (n : Nat) (ss : List Ses) (vg : Value) (gs : List Gra) (h : IdAt w d ub mb us vd dr n ss vg gs) (u : Nat) (hu : u < us.length) :
    Calls Tryz.prog 57 #[.pointer (some ⟨d, 0, none⟩), .int .i64 (u : Int)] w fun e w' => e = .returned (.bool true) ∧ w = w' := by
  have hgi := hid (dgiven_yes d w h.cells.1)
  obtain ⟨c0, c1, c2, c3, c4, c5⟩ := h.cells
  have h0 : (0 : Int) ≤ (u : Int) := by omega
  have h1 : (u : Int) < (us.length : Int) := by omega
  clear h hu
  go_enter Tryz.func57, Tryz.ntmps57
  go_wp2_with fail
  refine hgi.out.mono ?_
  rintro e w1 ⟨rfl, hw⟩
  subst w1
  go_wp2
  go_ret
  exact ⟨rfl, rfl⟩
set_option maxHeartbeats 1000000 in
theorem own_any (w : World) (d ub mb : Nat) (us : List (Acc × Value)) (vd : Value) (dr : List Int) (n : Nat) (ss : List Ses) (vg : Value) (gs : List Gra) (h : IdAt w d ub mb us vd dr n ss vg gs) (u : Nat) (p : Acc × Value) (hp : us[u]? = some p) (hb : p.1.own.length ≤ 1099511627776) :
    Calls Tryz.prog 26 #[.pointer (some ⟨d, 0, none⟩), .int .i64 (u : Int)] w fun e w' => ∃ v, e = .returned v ∧ Owns w' w.heap.size v p.1.own ∧ Below w.heap.size w w' := by
  have hlu := (List.getElem?_eq_some_iff.1 hp).1
  have hiu := hid (isUser_yes w d ub mb us vd dr n ss vg gs h u hlu)
  obtain ⟨c0, c1, c2, c3, c4, c5⟩ := h.cells
  obtain ⟨a0, a1, a2, a3, a4⟩ := h.acc hp
  have hfr := hid (freshI_any p.2 p.1.own w (h.own p (List.mem_of_getElem? hp)).sees (by omega))
  have h2 := h.n2
  have h1 : (u : Int) < (us.length : Int) := by omega
  clear h hp
  go_enter Tryz.func26, Tryz.ntmps26
  go_wp2_with fail
  refine hiu.out.mono ?_
  rintro e w1 ⟨rfl, hw⟩
  subst w1
  go_wp2_with fail
  refine hfr.out.mono ?_
  rintro e w1 ⟨v, rfl, hO, hB⟩
  have HO := hid hO
  have HB := hid hB
  clear hO hB hfr
  go_wp2
  go_ret
  exact ⟨_, rfl, HO.out, HB.out⟩
/-- What Who answers. -/
def whoL (ss : List Ses) (t : ByteArray) (a e : Int) : Prop := (∃ s ∈ ss, s.token = t ∧ a = (s.who : Int) ∧ e = 0) ∨ ((∀ s ∈ ss, s.token ≠ t) ∧ a = 0 ∧ e = 3)
set_option maxHeartbeats 1000000 in
theorem who_any (w : World) (d ub mb : Nat) (us : List (Acc × Value)) (vd : Value) (dr : List Int) (n : Nat) (ss : List Ses) (vg : Value) (gs : List Gra) (h : IdAt w d ub mb us vd dr n ss vg gs) (t : ByteArray) (ht : t.size ≤ maxLen) :
    Calls Tryz.prog 19 #[.pointer (some ⟨d, 0, none⟩), .string t] w fun e w' => ∃ a er, e = .returned (.tuple #[.int .i64 a, .int .i64 er]) ∧ whoL ss t a er ∧ Below w.heap.size w w' := by
  have hgi := hid (dgiven_yes d w h.cells.1)
  obtain ⟨c0, c1, c2, c3, c4, c5⟩ := h.cells
  obtain ⟨k, D, hm, hkn, hM⟩ := h.map
  obtain ⟨a, b, hh, hrun, hcase⟩ := map_ok hm hM t ht
  have HW : Hid (whoL ss t a (if hh then 0 else 3)) := by
    rcases hcase with ⟨rfl, s, hs, h1, h2, _⟩ | ⟨rfl, h1, h2, _⟩
    · exact Or.inl ⟨s, hs, h1, h2, rfl⟩
    · exact Or.inr ⟨h1, h2, rfl⟩
  have ha0 : hh = false → a = 0 := fun e => by
    rcases hcase with ⟨h1, _⟩ | ⟨_, _, h2, _⟩
    · rw [e] at h1; cases h1
    · exact h2
  clear h hm hM hcase
  cases hh with
  | true =>
    clear ha0
    go_enter Tryz.func19, Tryz.ntmps19
    go_wp2_with fail
    refine hgi.out.mono ?_
    rintro e w1 ⟨rfl, hw⟩
    subst w1
    go_wp2
    go_ret2
    exact ⟨_, _, rfl, HW.out, below_alloc w _⟩
  | false =>
    obtain rfl := ha0 rfl
    go_enter Tryz.func19, Tryz.ntmps19
    go_wp2_with fail
    refine hgi.out.mono ?_
    rintro e w1 ⟨rfl, hw⟩
    subst w1
    go_wp2
    go_ret2
    exact ⟨_, _, rfl, HW.out, below_alloc w _⟩
set_option maxHeartbeats 2000000 in
theorem login_deny (w : World) (hT : Tb w) (d ub mb : Nat) (us : List (Acc × Value)) (vd : Value) (dr : List Int) (n : Nat) (ss : List Ses) (vg : Value) (gs : List Gra) (h : IdAt w d ub mb us vd dr n ss vg gs) (name word : ByteArray) (hwd : word.size ≤ 140737488351232)
    (hno : nameTo us name us.length = none ∨ ∃ u p, us[u]? = some p ∧ nameTo us name us.length = some u ∧ p.1.salt.size ≤ 32 ∧ strOf (saltOf p.1.salt word) ≠ p.1.digest) :
    Calls Tryz.prog 16 #[.pointer (some ⟨d, 0, none⟩), .string name, .string word] w fun e w' => e = .returned (.tuple #[.string ⟨#[]⟩, .int .i64 0, .int .i64 21]) ∧ Below w.heap.size w w' := by
  have hgi := hid (dgiven_yes d w h.cells.1)
  have hna := named_any w d ub mb us vd dr n ss vg gs h name
  rcases hno with hu | ⟨u, p, hp, hu, hsa, hdg⟩
  · rw [hu] at hna
    have HNA := hid hna
    unfold namedV at HNA
    clear hna h hT hu
    go_enter Tryz.func16, Tryz.ntmps16
    go_wp2_with fail
    refine hgi.out.mono ?_
    rintro e w1 ⟨rfl, hw⟩
    subst w1
    go_wp2_with fail
    refine HNA.out.mono ?_
    rintro e w1 ⟨rfl, hb1⟩
    have HB1 := hid hb1
    clear hb1
    go_wp2
    go_ret3
    exact ⟨rfl, HB1.out⟩
  · rw [hu] at hna
    have HNA := hid hna
    have HP := hid h
    have HT := hid hT
    have HUS := hid hp
    have hlu := (List.getElem?_eq_some_iff.1 hp).1
    have hlu2 := h.n2
    have hlui : (u : Int) < (us.length : Int) := by omega
    unfold namedV at HNA
    clear hna h hT hp hu
    go_enter Tryz.func16, Tryz.ntmps16
    go_wp2_with fail
    refine hgi.out.mono ?_
    rintro e w1 ⟨rfl, hw⟩
    subst w1
    go_wp2_with fail
    refine HNA.out.mono ?_
    rintro e w1 ⟨rfl, hb1⟩
    have hI1 := HP.out.below hb1
    have HB1 := hid hb1
    obtain ⟨c0, c1, c2, c3, c4, c5⟩ := hI1.cells
    obtain ⟨a0, a1, a2, a3, a4⟩ := hI1.acc HUS.out
    have HKN := hid (knows_any p.1.name p.1.salt p.1.digest word (p.1.made : Int) p.2 w1 ((HT.out.below hb1).r) hsa hwd)
    clear hb1 hgi HNA hI1
    go_wp2_with fail
    refine HKN.out.mono ?_
    rintro e w2 ⟨bb, rfl, hbb, hb2⟩
    have hbt : bb = false := by
      cases bb with
      | false => rfl
      | true => exact absurd (hbb.1 rfl) hdg
    subst hbt
    have HB2 := hid (HB1.out.trans (hb2.mono HB1.out.size))
    clear hbb hb2 HKN
    go_wp2
    go_ret3
    exact ⟨rfl, HB2.out⟩
end Go.Proofs.YtplljpodejpbgaaGreatDoor
