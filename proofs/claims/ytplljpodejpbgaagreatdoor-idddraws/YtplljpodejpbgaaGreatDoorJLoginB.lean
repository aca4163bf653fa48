/-
  A login for which the eldest of eight sessions must end.
-/
import Derived.Test.YtplljpodejpbgaaGreatDoorJLogin
namespace Go.Proofs.YtplljpodejpbgaaGreatDoor
open Go.RowKit Go.Maps
set_option linter.unusedVariables false
set_option linter.unusedSimpArgs false
set_option maxRecDepth 100000

def dropS (ss : List Ses) (t : ByteArray) : List Ses := ss.filter fun s => decide (s.token ≠ t)
theorem dropS_sub {ss : List Ses} {t : ByteArray} {x : Ses} (h : x ∈ dropS ss t) : x ∈ ss := (List.mem_filter.1 h).1
theorem keyB_ne {a b : ByteArray} (h : a ≠ b) : keyB a ≠ keyB b := by unfold keyB; intro e; simp at e; exact h (tok_inj (by rw [e]))
theorem MapIs.del {D : DataW Unit} {ss : List Ses} (hM : MapIs D ss) (t : ByteArray) : MapIs (D.del (keyB t)) (dropS ss t) := by
  refine ⟨fun x => ?_, fun y hy z => ?_, ?_⟩
  · by_cases e : x = t.data.toList
    · subst e
      rw [show (Lit.string t.data.toList) = keyB t from rfl, Maps.has_del_same]
      refine ⟨fun h => (by cases h), ?_⟩
      rintro ⟨s, hs, he⟩
      have := (List.mem_filter.1 hs).2
      simp at this
      exact absurd (tok_inj he) this
    · rw [Maps.has_del_other (by unfold keyB; simpa using e), hM.has x]
      constructor
      · rintro ⟨y, hy, rfl⟩
        exact ⟨y, List.mem_filter.2 ⟨hy, by simp; intro h; exact e (by rw [h])⟩, rfl⟩
      · rintro ⟨y, hy, he⟩
        exact ⟨y, dropS_sub hy, he⟩
  · have hn := (List.mem_filter.1 hy).2
    simp at hn
    rw [Maps.atKey_del_other (keyB_ne hn)]
    exact hM.at_ y (dropS_sub hy) z
  · exact (List.Sublist.map _ List.filter_sublist).nodup hM.nd
/-- A session is out of the map; all else stays. -/
theorem drop_fin {w w6 : World} {d ub mb : Nat} {us : List (Acc × Value)} {vd : Value} {dr : List Int} {n : Nat} {ss : List Ses} {vg : Value} {gs : List Gra} (h : IdAt w d ub mb us vd dr n ss vg gs) (t : ByteArray) {k : Nat} {D : DataW Unit}
    (hm : w6.ownsMap Tryz.prog 9 sesR mb k (D.del (keyB t))) (hk : k ≤ n) (hM : MapIs D ss) (hG : w.grownBy w6 (some mb)) :
    IdAt w6 d ub mb us vd dr n (dropS ss t) vg gs ∧ Gr (mineD d ub mb vg) w w6 := by
  obtain ⟨n1, n2, n3, n4, n5⟩ := h.apart
  have ho : ∀ k, k < w.heap.size → k ≠ mb → w6.heap[k]? = w.heap[k]? := fun k hk e2 => hG.block k hk (fun e => e2 (by simpa using e))
  have h3 : ∀ {v : Value} {xs : List Int}, Owns w 0 v xs → Owns w6 0 v xs := fun hv => ownsRow_same hv fun j hj => by
    obtain ⟨cur, hc⟩ := ownsRow_ty hv hj
    exact ho j (ownsRow_lt hv hj) (fun e => n5 j cur hc (Or.inr (Or.inr (Or.inl e))))
  refine ⟨⟨?_, ?_, fun p hp => h3 (h.own p hp), h.rises, h3 h.dra, ⟨k, _, hm, hk, hM.del t⟩, fun s hs => h.low s (dropS_sub hs), h.ord.filter _, ?_, h.n1, h.n2⟩, ?_⟩
  · rw [ho d h.ltd n2]; exact h.lies
  · rw [ho ub h.ltu n3]; exact h.row
  · exact ownsRow_same h.gra fun j hj => ho j (ownsRow_lt h.gra hj) (n4 j hj).2.2
  · exact ⟨hG.os, hG.tape, hG.output, hG.size, fun k hk hm => ho k hk (fun e => hm (Or.inr (Or.inr (Or.inl e))))⟩

set_option maxHeartbeats 4000000 in
theorem login_over (w0 w : World) (hT : Tb w0) (hb0 : Below w0.heap.size w0 w) (d ub mb : Nat) (us : List (Acc × Value)) (vd : Value) (dr : List Int) (n : Nat) (ss : List Ses) (vg : Value) (gs : List Gra) (h : IdAt w d ub mb us vd dr n ss vg gs) (hm0 : ∀ k, mineD d ub mb vg k → w0.heap.size ≤ k) (name word : ByteArray) (u : Nat) (p : Acc × Value)
    (hp : us[u]? = some p) (hu : nameTo us name us.length = some u) (hsa : p.1.salt.size ≤ 32) (hwd : word.size ≤ 140737488351232) (hdg : strOf (saltOf p.1.salt word) = p.1.digest) (t0 : ByteArray) (tr : List ByteArray) (hts : toksOf ss u = t0 :: tr) (hlt : 8 ≤ (toksOf ss u).length) (h0s : t0.size ≤ maxLen) (hn : n ≤ 1099511627776) (hnew : ∀ x ∈ ss, x.token ≠ tokOf dr n)
    (hdr : ∀ x ∈ dr, -9223372036854775808 ≤ x ∧ x ≤ 9223372036854775807) :
    Calls Tryz.prog 16 #[.pointer (some ⟨d, 0, none⟩), .string name, .string word] w fun e w' => e = .returned (.tuple #[.string (tokOf dr n), .int .i64 (u : Int), .int .i64 0]) ∧
      IdAt w' d ub mb us vd dr (n + 1) ((dropS ss t0) ++ [⟨tokOf dr n, u, n⟩]) vg gs ∧ Gr (mineD d ub mb vg) w w' := by
  have hgi := hid (dgiven_yes d w h.cells.1)
  have hna := named_any w d ub mb us vd dr n ss vg gs h name
  rw [hu] at hna
  have HNA := hid hna
  have HP := hid h
  have HT := hid hT
  have HUS := hid hp
  have hlu := (List.getElem?_eq_some_iff.1 hp).1
  have hlu2 := h.n2
  have hlui : (u : Int) < (us.length : Int) := by omega
  have hltl : (8 : Int) ≤ ((toksOf ss (u : Int)).length : Int) := by omega
  have HM0 := hid hm0
  have HB0 := hid hb0
  have HTS := hid hts
  have HNEW := hid (show ∀ x ∈ dropS ss t0, x.token ≠ tokOf dr n from fun x hx => hnew x (dropS_sub hx))
  obtain ⟨tk1, htk⟩ : ∃ t, t = tokOf dr n := ⟨_, rfl⟩
  have HTK := hid htk
  unfold namedV at HNA
  clear hna h hT hp hu htk hm0 hb0 hts hnew
  go_enter Tryz.func16, Tryz.ntmps16
  go_wp2_with fail
  refine hgi.out.mono ?_
  rintro e w1 ⟨rfl, hw⟩
  subst w1
  go_wp2_with fail
  refine HNA.out.mono ?_
  rintro e w1 ⟨rfl, hb1⟩
  have hI1 := HP.out.below hb1
  have HB1 := hid hb1
  obtain ⟨c0, c1, c2, c3, c4, c5⟩ := hI1.cells
  obtain ⟨a0, a1, a2, a3, a4⟩ := hI1.acc HUS.out
  have hkn := knows_any p.1.name p.1.salt p.1.digest word (p.1.made : Int) p.2 w1 ((HT.out.below (HB0.out.trans (hb1.mono HB0.out.size))).r) hsa hwd
  have HKN := hid hkn
  have HI1 := hid hI1
  clear hb1 hgi HNA hI1 hkn
  go_wp2_with fail
  refine HKN.out.mono ?_
  rintro e w2 ⟨bb, rfl, hbb, hb2⟩
  have hbt : bb = true := hbb.2 hdg
  subst hbt
  have hI2 := HI1.out.below hb2
  have HB2 := hid (HB1.out.trans (hb2.mono HB1.out.size))
  have hso := sessionsOf_any w2 d ub mb us vd dr n ss vg gs hI2 (u : Int) hn
  have HI2 := hid hI2
  have HSO := hid hso
  clear hbb hb2 HKN HI1 hI2 hso HB1 c0 c1 c2 c3 c4 c5 a0 a1 a2 a3 a4
  go_wp2_with fail
  refine HSO.out.mono ?_
  rintro e w3 ⟨vl, rfl, hol, hb3⟩
  obtain ⟨g, cl, cur, rfl, hg2, hgc, hcap, hcm, hcs, htk0⟩ : ∃ g cap cur, vl = .slice (some ⟨g, 0, none⟩) (toksOf ss (u : Int)).length cap ∧ w2.heap.size ≤ g ∧ w3.heap[g]? = some (.cells cur 9 (0, 0)) ∧ (toksOf ss (u : Int)).length ≤ cap ∧ cap ≤ maxLen ∧ cur.size = cap * 1 ∧ cur.toList.take ((toksOf ss (u : Int)).length * 1) = tC (toksOf ss (u : Int)) := by
    rcases hol.2 with ⟨hv, hz⟩ | ⟨g, cap, cur, hv, r⟩
    · have := hol.1
      rw [hz] at this
      simp [tC] at this
      omega
    · exact ⟨g, cap, cur, hv, r⟩
  have hc0 : w3.cell? ⟨g, 0, none⟩ = some (.string t0) := by
    have h1 : (cur.toList.take ((toksOf ss (u : Int)).length * 1))[0]? = (tC (toksOf ss (u : Int)))[0]? := by rw [htk0]
    rw [List.getElem?_take_of_lt (by omega), HTS.out] at h1
    simp only [World.cell?, hgc]
    simp only [Option.isSome_none, Bool.false_eq_true, if_false]
    rw [← Array.getElem?_toList, h1]
    rfl
  obtain ⟨L, hL⟩ : ∃ L, L = (toksOf ss (u : Int)).length := ⟨_, rfl⟩
  rw [← hL] at hltl hcap ⊢
  have hL0 : 0 < L := by omega
  have hL1 : (0 : Int) < (L : Int) := by omega
  have HL := hid hL
  clear hL
  have hI3 := HI2.out.below hb3
  have HB3 := hid (HB2.out.trans (hb3.mono HB2.out.size))
  have hgl := (Array.getElem?_eq_some_iff.1 hgc).1
  have hgm : g ≠ mb := by
    obtain ⟨kk, D, ⟨es, ck, hm, _⟩, _⟩ := hI3.map
    exact map_ne hgc hm
  have hclm := hcm
  have HI3 := hid hI3
  clear hol hb3 HSO HI2 hI3 HB2 hgc htk0 hcs hg2
  go_wp2_with fail
  obtain ⟨V, hV⟩ : ∃ V, V = w3.drew := ⟨_, rfl⟩
  have hIV : IdAt V d ub mb us vd dr n ss vg gs := by rw [hV]; exact HI3.out.below (Below.drew (Below.refl _ _))
  have HBV : Hid (Below w.heap.size w V) := by rw [hV]; exact hid (Below.drew HB3.out)
  obtain ⟨k, D, hm, hkn, hM⟩ := hIV.map
  obtain ⟨w6, hrun, hm6, hT6⟩ := hm.drop keyS Tryz.underlying71 (keyT t0 h0s) 0
  have hG6 := hT6.grown
  obtain ⟨c0, c1, c2, c3, c4, c5⟩ := hIV.cells
  have hdm := hIV.apart.2.1
  have hS5 : V.cell? ⟨d, 4, none⟩ = some (.map (some mb)) ∧ V.cell? ⟨g, 0, none⟩ = some (.string t0) := ⟨c4, by rw [hV]; exact hc0⟩
  have hd6 : w6.heap[d]? = V.heap[d]? := hG6.block d hIV.ltd (fun e => hdm (by simpa using e))
  have hg6 : w6.heap[g]? = V.heap[g]? := hG6.block g (by rw [hV]; exact hgl) (fun e => hgm (by simpa using e))
  have hS6 : w6.cell? ⟨d, 4, none⟩ = some (.map (some mb)) ∧ w6.cell? ⟨g, 0, none⟩ = some (.string t0) := ⟨by simpa only [World.cell?, hd6] using c4, by simpa only [World.cell?, hg6] using hS5.2⟩
  have HF := hid (drop_fin hIV t0 hm6 hkn hM hG6)
  clear hIV hm hM hm6 hd6 hg6 hG6 hT6 c0 c1 c2 c3 c4 c5 hdm hgm hgl hc0
  have HV := hid hV
  subst hV
  refine wp_region_noPanic ?_
  refine wp_region_held_drew (S := fun X => X.cell? ⟨d, 4, none⟩ = some (.map (some mb)) ∧ X.cell? ⟨g, 0, none⟩ = some (.string t0)) (by kernel_rfl) ?_ (fun hHeld => ?_)
  · first | (with_reducible exact hS6) | exact hS5
  refine wpAnyH_take (i := 0) (oi := { dst := some 40, op := Op.move (Operand.tmp 0), type := 27, pos := "session.go:29", after := #[], guard := none }) (v := (.pointer (some ⟨d, 0, none⟩))) rfl (by kernel_rfl) (by kernel_rfl) (by kernel_rfl) (fun _ _ _ h => h) (Or.inl ⟨by rfl, ?_⟩) (by assumption) ?_
  · intro w hSw
    try dsimp only at hSw
    go_simp
  try simp only [Act.put, List.setIfInBounds_toArray, List.set_cons_zero, List.set_cons_succ]
  refine wpAnyH_take (i := 1) (oi := { dst := some 41, op := Op.nilCheck (Operand.tmp 40), type := 0, pos := "session.go:29", after := #[{ on := 0, ground := Ground.data }], guard := none }) (v := (.pointer (some ⟨d, 0, none⟩))) rfl (by kernel_rfl) (by kernel_rfl) (by kernel_rfl) (fun _ _ _ h => h) (Or.inl ⟨by rfl, ?_⟩) (by assumption) ?_
  · intro w hSw
    try dsimp only at hSw
    go_simp
  try simp only [Act.put, List.setIfInBounds_toArray, List.set_cons_zero, List.set_cons_succ]
  refine wpAnyH_take (i := 2) (oi := { dst := some 42, op := Op.fieldAddr 73 (Operand.tmp 41) 4, type := 0, pos := "session.go:29", after := #[{ on := 1, ground := Ground.data }], guard := none }) (v := (.pointer (some ⟨d, 4, none⟩))) rfl (by kernel_rfl) (by kernel_rfl) (by kernel_rfl) (fun _ _ _ h => h) (Or.inl ⟨by rfl, ?_⟩) (by assumption) ?_
  · intro w hSw
    try dsimp only at hSw
    go_simp
  try simp only [Act.put, List.setIfInBounds_toArray, List.set_cons_zero, List.set_cons_succ]
  refine wpAnyH_take (i := 3) (oi := { dst := some 43, op := Op.load 71 (Operand.tmp 42), type := 71, pos := "session.go:29", after := #[{ on := 2, ground := Ground.data }], guard := none }) (v := (.map (some mb))) rfl (by kernel_rfl) (by kernel_rfl) (by kernel_rfl) (fun _ _ _ h => h) (Or.inl ⟨by rfl, ?_⟩) (by assumption) ?_
  · intro w hSw
    try dsimp only at hSw
    go_simp
  try simp only [Act.put, List.setIfInBounds_toArray, List.set_cons_zero, List.set_cons_succ]
  refine wpAnyH_take (i := 4) (oi := { dst := some 44, op := Op.move (Operand.tmp 10), type := 39, pos := "session.go:29", after := #[], guard := none }) (v := (.slice (some ⟨g, 0, none⟩) L cl)) rfl (by kernel_rfl) (by kernel_rfl) (by kernel_rfl) (fun _ _ _ h => h) (Or.inl ⟨by rfl, ?_⟩) (by assumption) ?_
  · intro w hSw
    try dsimp only at hSw
    go_simp
  try simp only [Act.put, List.setIfInBounds_toArray, List.set_cons_zero, List.set_cons_succ]
  refine wpAnyH_take (i := 5) (oi := { dst := some 45, op := Op.indexAddr 39 (Operand.tmp 44) (Operand.const (Value.int IntKind.i64 0)), type := 0, pos := "session.go:29", after := #[{ on := 4, ground := Ground.data }], guard := none }) (v := (.pointer (some ⟨g, 0, none⟩))) rfl (by kernel_rfl) (by kernel_rfl) (by kernel_rfl) (fun _ _ _ h => h) (Or.inl ⟨by rfl, ?_⟩) (by assumption) ?_
  · intro w hSw
    try dsimp only at hSw
    go_simp
  try simp only [Act.put, List.setIfInBounds_toArray, List.set_cons_zero, List.set_cons_succ]
  refine wpAnyH_take (i := 6) (oi := { dst := some 46, op := Op.load 9 (Operand.tmp 45), type := 9, pos := "session.go:29", after := #[{ on := 5, ground := Ground.data }], guard := none }) (v := (.string t0)) rfl (by kernel_rfl) (by kernel_rfl) (by kernel_rfl) (fun _ _ _ h => h) (Or.inl ⟨by rfl, ?_⟩) (by assumption) ?_
  · intro w hSw
    try dsimp only at hSw
    go_simp
  try simp only [Act.put, List.setIfInBounds_toArray, List.set_cons_zero, List.set_cons_succ]
  refine wpAnyH_ready (rs := [7]) (by kernel_rfl) (by simp) ?_
  refine AllReadyH.cons (o := { dst := none, op := Op.call { callee := Callee.builtin Builtin.delete, args := #[Operand.tmp 43, Operand.tmp 46], argTypes := #[71, 9] }, type := 0, pos := "session.go:29", after := #[{ on := 3, ground := Ground.data }, { on := 6, ground := Ground.data }], guard := none }) rfl (fun K hK => ?_) AllReadyH.nil
  go_simp
  refine hK.out _ _ ?_ (fun hHeld => ?_)
  · first | (with_reducible exact hS6) | exact hS5
  clear hK K
  try simp only [Act.put, List.setIfInBounds_toArray, List.set_cons_zero, List.set_cons_succ]
  refine wpAnyH_done (by kernel_rfl) ?_ _
  refine NoPanic.normal ?_
  have HG3 : Hid (Gr (mineD d ub mb vg) w w6) := hid ((Gr.of_below HBV.out (mineD d ub mb vg)).trans HF.out.2 (fun _ _ hx => hx))
  have HI4 := hid HF.out.1
  clear HF hS5 hS6 hrun HV HBV HB3 HI3 hHeld
  have hnt := nextToken_any w6 (HT.out.below (HB0.out.trans (HG3.out.below HM0.out HB0.out.size))) d ub mb us vd dr n _ vg gs HI4.out hdr (by omega)
  rw [← HTK.out] at hnt
  have HNT := hid hnt
  clear hnt
  go_wp2_with fail
  refine HNT.out.mono ?_
  rintro e w5 ⟨rfl, hb5⟩
  have hI5 := HI4.out.below hb5
  have HB5 := hid (HG3.out.trans (Gr.of_below hb5 (mineD d ub mb vg)) (fun _ _ hx => hx))
  have HI5 := hid hI5
  clear hb5 HNT HI4 hI5 HG3
  go_wp2_with fail
  obtain ⟨V, hV⟩ : ∃ V, V = w5.drew := ⟨_, rfl⟩
  have hIV : IdAt V d ub mb us vd dr n (dropS ss t0) vg gs := by rw [hV]; exact HI5.out.below (Below.drew (Below.refl _ _))
  have HBV : Hid (Gr (mineD d ub mb vg) w V) := by rw [hV]; exact hid (HB5.out.trans (Gr.of_below (Below.drew (Below.refl _ _)) (mineD d ub mb vg)) (fun _ _ hx => hx))
  obtain ⟨k, D, hm, hkn, hM⟩ := hIV.map
  have hsz : tk1.size ≤ maxLen := by rw [HTK.out, tokOf_size]; decide
  obtain ⟨w6, hrun, hm6, hG6⟩ := hm.update keyS Tryz.underlying71 (by simp only [maxLen]; omega) (keyT tk1 hsz) (sesR_mk (u : Int) (n : Int))
  obtain ⟨es, hes⟩ := hm.isMap
  have hM6 := hM.put ⟨es, hes⟩ ⟨tk1, u, n⟩ (fun x hx => by rw [HTK.out]; exact HNEW.out x hx)
  obtain ⟨c0, c1, c2, c3, c4, c5⟩ := hIV.cells
  have hdm := hIV.apart.2.1
  have hS5 : V.cell? ⟨d, 4, none⟩ = some (.map (some mb)) ∧ V.cell? ⟨d, 3, none⟩ = some (.int .i64 (n : Int)) := ⟨c4, c3⟩
  have hd6 : w6.heap[d]? = V.heap[d]? := hG6.block d hIV.ltd (fun e => hdm (by simpa using e))
  have hS6 : w6.cell? ⟨d, 4, none⟩ = some (.map (some mb)) ∧ w6.cell? ⟨d, 3, none⟩ = some (.int .i64 (n : Int)) := ⟨by simpa only [World.cell?, hd6] using c4, by simpa only [World.cell?, hd6] using c3⟩
  have hf6 : w6.frozen? ⟨d, 3, none⟩ = false := by simpa only [World.frozen?, hd6] using (hIV.warm 3).1
  have HF := hid (login_fin hIV ⟨tk1, u, n⟩ hm6 hkn hM6 rfl hG6 rfl)
  have c36 := hS6.2
  clear hIV hm hM hes hm6 hM6 hd6 hG6 c0 c1 c2 c3 c4 c5 hdm
  have HV := hid hV
  subst hV
  refine wp_region_noPanic ?_
  refine wp_region_held_drew (S := fun X => X.cell? ⟨d, 4, none⟩ = some (.map (some mb)) ∧ X.cell? ⟨d, 3, none⟩ = some (.int .i64 (n : Int))) (by kernel_rfl) ?_ (fun hHeld => ?_)
  · first | (with_reducible exact hS6) | exact hS5
  refine wpAnyH_take (i := 0) (oi := { dst := some 49, op := Op.move (Operand.tmp 0), type := 27, pos := "session.go:32", after := #[], guard := none }) (v := (.pointer (some ⟨d, 0, none⟩))) rfl (by kernel_rfl) (by kernel_rfl) (by kernel_rfl) (fun _ _ _ h => h) (Or.inl ⟨by rfl, ?_⟩) (by assumption) ?_
  · intro w hSw
    try dsimp only at hSw
    go_simp
  try simp only [Act.put, List.setIfInBounds_toArray, List.set_cons_zero, List.set_cons_succ]
  refine wpAnyH_take (i := 1) (oi := { dst := some 50, op := Op.nilCheck (Operand.tmp 49), type := 0, pos := "session.go:32", after := #[{ on := 0, ground := Ground.data }], guard := none }) (v := (.pointer (some ⟨d, 0, none⟩))) rfl (by kernel_rfl) (by kernel_rfl) (by kernel_rfl) (fun _ _ _ h => h) (Or.inl ⟨by rfl, ?_⟩) (by assumption) ?_
  · intro w hSw
    try dsimp only at hSw
    go_simp
  try simp only [Act.put, List.setIfInBounds_toArray, List.set_cons_zero, List.set_cons_succ]
  refine wpAnyH_take (i := 2) (oi := { dst := some 51, op := Op.fieldAddr 73 (Operand.tmp 50) 4, type := 0, pos := "session.go:32", after := #[{ on := 1, ground := Ground.data }], guard := none }) (v := (.pointer (some ⟨d, 4, none⟩))) rfl (by kernel_rfl) (by kernel_rfl) (by kernel_rfl) (fun _ _ _ h => h) (Or.inl ⟨by rfl, ?_⟩) (by assumption) ?_
  · intro w hSw
    try dsimp only at hSw
    go_simp
  try simp only [Act.put, List.setIfInBounds_toArray, List.set_cons_zero, List.set_cons_succ]
  refine wpAnyH_take (i := 3) (oi := { dst := some 52, op := Op.load 71 (Operand.tmp 51), type := 71, pos := "session.go:32", after := #[{ on := 2, ground := Ground.data }], guard := none }) (v := (.map (some mb))) rfl (by kernel_rfl) (by kernel_rfl) (by kernel_rfl) (fun _ _ _ h => h) (Or.inl ⟨by rfl, ?_⟩) (by assumption) ?_
  · intro w hSw
    try dsimp only at hSw
    go_simp
  try simp only [Act.put, List.setIfInBounds_toArray, List.set_cons_zero, List.set_cons_succ]
  refine wpAnyH_take (i := 4) (oi := { dst := some 53, op := Op.move (Operand.tmp 6), type := 9, pos := "session.go:32", after := #[], guard := none }) (v := (.string tk1)) rfl (by kernel_rfl) (by kernel_rfl) (by kernel_rfl) (fun _ _ _ h => h) (Or.inl ⟨by rfl, ?_⟩) (by assumption) ?_
  · intro w hSw
    try dsimp only at hSw
    go_simp
  try simp only [Act.put, List.setIfInBounds_toArray, List.set_cons_zero, List.set_cons_succ]
  refine wpAnyH_take (i := 5) (oi := { dst := some 54, op := Op.move (Operand.tmp 7), type := 3, pos := "session.go:32", after := #[], guard := none }) (v := (.int .i64 (u : Int))) rfl (by kernel_rfl) (by kernel_rfl) (by kernel_rfl) (fun _ _ _ h => h) (Or.inl ⟨by rfl, ?_⟩) (by assumption) ?_
  · intro w hSw
    try dsimp only at hSw
    go_simp
  try simp only [Act.put, List.setIfInBounds_toArray, List.set_cons_zero, List.set_cons_succ]
  refine wpAnyH_take (i := 6) (oi := { dst := some 55, op := Op.move (Operand.tmp 0), type := 27, pos := "session.go:32", after := #[], guard := none }) (v := (.pointer (some ⟨d, 0, none⟩))) rfl (by kernel_rfl) (by kernel_rfl) (by kernel_rfl) (fun _ _ _ h => h) (Or.inl ⟨by rfl, ?_⟩) (by assumption) ?_
  · intro w hSw
    try dsimp only at hSw
    go_simp
  try simp only [Act.put, List.setIfInBounds_toArray, List.set_cons_zero, List.set_cons_succ]
  refine wpAnyH_take (i := 7) (oi := { dst := some 56, op := Op.nilCheck (Operand.tmp 55), type := 0, pos := "session.go:32", after := #[{ on := 6, ground := Ground.data }], guard := none }) (v := (.pointer (some ⟨d, 0, none⟩))) rfl (by kernel_rfl) (by kernel_rfl) (by kernel_rfl) (fun _ _ _ h => h) (Or.inl ⟨by rfl, ?_⟩) (by assumption) ?_
  · intro w hSw
    try dsimp only at hSw
    go_simp
  try simp only [Act.put, List.setIfInBounds_toArray, List.set_cons_zero, List.set_cons_succ]
  refine wpAnyH_take (i := 8) (oi := { dst := some 57, op := Op.fieldAddr 73 (Operand.tmp 56) 3, type := 0, pos := "session.go:32", after := #[{ on := 7, ground := Ground.data }], guard := none }) (v := (.pointer (some ⟨d, 3, none⟩))) rfl (by kernel_rfl) (by kernel_rfl) (by kernel_rfl) (fun _ _ _ h => h) (Or.inl ⟨by rfl, ?_⟩) (by assumption) ?_
  · intro w hSw
    try dsimp only at hSw
    go_simp
  try simp only [Act.put, List.setIfInBounds_toArray, List.set_cons_zero, List.set_cons_succ]
  refine wpAnyH_take (i := 9) (oi := { dst := some 58, op := Op.load 3 (Operand.tmp 57), type := 3, pos := "session.go:32", after := #[{ on := 8, ground := Ground.data }], guard := none }) (v := (.int .i64 (n : Int))) rfl (by kernel_rfl) (by kernel_rfl) (by kernel_rfl) (fun _ _ _ h => h) (Or.inl ⟨by rfl, ?_⟩) (by assumption) ?_
  · intro w hSw
    try dsimp only at hSw
    go_simp
  try simp only [Act.put, List.setIfInBounds_toArray, List.set_cons_zero, List.set_cons_succ]
  refine wpAnyH_take (i := 10) (oi := { dst := some 59, op := Op.build 99 #[(0, Operand.tmp 54), (1, Operand.tmp 58)], type := 99, pos := "session.go:32", after := #[{ on := 5, ground := Ground.data }, { on := 9, ground := Ground.data }], guard := none }) (v := (.agg #[.int .i64 (u : Int), .int .i64 (n : Int)])) rfl (by kernel_rfl) (by kernel_rfl) (by kernel_rfl) (fun _ _ _ h => h) (Or.inl ⟨by rfl, ?_⟩) (by assumption) ?_
  · intro w hSw
    try dsimp only at hSw
    go_simp
  try simp only [Act.put, List.setIfInBounds_toArray, List.set_cons_zero, List.set_cons_succ]
  refine wpAnyH_ready (rs := [11]) (by kernel_rfl) (by simp) ?_
  refine AllReadyH.cons (o := { dst := none, op := Op.mapUpdate 71 (Operand.tmp 52) (Operand.tmp 53) (Operand.tmp 59), type := 0, pos := "session.go:32", after := #[{ on := 3, ground := Ground.data }, { on := 4, ground := Ground.data }, { on := 10, ground := Ground.data }, { on := 0, ground := Ground.phase }, { on := 1, ground := Ground.phase }, { on := 2, ground := Ground.phase }, { on := 3, ground := Ground.phase }, { on := 4, ground := Ground.phase }, { on := 5, ground := Ground.phase }, { on := 6, ground := Ground.phase }, { on := 7, ground := Ground.phase }, { on := 8, ground := Ground.phase }, { on := 9, ground := Ground.phase }, { on := 10, ground := Ground.phase }], guard := none }) rfl (fun K hK => ?_) AllReadyH.nil
  go_simp
  refine hK.out _ _ ?_ (fun hHeld => ?_)
  · first | (with_reducible exact hS6) | exact hS5
  clear hK K
  try simp only [Act.put, List.setIfInBounds_toArray, List.set_cons_zero, List.set_cons_succ]
  refine wpAnyH_done (by kernel_rfl) ?_ _
  refine NoPanic.normal ?_
  obtain ⟨Z, hZ⟩ : ∃ Z, Z = w6.setCell ⟨d, 3, none⟩ (.int .i64 ((n : Int) + 1)) := ⟨_, rfl⟩
  rw [← hZ] at HF
  have HZ := hid hZ
  have hft := freshText_any tk1 Z
  have HFT := hid hft
  clear hft hZ hS5 hS6 hrun
  have hnw : (n : Int) ≤ 1099511627776 := by omega
  go_wp2_with fail
  rw [← HZ.out]
  refine HFT.out.mono ?_
  rintro e w7 ⟨rfl, hb7⟩
  have hI7 := HF.out.1.below hb7
  have hG7 : Gr (mineD d ub mb vg) w w7 := ((show Gr (mineD d ub mb vg) w w5.drew from HBV.out).trans HF.out.2 (fun _ _ hx => hx)).trans (Gr.of_below hb7 (mineD d ub mb vg)) (fun _ _ hx => hx)
  rw [HTK.out] at hI7
  have HI7 := hid hI7
  have HG7 := hid hG7
  clear hb7 HFT hI7 hG7
  go_wp2
  go_ret3
  exact ⟨by rw [← HTK.out]; rfl, HI7.out, HG7.out⟩
end Go.Proofs.YtplljpodejpbgaaGreatDoor
