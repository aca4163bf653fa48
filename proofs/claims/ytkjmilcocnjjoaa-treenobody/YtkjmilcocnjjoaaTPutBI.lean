/-
  put, at any depth.
-/
import Derived.Test.YtkjmilcocnjjoaaTAsmI
namespace Go.Proofs.Ytkjmilcocnjjoaa.I
open Go.RowKit Tm
set_option linter.unusedVariables false

theorem post_sub {Y : Type} (a : List Y) (f : List (List Y)) (h : a.length = f.length) : a.Sublist (post a f) := by
  induction a generalizing f with
  | nil => simp
  | cons x a ih => cases f with
    | nil => simp at h
    | cons y f => exact ((ih f (by simpa using h)).trans (List.sublist_append_right _ _)).cons_cons x

theorem its_srt {d : Nat} {is : List It} {ks : List (Tr It d)} (hl : ks.length = is.length + 1) (hs : srt keyLt (flat (d + 1) (nodeT is ks))) : srt keyLt is := by
  refine List.Pairwise.sublist ?_ hs
  rw [flat_node]
  cases ks with
  | nil => simp at hl
  | cons c ks => exact (post_sub is (ks.map (flat d)) (by simpa using hl.symm)).trans (List.sublist_append_right _ _)

/-- A list at a place. -/
theorem cut_at {Y : Type} (l : List Y) (i : Nat) (h : i < l.length) : l = l.take i ++ l[i] :: l.drop (i + 1) := by rw [List.getElem_cons_drop, List.take_append_drop]

set_option maxHeartbeats 4000000 in
set_option maxRecDepth 100000 in
theorem put_any (o : Nat) (ho : 2 ≤ o) (ho2 : o ≤ 64) (k : ByteArray) (v : Int) (d : Nat) : ∀ (t : LT d) (w : World) (lo : Nat) (h : At w d t) (h1 : ∀ b, cnt b d t ≤ 1) (hok : okT (o - 1) (2 * o - 1) lo (2 * o - 1) d (er d t)) (hs : srt keyLt (flat d (er d t))),
    Calls Try.prog 34 #[ptr (pT d t), .string k, encI v, .int .i64 o] w fun e w' =>
      ∃ t', e = .returned (.bool (!hasL keyLt k (flat d (er d t)))) ∧ Turn w w' d d t t' ∧ pT d t' = pT d t ∧ flat d (er d t') = putL keyLt k v (flat d (er d t)) ∧ okT (o - 1) (2 * o - 1) lo (2 * o) d (er d t') ∧ (hasL keyLt k (flat d (er d t)) = true → (isT d t').length ≤ 2 * o - 1) := by
  induction d with
  | zero =>
    intro t w lo h h1 hok hs
    obtain ⟨p, vi, is, rfl⟩ := at_leaf h
    rw [er_lf] at hok hs
    obtain ⟨g1, g2⟩ := ok_leaf _ |>.1 hok
    refine (put_leaf o ho ho2 k v p vi is w h h1 g2 hs).mono ?_
    rintro e w' ⟨t', rfl, hT, hp, he⟩
    refine ⟨t', rfl, hT, hp, by rw [he, er_lf]; rfl, ?_, fun hh => ?_⟩
    · rw [he]
      refine (ok_leaf _).2 ⟨?_, ?_⟩
      · rw [put_len]; omega
      · rw [put_len]; split <;> omega
    · have e2 : (isT 0 t').length = (putL keyLt k v is).length := by rw [← er_its, he]; rfl
      rw [e2, put_len]
      rw [er_lf, flat_leaf] at hh
      rw [hh]; simpa using g2
  | succ d ih =>
    intro t w lo h h1 hok hs
    obtain ⟨p, vi, vk, is, ks, rfl⟩ := at_node t
    rw [er_nd] at hok hs
    obtain ⟨g1, g2, g3, g4⟩ := (ok_node _ _).1 hok
    have hks : ks.length = is.length + 1 := by simpa using g3
    obtain ⟨a1, a2, a3, a4⟩ := at_nd.1 h
    have hsi := its_srt (by simpa using hks) hs
    have hf := find_any p vi is k w (node_cell0 a1) a2.sees hsi (by omega)
    have hat := at_le (lt := keyLt) k is
    have hpc := heap_lt a1
    cases hh : hasL keyLt k is with
    | true =>
      obtain ⟨hlt, hltx⟩ := (has_iff k is).1 hh
      obtain ⟨g, cap, rfl, hcap, hgl, hfro, hcell⟩ := row_form a2 (by omega)
      rw [hh] at hf
      have hc2 := (hcell (atL keyLt k is) hlt).2
      -- what comes of it
      have HRES : Hid (∀ w1, Below w.heap.size w w1 → ∃ t', true = hasL keyLt k (flat (d + 1) (nodeT is (ks.map (er d)))) ∧ Turn w (w1.setCell ⟨g, atL keyLt k is * 2 + 1, none⟩ (encI v)) (d + 1) (d + 1) (nd p (.slice (some ⟨g, 0, none⟩) is.length cap) vk is ks) t' ∧ pT (d + 1) t' = p ∧ flat (d + 1) (er (d + 1) t') = putL keyLt k v (flat (d + 1) (nodeT is (ks.map (er d)))) ∧ okT (o - 1) (2 * o - 1) lo (2 * o) (d + 1) (er (d + 1) t') ∧ (isT (d + 1) t').length ≤ 2 * o - 1) := by
        intro w1 hw1
        have t1 := Turn.below h h1 hw1
        have hi := cut_at is (atL keyLt k is) hlt
        have hk1 : atL keyLt k is < ks.length := by omega
        have hk2 : atL keyLt k is + 1 < ks.length := by omega
        have hkk : ks.map (er d) = (ks.take (atL keyLt k is)).map (er d) ++ er d (ks[atL keyLt k is]) :: er d (ks[atL keyLt k is + 1]) :: (ks.drop (atL keyLt k is + 2)).map (er d) := by
          conv => lhs; rw [cut_at ks _ hk1]
          rw [List.map_append, List.map_cons]
          congr 2
          rw [← List.getElem_cons_drop (h := hk2), List.map_cons]
        have hC : (is.take (atL keyLt k is)).length = ((ks.take (atL keyLt k is)).map (er d)).length := by simp; omega
        have hA : (is.take (atL keyLt k is)).length = atL keyLt k (is.take (atL keyLt k is) ++ is[atL keyLt k is] :: is.drop (atL keyLt k is + 1)) := by rw [← hi]; simp; omega
        have hs2 := hs
        rw [hi, hkk] at hs2
        have hh2 : hasL keyLt k (is.take (atL keyLt k is) ++ is[atL keyLt k is] :: is.drop (atL keyLt k is + 1)) = true := by rw [← hi]; exact hh
        have hp2 := here_put totB k v _ _ _ _ _ _ _ hC hA hs2 hh2
        have hp3 := here_has totB k _ _ _ _ _ _ _ hC hA hs2 hh2
        rw [← hkk] at hp2 hp3
        rw [← hi] at hp2 hp3
        have hkey := key_old totB k is hh hlt
        have hlen : (is.take (atL keyLt k is) ++ ((is[atL keyLt k is]).1, v) :: is.drop (atL keyLt k is + 1)).length = is.length := by simp; omega
        refine ⟨_, hp3.symm, t1.trans (val_turn t1.lies t1.one (g := g) (n := is.length) (cap := cap) rfl (atL keyLt k is) hlt v), rfl, ?_, ?_, ?_⟩
        · change flat (d + 1) (nodeT (is.take (atL keyLt k is) ++ ((is[atL keyLt k is]).1, v) :: is.drop (atL keyLt k is + 1)) (ks.map (er d))) = _
          rw [hkey]; exact hp2
        · refine (ok_node _ _).2 ⟨?_, ?_, ?_, g4⟩
          · exact hlen.symm ▸ g1
          · show List.length (is.take (atL keyLt k is) ++ ((is[atL keyLt k is]).1, v) :: is.drop (atL keyLt k is + 1)) ≤ _; rw [hlen]; omega
          · show (ks.map (er d)).length = List.length (is.take (atL keyLt k is) ++ ((is[atL keyLt k is]).1, v) :: is.drop (atL keyLt k is + 1)) + 1; rw [hlen]; exact g3
        · show List.length (is.take (atL keyLt k is) ++ ((is[atL keyLt k is]).1, v) :: is.drop (atL keyLt k is + 1)) ≤ _; rw [hlen]; exact g2
      rw [er_nd]
      generalize hasL keyLt k (flat (d + 1) (nodeT is (ks.map (er d)))) = hx at *
      generalize atL keyLt k is = at' at *
      have hg63 : cap ≤ 9223372036854775807 := (items_max a2 rfl).2.2
      have p0 := node_cell0 a1
      clear hcell hltx hh ih hs hsi hok g1 g2 g3 g4 a1 a2 a3 a4 h h1
      simp only [encI] at *
      unfold ptr at *
      change Calls _ _ #[.pointer (some ⟨p, 0, none⟩), _, _, _] _ _
      go_enter Try.func34, Try.ntmps34
      go_wp2_with fail
      refine hf.mono ?_
      rintro e w' ⟨rfl, hw'⟩
      have c0 : w'.cell? ⟨p, 0, none⟩ = some (.slice (some ⟨g, 0, none⟩) is.length cap) := (hw'.cell (p := ⟨p, 0, none⟩) hpc).trans p0
      have c1 := (hw'.cell (p := ⟨g, at' * 2 + 1, none⟩) hgl).trans hc2
      have c2 : w'.frozen? ⟨g, at' * 2 + 1, none⟩ = false := (hw'.frozen (p := ⟨g, at' * 2 + 1, none⟩) hgl).trans (hfro _)
      have HW := hid hw'
      clear hc2 hfro hf hw' p0
      go_wp2
      go_ret
      obtain ⟨t', q1, q2, q3, q4, q5, q6⟩ := HRES.out _ HW.out
      exact ⟨t', by rw [← q1]; rfl, q2, q3, q4, q5, fun _ => q6⟩
    | false =>
      have hk1 : atL keyLt k is < ks.length := by omega
      have hkk := cut_at ks _ hk1
      have hi : is = is.take (atL keyLt k is) ++ is.drop (atL keyLt k is) := (List.take_append_drop _ _).symm
      obtain ⟨gk, ck, rfl, hck, hgk, hfk, hcellk⟩ := rowP_form a3 (by simp; omega)
      have hkat := hcellk (atL keyLt k is) (by simpa using hk1)
      rw [List.getElem_map] at hkat
      have hck3 := (kids_max a3 rfl).2.2
      simp only [List.length_map] at *
      generalize hc : ks[atL keyLt k is] = c at hkk hkat
      clear hc hcellk hfk
      obtain ⟨nk, hnk⟩ : ∃ nk, nk = ks.length := ⟨_, rfl⟩
      rw [← hnk] at hck a1 a3 h h1
      simp only [← hnk]
      rw [← hnk] at hk1
      rw [hh] at hf
      have hC : (is.take (atL keyLt k is)).length = ((ks.take (atL keyLt k is)).map (er d)).length := by simp; omega
      have hA : (is.take (atL keyLt k is)).length = atL keyLt k (is.take (atL keyLt k is) ++ is.drop (atL keyLt k is)) := by rw [← hi]; simp; omega
      have hme : ks.map (er d) = (ks.take (atL keyLt k is)).map (er d) ++ er d c :: (ks.drop (atL keyLt k is + 1)).map (er d) := by
        conv => lhs; rw [hkk]
        simp
      have hs2 := hs
      rw [hi, hme] at hs2
      have hh2 : hasL keyLt k (is.take (atL keyLt k is) ++ is.drop (atL keyLt k is)) = false := by rw [← hi]; exact hh
      have hph := node_has totB k _ _ _ _ _ hC hA hs2 hh2
      have hpp := fun c' hc' => node_put totB k v _ _ _ _ _ c' hC hA hs2 hh2 hc'
      have hsc := (node_ctx totB k _ _ _ _ _ hC hA hs2 hh2).2.2
      rw [← hme, ← hi] at hph
      have hpp2 : ∀ c', flat d c' = putL keyLt k v (flat d (er d c)) → flat (d + 1) (nodeT is ((ks.take (atL keyLt k is)).map (er d) ++ c' :: (ks.drop (atL keyLt k is + 1)).map (er d))) = putL keyLt k v (flat (d + 1) (nodeT is (ks.map (er d)))) := fun c' hc' => by
        have := hpp c' hc'
        rw [← hme, ← hi] at this
        exact this
      clear hpp
      have hcok := g4 (er d c) (by rw [hme]; simp)
      have hAl : (ks.take (atL keyLt k is)).length = atL keyLt k is := by simp; omega
      have hDl : is.length = (ks.take (atL keyLt k is)).length + (ks.drop (atL keyLt k is + 1)).length := by simp; omega
      have hil : (is.take (atL keyLt k is)).length = ((ks.take (atL keyLt k is)).map (er d)).length := hC
      rw [er_nd]
      rw [hph]
      generalize hflat : flat (d + 1) (nodeT is (ks.map (er d))) = FL at hpp2
      rw [hkk] at h h1
      rw [hkk]
      have g4A : ∀ x ∈ (ks.take (atL keyLt k is)).map (er d), okT (o - 1) (2 * o - 1) (o - 1) (2 * o - 1) d x := fun x hx => g4 x (by rw [hme]; exact List.mem_append.2 (.inl hx))
      have g4D : ∀ x ∈ (ks.drop (atL keyLt k is + 1)).map (er d), okT (o - 1) (2 * o - 1) (o - 1) (2 * o - 1) d x := fun x hx => g4 x (by rw [hme]; exact List.mem_append.2 (.inr (List.mem_cons_of_mem _ hx)))
      have hlenk : (ks.take (atL keyLt k is) ++ c :: ks.drop (atL keyLt k is + 1)).length = is.length + 1 := by rw [← hkk]; exact hks
      generalize ks.take (atL keyLt k is) = A at *
      generalize ks.drop (atL keyLt k is + 1) = D at *
      have hat2 : Hid (atL keyLt k is ≤ is.length) := hid hat
      generalize atL keyLt k is = at' at *
      clear hh hph hA hs2 hh2 hme hkk hi hs hsi hok hflat
      -- the tree with the node below in another state
      have HCH : Hid (∀ w1 w2 c', Below w.heap.size w w1 → Turn w1 w2 d d c c' → pT d c' = pT d c → Turn w w2 (d + 1) (d + 1) (nd p vi (.slice (some ⟨gk, 0, none⟩) nk ck) is (A ++ c :: D)) (nd p vi (.slice (some ⟨gk, 0, none⟩) nk ck) is (A ++ c' :: D))) :=
        hid (fun w1 w2 c' hb1 ht hp => (Turn.below h h1 hb1).trans (child_turn (Turn.below h h1 hb1).lies h1 ht hp))
      have HOK : Hid (∀ c', okT (o - 1) (2 * o - 1) (o - 1) (2 * o) d (er d c') → (isT d c').length ≤ 2 * o - 1 → okT (o - 1) (2 * o - 1) lo (2 * o) (d + 1) (nodeT is ((A ++ c' :: D).map (er d)))) :=
        hid (fun c' hc' hl => by
          have hce : okT (o - 1) (2 * o - 1) (o - 1) (2 * o - 1) d (er d c') := ok_mono hc' (by rw [er_its]; have := (ok_its hc').1; rw [er_its] at this; exact this) (by rw [er_its]; exact hl)
          refine (ok_node _ _).2 ⟨g1, by omega, by simp at hlenk ⊢; omega, fun x hx => ?_⟩
          rw [List.map_append, List.map_cons] at hx
          rcases List.mem_append.1 hx with hx | hx
          · exact g4A x hx
          · rcases List.mem_cons.1 hx with rfl | hx
            · exact hce
            · exact g4D x hx)
      have hAtc := (at_nd.1 h).2.2.2 c (by simp)
      have hih := fun w1 (hb1 : Below w.heap.size w w1) => ih c w1 (o - 1) (at_gr (F := fun _ => False) (Gr.of_below hb1 _) hAtc (fun _ _ => id)) (fun b => by
        have := h1 b
        rw [cnt_nd' (qs := []), sumK_app, sumK_cons] at this
        omega) hcok hsc
      generalize hasL keyLt k (flat d (er d c)) = hb at *
      have HIH := hid hih
      have HG : Hid (∀ x, x ∈ A.map (er d) ∨ x ∈ D.map (er d) → okT (o - 1) (2 * o - 1) (o - 1) (2 * o - 1) d x) := hid (fun x hx => hx.elim (g4A x) (g4D x))
      have HH := hid h
      have H1 := hid h1
      have p0 := node_cell0 a1
      have p1 := node_cell1 a1
      have hkn : 0 < nk := by omega
      obtain ⟨aoi, capi, hvi, _, _⟩ := ownsRow_shape a2
      have HAL := hid hAl
      have HDL := hid hDl
      have HLK := hid hlenk
      have HIL := hid hil
      clear ih hih hAtc h h1 a1 a2 a3 a4 g3 g4 g4A g4D hAl hDl hlenk hil hC hks hnk
      subst hvi
      simp only [encI] at hf ⊢
      unfold ptr at *
      change Calls _ _ #[.pointer (some ⟨p, 0, none⟩), _, _, _] _ _
      go_enter Try.func34, Try.ntmps34
      go_wp2_with fail
      refine hf.mono ?_
      rintro e w1 ⟨rfl, hw1⟩
      have c1 : w1.cell? ⟨p, 1, none⟩ = some (.slice (some ⟨gk, 0, none⟩) nk ck) := (hw1.cell (p := ⟨p, 1, none⟩) hpc).trans p1
      have c2 : w1.cell? ⟨gk, at', none⟩ = some (.pointer (some ⟨pT d c, 0, none⟩)) := (hw1.cell (p := ⟨gk, at', none⟩) hgk).trans hkat
      have HW := hid hw1
      clear hf hw1 p0 p1 hkat
      go_wp2_with fail
      refine (leaf_no p nk ck _ w1 hkn c1).mono ?_
      rintro e w1' ⟨rfl, hw1'⟩
      subst hw1'
      have hcall := HIH.out w1' HW.out
      simp only [encI] at hcall
      go_wp2_with fail
      refine hcall.mono ?_
      rintro e w2 ⟨c', rfl, hT, hpc', hfl, hok', hle⟩
      have hCH := HCH.out w1' w2 c' HW.out hT hpc'
      obtain ⟨b1, b2, b3, b4⟩ := at_nd.1 hCH.lies
      have d1 : w2.cell? ⟨p, 1, none⟩ = some (.slice (some ⟨gk, 0, none⟩) nk ck) := node_cell1 b1
      have d3 : ((A ++ c' :: D).map (pT d)).map ptr = (A.map (pT d)).map ptr ++ ptr (pT d c') :: (D.map (pT d)).map ptr := by simp
      have d2 := b3.cells (g := gk) rfl at' (ptr (pT d c')) (by rw [d3, ← HAL.out, List.getElem?_append_right (by simp)]; simp)
      rw [addr_add, Nat.zero_add, hpc'] at d2
      unfold ptr at d2
      have HT := hid hCH
      have HFL := hid (hpp2 (er d c') hfl)
      have HO' := hid hok'
      have HLE := hid hle
      have hc0 := node_cell0 (at_blk hT.lies)
      rw [hpc'] at hc0
      have hci : (isT d c').length ≤ 2 * o := by have := (ok_its hok').2; rw [er_its] at this; exact this
      have hcr := at_row hT.lies
      have HPC := hid hpc'
      clear hcall hT hfl hok' hle hpp2 b1 b2 b3 b4 d3 hCH c1 c2 hpc'
      cases hb with
      | true =>
        go_wp2
        go_ret
        have hfin : flat (d + 1) (er (d + 1) (nd p (.slice aoi is.length capi) (.slice (some ⟨gk, 0, none⟩) nk ck) is (A ++ c' :: D))) = putL keyLt k v FL := by
          rw [er_nd, List.map_append, List.map_cons]
          exact HFL.out
        have hle' : (isT d c').length ≤ 2 * o - 1 := HLE.out (by trivial)
        first
          | exact ⟨_, rfl, HT.out, rfl, hfin, HOK.out c' HO'.out hle', fun _ => g2⟩
          | exact ⟨rfl, _, HT.out, rfl, hfin, HOK.out c' HO'.out hle', fun _ => g2⟩
          | exact ⟨rfl, _, HT.out, rfl, hfin, HOK.out c' HO'.out hle', g2⟩
          | exact ⟨_, HT.out, rfl, hfin, HOK.out c' HO'.out hle', g2⟩
      | false =>
        obtain ⟨aoc, capc, hvc, _, _⟩ := ownsRow_shape hcr
        rw [hvc] at hc0
        by_cases hover : 2 * o ≤ (isT d c').length
        · have hov := over_yes (pT d c) (isT d c').length capc o aoc w2 ho ho2 hover hc0
          have hpart := part_any p at' o _ _ is A D c' w2 HT.out.lies HT.out.one HO'.out HAL.out HDL.out (by omega) (by omega) (by omega)
          unfold ptr at hov hpart
          clear hvc hcr
          go_wp2_with fail
          refine hov.mono ?_
          rintro e w3 ⟨rfl, hw3⟩
          subst hw3
          go_wp2_with fail
          refine hpart.mono ?_
          rintro e w4 ⟨rfl, vi', vk', cl, cr, hT4, hcl, hcr⟩
          have HT4 := hid hT4
          have HCL := hid hcl
          have HCR := hid hcr
          clear hT4 hcl hcr hpart hov
          go_wp2
          go_ret
          have hlo : o < (itsT d (er d c')).length := by rw [er_its]; omega
          have hpf := part_flat o (er d c') HO'.out hlo
          have hpo := part_ok o (er d c') HO'.out hlo (a := o - 1) (b := 2 * o - 1) (c := o - 1) (e := 2 * o - 1) (by omega) (by omega) (by rw [er_its]; omega) (by rw [er_its]; omega)
          have hie : (itsT d (er d c'))[o] = (isT d c')[o] := by simp only [er_its]
          rw [hie] at hpf
          refine ⟨_, rfl, HT.out.trans HT4.out, rfl, ?_, ?_, fun hx => by cases hx⟩
          · rw [er_nd, List.map_append, List.map_cons, List.map_cons, HCL.out, HCR.out]
            rw [← one_pair (is.take at') (is.drop at') (A.map (er d)) (D.map (er d)) HIL.out (isT d c')[o] _ _ (er d c') hpf, List.take_append_drop]
            exact HFL.out
          · rw [er_nd, List.map_append, List.map_cons, List.map_cons, HCL.out, HCR.out]
            have hli : (is.take at' ++ (isT d c')[o] :: is.drop at').length = is.length + 1 := by simp; have := hat2.out; omega
            refine (ok_node _ _).2 ⟨by rw [hli]; omega, by rw [hli]; omega, by rw [hli]; have := HDL.out; simp; omega, fun x hx => ?_⟩
            rcases List.mem_append.1 hx with hx | hx
            · exact HG.out x (.inl hx)
            · rcases List.mem_cons.1 hx with rfl | hx
              · exact hpo.1
              · rcases List.mem_cons.1 hx with rfl | hx
                · exact hpo.2
                · exact HG.out x (.inr hx)
        · have hov := over_no (pT d c) (isT d c').length capc o aoc w2 ho ho2 (by omega) hc0
          unfold ptr at hov
          clear hvc hcr
          go_wp2_with fail
          refine hov.mono ?_
          rintro e w3 ⟨rfl, hw3⟩
          subst hw3
          go_wp2
          go_ret
          refine ⟨_, rfl, HT.out, rfl, ?_, HOK.out c' HO'.out (by omega), fun hx => by cases hx⟩
          rw [er_nd, List.map_append, List.map_cons]
          exact HFL.out

end Go.Proofs.Ytkjmilcocnjjoaa.I
