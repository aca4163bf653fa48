/-
  The law PortPlays: the loop over the script.
-/
import Derived.Test.YtahibklmcooanaaOPlayC
import Derived.Deep.RegionHeld3
import Derived.Deep.CutBlock
import Derived.Deep.DeepCutAuto
namespace Go.Proofs.Ytahibklmcooanaa
open Go.RowKit
set_option linter.unusedVariables false
set_option linter.unusedSimpArgs false

/-- Behind a call of the script: its box b. -/
def Mid (w0 wx : World) (p n b9 b12 : Nat) (room : Int) (cv : Value) (b : Nat) (vN vB : Value) : Prop :=
  ∃ bx ql v m, PE (fun k => (k = b9 ∨ k = b12) ∨ k = b) w0 wx p n b9 b12 room cv bx ql v m vN vB ∧ wx.heap[b]? = some (.cells #[.int .i64 room, vN] 29 (0, 0)) ∧ b ≠ b9
theorem mid_after {w0 w6 : World} {p n b9 b12 : Nat} {room : Int} {cv : Value} {bx : Nat} {ql : List (Nat × Nat)} {v : Nat → Rg} {m : Nat → List Msg} {vN vB : Value} (h : PE (fun k => k = b9 ∨ k = b12) w0 w6 p n b9 b12 room cv bx ql v m vN vB) :
    Mid w0 (w6.alloc (.cells #[.int .i64 room, vN] 29)) p n b9 b12 room cv w6.heap.size vN vB := by
  have l9 := (Array.getElem?_eq_some_iff.1 h.box).1
  exact ⟨bx, ql, v, m, h.wide, heap_alloc_new w6 _, by omega⟩
theorem mid_before {w0 wr w6 : World} {p n b9 b12 : Nat} {room : Int} {cv : Value} {bx : Nat} {ql : List (Nat × Nat)} {v : Nat → Rg} {m : Nat → List Msg} {vN vB : Value} (h : PE (fun k => (k = b9 ∨ k = b12) ∨ k = wr.heap.size) w0 w6 p n b9 b12 room cv bx ql v m vN vB) (h9 : b9 < wr.heap.size) (h12 : b12 < wr.heap.size) {x y : Value} (hc : w6.heap[wr.heap.size]? = some (.cells #[x, y] 29 (0, 0))) :
    Mid w0 ((w6.setCell ⟨wr.heap.size, 0, none⟩ (.int .i64 room)).setCell ⟨wr.heap.size, 1, none⟩ vN) p n b9 b12 room cv wr.heap.size vN vB := by
  obtain ⟨h1, h2⟩ := h.put wr.heap.size (Or.inr rfl) (by omega) hc (.int .i64 room) vN vB (Or.inr ⟨by omega, rfl⟩)
  exact ⟨bx, ql, v, m, h1, h2, by omega⟩

set_option maxRecDepth 20000 in
set_option maxHeartbeats 8000000 in
theorem plays_good (n : Nat) (room : Int) (vo : Value) (ops : List OpL) (w : World) (n1 : 1 ≤ n) (n2 : n ≤ 16) (r1 : 1 ≤ room) (r2 : room ≤ 64) (hV : SeesO w vo ops) (hlen : ops.length * 8 ≤ 140737488351232) :
    Calls Try.prog 3 #[.int .i64 n, .int .i64 room, vo] w fun e w' => e = .returned (.bool true) ∧ Below w.heap.size w w' := by
  have hN := hid (new_any n room w n1 n2 r1 r2)
  have hPN := neqP_some
  have hPE := eqlP_some_nil
  have hPZ := neqP_nil
  obtain ⟨ob, ooff, oa, oc, rfl, hoc, hoa, hocell, hosu⟩ := hV
  have HOC := hid hocell
  have HOS := hid hosu
  have HOA := hid hoa
  have hle : ops.length ≤ 4611686018427387904 := by omega
  clear hocell hosu hoa
  go_enter Try.func3, Try.ntmps3
  go_wp2_with fail
  refine hN.out.mono ?_
  clear hN
  rintro e w1 ⟨p, m, rfl, ⟨bx, ql, v, hn, hP1, hB1, hF1⟩, hm⟩
  have hR := rnew_any n room (mine ql v) w1 n1 n2 r1 r2 (fun k hk hmn => by have := hP1.lt k (Or.inr (Or.inr (Or.inr hmn))); omega)
  unfold poV at hR
  have HR := hid hR
  have HP1 := hid hP1
  have HB1 := hid hB1
  have HF1 := hid hF1
  have HN := hid hn
  have HM := hid hm
  clear hR hP1 hB1 hF1 hn hm
  go_wp2_with fail
  refine HR.out.mono ?_
  clear HR
  rintro e w2 ⟨vL, rfl, hL2, hB2⟩
  obtain ⟨vb, vf, vc, rfl⟩ := lsees_shape hL2
  obtain ⟨W3, hW3⟩ : ∃ W3, W3 = (w2.alloc (.cells #[.int .i64 room, .slice (some ⟨vb, vf, none⟩) n vc] 29)).alloc (.cells #[.int .i64 0, .slice none 0 0] 29) := ⟨_, rfl⟩
  have b3 : Below w2.heap.size w2 W3 := by rw [hW3]; exact (below_alloc w2 _).alloc (by simp) _
  have b13 : Below w1.heap.size w1 W3 := hB2.trans (b3.mono hB2.size)
  have hb9 : w.heap.size ≤ w2.heap.size := Nat.le_trans HB1.out.size hB2.size
  have q9 : W3.heap[w2.heap.size]? = some (.cells #[.int .i64 room, .slice (some ⟨vb, vf, none⟩) n vc] 29 (0, 0)) := by
    rw [hW3, Below.heap_alloc _ _ _ (by simp)]; exact heap_alloc_new w2 _
  have q12 : W3.heap[w2.heap.size + 1]? = some (.cells #[.int .i64 0, .slice none 0 0] 29 (0, 0)) := by
    have := heap_alloc_new (w2.alloc (.cells #[.int .i64 room, .slice (some ⟨vb, vf, none⟩) n vc] 29)) (.cells #[.int .i64 0, .slice none 0 0] 29)
    rw [hW3]
    simpa using this
  have H0 : Hid (PSt w W3 p n w2.heap.size (w2.heap.size + 1) room (.pointer none)) := by
    refine hid ⟨bx, ql, v, m, vb, vf, vc, HN.out, HP1.out.below b13, HB1.out.trans (b13.mono HB1.out.size), HF1.out, q9, ?_, Or.inl ⟨rfl, 0, .slice none 0 0, q12⟩, Or.inl rfl, Or.inr rfl, fun k hk => ?_, by omega⟩
    · refine (hL2.keep fun k hk hf => ⟨b3.block k hk, fun hg => ?_⟩).ext fun i hi => (HM.out i hi).symm
      rcases hg with hg | hg | hg
      · exact hf hg
      · omega
      · omega
    · have l9 := (Array.getElem?_eq_some_iff.1 q9).1
      have l12 := (Array.getElem?_eq_some_iff.1 q12).1
      rcases hk with rfl | rfl
      · exact ⟨l9, hb9, _, _, q9⟩
      · exact ⟨l12, by omega, _, _, q12⟩
  have HW3 := hid hW3
  obtain ⟨b9, hb9e⟩ : ∃ b9, b9 = w2.heap.size := ⟨_, rfl⟩
  have HB9 := hid hb9e
  rw [← hb9e] at H0 hb9
  clear hL2 hB2 hW3 b3 b13 HP1 HB1 HF1 HN HM hb9e q9 q12
  go_wp2
  rw [← HW3.out, ← HB9.out]
  clear HW3 HB9
  go_loopw [13, 11] (fun ix cv wr => ∃ k : Nat, k ≤ ops.length ∧ ix = .int .i64 k ∧ Hid (PSt w wr p n b9 (b9 + 1) room cv)) (fun ix _ _ => ops.length - (intOf ix).toNat)
  case atStart => exact ⟨0, Nat.zero_le _, rfl, H0⟩
  case round =>
    clear H0
    obtain ⟨k, hk, rfl, HI⟩ := hrel
    obtain ⟨bx, ql, v, m, vb, vf, vc, hE⟩ := HI.out
    by_cases hlt : k < ops.length
    · have hltI : (k : Int) < ops.length := by omega
      obtain rfl := HOA.out (by intro h; rw [h] at hlt; simp at hlt)
      have hoc0 := OpC.of HOC.out k hlt
      have hsu := HOS.out _ (List.getElem_mem hlt)
      obtain ⟨o, ho⟩ : ∃ o, o = ops[k] := ⟨_, rfl⟩
      rw [← ho] at hoc0 hsu
      have HO0 := hid hoc0
      have hkc : k < oc := by omega
      obtain ⟨kind, too, who, vs, vi, vown, text, op, ss, si, sown⟩ := o
      have l9 := (Array.getElem?_eq_some_iff.1 hE.box).1
      have l12 := (hE.gt _ (Or.inr rfl)).1
      have hEA : PE (fun k => k = b9 ∨ k = b9 + 1) w wr.drew p n b9 (b9 + 1) room u11 bx ql v m (.slice (some ⟨vb, vf, none⟩) n vc) (.slice (some ⟨vb, vf, none⟩) n vc) := hE.below (Below.drew (Below.refl _ _))
      have hEB : PE (fun k => (k = b9 ∨ k = b9 + 1) ∨ k = wr.heap.size) w (wr.alloc (.cells #[.int .i64 0, .slice none 0 0] 29)).drew p n b9 (b9 + 1) room u11 bx ql v m (.slice (some ⟨vb, vf, none⟩) n vc) (.slice (some ⟨vb, vf, none⟩) n vc) := hE.wide.below (Below.drew (Below.refl _ _))
      have HDA := hid (does_PE hEA ⟨kind, too, who, vs, vi, vown, text, op, ss, si, sown⟩ hsu)
      have HDB := hid (does_PE hEB ⟨kind, too, who, vs, vi, vown, text, op, ss, si, sown⟩ hsu)
      have qB : (wr.alloc (.cells #[.int .i64 0, .slice none 0 0] 29)).drew.heap[wr.heap.size]? = some (.cells #[.int .i64 0, .slice none 0 0] 29 (0, 0)) := heap_alloc_new wr _
      have HQB := hid qB
      simp only at HDA HDB
      have HS : Hid (∀ (G : Nat → Prop) (X : World) (bx : Nat) (ql : List (Nat × Nat)) (v : Nat → Rg) (m : Nat → List Msg) (vN : Value), PE G w X p n b9 (b9 + 1) room u11 bx ql v m vN (.slice (some ⟨vb, vf, none⟩) n vc) → (X.cell? ⟨b9, 0, none⟩ = some (.int .i64 room) ∧ X.cell? ⟨b9, 1, none⟩ = some (.slice (some ⟨vb, vf, none⟩) n vc) ∧ X.cell? ⟨ob, ooff + k * 8, none⟩ = some (.int .i64 kind) ∧ X.cell? ⟨ob, ooff + k * 8 + 1, none⟩ = some (.int .i64 too) ∧ X.cell? ⟨ob, ooff + k * 8 + 2, none⟩ = some (.int .i64 who) ∧ X.cell? ⟨ob, ooff + k * 8 + 3, none⟩ = some vs ∧ X.cell? ⟨ob, ooff + k * 8 + 4, none⟩ = some vi ∧ X.cell? ⟨ob, ooff + k * 8 + 5, none⟩ = some vown ∧ X.cell? ⟨ob, ooff + k * 8 + 6, none⟩ = some (.string text) ∧ X.cell? ⟨ob, ooff + k * 8 + 7, none⟩ = some (.bool op))) := hid fun G X bx ql v m vN h => by
        obtain ⟨y0, y1, _, _⟩ := h.cells
        exact ⟨y0, y1, HO0.out.bel h.bel⟩
      have HSA := hid (HS.out _ _ _ _ _ _ _ hEA)
      have HSB := hid (HS.out _ _ _ _ _ _ _ hEB)
      have HSI := hid (HS.out _ _ _ _ _ _ _ hE)
      have hb9n : b9 < wr.heap.size := l9
      clear hoc0 hsu ho hEA hEB hE qB HI l9
      go_wp2_with fail
      go_cut [14, 15] (fun p14 b15 wx => ∃ b xb xf xc, p14 = .pointer (some ⟨b, 0, none⟩) ∧ b15 = .bool true ∧ Hid (Mid w wx p n b9 (b9 + 1) room u11 b (.slice (some ⟨xb, xf, none⟩) n xc) (.slice (some ⟨vb, vf, none⟩) n vc)))
      case first =>
        go_region_held3 (fun X => X.cell? ⟨b9, 0, none⟩ = some (.int .i64 room) ∧ X.cell? ⟨b9, 1, none⟩ = some (.slice (some ⟨vb, vf, none⟩) n vc) ∧ X.cell? ⟨ob, ooff + k * 8, none⟩ = some (.int .i64 kind) ∧ X.cell? ⟨ob, ooff + k * 8 + 1, none⟩ = some (.int .i64 too) ∧ X.cell? ⟨ob, ooff + k * 8 + 2, none⟩ = some (.int .i64 who) ∧ X.cell? ⟨ob, ooff + k * 8 + 3, none⟩ = some vs ∧ X.cell? ⟨ob, ooff + k * 8 + 4, none⟩ = some vi ∧ X.cell? ⟨ob, ooff + k * 8 + 5, none⟩ = some vown ∧ X.cell? ⟨ob, ooff + k * 8 + 6, none⟩ = some (.string text) ∧ X.cell? ⟨ob, ooff + k * 8 + 7, none⟩ = some (.bool op))
          (first | (with_reducible exact HSA.out) | (with_reducible exact HSB.out) | (with_reducible exact HS6.out) | (with_reducible exact HS7.out) | (with_reducible exact HS8.out))
          (first
            | (go_at_call 11
               first
                 | (with_reducible refine (HDA.out).mono ?_
                    clear HDB
                    rintro e' w6 ⟨xb, xf, xc, rfl, ⟨v6, m6, hE6⟩, hz6, _⟩
                    have HS6 := hid (HS.out _ _ _ _ _ _ _ hE6)
                    have HS7 := hid (HS.out _ _ _ _ _ _ _ (hE6.wide (c := #[.int .i64 room, .slice (some ⟨xb, xf, none⟩) n xc])))
                    have HS8 := hid (HS.out _ _ _ _ _ _ _ (hE6.wide (c := #[.int .i64 0, .slice none 0 0])))
                    have HE6 := hid (mid_after hE6)
                    clear hE6 hz6)
                 | (with_reducible refine (HDB.out).mono ?_
                    clear HDA
                    rintro e' w6 ⟨xb, xf, xc, rfl, ⟨v6, m6, hE6⟩, hz6, hT6⟩
                    have hc6 := (hT6 _ _ _ HQB.out).trans HQB.out
                    have hM6 := mid_before hE6 hb9n l12 hc6
                    have HS6 := hid (HS.out _ _ _ _ _ _ _ hE6)
                    have HS7 := hid (by obtain ⟨_, _, _, _, h7, _, _⟩ := hM6; exact HS.out _ _ _ _ _ _ _ h7)
                    have HE6 := hid hM6
                    have z0 : w6.cell? ⟨wr.heap.size, 0, none⟩ = some (.int .i64 0) := by simp [World.cell?, hc6]
                    have z1 : w6.cell? ⟨wr.heap.size, 1, none⟩ = some (.slice none 0 0) := by simp [World.cell?, hc6]
                    have y0 : w6.frozen? ⟨wr.heap.size, 0, none⟩ = false := by simp [World.frozen?, hc6]
                    have y1 : w6.frozen? ⟨wr.heap.size, 1, none⟩ = false := by simp [World.frozen?, hc6]
                    clear hE6 hz6 hT6 hM6 hc6)))
        all_goals
          go_wp2
          go_meet
          case rel => exact ⟨_, _, _, _, rfl, rfl, HE6⟩
      case rest =>
        obtain ⟨b, xb, xf, xc, rfl, rfl, HX⟩ := hcut
        obtain ⟨bx6, ql6, v6, m6, hE6, hcb, hbn⟩ := HX.out
        obtain ⟨x0, x1, y0, y1⟩ := hE6.cells
        have d0 : wc.cell? ⟨b, 0, none⟩ = some (.int .i64 room) := by simp [World.cell?, hcb]
        have d1 : wc.cell? ⟨b, 1, none⟩ = some (.slice (some ⟨xb, xf, none⟩) n xc) := by simp [World.cell?, hcb]
        obtain ⟨hE7, _⟩ := hE6.put b9 (Or.inl (Or.inl rfl)) hE6.ne hE6.box (.int .i64 room) (.slice (some ⟨xb, xf, none⟩) n xc) (.slice (some ⟨xb, xf, none⟩) n xc) (Or.inl ⟨rfl, rfl, rfl⟩)
        obtain ⟨w7, hw7⟩ : ∃ w7, w7 = (wc.setCell ⟨b9, 0, none⟩ (.int .i64 room)).setCell ⟨b9, 1, none⟩ (.slice (some ⟨xb, xf, none⟩) n xc) := ⟨_, rfl⟩
        rw [← hw7] at hE7
        have HE7 := hid (hE7.less (G' := fun k => k = b9 ∨ k = b9 + 1) (fun k hk => Or.inl hk) (Or.inl rfl) (Or.inr rfl))
        have HW7 := hid hw7
        clear HDA HDB HQB HS HSA HSB HSI hE6 hE7 hcb hw7 HX hb9n l12
        iterate 29 (first | go_values | go_skip | go_guarded | go_step | go_upon | go_back | go_simp)
        rw [← HW7.out]
        clear HW7 x0 x1 y0 y1 d0 d1 hbn

        go_cut [11] (fun x11 wx => ∃ cv2, x11 = cv2 ∧ Hid (PSt w wx p n b9 (b9 + 1) room cv2))
        case first =>
          have hE := HE7.out
          obtain ⟨o0, _⟩ := HO0.out.bel hE.bel
          simp only at o0
          by_cases hk3 : kind = 3
          · subst hk3
            have hCp := copy_any p bx6 room ql6 v6 m6 w7 hE.po
            rw [hE.len] at hCp
            have HCp := hid hCp
            clear hE hCp
            go_wp2_with fail
            refine HCp.out.mono ?_
            clear HCp o0
            rintro e w8 ⟨pc, mc, rfl, hN8, hm8⟩
            obtain ⟨_, _, _, _, _, hb8, _⟩ := id hN8
            have hE8 := HE7.out.below hb8
            obtain ⟨x0, x1, _, _⟩ := hE8.cells
            obtain ⟨r12, v12, hc12⟩ := hE8.cp.box
            have z0 : w8.cell? ⟨b9 + 1, 0, none⟩ = some (.int .i64 r12) := by simp [World.cell?, hc12]
            have z1 : w8.cell? ⟨b9 + 1, 1, none⟩ = some v12 := by simp [World.cell?, hc12]
            have y0 : w8.frozen? ⟨b9 + 1, 0, none⟩ = false := by simp [World.frozen?, hc12]
            have y1 : w8.frozen? ⟨b9 + 1, 1, none⟩ = false := by simp [World.frozen?, hc12]
            have HE9 := hid (HE7.out.copy hN8 hm8)
            clear hE8 hN8 hm8 hb8 hc12
            go_wp2
            go_meet
            case rel => exact ⟨_, rfl, hid ⟨_, _, _, _, _, _, _, HE9.out⟩⟩
          · have hk3' : (kind == 3) = false := by simpa using hk3
            clear hE
            go_wp2
            go_meet
            case rel => exact ⟨_, rfl, hid ⟨_, _, _, _, _, _, _, HE7.out⟩⟩
        case rest =>
          obtain ⟨cv2, rfl, HY⟩ := hcut
          clear HE7
          go_wp2
          go_loopw [16] (fun kv wr => ∃ c : Int, kv = .int .i64 c ∧ Hid (-1 ≤ c ∧ c ≤ n + 1 ∧ PSt w wr p n b9 (b9 + 1) room u11)) (fun kv _ => (n + 1 - intOf kv).toNat)
          case atStart => exact ⟨-1, rfl, hid ⟨by omega, by omega, HY.out⟩⟩
          case round =>
            obtain ⟨c, rfl, HI⟩ := hrel
            obtain ⟨hc1, hc2, bx2, ql2, v2, m2, xb, xf, xc, hE2⟩ := HI.out
            have hcw : IntKind.i64.wrap (c + 1) = c + 1 := by rw [IntKind.wrap_i64]; omega
            have HZ : Hid (∀ X : World, Below wr.heap.size wr X → PSt w X p n b9 (b9 + 1) room u11) := hid fun X hb => HI.out.2.2.below hb
            by_cases hgo : c ≤ n
            · obtain ⟨x0, x1, _, _⟩ := hE2.cells
              obtain ⟨A, hA⟩ : ∃ A, A = lenV n m2 c := ⟨_, rfl⟩
              have hAA : (A != A) = false := by simp
              have HL1 : Hid (∀ X : World, Below wr.heap.size wr X → Calls Try.prog 13 #[.pointer (some ⟨p, 0, none⟩), .int .i64 c] X fun e w' => e = .returned (.int .i64 A) ∧ w' = X) := hid fun X hb => by have h := len_all (hE2.po.below hb) c; rw [hE2.len, ← hA] at h; exact h
              have HR1 : Hid (∀ X : World, Below wr.heap.size wr X → Calls Try.prog 14 #[.agg #[.int .i64 room, .slice (some ⟨xb, xf, none⟩) n xc], .int .i64 c] X fun e w' => e = .returned (.int .i64 A) ∧ Below X.heap.size X w') := hid fun X hb => by have h := rlen_all (room := room) (hE2.ls.below hb) c; rw [← hA] at h; exact h
              rcases hE2.cp with ⟨hcv, r0, vO, hb12⟩ | ⟨pc, bc, qc, vc2, mc, vO, hcv, hlc, hPc, hac, hb12, hLo⟩
              · subst hcv
                have HK : Hid (∀ X X2 : World, Below X.heap.size X X2 → (Below wr.heap.size wr X ∧ X.cell? ⟨b9, 0, none⟩ = some (.int .i64 room) ∧ X.cell? ⟨b9, 1, none⟩ = some (.slice (some ⟨xb, xf, none⟩) n xc)) → (Below wr.heap.size wr X2 ∧ X2.cell? ⟨b9, 0, none⟩ = some (.int .i64 room) ∧ X2.cell? ⟨b9, 1, none⟩ = some (.slice (some ⟨xb, xf, none⟩) n xc))) := hid fun X X2 hb hh => by
                  obtain ⟨hB, h0, h1⟩ := hh
                  exact ⟨hB.trans (hb.mono hB.size), (hb.cell (p := ⟨b9, 0, none⟩) (World.block_lt_of_cell? X _ h0)).trans h0, (hb.cell (p := ⟨b9, 1, none⟩) (World.block_lt_of_cell? X _ h1)).trans h1⟩
                have HSA : Hid (Below wr.heap.size wr wr.drew ∧ wr.drew.cell? ⟨b9, 0, none⟩ = some (.int .i64 room) ∧ wr.drew.cell? ⟨b9, 1, none⟩ = some (.slice (some ⟨xb, xf, none⟩) n xc)) := hid ⟨Below.drew (Below.refl _ _), x0, x1⟩
                clear hE2 HI x0 x1 hA hb12
                go_wp2_with fail
                refine wp_region_noPanic ?_
                refine wp_region_held_drew (S := fun X => Below wr.heap.size wr X ∧ X.cell? ⟨b9, 0, none⟩ = some (.int .i64 room) ∧ X.cell? ⟨b9, 1, none⟩ = some (.slice (some ⟨xb, xf, none⟩) n xc)) (by kernel_rfl) ?_ (fun hHeld => ?_)
                · first | (with_reducible exact HSA.out) | (with_reducible exact hS4)
                refine wpAnyH_take (i := 0) (oi := { dst := some 77, op := Op.move (Operand.tmp 7), type := 23, pos := "law.go:82", after := #[], guard := none }) (v := (.pointer (some ⟨p, 0, none⟩))) rfl (by kernel_rfl) (by kernel_rfl) (by kernel_rfl) (fun _ _ _ h => h) (Or.inl ⟨by rfl, ?_⟩) (by assumption) ?_
                · intro w hSw
                  try dsimp only at hSw
                  go_simp
                try simp only [Act.put, List.setIfInBounds_toArray, List.set_cons_zero, List.set_cons_succ]
                refine wpAnyH_take (i := 1) (oi := { dst := some 78, op := Op.move (Operand.tmp 16), type := 3, pos := "law.go:82", after := #[], guard := none }) (v := (.int .i64 c)) rfl (by kernel_rfl) (by kernel_rfl) (by kernel_rfl) (fun _ _ _ h => h) (Or.inl ⟨by rfl, ?_⟩) (by assumption) ?_
                · intro w hSw
                  try dsimp only at hSw
                  go_simp
                try simp only [Act.put, List.setIfInBounds_toArray, List.set_cons_zero, List.set_cons_succ]
                refine wpAnyH_take (i := 3) (oi := { dst := some 80, op := Op.load 29 (Operand.tmp 9), type := 29, pos := "law.go:82", after := #[], guard := none }) (v := (.agg #[.int .i64 room, .slice (some ⟨xb, xf, none⟩) n xc])) rfl (by kernel_rfl) (by kernel_rfl) (by kernel_rfl) (fun _ _ _ h => h) (Or.inl ⟨by rfl, ?_⟩) (by assumption) ?_
                · intro w hSw
                  try dsimp only at hSw
                  obtain ⟨_, hs1, hs2⟩ := hSw
                  go_simp
                try simp only [Act.put, List.setIfInBounds_toArray, List.set_cons_zero, List.set_cons_succ]
                refine wpAnyH_take (i := 4) (oi := { dst := some 81, op := Op.move (Operand.tmp 16), type := 3, pos := "law.go:82", after := #[], guard := none }) (v := (.int .i64 c)) rfl (by kernel_rfl) (by kernel_rfl) (by kernel_rfl) (fun _ _ _ h => h) (Or.inl ⟨by rfl, ?_⟩) (by assumption) ?_
                · intro w hSw
                  try dsimp only at hSw
                  go_simp
                try simp only [Act.put, List.setIfInBounds_toArray, List.set_cons_zero, List.set_cons_succ]
                refine wpAnyH_ready (rs := [2]) (by kernel_rfl) (by simp) ?_
                refine AllReadyH.cons (o := { dst := some 79, op := Op.call { callee := Callee.value (Operand.func 13), args := #[Operand.tmp 77, Operand.tmp 78], argTypes := #[23, 3] }, type := 3, pos := "law.go:82", after := #[{ on := 0, ground := Ground.data }, { on := 1, ground := Ground.data }], guard := none }) rfl (fun K hK => ?_) AllReadyH.nil
                go_simp
                refine (HL1.out _ HSA.out.1).mono ?_
                clear HL1
                rintro e' w3 ⟨rfl, hw3⟩
                subst hw3
                try go_wp2_with fail
                refine hK.out _ _ ?_ (fun hHeld => ?_)
                · first | (with_reducible exact HSA.out) | (with_reducible exact hS4)
                clear hK K
                try simp only [Act.put, List.setIfInBounds_toArray, List.set_cons_zero, List.set_cons_succ]
                refine wpAnyH_ready (rs := [5]) (by kernel_rfl) (by simp) ?_
                refine AllReadyH.cons (o := { dst := some 82, op := Op.call { callee := Callee.value (Operand.func 14), args := #[Operand.tmp 80, Operand.tmp 81], argTypes := #[29, 3] }, type := 3, pos := "law.go:82", after := #[{ on := 3, ground := Ground.data }, { on := 4, ground := Ground.data }, { on := 2, ground := Ground.chain }], guard := none }) rfl (fun K hK => ?_) AllReadyH.nil
                go_simp
                refine (HR1.out _ HSA.out.1).mono ?_
                clear HR1
                rintro e' w4 ⟨rfl, hB4⟩
                have hS4 := HK.out _ _ hB4 HSA.out
                try go_wp2_with fail
                refine hK.out _ _ ?_ (fun hHeld => ?_)
                · first | (with_reducible exact HSA.out) | (with_reducible exact hS4)
                clear hK K
                try simp only [Act.put, List.setIfInBounds_toArray, List.set_cons_zero, List.set_cons_succ]
                refine wpAnyH_take (i := 6) (oi := { dst := some 83, op := Op.binOp BinOp.neq 3 (Operand.tmp 79) (Operand.tmp 82) 3, type := 4, pos := "law.go:82", after := #[{ on := 2, ground := Ground.data }, { on := 5, ground := Ground.data }], guard := none }) (v := (.bool false)) rfl (by kernel_rfl) (by kernel_rfl) (by kernel_rfl) (fun _ _ _ h => h) (Or.inl ⟨by rfl, ?_⟩) (by assumption) ?_
                · intro w hSw
                  try dsimp only at hSw
                  go_simp
                try simp only [Act.put, List.setIfInBounds_toArray, List.set_cons_zero, List.set_cons_succ]
                refine wpAnyH_take (i := 7) (oi := { dst := some 84, op := Op.move (Operand.tmp 83), type := 4, pos := "law.go:82", after := #[{ on := 6, ground := Ground.data }, { on := 5, ground := Ground.chain }], guard := none }) (v := (.bool false)) rfl (by kernel_rfl) (by kernel_rfl) (by kernel_rfl) (fun _ _ _ h => h) (Or.inl ⟨by rfl, ?_⟩) (by assumption) ?_
                · intro w hSw
                  try dsimp only at hSw
                  go_simp
                try simp only [Act.put, List.setIfInBounds_toArray, List.set_cons_zero, List.set_cons_succ]
                refine wpAnyH_take (i := 8) (oi := { dst := some 85, op := Op.move (Operand.tmp 11), type := 23, pos := "law.go:82", after := #[{ on := 7, ground := Ground.guard }], guard := some (7, false) }) (v := (.pointer none)) rfl (by kernel_rfl) (by kernel_rfl) (by kernel_rfl) (fun _ _ _ h => h) (Or.inl ⟨by rfl, ?_⟩) (by assumption) ?_
                · intro w hSw
                  try dsimp only at hSw
                  go_simp
                try simp only [Act.put, List.setIfInBounds_toArray, List.set_cons_zero, List.set_cons_succ]
                refine wpAnyH_take (i := 9) (oi := { dst := some 86, op := Op.binOp BinOp.neq 23 (Operand.tmp 85) (Operand.const (Value.pointer none)) 23, type := 4, pos := "law.go:82", after := #[{ on := 8, ground := Ground.data }, { on := 7, ground := Ground.guard }], guard := some (7, false) }) (v := (.bool false)) rfl (by kernel_rfl) (by kernel_rfl) (by kernel_rfl) (fun _ _ _ h => h) (Or.inl ⟨by rfl, ?_⟩) (by assumption) ?_
                · intro w hSw
                  try dsimp only at hSw
                  go_simp
                try simp only [Act.put, List.setIfInBounds_toArray, List.set_cons_zero, List.set_cons_succ]
                refine wpAnyH_take (i := 10) (oi := { dst := some 87, op := Op.move (Operand.tmp 86), type := 4, pos := "law.go:82", after := #[{ on := 9, ground := Ground.data }, { on := 7, ground := Ground.chain }, { on := 7, ground := Ground.guard }], guard := some (7, false) }) (v := (.bool false)) rfl (by kernel_rfl) (by kernel_rfl) (by kernel_rfl) (fun _ _ _ h => h) (Or.inl ⟨by rfl, ?_⟩) (by assumption) ?_
                · intro w hSw
                  try dsimp only at hSw
                  go_simp
                try simp only [Act.put, List.setIfInBounds_toArray, List.set_cons_zero, List.set_cons_succ]
                refine wpAnyH_take (i := 11) (oi := { dst := some 88, op := Op.move (Operand.tmp 11), type := 23, pos := "law.go:82", after := #[{ on := 10, ground := Ground.guard }], guard := some (10, true) }) (v := undef) rfl (by kernel_rfl) (by kernel_rfl) (by kernel_rfl) (fun _ _ _ h => h) (Or.inr ⟨by rfl, rfl⟩) (by assumption) ?_
                try simp only [Act.put, List.setIfInBounds_toArray, List.set_cons_zero, List.set_cons_succ]
                refine wpAnyH_take (i := 12) (oi := { dst := some 89, op := Op.move (Operand.tmp 16), type := 3, pos := "law.go:82", after := #[{ on := 10, ground := Ground.guard }], guard := some (10, true) }) (v := undef) rfl (by kernel_rfl) (by kernel_rfl) (by kernel_rfl) (fun _ _ _ h => h) (Or.inr ⟨by rfl, rfl⟩) (by assumption) ?_
                try simp only [Act.put, List.setIfInBounds_toArray, List.set_cons_zero, List.set_cons_succ]
                refine wpAnyH_take (i := 13) (oi := { dst := some 90, op := Op.call { callee := Callee.value (Operand.func 13), args := #[Operand.tmp 88, Operand.tmp 89], argTypes := #[23, 3] }, type := 3, pos := "law.go:82", after := #[{ on := 11, ground := Ground.data }, { on := 12, ground := Ground.data }, { on := 10, ground := Ground.chain }, { on := 10, ground := Ground.guard }], guard := some (10, true) }) (v := undef) rfl (by kernel_rfl) (by kernel_rfl) (by kernel_rfl) (fun _ _ _ h => h) (Or.inr ⟨by rfl, rfl⟩) (by assumption) ?_
                try simp only [Act.put, List.setIfInBounds_toArray, List.set_cons_zero, List.set_cons_succ]
                refine wpAnyH_take (i := 14) (oi := { dst := some 91, op := Op.load 29 (Operand.tmp 12), type := 29, pos := "law.go:82", after := #[{ on := 10, ground := Ground.guard }], guard := some (10, true) }) (v := undef) rfl (by kernel_rfl) (by kernel_rfl) (by kernel_rfl) (fun _ _ _ h => h) (Or.inr ⟨by rfl, rfl⟩) (by assumption) ?_
                try simp only [Act.put, List.setIfInBounds_toArray, List.set_cons_zero, List.set_cons_succ]
                refine wpAnyH_take (i := 15) (oi := { dst := some 92, op := Op.move (Operand.tmp 16), type := 3, pos := "law.go:82", after := #[{ on := 10, ground := Ground.guard }], guard := some (10, true) }) (v := undef) rfl (by kernel_rfl) (by kernel_rfl) (by kernel_rfl) (fun _ _ _ h => h) (Or.inr ⟨by rfl, rfl⟩) (by assumption) ?_
                try simp only [Act.put, List.setIfInBounds_toArray, List.set_cons_zero, List.set_cons_succ]
                refine wpAnyH_take (i := 16) (oi := { dst := some 93, op := Op.call { callee := Callee.value (Operand.func 14), args := #[Operand.tmp 91, Operand.tmp 92], argTypes := #[29, 3] }, type := 3, pos := "law.go:82", after := #[{ on := 14, ground := Ground.data }, { on := 15, ground := Ground.data }, { on := 13, ground := Ground.chain }, { on := 10, ground := Ground.guard }], guard := some (10, true) }) (v := undef) rfl (by kernel_rfl) (by kernel_rfl) (by kernel_rfl) (fun _ _ _ h => h) (Or.inr ⟨by rfl, rfl⟩) (by assumption) ?_
                try simp only [Act.put, List.setIfInBounds_toArray, List.set_cons_zero, List.set_cons_succ]
                refine wpAnyH_take (i := 17) (oi := { dst := some 94, op := Op.binOp BinOp.neq 3 (Operand.tmp 90) (Operand.tmp 93) 3, type := 4, pos := "law.go:82", after := #[{ on := 13, ground := Ground.data }, { on := 16, ground := Ground.data }, { on := 10, ground := Ground.guard }], guard := some (10, true) }) (v := undef) rfl (by kernel_rfl) (by kernel_rfl) (by kernel_rfl) (fun _ _ _ h => h) (Or.inr ⟨by rfl, rfl⟩) (by assumption) ?_
                try simp only [Act.put, List.setIfInBounds_toArray, List.set_cons_zero, List.set_cons_succ]
                refine wpAnyH_take (i := 18) (oi := { dst := some 95, op := Op.pick (Operand.tmp 87) (Operand.tmp 94) (Operand.const (Value.bool false)), type := 4, pos := "law.go:82", after := #[{ on := 10, ground := Ground.data }, { on := 17, ground := Ground.data }, { on := 7, ground := Ground.guard }], guard := some (7, false) }) (v := (.bool false)) rfl (by kernel_rfl) (by kernel_rfl) (by kernel_rfl) (fun _ _ _ h => h) (Or.inl ⟨by rfl, ?_⟩) (by assumption) ?_
                · intro w hSw
                  try dsimp only at hSw
                  go_simp
                try simp only [Act.put, List.setIfInBounds_toArray, List.set_cons_zero, List.set_cons_succ]
                refine wpAnyH_take (i := 19) (oi := { dst := some 96, op := Op.pick (Operand.tmp 84) (Operand.const (Value.bool true)) (Operand.tmp 95), type := 4, pos := "law.go:82", after := #[{ on := 7, ground := Ground.data }, { on := 18, ground := Ground.data }], guard := none }) (v := (.bool false)) rfl (by kernel_rfl) (by kernel_rfl) (by kernel_rfl) (fun _ _ _ h => h) (Or.inl ⟨by rfl, ?_⟩) (by assumption) ?_
                · intro w hSw
                  try dsimp only at hSw
                  go_simp
                try simp only [Act.put, List.setIfInBounds_toArray, List.set_cons_zero, List.set_cons_succ]
                refine wpAnyH_done (by kernel_rfl) ?_ _
                refine NoPanic.normal ?_
                all_goals
                  have HPX := hid (HZ.out _ (And.left (by assumption)))
                  clear HK HSA HZ
                  go_wp2
                  go_roundw
                  case rel => exact ⟨c + 1, rfl, hid ⟨by omega, by omega, HPX.out⟩⟩
                  case measure => simp [intOf]; omega
              · subst hcv
                obtain ⟨ob2, of2, oc2, rfl⟩ := lsees_shape hLo
                have z0 : wr.cell? ⟨b9 + 1, 0, none⟩ = some (.int .i64 room) := by simp [World.cell?, hb12]
                have z1 : wr.cell? ⟨b9 + 1, 1, none⟩ = some (.slice (some ⟨ob2, of2, none⟩) n oc2) := by simp [World.cell?, hb12]
                obtain ⟨D, hD⟩ : ∃ D, D = lenV n mc c := ⟨_, rfl⟩
                have hDD : (D != D) = false := by simp
                have HK : Hid (∀ X X2 : World, Below X.heap.size X X2 → (Below wr.heap.size wr X ∧ X.cell? ⟨b9, 0, none⟩ = some (.int .i64 room) ∧ X.cell? ⟨b9, 1, none⟩ = some (.slice (some ⟨xb, xf, none⟩) n xc) ∧ X.cell? ⟨b9 + 1, 0, none⟩ = some (.int .i64 room) ∧ X.cell? ⟨b9 + 1, 1, none⟩ = some (.slice (some ⟨ob2, of2, none⟩) n oc2)) → (Below wr.heap.size wr X2 ∧ X2.cell? ⟨b9, 0, none⟩ = some (.int .i64 room) ∧ X2.cell? ⟨b9, 1, none⟩ = some (.slice (some ⟨xb, xf, none⟩) n xc) ∧ X2.cell? ⟨b9 + 1, 0, none⟩ = some (.int .i64 room) ∧ X2.cell? ⟨b9 + 1, 1, none⟩ = some (.slice (some ⟨ob2, of2, none⟩) n oc2))) := hid fun X X2 hb hh => by
                  obtain ⟨hB, h0, h1, h2, h3⟩ := hh
                  exact ⟨hB.trans (hb.mono hB.size), (hb.cell (p := ⟨b9, 0, none⟩) (World.block_lt_of_cell? X _ h0)).trans h0, (hb.cell (p := ⟨b9, 1, none⟩) (World.block_lt_of_cell? X _ h1)).trans h1, (hb.cell (p := ⟨b9 + 1, 0, none⟩) (World.block_lt_of_cell? X _ h2)).trans h2, (hb.cell (p := ⟨b9 + 1, 1, none⟩) (World.block_lt_of_cell? X _ h3)).trans h3⟩
                have HSA : Hid (Below wr.heap.size wr wr.drew ∧ wr.drew.cell? ⟨b9, 0, none⟩ = some (.int .i64 room) ∧ wr.drew.cell? ⟨b9, 1, none⟩ = some (.slice (some ⟨xb, xf, none⟩) n xc) ∧ wr.drew.cell? ⟨b9 + 1, 0, none⟩ = some (.int .i64 room) ∧ wr.drew.cell? ⟨b9 + 1, 1, none⟩ = some (.slice (some ⟨ob2, of2, none⟩) n oc2)) := hid ⟨Below.drew (Below.refl _ _), x0, x1, z0, z1⟩
                have HL2 : Hid (∀ X : World, Below wr.heap.size wr X → Calls Try.prog 13 #[.pointer (some ⟨pc, 0, none⟩), .int .i64 c] X fun e w' => e = .returned (.int .i64 D) ∧ w' = X) := hid fun X hb => by have h := len_all (hPc.below hb) c; rw [hlc, ← hD] at h; exact h
                have HR2 : Hid (∀ X : World, Below wr.heap.size wr X → Calls Try.prog 14 #[.agg #[.int .i64 room, .slice (some ⟨ob2, of2, none⟩) n oc2], .int .i64 c] X fun e w' => e = .returned (.int .i64 D) ∧ Below X.heap.size X w') := hid fun X hb => by have h := rlen_all (room := room) (hLo.below hb) c; rw [← hD] at h; exact h
                clear hPc hac hb12 hLo hD hlc
                clear hE2 HI x0 x1 hA z0 z1
                go_wp2_with fail
                go_region_held3 (fun X => Below wr.heap.size wr X ∧ X.cell? ⟨b9, 0, none⟩ = some (.int .i64 room) ∧ X.cell? ⟨b9, 1, none⟩ = some (.slice (some ⟨xb, xf, none⟩) n xc) ∧ X.cell? ⟨b9 + 1, 0, none⟩ = some (.int .i64 room) ∧ X.cell? ⟨b9 + 1, 1, none⟩ = some (.slice (some ⟨ob2, of2, none⟩) n oc2))
                  (first | (with_reducible exact HSA.out) | (with_reducible exact hS4) | (with_reducible exact hS5) | (with_reducible exact HK.out _ _ (by assumption) (by assumption)))
                  (first
                    | (go_at_call 13
                       with_reducible refine (HL1.out _ (And.left (by assumption))).mono ?_
                       clear HL1
                       rintro e' w3 ⟨rfl, hw3⟩
                       subst hw3)
                    | (go_at_call 14
                       with_reducible refine (HR1.out _ (And.left (by assumption))).mono ?_
                       clear HR1
                       rintro e' w4 ⟨rfl, hB4⟩
                       have hS4 := HK.out _ _ hB4 (by assumption))
                    | (go_at_call 13
                       with_reducible refine (HL2.out _ (And.left (by assumption))).mono ?_
                       clear HL2
                       rintro e' w3 ⟨rfl, hw3⟩
                       subst hw3)
                    | (go_at_call 14
                       with_reducible refine (HR2.out _ (And.left (by assumption))).mono ?_
                       clear HR2
                       rintro e' w5 ⟨rfl, hB5⟩
                       have hS5 := HK.out _ _ hB5 (by assumption)))
                all_goals
                  have HPX := hid (HZ.out _ (And.left (by assumption)))
                  clear HK HSA HZ
                  go_wp2
                  go_roundw
                  case rel => exact ⟨c + 1, rfl, hid ⟨by omega, by omega, HPX.out⟩⟩
                  case measure => simp [intOf]; omega
            · have hgo' : ¬ (c ≤ (n : Int)) := hgo
              have HPX := hid HI.out.2.2
              clear HZ HI hE2 HY
              go_wp2
              go_roundw
              case rel => exact ⟨k + 1, by omega, by go_num, HPX⟩
              case measure => simp [intOf]; omega
    · have hltI : ¬ (k : Int) < ops.length := by omega
      have HB := hid hE.bel
      clear hE HI
      go_wp2_with fail
      refine (awake_any _).mono ?_
      rintro e w9 ⟨rfl, hB9⟩
      have HB9 := hid (HB.out.trans (hB9.mono HB.out.size))
      clear hB9
      go_wp2
      go_ret
      exact ⟨rfl, HB9.out⟩
end Go.Proofs.Ytahibklmcooanaa
