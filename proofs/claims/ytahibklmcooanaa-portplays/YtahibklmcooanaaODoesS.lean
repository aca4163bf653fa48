/-
  The law's does: Send on both sides.
-/
import Derived.Test.YtahibklmcooanaaODoesT
namespace Go.Proofs.Ytahibklmcooanaa
open Go.RowKit
set_option linter.unusedVariables false
set_option linter.unusedSimpArgs false

/-- A row of numbers of the call's own, one of them written over. -/
theorem owns_put {w : World} {base : Nat} {ao : Option Addr} {N c k : Nat} {l : List Int} (h : Owns w base (.slice ao N c) l) (hl : l.length = N) (hk : k < N) (y : Int) : ∃ g, ao = some ⟨g, 0, none⟩ ∧ base ≤ g ∧ g < w.heap.size ∧ (∃ z, w.cell? ⟨g, k, none⟩ = some (.int .i64 z)) ∧ w.frozen? ⟨g, k, none⟩ = false ∧ Owns (w.setCell ⟨g, k, none⟩ (.int .i64 y)) base (.slice ao N c) (l.set k y) ∧ w.grownBy (w.setCell ⟨g, k, none⟩ (.int .i64 y)) (some g) := by
  rcases h.2 with ⟨_, hn⟩ | ⟨g, cap, cur, hv, hbase, hg, rest⟩
  · omega
  · simp at hv
    obtain ⟨rfl, _, _⟩ := hv
    have hc := h.cells (g := g) rfl k (.int .i64 (l.getD k 0)) (by simp [List.getD, hl, hk])
    rw [addr_add, Nat.zero_add] at hc
    obtain ⟨h1, h2⟩ := owns_store (k := k) y h hl
    have hfz : w.frozen? ⟨g, k, none⟩ = false := by
      subst hl
      exact World.ownsRow.frozenAt h k
    exact ⟨g, rfl, hbase, (Array.getElem?_eq_some_iff.1 hg).1, ⟨_, hc⟩, hfz, h1, h2⟩

set_option maxRecDepth 20000 in
set_option maxHeartbeats 4000000 in
theorem does_send (G : Nat → Prop) (p bx : Nat) (room : Int) (ql : List (Nat × Nat)) (v : Nat → Rg) (m : Nat → List Msg) (vL : Value) (o : OpL) (w : World) (hP : PoAt w p bx room ql v m) (hL : LSees (fun k => mine ql v k ∨ G k) w vL ql.length m) (hGl : ∀ k, G k → k < w.heap.size) (hsu : ∀ X, Gr (mine ql v) w X → o.su X) (h1 : o.kind = 1) :
    Calls Try.prog 11 #[.pointer (some ⟨p, 0, none⟩), poV room vL, .agg o.row.toArray] w fun e w' => ∃ vL', e = .returned (.tuple #[poV room vL', .bool true]) ∧ DoesR G w w' p bx room ql v vL' := by
  obtain ⟨kind, to, who, vs, vi, vo, text, op, s, i, own⟩ := o
  simp only at h1
  subst h1
  show Calls Try.prog 11 #[.pointer (some ⟨p, 0, none⟩), poV room vL, .agg #[.int .i64 1, .int .i64 to, .int .i64 who, vs, vi, vo, .string text, .bool op]] w fun e w' => ∃ vL', e = .returned (.tuple #[poV room vL', .bool true]) ∧ DoesR G w w' p bx room ql v vL'
  obtain ⟨b, off, cap, hv, _⟩ := id hL
  subst hv
  have HGL := hid hGl
  clear hGl
  have hDW := DAt.new w room (.slice (some ⟨b, off, none⟩) ql.length cap) ⟨1, to, who, vs, vi, vo, text, op, s, i, own⟩
  obtain ⟨W, hW⟩ : ∃ W, W = ((w.alloc (.cells #[.int .i64 room, .slice (some ⟨b, off, none⟩) ql.length cap] 29)).alloc (.cells #[.int .i64 1, .int .i64 to, .int .i64 who, vs, vi, vo, .string text, .bool op] 41)).alloc (.cells #[.int .i64 0, .slice none 0 0] 29) := ⟨_, rfl⟩
  simp only at hDW
  rw [← hW] at hDW
  have hbW : Below w.heap.size w W := by rw [hW]; exact ((below_alloc w _).alloc (by simp) _).alloc (by simp; omega) _
  have hlW := hDW.lt
  have hPW := hP.below hbW
  have hSW : SuAt W vs vi vo s i own := hsu W (Gr.of_below hbW _)
  have HSe := hid (send_any p bx room ql v m who to vs vi vo s i own text op W hPW hSW)
  have cellsOf : ∀ Y, DAt w Y room (.slice (some ⟨b, off, none⟩) ql.length cap) ⟨1, to, who, vs, vi, vo, text, op, s, i, own⟩ → Y.cell? ⟨w.heap.size, 0, none⟩ = some (.int .i64 room) ∧ Y.cell? ⟨w.heap.size, 1, none⟩ = some (.slice (some ⟨b, off, none⟩) ql.length cap) ∧ Y.cell? ⟨w.heap.size + 1, 0, none⟩ = some (.int .i64 1) ∧ Y.cell? ⟨w.heap.size + 1, 1, none⟩ = some (.int .i64 to) ∧ Y.cell? ⟨w.heap.size + 1, 2, none⟩ = some (.int .i64 who) ∧ Y.cell? ⟨w.heap.size + 1, 3, none⟩ = some vs ∧ Y.cell? ⟨w.heap.size + 1, 4, none⟩ = some vi ∧ Y.cell? ⟨w.heap.size + 1, 5, none⟩ = some vo ∧ Y.cell? ⟨w.heap.size + 1, 6, none⟩ = some (.string text) ∧ Y.cell? ⟨w.heap.size + 1, 7, none⟩ = some (.bool op) := fun Y h => by
    have g0 := h.b0
    have g1 := h.b1
    simp only at g1
    refine ⟨?_, ?_, ?_, ?_, ?_, ?_, ?_, ?_, ?_, ?_⟩ <;> simp [World.cell?, g0, g1]
  obtain ⟨k0, k1, e0, e1, e2, e3, e4, e5, e6, e7⟩ := cellsOf W hDW
  have HC := hid cellsOf
  have HW := hid hW
  have HP := hid hP
  have HL := hid hL
  have HDW := hid hDW
  have HBW := hid hbW
  have HSU := hid hsu
  have n16 := hP.n2
  have r64 := hP.r2
  have HLEN := hid (fun j hj => hP.len j hj)
  unfold suV at HSe
  clear hW hP hL hDW hbW hPW hSW hsu cellsOf
  unfold poV
  go_enter Try.func11, Try.ntmps11
  iterate 12 (first | go_values | go_skip | go_guarded | go_step | go_upon | go_back | go_simp)
  rw [← HW.out]
  clear HW
  go_wp2_with fail
  refine HSe.out.mono ?_
  clear HSe k0 k1 e0 e1 e2 e3 e4 e5 e6 e7
  rintro e w1 ⟨u, rfl, hO1, v1, hP1, hG1, hM1⟩
  obtain ⟨ua, uc, hu⟩ : ∃ ua uc, u = .slice ua (sendU ql.length who to s i own op text.size).length uc := by
    obtain ⟨bb, oo, ao, cc, hv, _⟩ := hO1.sees
    exact ⟨ao, cc, hv⟩
  subst hu
  have hnm : ∀ k, w.heap.size ≤ k → ¬ mine ql v k := fun k hk hm => by
    have := HP.out.lt k (Or.inr (Or.inr (Or.inr hm)))
    omega
  have hD1 := HDW.out.keep (Y := w1) fun k h1 h2 => hG1.block k (by omega) (hnm k h1)
  have hGw : Gr (mine ql v) w w1 := (Gr.of_below HBW.out _).trans hG1 (fun k _ hk => hk)
  have hL1 : LSees (fun k => mine ql v1 k ∨ k = w.heap.size + 2 ∨ (W.heap.size ≤ k ∧ k < w1.heap.size) ∨ G k) w1 (.slice (some ⟨b, off, none⟩) ql.length cap) ql.length m := HL.out.keep fun k hk hf => ⟨hGw.block k hk (fun h => hf (Or.inl h)), fun h => by
    rcases h with h | h | h | h
    · rcases hM1 k h with h | h
      · exact hf (Or.inl h)
      · omega
    · omega
    · omega
    · exact hf (Or.inr h)⟩
  have hF1 : ∀ k, w1.heap.size ≤ k → ¬ (mine ql v1 k ∨ k = w.heap.size + 2 ∨ (W.heap.size ≤ k ∧ k < w1.heap.size) ∨ G k) := fun k hk h => by
    rcases h with h | h | h | h
    · have := hP1.lt k (Or.inr (Or.inr (Or.inr h)))
      omega
    · have := hG1.size
      omega
    · omega
    · have := HGL.out k h
      have := hG1.size
      omega
  have HRS := hid (rsend_any room (.slice (some ⟨b, off, none⟩) ql.length cap) ql.length n16 who to vs vi vo s i own text op _ m w1 hL1 (HSU.out w1 hGw) hF1 r64 (fun j hj => HLEN.out j hj))
  unfold poV suV at HRS
  obtain ⟨k0, k1, e0, e1, e2, e3, e4, e5, e6, e7⟩ := HC.out w1 hD1
  have HD1 := hid hD1
  have HP1 := hid hP1
  have HM1 := hid hM1
  have HGw := hid hGw
  have HO1 := hid hO1
  have hs1 := hG1.size
  clear hL1 hF1 HGL hD1 hP1 hM1 hGw hO1 hnm hG1
  have hlen : (sendU ql.length who to s i own op text.size).length ≤ 4611686018427387904 := by
    have h1 := (HSU.out w (Gr.refl _ _)).ls
    simp only at h1
    unfold sendU
    split
    · have := length_lessL s [2 * ((to.toNat : Nat) : Int) + 1]
      unfold lackS
      omega
    · simp
  generalize sendU ql.length who to s i own op text.size = L at *
  generalize errS ql.length who to s i own text.size = E at *
  obtain ⟨N, hN⟩ : ∃ N, L.length = N := ⟨_, rfl⟩
  rw [hN] at HO1 hlen
  go_wp2_with fail
  refine HRS.out.mono ?_
  clear HRS k0 k1 e0 e1 e2 e3 e4 e5 e6 e7
  rintro e w2 ⟨v', u2, rfl, hL2, hO2, hB2⟩
  obtain ⟨u2a, u2c, hu2⟩ : ∃ u2a u2c, u2 = .slice u2a L.length u2c := by
    obtain ⟨bb, oo, ao, cc, hv, _⟩ := hO2.sees
    exact ⟨ao, cc, hv⟩
  obtain ⟨vb, vo', vc, hv'⟩ : ∃ vb vo' vc, v' = .slice (some ⟨vb, vo', none⟩) ql.length vc := by
    obtain ⟨vb, vo', vc, hvv, _⟩ := hL2
    exact ⟨vb, vo', vc, hvv⟩
  subst hu2 hv'
  obtain ⟨W3, hW3⟩ : ∃ W3, W3 = w2.alloc (.cells #[.int .i64 room, .slice (some ⟨vb, vo', none⟩) ql.length vc] 29) := ⟨_, rfl⟩
  have b3 : Below w2.heap.size w2 W3 := by rw [hW3]; exact below_alloc w2 _
  have b13 : Below w1.heap.size w1 W3 := hB2.trans (b3.mono hB2.size)
  have y0 : W3.heap[w2.heap.size]? = some (.cells #[.int .i64 room, .slice (some ⟨vb, vo', none⟩) ql.length vc] 29 (0, 0)) := by rw [hW3]; exact heap_alloc_new w2 _
  have s3 : w2.heap.size < W3.heap.size := by rw [hW3]; simp
  have HSm := hid (same_any _ _ L L W3 (HO1.out.below b13).sees ((hO2.below b3).sees) (by omega) (by omega))
  have HL3 := hid (hL2.below b3)
  have HD3 := hid (HD1.out.below b13)
  have HP3 := hid (HP1.out.below b13)
  have HB13 := hid b13
  have HY := hid y0
  have HW3 := hid hW3
  have hs2 := hB2.size
  rw [hN] at HSm
  clear hL2 hO2 hB2 b3 b13 y0 hW3
  rw [hN]
  go_wp2_with fail
  rw [← HW3.out]
  clear HW3
  refine HSm.out.mono ?_
  clear HSm
  rintro e w4 ⟨rfl, hB4⟩
  have HL4 := hid (HL3.out.below hB4)
  have HD4 := hid (HD3.out.below hB4)
  have HP4 := hid (HP3.out.below hB4)
  have HB14 := hid (HB13.out.trans (hB4.mono HB13.out.size))
  have HY4 := hid ((hB4.block _ s3).trans HY.out)
  have hs4 : w2.heap.size < w4.heap.size := Nat.lt_of_lt_of_le s3 hB4.size
  clear hB4 HL3 HD3 HP3 HB13 HY s3
  go_wp2
  go_loopw [14] (fun ix wr => ∃ k : Nat, k ≤ N ∧ ix = .int .i64 k ∧ ∃ l', l'.length = N ∧ Owns wr W.heap.size (.slice ua N uc) l' ∧ Gr (fun q => (Value.slice ua N uc).ownBlock = some q) w4 wr) (fun ix _ => N - (intOf ix).toNat)
  case atStart => exact ⟨0, Nat.zero_le _, rfl, L, hN, HO1.out.below HB14.out, Gr.refl _ _⟩
  case round =>
    obtain ⟨k, hk, rfl, l', hl', hO, hG⟩ := hrel
    by_cases hkN : k < N
    · have hkI : (k : Int) < N := by omega
      obtain ⟨g, hg, hgb, hgl, ⟨z, hz⟩, hfz, hO', hgr⟩ := owns_put hO hl' hkN (-7)
      have hg1 : g < w1.heap.size := (HO1.out.lt g (by rw [hg]; rfl)).2
      subst hg
      have HF := hid (And.intro hO' (hG.trans (Gr.mk hgr.os hgr.tape hgr.output hgr.size (fun q hq hn => hgr.block q hq (fun e => by cases e; exact hn rfl)) : Gr (fun q => q = g) wr _) (fun q _ hq => by subst hq; rfl)))
      have hll := hl'
      clear hO hG hO' hgr
      go_wp2
      go_roundw
      case rel => exact ⟨k + 1, by omega, by go_num, l'.set k (-7), by rw [List.length_set]; exact hl', HF.out.1, HF.out.2⟩
      case measure => simp [intOf]; omega
    · have hkI : ¬ (k : Int) < N := by omega
      have hub : ∀ q, (Value.slice ua N uc).ownBlock = some q → W.heap.size ≤ q ∧ q < w1.heap.size := fun q hq => HO1.out.lt q hq
      have hDr := HD4.out.keep (Y := wr) fun k h1 h2 => hG.block k (by have := HD4.out.lt; omega) (fun e => by have := (hub k e).1; omega)
      have hPr := HP4.out.gr (w' := wr) fun k hk => hG.block k (HP4.out.lt k hk) (fun e => by
        have hu := (hub k e).1
        rcases hk with h | h | h | h
        · have := HP.out.lt k (Or.inl h); omega
        · have := HP.out.lt k (Or.inr (Or.inl h)); omega
        · have := HP.out.lt k (Or.inr (Or.inr (Or.inl h))); omega
        · obtain ⟨c, ty, h1, h2⟩ := HP4.out.mine_ty h
          obtain ⟨cur, hc⟩ := ownsRow_ty (HO1.out.below HB14.out) e
          rw [hc] at h1
          simp at h1
          rcases h2 with h2 | h2 <;> rw [h2] at h1 <;> exact absurd h1.2 (by decide))
      have hLr := HL4.out.keep (F' := fun k => mine ql v1 k ∨ k = w.heap.size + 2 ∨ G k) (w' := wr) fun k hk hf => ⟨hG.block k hk (fun e => hf (Or.inr (Or.inr (Or.inl (hub k e))))), fun h => hf (by rcases h with h | h | h; exact Or.inl h; exact Or.inr (Or.inl h); exact Or.inr (Or.inr (Or.inr h)))⟩
      have hGr : Gr (fun k => mine ql v k ∨ w.heap.size ≤ k) w wr :=
        ((HGw.out.mono (fun k _ h => Or.inl h)).trans (Gr.of_below HB14.out (fun _ => False)) (fun k _ h => h.elim)).trans hG (fun k _ h => Or.inr (by have := (hub k h).1; omega))
      have hy := (hG.block w2.heap.size hs4 (fun e => by have := (hub _ e).2; omega)).trans HY4.out
      have y0 : wr.cell? ⟨w2.heap.size, 0, none⟩ = some (.int .i64 room) := by simp [World.cell?, hy]
      have y1 : wr.cell? ⟨w2.heap.size, 1, none⟩ = some (.slice (some ⟨vb, vo', none⟩) ql.length vc) := by simp [World.cell?, hy]
      have g2 := hDr.b2
      have z2 : wr.cell? ⟨w.heap.size + 1 + 1, 0, none⟩ = some (.int .i64 0) := by simp [World.cell?, g2]
      have z3 : wr.cell? ⟨w.heap.size + 1 + 1, 1, none⟩ = some (.slice none 0 0) := by simp [World.cell?, g2]
      have f2 : wr.frozen? ⟨w.heap.size + 1 + 1, 0, none⟩ = false := by simp [World.frozen?, g2]
      have f3 : wr.frozen? ⟨w.heap.size + 1 + 1, 1, none⟩ = false := by simp [World.frozen?, g2]
      obtain ⟨a0, a1, a2⟩ := does_fin HP.out HBW.out hlW hDr hPr hGr HM1.out hLr _ rfl
      have HA := hid a2
      clear a2 hDr hPr hLr hGr hy g2 hub hO hG
      go_wp2
      refine bodyPost_ret (v := .tuple #[.agg #[.int .i64 room, .slice (some ⟨vb, vo', none⟩) ql.length vc], .bool true]) (by simp [results, Try.results11, go_sem, a0, a1]) rfl ?_
      exact ⟨_, rfl, HA.out⟩
end Go.Proofs.Ytahibklmcooanaa
