/-
  The law's does: Take on both sides.
-/
import Derived.Test.YtahibklmcooanaaODoes
import Derived.Deep.RegionHeld3
namespace Go.Proofs.Ytahibklmcooanaa
open Go.RowKit
set_option linter.unusedVariables false
set_option linter.unusedSimpArgs false

theorem DAt.keep {w X Y : World} {room : Int} {vL : Value} {o : OpL} (h : DAt w X room vL o) (hk : ∀ k, w.heap.size ≤ k → k ≤ w.heap.size + 2 → Y.heap[k]? = X.heap[k]?) : DAt w Y room vL o :=
  ⟨(hk _ (by omega) (by omega)).trans h.b0, (hk _ (by omega) (by omega)).trans h.b1, (hk _ (by omega) (by omega)).trans h.b2⟩
theorem DAt.lt {w X : World} {room : Int} {vL : Value} {o : OpL} (h : DAt w X room vL o) : w.heap.size + 2 < X.heap.size := (Array.getElem?_eq_some_iff.1 h.b2).1
theorem DAt.below {w X Y : World} {room : Int} {vL : Value} {o : OpL} (h : DAt w X room vL o) (hb : Below X.heap.size X Y) : DAt w Y room vL o := h.keep fun k _ h2 => hb.block k (by have := h.lt; omega)
/-- The result of does is laid. -/
theorem does_fin {G : Nat → Prop} {w W X : World} {p bx : Nat} {room : Int} {ql : List (Nat × Nat)} {v v1 : Nat → Rg} {m m1 : Nat → List Msg} {vL v' : Value} {o : OpL} (hP : PoAt w p bx room ql v m) (hbW : Below w.heap.size w W) (hlW : w.heap.size + 2 < W.heap.size) (hX : DAt w X room vL o) (hPX : PoAt X p bx room ql v1 m1) (hG : Gr (fun k => mine ql v k ∨ w.heap.size ≤ k) w X) (hM : ∀ k, mine ql v1 k → mine ql v k ∨ W.heap.size ≤ k) (hL : LSees (fun k => mine ql v1 k ∨ k = w.heap.size + 2 ∨ G k) X v' ql.length m1) (Z : World) (hZ : Z = (X.setCell ⟨w.heap.size + 1 + 1, 0, none⟩ (.int .i64 room)).setCell ⟨w.heap.size + 1 + 1, 1, none⟩ v') :
    Z.cell? ⟨w.heap.size + 1 + 1, 0, none⟩ = some (.int .i64 room) ∧ Z.cell? ⟨w.heap.size + 1 + 1, 1, none⟩ = some v' ∧ DoesR G w Z p bx room ql v v' := by
  have h2 := hX.b2
  have c2 : X.cell? ⟨w.heap.size + 1 + 1, 0, none⟩ = some (.int .i64 0) := by simp [World.cell?, h2]
  have c3 : X.cell? ⟨w.heap.size + 1 + 1, 1, none⟩ = some (.slice none 0 0) := by simp [World.cell?, h2]
  obtain ⟨a0, a1⟩ := Mq.set2 (u := .int .i64 room) (v := v') c2 c3
  rw [← hZ] at a0 a1
  have hk : ∀ k, k ≠ w.heap.size + 2 → Z.heap[k]? = X.heap[k]? := fun k h => by
    rw [hZ, heap_setCell_other _ ⟨w.heap.size + 1 + 1, 1, none⟩ k _ (by simpa using h), heap_setCell_other _ ⟨w.heap.size + 1 + 1, 0, none⟩ k _ (by simpa using h)]
  have hmn : ∀ k, mine ql v1 k → k ≠ w.heap.size + 2 := fun k hm => by
    rcases hM k hm with h | h
    · have := hP.lt k (Or.inr (Or.inr (Or.inr h)))
      omega
    · omega
  refine ⟨a0, a1, v1, m1, hPX.gr fun k hk' => hk k ?_, hL.keep fun k _ hf => ⟨hk k (fun e => hf (Or.inr (Or.inl e))), fun h => hf (h.elim Or.inl (fun h => Or.inr (Or.inr h)))⟩, ⟨?_, ?_, ?_, ?_, fun k h1 h2 => ?_⟩, fun k hm => ?_⟩
  · rcases hk' with h | h | h | h
    · have := hP.lt k (Or.inl h); omega
    · have := hP.lt k (Or.inr (Or.inl h)); omega
    · have := hP.lt k (Or.inr (Or.inr (Or.inl h))); omega
    · exact hmn k h
  · rw [hZ]; exact hG.os
  · rw [hZ]; exact hG.tape
  · rw [hZ]; exact hG.output
  · rw [hZ]; simpa using hG.size
  · rw [hk k (by omega)]
    exact hG.block k h1 (fun h => by rcases h with h | h; exact h2 h; omega)
  · rcases hM k hm with h | h
    · exact Or.inl h
    · exact Or.inr (by have := hbW.size; omega)

theorem DoesR.below {G : Nat → Prop} {w X Y : World} {p bx : Nat} {room : Int} {ql : List (Nat × Nat)} {v : Nat → Rg} {vL : Value} (h : DoesR G w X p bx room ql v vL) (hb : Below X.heap.size X Y) : DoesR G w Y p bx room ql v vL := by
  obtain ⟨v', m', h1, h2, h3, h4⟩ := h
  exact ⟨v', m', h1.below hb, h2.below hb, h3.trans (Gr.of_below hb _) (fun k _ hk => hk), h4⟩
set_option maxRecDepth 20000 in
set_option maxHeartbeats 4000000 in
theorem does_take (G : Nat → Prop) (p bx : Nat) (room : Int) (ql : List (Nat × Nat)) (v : Nat → Rg) (m : Nat → List Msg) (vL : Value) (o : OpL) (w : World) (hP : PoAt w p bx room ql v m) (hL : LSees (fun k => mine ql v k ∨ G k) w vL ql.length m) (hGl : ∀ k, G k → k < w.heap.size) (h2 : o.kind = 2) :
    Calls Try.prog 11 #[.pointer (some ⟨p, 0, none⟩), poV room vL, .agg o.row.toArray] w fun e w' => ∃ vL', e = .returned (.tuple #[poV room vL', .bool true]) ∧ DoesR G w w' p bx room ql v vL' := by
  obtain ⟨kind, to, who, vs, vi, vo, text, op, s, i, own⟩ := o
  simp only at h2
  subst h2
  show Calls Try.prog 11 #[.pointer (some ⟨p, 0, none⟩), poV room vL, .agg #[.int .i64 2, .int .i64 to, .int .i64 who, vs, vi, vo, .string text, .bool op]] w fun e w' => ∃ vL', e = .returned (.tuple #[poV room vL', .bool true]) ∧ DoesR G w w' p bx room ql v vL'
  obtain ⟨b, off, cap, hv, _⟩ := id hL
  subst hv
  have HGL := hid hGl
  clear hGl
  have hDW := DAt.new w room (.slice (some ⟨b, off, none⟩) ql.length cap) ⟨2, to, who, vs, vi, vo, text, op, s, i, own⟩
  obtain ⟨W, hW⟩ : ∃ W, W = ((w.alloc (.cells #[.int .i64 room, .slice (some ⟨b, off, none⟩) ql.length cap] 29)).alloc (.cells #[.int .i64 2, .int .i64 to, .int .i64 who, vs, vi, vo, .string text, .bool op] 41)).alloc (.cells #[.int .i64 0, .slice none 0 0] 29) := ⟨_, rfl⟩
  simp only at hDW
  rw [← hW] at hDW
  have hbW : Below w.heap.size w W := by rw [hW]; exact ((below_alloc w _).alloc (by simp) _).alloc (by simp; omega) _
  have hlW := hDW.lt
  have hPW := hP.below hbW
  have HTk := hid (take_any p bx room ql v m to W hPW)
  have g1 := hDW.b1
  simp only at g1
  have k0 : W.cell? ⟨w.heap.size + 1, 0, none⟩ = some (.int .i64 2) := by simp [World.cell?, g1]
  have k1 : W.cell? ⟨w.heap.size + 1, 1, none⟩ = some (.int .i64 to) := by simp [World.cell?, g1]
  have HW := hid hW
  have HP := hid hP
  have HL := hid hL
  have HDW := hid hDW
  have HBW := hid hbW
  have n16 := hP.n2
  unfold Mq.mV at HTk
  clear hW hP hL hDW hbW hPW g1
  unfold poV
  go_enter Try.func11, Try.ntmps11
  iterate 12 (first | go_values | go_skip | go_guarded | go_step | go_upon | go_back | go_simp)
  rw [← HW.out]
  clear HW
  go_wp2_with fail
  refine HTk.out.mono ?_
  clear HTk k0 k1
  rintro e w1 ⟨rfl, v1, hP1, hG1, hM1⟩
  obtain ⟨ok, hok⟩ : ∃ ok, takeOk ql.length to m = ok := ⟨_, rfl⟩
  obtain ⟨X, hX⟩ : ∃ X, takeX ql.length to m = X := ⟨_, rfl⟩
  obtain ⟨X1, X2⟩ := X
  rw [hok, hX]
  have hnm : ∀ k, w.heap.size ≤ k → ¬ mine ql v k := fun k hk hm => by
    have := HP.out.lt k (Or.inr (Or.inr (Or.inr hm)))
    omega
  have HDL := hid (Nat.lt_of_lt_of_le hlW hG1.size)
  have hD1 := HDW.out.keep (Y := w1) fun k h1 h2 => hG1.block k (by omega) (hnm k h1)
  obtain ⟨W2, hW2⟩ : ∃ W2, W2 = w1.alloc (.cells #[.int .i64 X1, .string X2] 55) := ⟨_, rfl⟩
  have b2 : Below w1.heap.size w1 W2 := by rw [hW2]; exact below_alloc w1 _
  have s2 : W2.heap.size = w1.heap.size + 1 := by rw [hW2]; simp
  have hD2 := hD1.below b2
  have x0 : W2.cell? ⟨w1.heap.size, 0, none⟩ = some (.int .i64 X1) := by rw [hW2]; simp
  have x1 : W2.cell? ⟨w1.heap.size, 1, none⟩ = some (.string X2) := by rw [hW2]; simp
  have hlow : ∀ k, k < w.heap.size → ¬ mine ql v k → W2.heap[k]? = w.heap[k]? := fun k hk hf => by
    have := HBW.out.size
    have := hG1.size
    rw [b2.block k (by omega), hG1.block k (by omega) hf, HBW.out.block k hk]
  have hL2 : LSees (fun k => mine ql v1 k ∨ k = w.heap.size + 2 ∨ G k) W2 (.slice (some ⟨b, off, none⟩) ql.length cap) ql.length m := HL.out.keep fun k hk hf => ⟨hlow k hk (fun h => hf (Or.inl h)), fun h => by
    rcases h with h | h | h
    · rcases hM1 k h with h | h
      · exact hf (Or.inl h)
      · omega
    · omega
    · exact hf (Or.inr h)⟩
  have hF2 : ∀ k, W2.heap.size ≤ k → ¬ (mine ql v1 k ∨ k = w.heap.size + 2 ∨ G k) := fun k hk h => by
    rcases h with h | h | h
    · have := hP1.lt k (Or.inr (Or.inr (Or.inr h)))
      omega
    · have := hG1.size
      omega
    · have := HGL.out k h
      have := hG1.size
      omega
  have hRT := rtake_any room (.slice (some ⟨b, off, none⟩) ql.length cap) ql.length n16 to _ m W2 hL2 hF2
  rw [hX, hok] at hRT
  have HRT := hid hRT
  have q0 : w1.cell? ⟨w.heap.size, 0, none⟩ = some (.int .i64 room) := by have := hD1.b0; simp [World.cell?, this]
  have q1 : w1.cell? ⟨w.heap.size, 1, none⟩ = some (.slice (some ⟨b, off, none⟩) ql.length cap) := by have := hD1.b0; simp [World.cell?, this]
  have q2 : w1.cell? ⟨w.heap.size + 1, 1, none⟩ = some (.int .i64 to) := by have := hD1.b1; simp only at this; simp [World.cell?, this]
  have l1 : w.heap.size < w1.heap.size := by have := hD1.lt; omega
  have l2 : w.heap.size + 1 < w1.heap.size := by have := hD1.lt; omega
  have HW2 := hid hW2
  have HD2 := hid hD2
  have HP2 := hid (hP1.below b2)
  have HM1 := hid hM1
  have HG2 := hid (show Gr (fun k => mine ql v k ∨ w.heap.size ≤ k) w W2 from ⟨(b2.os.trans hG1.os).trans HBW.out.os, (b2.tape.trans hG1.tape).trans HBW.out.tape, (b2.output.trans hG1.output).trans HBW.out.output, by have := HBW.out.size; have := hG1.size; have := b2.size; omega, fun k hk hn => hlow k hk (fun h => hn (Or.inl h))⟩)
  have HS2 := hid s2
  have hEQ := eqlM
  have hGU := guardM .eql
  unfold poV Mq.mV at HRT
  clear hRT hL2 hF2 HGL hlow hD1 hD2 b2 hP1 hG1 hM1 hW2 hok hX hnm s2
  go_wp2_with fail
  rw [← HW2.out]
  clear q0 q1 q2 l1 l2
  refine HRT.out.mono ?_
  clear HRT
  rintro e w3 ⟨v', rfl, hL3, hB3⟩
  obtain ⟨vb, vo', vc, hv'⟩ : ∃ vb vo' vc, v' = .slice (some ⟨vb, vo', none⟩) ql.length vc := by
    obtain ⟨vb, vo', vc, hvv, _⟩ := hL3
    exact ⟨vb, vo', vc, hvv⟩
  subst hv'
  obtain ⟨W4, hW4⟩ : ∃ W4, W4 = (w3.alloc (.cells #[.int .i64 room, .slice (some ⟨vb, vo', none⟩) ql.length vc] 29)).alloc (.cells #[.int .i64 X1, .string X2] 55) := ⟨_, rfl⟩
  have b4 : Below w3.heap.size w3 W4 := by rw [hW4]; exact (below_alloc w3 _).alloc (by simp) _
  have hb24 : Below W2.heap.size W2 W4 := hB3.trans (b4.mono hB3.size)
  have y0 : W4.cell? ⟨w3.heap.size, 0, none⟩ = some (.int .i64 room) := by rw [hW4]; simp
  have y1 : W4.cell? ⟨w3.heap.size, 1, none⟩ = some (.slice (some ⟨vb, vo', none⟩) ql.length vc) := by rw [hW4]; simp
  have y4 : W4.cell? ⟨w3.heap.size + 1, 0, none⟩ = some (.int .i64 X1) ∧ W4.cell? ⟨w3.heap.size + 1, 1, none⟩ = some (.string X2) := by
    rw [hW4, show w3.heap.size + 1 = (w3.alloc (.cells #[.int .i64 room, .slice (some ⟨vb, vo', none⟩) ql.length vc] 29)).heap.size by simp]
    generalize w3.alloc (.cells #[.int .i64 room, .slice (some ⟨vb, vo', none⟩) ql.length vc] 29) = V
    exact ⟨by simp, by simp⟩
  have y2 := (hb24.cell (World.block_lt_of_cell? W2 _ x0)).trans x0
  have y3 := (hb24.cell (World.block_lt_of_cell? W2 _ x1)).trans x1
  have hD4 := HD2.out.below hb24
  have g2 := hD4.b2
  have z2 : W4.cell? ⟨w.heap.size + 1 + 1, 0, none⟩ = some (.int .i64 0) := by simp [World.cell?, g2]
  have z3 : W4.cell? ⟨w.heap.size + 1 + 1, 1, none⟩ = some (.slice none 0 0) := by simp [World.cell?, g2]
  have f2 : W4.frozen? ⟨w.heap.size + 1 + 1, 0, none⟩ = false := by simp [World.frozen?, g2]
  have f3 : W4.frozen? ⟨w.heap.size + 1 + 1, 1, none⟩ = false := by simp [World.frozen?, g2]
  obtain ⟨a0, a1, a2⟩ := does_fin HP.out HBW.out hlW hD4 (HP2.out.below hb24) (HG2.out.trans (Gr.of_below hb24 _) (fun k _ hk => hk)) HM1.out (hL3.below b4) _ rfl
  have HA := hid (a2.below (Below.drew (Below.refl _ _)))
  have hlt3 : w.heap.size + 2 < w3.heap.size := by have := HD2.out.lt; have := hB3.size; omega
  have hlt1 : w.heap.size + 2 < w1.heap.size := by have := HS2.out; have := HDL.out; omega
  have hS0 : W4.drew.cell? ⟨w3.heap.size, 0, none⟩ = some (.int .i64 room) ∧ W4.drew.cell? ⟨w3.heap.size, 1, none⟩ = some (.slice (some ⟨vb, vo', none⟩) ql.length vc) ∧ W4.drew.cell? ⟨w1.heap.size, 0, none⟩ = some (.int .i64 X1) ∧ W4.drew.cell? ⟨w1.heap.size, 1, none⟩ = some (.string X2) ∧ W4.drew.cell? ⟨w3.heap.size + 1, 0, none⟩ = some (.int .i64 X1) ∧ W4.drew.cell? ⟨w3.heap.size + 1, 1, none⟩ = some (.string X2) := ⟨y0, y1, y2, y3, y4.1, y4.2⟩
  have HKA : Hid (∀ (Y : World) (c e : Value), (Y.cell? ⟨w3.heap.size, 0, none⟩ = some (.int .i64 room) ∧ Y.cell? ⟨w3.heap.size, 1, none⟩ = some (.slice (some ⟨vb, vo', none⟩) ql.length vc) ∧ Y.cell? ⟨w1.heap.size, 0, none⟩ = some (.int .i64 X1) ∧ Y.cell? ⟨w1.heap.size, 1, none⟩ = some (.string X2) ∧ Y.cell? ⟨w3.heap.size + 1, 0, none⟩ = some (.int .i64 X1) ∧ Y.cell? ⟨w3.heap.size + 1, 1, none⟩ = some (.string X2)) → ((Y.setCell ⟨w.heap.size + 1 + 1, 0, none⟩ c).setCell ⟨w.heap.size + 1 + 1, 1, none⟩ e).drew.cell? ⟨w3.heap.size, 0, none⟩ = some (.int .i64 room) ∧ ((Y.setCell ⟨w.heap.size + 1 + 1, 0, none⟩ c).setCell ⟨w.heap.size + 1 + 1, 1, none⟩ e).drew.cell? ⟨w3.heap.size, 1, none⟩ = some (.slice (some ⟨vb, vo', none⟩) ql.length vc) ∧ ((Y.setCell ⟨w.heap.size + 1 + 1, 0, none⟩ c).setCell ⟨w.heap.size + 1 + 1, 1, none⟩ e).drew.cell? ⟨w1.heap.size, 0, none⟩ = some (.int .i64 X1) ∧ ((Y.setCell ⟨w.heap.size + 1 + 1, 0, none⟩ c).setCell ⟨w.heap.size + 1 + 1, 1, none⟩ e).drew.cell? ⟨w1.heap.size, 1, none⟩ = some (.string X2) ∧ ((Y.setCell ⟨w.heap.size + 1 + 1, 0, none⟩ c).setCell ⟨w.heap.size + 1 + 1, 1, none⟩ e).drew.cell? ⟨w3.heap.size + 1, 0, none⟩ = some (.int .i64 X1) ∧ ((Y.setCell ⟨w.heap.size + 1 + 1, 0, none⟩ c).setCell ⟨w.heap.size + 1 + 1, 1, none⟩ e).drew.cell? ⟨w3.heap.size + 1, 1, none⟩ = some (.string X2)) := hid (fun Y c e h => by
    obtain ⟨h0, h1, h2, h3, h4, h5⟩ := h
    refine ⟨?_, ?_, ?_, ?_, ?_, ?_⟩ <;> rw [World.cell?_drew, World.cell?_setCell_far _ _ _ _ (by simp <;> omega), World.cell?_setCell_far _ _ _ _ (by simp <;> omega)] <;> assumption)
  have hS1 : W4.cell? ⟨w3.heap.size, 0, none⟩ = some (.int .i64 room) ∧ W4.cell? ⟨w3.heap.size, 1, none⟩ = some (.slice (some ⟨vb, vo', none⟩) ql.length vc) ∧ W4.cell? ⟨w1.heap.size, 0, none⟩ = some (.int .i64 X1) ∧ W4.cell? ⟨w1.heap.size, 1, none⟩ = some (.string X2) ∧ W4.cell? ⟨w3.heap.size + 1, 0, none⟩ = some (.int .i64 X1) ∧ W4.cell? ⟨w3.heap.size + 1, 1, none⟩ = some (.string X2) := ⟨y0, y1, y2, y3, y4.1, y4.2⟩
  obtain ⟨y4, y5⟩ := y4
  have HW4 := hid hW4
  clear a2 hW4 b4 hb24 hL3 hB3 hD4 g2 x0 x1
  go_wp2_with fail
  rw [← HW4.out]
  clear HW4
  go_region_held3 (fun w' => w'.cell? ⟨w3.heap.size, 0, none⟩ = some (.int .i64 room) ∧ w'.cell? ⟨w3.heap.size, 1, none⟩ = some (.slice (some ⟨vb, vo', none⟩) ql.length vc) ∧ w'.cell? ⟨w1.heap.size, 0, none⟩ = some (.int .i64 X1) ∧ w'.cell? ⟨w1.heap.size, 1, none⟩ = some (.string X2) ∧ w'.cell? ⟨w3.heap.size + 1, 0, none⟩ = some (.int .i64 X1) ∧ w'.cell? ⟨w3.heap.size + 1, 1, none⟩ = some (.string X2))
    (first | (with_reducible exact hS0) | (with_reducible exact HKA.out _ _ _ hS0) | (with_reducible exact HKA.out _ _ _ hS1))
    (fail)
  obtain ⟨Z, hZ⟩ : ∃ Z, Z = (W4.setCell ⟨w.heap.size + 1 + 1, 0, none⟩ (.int .i64 room)).setCell ⟨w.heap.size + 1 + 1, 1, none⟩ (.slice (some ⟨vb, vo', none⟩) ql.length vc) := ⟨_, rfl⟩
  rw [← hZ] at a0 a1 HA ⊢
  clear hZ y0 y1 y2 y3 y4 y5 z2 z3 f2 f3 hS0 hS1 HKA
  go_wp2
  refine bodyPost_ret (v := .tuple #[.agg #[.int .i64 room, .slice (some ⟨vb, vo', none⟩) ql.length vc], .bool true]) (by simp [results, Try.results11, go_sem, a0, a1]) rfl ?_
  exact ⟨_, rfl, HA.out⟩
end Go.Proofs.Ytahibklmcooanaa
