/-
  The document's mailboxes: Take.
-/
import Derived.Test.YtahibklmcooanaaOWith
namespace Go.Proofs.Ytahibklmcooanaa
open Go.RowKit
set_option linter.unusedVariables false
set_option linter.unusedSimpArgs false

/-- The rest of a list of messages. -/
theorem MSees.tail {F : Nat → Prop} {w : World} {b off len cap : Nat} {x : Msg} {xs : List Msg} (h : MSees F w (.slice (some ⟨b, off, none⟩) (xs.length + 1) cap) (x :: xs)) :
    (1 < cap → MSees F w (.slice (some ⟨b, off + 2, none⟩) xs.length (cap - 1)) xs) ∧ (cap = 1 → MSees F w (.slice (some ⟨b, off, none⟩) xs.length (cap - 1)) xs) ∧ 1 ≤ cap ∧ w.cell? ⟨b, off, none⟩ = some (.int .i64 x.1) ∧ w.cell? ⟨b, off + 1, none⟩ = some (.string x.2) ∧ ¬ F b := by
  obtain ⟨b', off', ao, cap', hv, hc, hn, ha, hcell⟩ := h
  simp at hv
  obtain ⟨rfl, rfl⟩ := hv
  obtain ⟨hao, hf⟩ := ha (by simp)
  simp at hao
  obtain ⟨rfl, rfl⟩ := hao
  simp at hc
  obtain ⟨c0, c1⟩ := hcell 0 (by simp)
  refine ⟨fun h1 => ⟨b, off + 2, _, cap - 1, rfl, by omega, (fun h => by cases h), fun _ => ⟨rfl, hf⟩, fun j hj => ?_⟩, fun h1 => ?_, by omega, by simpa using c0, by simpa using c1, hf⟩
  · obtain ⟨d0, d1⟩ := hcell (j + 1) (by simpa using hj)
    rw [show off + 2 + j * 2 = off + (j + 1) * 2 by omega]
    exact ⟨by simpa using d0, by simpa using d1⟩
  · have : xs = [] := List.eq_nil_of_length_eq_zero (by omega)
    subst this
    exact ⟨b, off, _, cap - 1, rfl, by simp, (fun h => by cases h), fun h => absurd rfl h, fun j hj => by simp at hj⟩

theorem rtake_fin {F : Nat → Prop} {w w5 : World} {room x1 : Int} {x2 : ByteArray} {v : Value} {n : Nat} {d : Nat → List Msg} (hF : ∀ k, w.heap.size ≤ k → ¬ F k) (z0 : w5.cell? ⟨w.heap.size + 1, 0, none⟩ = some (.int .i64 0)) (z1 : w5.cell? ⟨w.heap.size + 1, 1, none⟩ = some (.slice none 0 0)) (z2 : w5.cell? ⟨w.heap.size + 1 + 1, 0, none⟩ = some (.int .i64 0)) (z3 : w5.cell? ⟨w.heap.size + 1 + 1, 1, none⟩ = some (.string ⟨#[]⟩))
    (hL : LSees (fun k => F k ∨ k = w.heap.size + 1 ∨ k = w.heap.size + 2) w5 v n d) (hB : Below w.heap.size w w5) (Z : World) (hZ : Z = ((((w5.setCell ⟨w.heap.size + 1, 0, none⟩ (.int .i64 room)).setCell ⟨w.heap.size + 1, 1, none⟩ v).setCell ⟨w.heap.size + 1 + 1, 0, none⟩ (.int .i64 x1)).setCell ⟨w.heap.size + 1 + 1, 1, none⟩ (.string x2))) :
    Z.cell? ⟨w.heap.size + 1, 0, none⟩ = some (.int .i64 room) ∧ Z.cell? ⟨w.heap.size + 1, 1, none⟩ = some v ∧ Z.cell? ⟨w.heap.size + 1 + 1, 0, none⟩ = some (.int .i64 x1) ∧ Z.cell? ⟨w.heap.size + 1 + 1, 1, none⟩ = some (.string x2) ∧ LSees F Z v n d ∧ Below w.heap.size w Z := by
  obtain ⟨A, hA⟩ : ∃ A, A = (w5.setCell ⟨w.heap.size + 1, 0, none⟩ (.int .i64 room)).setCell ⟨w.heap.size + 1, 1, none⟩ v := ⟨_, rfl⟩
  obtain ⟨a0, a1⟩ := Mq.set2 (u := .int .i64 room) (v := v) z0 z1
  have a2 : A.cell? ⟨w.heap.size + 1 + 1, 0, none⟩ = some (.int .i64 0) := by rw [hA, World.cell?_setCell_far _ _ _ _ (by simp), World.cell?_setCell_far _ _ _ _ (by simp)]; exact z2
  have a3 : A.cell? ⟨w.heap.size + 1 + 1, 1, none⟩ = some (.string ⟨#[]⟩) := by rw [hA, World.cell?_setCell_far _ _ _ _ (by simp), World.cell?_setCell_far _ _ _ _ (by simp)]; exact z3
  rw [← hA] at a0 a1 hZ
  obtain ⟨b2, b3⟩ := Mq.set2 (u := .int .i64 x1) (v := .string x2) a2 a3
  have hk : ∀ k, k ≠ w.heap.size + 1 → k ≠ w.heap.size + 2 → Z.heap[k]? = w5.heap[k]? := fun k h1 h2 => by
    rw [hZ, heap_setCell_other _ ⟨w.heap.size + 1 + 1, 1, none⟩ k _ (by simpa using h2), heap_setCell_other _ ⟨w.heap.size + 1 + 1, 0, none⟩ k _ (by simpa using h2), hA, heap_setCell_other _ ⟨w.heap.size + 1, 1, none⟩ k _ (by simpa using h1), heap_setCell_other _ ⟨w.heap.size + 1, 0, none⟩ k _ (by simpa using h1)]
  refine ⟨?_, ?_, by rw [hZ]; exact b2, by rw [hZ]; exact b3, ?_, ?_⟩
  · rw [hZ, World.cell?_setCell_far _ _ _ _ (by simp), World.cell?_setCell_far _ _ _ _ (by simp)]; exact a0
  · rw [hZ, World.cell?_setCell_far _ _ _ _ (by simp), World.cell?_setCell_far _ _ _ _ (by simp)]; exact a1
  · exact hL.keep fun k _ hf => ⟨hk k (fun e => hf (Or.inr (Or.inl e))) (fun e => hf (Or.inr (Or.inr e))), fun h => hf (Or.inl h)⟩
  · rw [hZ, hA]
    exact (((hB.setCell (by simp) _).setCell (by simp) _).setCell (by simp; omega) _).setCell (by simp; omega) _

set_option maxRecDepth 20000 in
set_option maxHeartbeats 4000000 in
theorem rtake_some (room : Int) (vL : Value) (n i : Nat) (hi : i < n) (hn : n ≤ 16) (F : Nat → Prop) (d : Nat → List Msg) (x : Msg) (xs : List Msg) (hd : d i = x :: xs) (w : World) (hD : LSees F w vL n d) (hF : ∀ k, w.heap.size ≤ k → ¬ F k) :
    Calls Try.prog 25 #[poV room vL, .int .i64 i] w fun e w' => ∃ v', e = .returned (.tuple #[poV room v', Mq.mV x, .bool true]) ∧ LSees F w' v' n (fun j => if j = i then xs else d j) ∧ Below w.heap.size w w' := by
  obtain ⟨x1, x2⟩ := x
  obtain ⟨W, hW⟩ : ∃ W, W = ((w.alloc (.cells #[.int .i64 room, vL] 29)).alloc (.cells #[.int .i64 0, .slice none 0 0] 29)).alloc (.cells #[.int .i64 0, .string ⟨#[]⟩] 55) := ⟨_, rfl⟩
  have hbW : Below w.heap.size w W := by rw [hW]; exact ((below_alloc w _).alloc (by simp) _).alloc (by simp; omega) _
  have sW : W.heap.size = w.heap.size + 1 + 1 + 1 := by rw [hW]; simp
  have h0 : W.heap[w.heap.size]? = some (.cells #[.int .i64 room, vL] 29 (0, 0)) := by
    rw [hW, Below.heap_alloc _ _ _ (by simp; omega), Below.heap_alloc _ _ _ (by simp)]; exact heap_alloc_new w _
  have h1 : W.heap[w.heap.size + 1]? = some (.cells #[.int .i64 0, .slice none 0 0] 29 (0, 0)) := by
    have := heap_alloc_new (w.alloc (.cells #[.int .i64 room, vL] 29)) (.cells #[.int .i64 0, .slice none 0 0] 29)
    rw [hW, Below.heap_alloc _ _ _ (by simp)]
    simpa using this
  have h2 : W.heap[w.heap.size + 2]? = some (.cells #[.int .i64 0, .string ⟨#[]⟩] 55 (0, 0)) := by
    have := heap_alloc_new ((w.alloc (.cells #[.int .i64 room, vL] 29)).alloc (.cells #[.int .i64 0, .slice none 0 0] 29)) (.cells #[.int .i64 0, .string ⟨#[]⟩] 55)
    rw [hW]
    simpa using this
  obtain ⟨b, off, cap, hvw, _, _, _, hcellw⟩ := id hD
  obtain ⟨u, huw, hmw⟩ := hcellw i hi
  rw [hd] at hmw
  have hblw := World.block_lt_of_cell? w _ huw
  simp only at hblw
  have hD' : LSees (fun k => F k ∨ k = w.heap.size + 1 ∨ k = w.heap.size + 2) W vL n d := hD.keep fun k hk hf => ⟨hbW.block k hk, fun h => by rcases h with h | h | h <;> first | exact hf h | omega⟩
  obtain ⟨b2, off2, cap2, hv, hc, hn1, hf, hcell⟩ := hD'
  obtain ⟨u2, hu, hm⟩ := hcell i hi
  have hvv := hvw.symm.trans hv
  cases hvv
  have huu : u = u2 := by
    have := hu
    rw [hbW.cell hblw, huw] at this
    simpa using this
  subst huu
  rw [hd] at hm
  obtain ⟨ub, uoff, uao, ucap, huv, huc, hun, hua, huc2⟩ := id hm
  obtain ⟨hua1, hua2⟩ := hua (by simp)
  subst hua1
  rw [List.length_cons] at huv
  subst huv
  obtain ⟨t1, t2, t3, t4, t5, t6⟩ := MSees.tail (len := 0) hm
  obtain ⟨_, _, _, s4, s5, _⟩ := MSees.tail (len := 0) hmw
  have hublw := World.block_lt_of_cell? w _ s4
  simp only at hublw s4 s5
  obtain ⟨W4, hW4⟩ : ∃ W4, W4 = W.alloc (.cells #[.int .i64 x1, .string x2] 55) := ⟨_, rfl⟩
  have b4 : Below W.heap.size W W4 := by rw [hW4]; exact below_alloc W _
  have k0 : W4.cell? ⟨W.heap.size, 0, none⟩ = some (.int .i64 x1) := by rw [hW4]; simp
  have k1 : W4.cell? ⟨W.heap.size, 1, none⟩ = some (.string x2) := by rw [hW4]; simp
  have hD4 : LSees (fun k => F k ∨ k = w.heap.size + 1 ∨ k = w.heap.size + 2) W4 vL n d := (LSees.below ⟨b, off, cap, hv, hc, hn1, hf, hcell⟩ b4)
  have hF4 : ∀ k, W4.heap.size ≤ k → ¬ (F k ∨ k = w.heap.size + 1 ∨ k = w.heap.size + 2) := fun k hk h => by
    have := b4.size
    rcases h with h | h | h
    · exact hF k (by omega) h
    · omega
    · omega
  have p0 : W.cell? ⟨w.heap.size, 0, none⟩ = some (.int .i64 room) := by simp [World.cell?, h0]
  have p1 : W.cell? ⟨w.heap.size, 1, none⟩ = some vL := by simp [World.cell?, h0]
  have hbl := World.block_lt_of_cell? W _ hu
  have hubl := World.block_lt_of_cell? W _ t4
  simp only at hbl hubl
  have p0' := (b4.cell (World.block_lt_of_cell? W _ p0)).trans p0
  have p1' := (b4.cell (World.block_lt_of_cell? W _ p1)).trans p1
  have hu' := (b4.cell (World.block_lt_of_cell? W _ hu)).trans hu
  obtain ⟨L, hL⟩ : ∃ L, xs.length + 1 = L := ⟨_, rfl⟩
  have hxL : xs.length = L - 1 := by omega
  have e4 : (1 : Int) ≤ (L : Int) := by omega
  have e3 : (1 : Int) ≤ (ucap : Int) := by omega
  have hLc : L ≤ ucap := by simp at huc; omega
  have t1' : 1 < ucap → MSees (fun k => F k ∨ k = w.heap.size + 1 ∨ k = w.heap.size + 2) W (.slice (some ⟨ub, uoff + 2, none⟩) (L - 1) (ucap - 1)) xs := fun h => by rw [← hxL]; exact t1 h
  have t2' : ucap = 1 → MSees (fun k => F k ∨ k = w.heap.size + 1 ∨ k = w.heap.size + 2) W (.slice (some ⟨ub, uoff, none⟩) (L - 1) (ucap - 1)) xs := fun h => by rw [← hxL]; exact t2 h
  rw [hL] at huw hu'
  have HWith := hid (fun (V : World) (hV : Below W4.heap.size W4 V) (l : Value) (hl : MSees (fun k => F k ∨ k = w.heap.size + 1 ∨ k = w.heap.size + 2) V l xs) => rwith_any room vL n i hi hn _ d l xs V (hD4.below hV) hl (fun k hk => hF4 k (Nat.le_trans hV.size hk)))
  have T1 := hid (fun (V : World) (hV : Below W4.heap.size W4 V) h => ((t1' h).below b4).below hV)
  have T2 := hid (fun (V : World) (hV : Below W4.heap.size W4 V) h => ((t2' h).below b4).below hV)
  have HW := hid hW
  have HW4 := hid hW4
  have H1 := hid ((b4.block (w.heap.size + 1) (by omega)).trans h1)
  have H2 := hid ((b4.block (w.heap.size + 2) (by omega)).trans h2)
  have HB4 := hid (hbW.trans (b4.mono hbW.size))
  have HS4 := hid (show w.heap.size + 3 < W4.heap.size by rw [hW4]; simp [sW])
  have HFb := hid hF
  have hlt : (i : Int) < n := by omega
  have hz : ((L : Int) == 0) = false := by simp; omega
  have hi0 : ¬ (i : Int) < 0 := by omega
  have hbl1 : b < w.heap.size + 1 := by omega
  have hbl2 : b < w.heap.size + 1 + 1 := by omega
  have hub1 : ub < w.heap.size + 1 := by omega
  have hub2 : ub < w.heap.size + 1 + 1 := by omega
  have hni : ¬ n ≤ i := by omega
  clear hu t4 t5 p0 p1 hmw hvw hcellw
  clear hD4 hF4 t1 t2 t1' t2' hW hW4 hcell hm huc hun hua hua2 huc2 hD hf h0 h1 h2 hbW t6 hF hd
  rw [sW] at k0 k1
  have HSW := hid sW
  clear sW b4
  subst hv
  unfold poV at HWith ⊢
  unfold Mq.mV
  have nb0 : b ≠ w.heap.size + 1 := by omega
  have nb1 : b ≠ w.heap.size + 1 + 1 := by omega
  have nb0' := nb0.symm
  have nb1' := nb1.symm
  by_cases hcap : ucap = 1
  · have hL1 : L = 1 := by omega
    subst hcap
    subst hL1
    go_enter Try.func25, Try.ntmps25
    go_wp2_with fail
    rw [← HW.out, ← HW4.out]
    clear HW HW4 huw s4 s5 hblw hublw hbl hubl hbl1 hbl2 hub1 hub2
    have hS0 : W4.drew.cell? ⟨w.heap.size, 0, none⟩ = some (.int .i64 room) ∧ W4.drew.cell? ⟨w.heap.size, 1, none⟩ = some (.slice (some ⟨b, off, none⟩) n cap) ∧ W4.drew.cell? ⟨b, off + i, none⟩ = some (.slice (some ⟨ub, uoff, none⟩) 1 1) ∧ W4.drew.cell? ⟨w.heap.size + 1 + 1 + 1, 0, none⟩ = some (.int .i64 x1) ∧ W4.drew.cell? ⟨w.heap.size + 1 + 1 + 1, 1, none⟩ = some (.string x2) := ⟨p0', p1', hu', k0, k1⟩
    have HKA : Hid (∀ (X : World) (y z : Value), (X.cell? ⟨w.heap.size, 0, none⟩ = some (.int .i64 room) ∧ X.cell? ⟨w.heap.size, 1, none⟩ = some (.slice (some ⟨b, off, none⟩) n cap) ∧ X.cell? ⟨b, off + i, none⟩ = some (.slice (some ⟨ub, uoff, none⟩) 1 1) ∧ X.cell? ⟨w.heap.size + 1 + 1 + 1, 0, none⟩ = some (.int .i64 x1) ∧ X.cell? ⟨w.heap.size + 1 + 1 + 1, 1, none⟩ = some (.string x2)) → ((X.setCell ⟨w.heap.size + 1, 0, none⟩ y).setCell ⟨w.heap.size + 1, 1, none⟩ z).cell? ⟨w.heap.size, 0, none⟩ = some (.int .i64 room) ∧ ((X.setCell ⟨w.heap.size + 1, 0, none⟩ y).setCell ⟨w.heap.size + 1, 1, none⟩ z).cell? ⟨w.heap.size, 1, none⟩ = some (.slice (some ⟨b, off, none⟩) n cap) ∧ ((X.setCell ⟨w.heap.size + 1, 0, none⟩ y).setCell ⟨w.heap.size + 1, 1, none⟩ z).cell? ⟨b, off + i, none⟩ = some (.slice (some ⟨ub, uoff, none⟩) 1 1) ∧ ((X.setCell ⟨w.heap.size + 1, 0, none⟩ y).setCell ⟨w.heap.size + 1, 1, none⟩ z).cell? ⟨w.heap.size + 1 + 1 + 1, 0, none⟩ = some (.int .i64 x1) ∧ ((X.setCell ⟨w.heap.size + 1, 0, none⟩ y).setCell ⟨w.heap.size + 1, 1, none⟩ z).cell? ⟨w.heap.size + 1 + 1 + 1, 1, none⟩ = some (.string x2)) := hid (fun X y z h => by
      obtain ⟨h0, h1, h2, h3, h4⟩ := h
      refine ⟨?_, ?_, ?_, ?_, ?_⟩ <;> rw [World.cell?_setCell_far _ _ _ _ (by simp <;> omega), World.cell?_setCell_far _ _ _ _ (by simp <;> omega)] <;> assumption)
    have HKB : Hid (∀ (X : World) (y z : Value), (X.cell? ⟨w.heap.size, 0, none⟩ = some (.int .i64 room) ∧ X.cell? ⟨w.heap.size, 1, none⟩ = some (.slice (some ⟨b, off, none⟩) n cap) ∧ X.cell? ⟨b, off + i, none⟩ = some (.slice (some ⟨ub, uoff, none⟩) 1 1) ∧ X.cell? ⟨w.heap.size + 1 + 1 + 1, 0, none⟩ = some (.int .i64 x1) ∧ X.cell? ⟨w.heap.size + 1 + 1 + 1, 1, none⟩ = some (.string x2)) → ((X.setCell ⟨w.heap.size + 1 + 1, 0, none⟩ y).setCell ⟨w.heap.size + 1 + 1, 1, none⟩ z).cell? ⟨w.heap.size, 0, none⟩ = some (.int .i64 room) ∧ ((X.setCell ⟨w.heap.size + 1 + 1, 0, none⟩ y).setCell ⟨w.heap.size + 1 + 1, 1, none⟩ z).cell? ⟨w.heap.size, 1, none⟩ = some (.slice (some ⟨b, off, none⟩) n cap) ∧ ((X.setCell ⟨w.heap.size + 1 + 1, 0, none⟩ y).setCell ⟨w.heap.size + 1 + 1, 1, none⟩ z).cell? ⟨b, off + i, none⟩ = some (.slice (some ⟨ub, uoff, none⟩) 1 1) ∧ ((X.setCell ⟨w.heap.size + 1 + 1, 0, none⟩ y).setCell ⟨w.heap.size + 1 + 1, 1, none⟩ z).cell? ⟨w.heap.size + 1 + 1 + 1, 0, none⟩ = some (.int .i64 x1) ∧ ((X.setCell ⟨w.heap.size + 1 + 1, 0, none⟩ y).setCell ⟨w.heap.size + 1 + 1, 1, none⟩ z).cell? ⟨w.heap.size + 1 + 1 + 1, 1, none⟩ = some (.string x2)) := hid (fun X y z h => by
      obtain ⟨h0, h1, h2, h3, h4⟩ := h
      refine ⟨?_, ?_, ?_, ?_, ?_⟩ <;> rw [World.cell?_setCell_far _ _ _ _ (by simp <;> omega), World.cell?_setCell_far _ _ _ _ (by simp <;> omega)] <;> assumption)
    go_region_held3 (fun w' => w'.cell? ⟨w.heap.size, 0, none⟩ = some (.int .i64 room) ∧ w'.cell? ⟨w.heap.size, 1, none⟩ = some (.slice (some ⟨b, off, none⟩) n cap) ∧ w'.cell? ⟨b, off + i, none⟩ = some (.slice (some ⟨ub, uoff, none⟩) 1 1) ∧ w'.cell? ⟨w.heap.size + 1 + 1 + 1, 0, none⟩ = some (.int .i64 x1) ∧ w'.cell? ⟨w.heap.size + 1 + 1 + 1, 1, none⟩ = some (.string x2))
      (first | (with_reducible exact hS0) | (with_reducible exact hS5) | (with_reducible exact HKA.out _ _ _ hS5) | (with_reducible exact HKB.out _ _ _ hS5) | (with_reducible exact HKB.out _ _ _ (HKA.out _ _ _ hS5)) | (with_reducible exact HKA.out _ _ _ (HKB.out _ _ _ hS5)))
      (first
        | (go_at_call 41; refine (HWith.out _ (Below.drew (Below.refl _ _)) _ (by simpa using T2.out _ (Below.drew (Below.refl _ _)) trivial)).mono ?_; rintro e w5 ⟨v', rfl, hL5, hB5⟩
           have hb5 : Below W4.heap.size W4 w5 := (Below.drew (Below.refl _ _)).trans hB5
           have y0 := (hb5.cell (World.block_lt_of_cell? W4 _ p0')).trans p0'
           have y1 := (hb5.cell (World.block_lt_of_cell? W4 _ p1')).trans p1'
           have y2 := (hb5.cell (World.block_lt_of_cell? W4 _ hu')).trans hu'
           have y3 := (hb5.cell (World.block_lt_of_cell? W4 _ k0)).trans k0
           have y4 := (hb5.cell (World.block_lt_of_cell? W4 _ k1)).trans k1
           have hS5 := And.intro y0 (And.intro y1 (And.intro y2 (And.intro y3 y4)))
           clear y0 y1 y2 y3 y4
           have g1 := (hb5.block (w.heap.size + 1) (by have := HS4.out; omega)).trans H1.out
           have g2 := (hb5.block (w.heap.size + 2) (by have := HS4.out; omega)).trans H2.out
           have z0 : w5.cell? ⟨w.heap.size + 1, 0, none⟩ = some (.int .i64 0) := by simp [World.cell?, g1]
           have z1 : w5.cell? ⟨w.heap.size + 1, 1, none⟩ = some (.slice none 0 0) := by simp [World.cell?, g1]
           have z2 : w5.cell? ⟨w.heap.size + 1 + 1, 0, none⟩ = some (.int .i64 0) := by simp [World.cell?, g2]
           have z3 : w5.cell? ⟨w.heap.size + 1 + 1, 1, none⟩ = some (.string ⟨#[]⟩) := by simp [World.cell?, g2]
           have q0 : w5.frozen? ⟨w.heap.size + 1, 0, none⟩ = false := by simp [World.frozen?, g1]
           have q1 : w5.frozen? ⟨w.heap.size + 1, 1, none⟩ = false := by simp [World.frozen?, g1]
           have q2 : w5.frozen? ⟨w.heap.size + 1 + 1, 0, none⟩ = false := by simp [World.frozen?, g2]
           have q3 : w5.frozen? ⟨w.heap.size + 1 + 1, 1, none⟩ = false := by simp [World.frozen?, g2]
           obtain ⟨vb, vo, vc, hvv⟩ : ∃ vb vo vc, v' = .slice (some ⟨vb, vo, none⟩) n vc := by
             obtain ⟨vb, vo, vc, hvv, _⟩ := hL5
             exact ⟨vb, vo, vc, hvv⟩
           subst hvv
           have HL5 := hid hL5
           have HB5 := hid (HB4.out.trans (hb5.mono HB4.out.size))
           clear hL5 hB5 hb5 p0' p1' hu' k0 k1 g1 g2))
    obtain ⟨c0, c1, c2, c3, c4, c5⟩ := rtake_fin (x1 := x1) (x2 := x2) (room := room) HFb.out z0 z1 z2 z3 HL5.out HB5.out _ rfl
    have HC := hid (And.intro c4 c5)
    obtain ⟨Z, hZ⟩ : ∃ Z, Z = ((((w5.setCell ⟨w.heap.size + 1, 0, none⟩ (.int .i64 room)).setCell ⟨w.heap.size + 1, 1, none⟩ (.slice (some ⟨vb, vo, none⟩) n vc)).setCell ⟨w.heap.size + 1 + 1, 0, none⟩ (.int .i64 x1)).setCell ⟨w.heap.size + 1 + 1, 1, none⟩ (.string x2)) := ⟨_, rfl⟩
    rw [← hZ] at c0 c1 c2 c3 HC ⊢
    clear c4 c5 hZ z0 z1 z2 z3 q0 q1 q2 q3 hS5 HKA HKB hS0
    go_wp2
    refine bodyPost_ret (v := .tuple #[.agg #[.int .i64 room, .slice (some ⟨vb, vo, none⟩) n vc], .agg #[.int .i64 x1, .string x2], .bool true]) (by simp [results, Try.results25, go_sem, c0, c1, c2, c3]) rfl ?_
    exact ⟨_, rfl, HC.out.1, HC.out.2⟩
  · have hcap1 : 1 < ucap := by omega
    have HXL := hid hxL
    clear hxL hL
    go_enter Try.func25, Try.ntmps25
    go_wp2_with fail
    rw [← HW.out, ← HW4.out]
    clear HW HW4 huw s4 s5 hblw hublw hbl hubl hbl1 hbl2 hub1 hub2
    have hS0 : W4.drew.cell? ⟨w.heap.size, 0, none⟩ = some (.int .i64 room) ∧ W4.drew.cell? ⟨w.heap.size, 1, none⟩ = some (.slice (some ⟨b, off, none⟩) n cap) ∧ W4.drew.cell? ⟨b, off + i, none⟩ = some (.slice (some ⟨ub, uoff, none⟩) L ucap) ∧ W4.drew.cell? ⟨w.heap.size + 1 + 1 + 1, 0, none⟩ = some (.int .i64 x1) ∧ W4.drew.cell? ⟨w.heap.size + 1 + 1 + 1, 1, none⟩ = some (.string x2) := ⟨p0', p1', hu', k0, k1⟩
    have HKA : Hid (∀ (X : World) (y z : Value), (X.cell? ⟨w.heap.size, 0, none⟩ = some (.int .i64 room) ∧ X.cell? ⟨w.heap.size, 1, none⟩ = some (.slice (some ⟨b, off, none⟩) n cap) ∧ X.cell? ⟨b, off + i, none⟩ = some (.slice (some ⟨ub, uoff, none⟩) L ucap) ∧ X.cell? ⟨w.heap.size + 1 + 1 + 1, 0, none⟩ = some (.int .i64 x1) ∧ X.cell? ⟨w.heap.size + 1 + 1 + 1, 1, none⟩ = some (.string x2)) → ((X.setCell ⟨w.heap.size + 1, 0, none⟩ y).setCell ⟨w.heap.size + 1, 1, none⟩ z).cell? ⟨w.heap.size, 0, none⟩ = some (.int .i64 room) ∧ ((X.setCell ⟨w.heap.size + 1, 0, none⟩ y).setCell ⟨w.heap.size + 1, 1, none⟩ z).cell? ⟨w.heap.size, 1, none⟩ = some (.slice (some ⟨b, off, none⟩) n cap) ∧ ((X.setCell ⟨w.heap.size + 1, 0, none⟩ y).setCell ⟨w.heap.size + 1, 1, none⟩ z).cell? ⟨b, off + i, none⟩ = some (.slice (some ⟨ub, uoff, none⟩) L ucap) ∧ ((X.setCell ⟨w.heap.size + 1, 0, none⟩ y).setCell ⟨w.heap.size + 1, 1, none⟩ z).cell? ⟨w.heap.size + 1 + 1 + 1, 0, none⟩ = some (.int .i64 x1) ∧ ((X.setCell ⟨w.heap.size + 1, 0, none⟩ y).setCell ⟨w.heap.size + 1, 1, none⟩ z).cell? ⟨w.heap.size + 1 + 1 + 1, 1, none⟩ = some (.string x2)) := hid (fun X y z h => by
      obtain ⟨h0, h1, h2, h3, h4⟩ := h
      refine ⟨?_, ?_, ?_, ?_, ?_⟩ <;> rw [World.cell?_setCell_far _ _ _ _ (by simp <;> omega), World.cell?_setCell_far _ _ _ _ (by simp <;> omega)] <;> assumption)
    have HKB : Hid (∀ (X : World) (y z : Value), (X.cell? ⟨w.heap.size, 0, none⟩ = some (.int .i64 room) ∧ X.cell? ⟨w.heap.size, 1, none⟩ = some (.slice (some ⟨b, off, none⟩) n cap) ∧ X.cell? ⟨b, off + i, none⟩ = some (.slice (some ⟨ub, uoff, none⟩) L ucap) ∧ X.cell? ⟨w.heap.size + 1 + 1 + 1, 0, none⟩ = some (.int .i64 x1) ∧ X.cell? ⟨w.heap.size + 1 + 1 + 1, 1, none⟩ = some (.string x2)) → ((X.setCell ⟨w.heap.size + 1 + 1, 0, none⟩ y).setCell ⟨w.heap.size + 1 + 1, 1, none⟩ z).cell? ⟨w.heap.size, 0, none⟩ = some (.int .i64 room) ∧ ((X.setCell ⟨w.heap.size + 1 + 1, 0, none⟩ y).setCell ⟨w.heap.size + 1 + 1, 1, none⟩ z).cell? ⟨w.heap.size, 1, none⟩ = some (.slice (some ⟨b, off, none⟩) n cap) ∧ ((X.setCell ⟨w.heap.size + 1 + 1, 0, none⟩ y).setCell ⟨w.heap.size + 1 + 1, 1, none⟩ z).cell? ⟨b, off + i, none⟩ = some (.slice (some ⟨ub, uoff, none⟩) L ucap) ∧ ((X.setCell ⟨w.heap.size + 1 + 1, 0, none⟩ y).setCell ⟨w.heap.size + 1 + 1, 1, none⟩ z).cell? ⟨w.heap.size + 1 + 1 + 1, 0, none⟩ = some (.int .i64 x1) ∧ ((X.setCell ⟨w.heap.size + 1 + 1, 0, none⟩ y).setCell ⟨w.heap.size + 1 + 1, 1, none⟩ z).cell? ⟨w.heap.size + 1 + 1 + 1, 1, none⟩ = some (.string x2)) := hid (fun X y z h => by
      obtain ⟨h0, h1, h2, h3, h4⟩ := h
      refine ⟨?_, ?_, ?_, ?_, ?_⟩ <;> rw [World.cell?_setCell_far _ _ _ _ (by simp <;> omega), World.cell?_setCell_far _ _ _ _ (by simp <;> omega)] <;> assumption)
    go_region_held3 (fun w' => w'.cell? ⟨w.heap.size, 0, none⟩ = some (.int .i64 room) ∧ w'.cell? ⟨w.heap.size, 1, none⟩ = some (.slice (some ⟨b, off, none⟩) n cap) ∧ w'.cell? ⟨b, off + i, none⟩ = some (.slice (some ⟨ub, uoff, none⟩) L ucap) ∧ w'.cell? ⟨w.heap.size + 1 + 1 + 1, 0, none⟩ = some (.int .i64 x1) ∧ w'.cell? ⟨w.heap.size + 1 + 1 + 1, 1, none⟩ = some (.string x2))
      (first | (with_reducible exact hS0) | (with_reducible exact hS5) | (with_reducible exact HKA.out _ _ _ hS5) | (with_reducible exact HKB.out _ _ _ hS5) | (with_reducible exact HKB.out _ _ _ (HKA.out _ _ _ hS5)) | (with_reducible exact HKA.out _ _ _ (HKB.out _ _ _ hS5)))
      (first
        | (go_at_call 41; refine (HWith.out _ (Below.drew (Below.refl _ _)) _ (T1.out _ (Below.drew (Below.refl _ _)) hcap1)).mono ?_; rintro e w5 ⟨v', rfl, hL5, hB5⟩
           have hb5 : Below W4.heap.size W4 w5 := (Below.drew (Below.refl _ _)).trans hB5
           have y0 := (hb5.cell (World.block_lt_of_cell? W4 _ p0')).trans p0'
           have y1 := (hb5.cell (World.block_lt_of_cell? W4 _ p1')).trans p1'
           have y2 := (hb5.cell (World.block_lt_of_cell? W4 _ hu')).trans hu'
           have y3 := (hb5.cell (World.block_lt_of_cell? W4 _ k0)).trans k0
           have y4 := (hb5.cell (World.block_lt_of_cell? W4 _ k1)).trans k1
           have hS5 := And.intro y0 (And.intro y1 (And.intro y2 (And.intro y3 y4)))
           clear y0 y1 y2 y3 y4
           have g1 := (hb5.block (w.heap.size + 1) (by have := HS4.out; omega)).trans H1.out
           have g2 := (hb5.block (w.heap.size + 2) (by have := HS4.out; omega)).trans H2.out
           have z0 : w5.cell? ⟨w.heap.size + 1, 0, none⟩ = some (.int .i64 0) := by simp [World.cell?, g1]
           have z1 : w5.cell? ⟨w.heap.size + 1, 1, none⟩ = some (.slice none 0 0) := by simp [World.cell?, g1]
           have z2 : w5.cell? ⟨w.heap.size + 1 + 1, 0, none⟩ = some (.int .i64 0) := by simp [World.cell?, g2]
           have z3 : w5.cell? ⟨w.heap.size + 1 + 1, 1, none⟩ = some (.string ⟨#[]⟩) := by simp [World.cell?, g2]
           have q0 : w5.frozen? ⟨w.heap.size + 1, 0, none⟩ = false := by simp [World.frozen?, g1]
           have q1 : w5.frozen? ⟨w.heap.size + 1, 1, none⟩ = false := by simp [World.frozen?, g1]
           have q2 : w5.frozen? ⟨w.heap.size + 1 + 1, 0, none⟩ = false := by simp [World.frozen?, g2]
           have q3 : w5.frozen? ⟨w.heap.size + 1 + 1, 1, none⟩ = false := by simp [World.frozen?, g2]
           obtain ⟨vb, vo, vc, hvv⟩ : ∃ vb vo vc, v' = .slice (some ⟨vb, vo, none⟩) n vc := by
             obtain ⟨vb, vo, vc, hvv, _⟩ := hL5
             exact ⟨vb, vo, vc, hvv⟩
           subst hvv
           have HL5 := hid hL5
           have HB5 := hid (HB4.out.trans (hb5.mono HB4.out.size))
           clear hL5 hB5 hb5 p0' p1' hu' k0 k1 g1 g2))
    obtain ⟨c0, c1, c2, c3, c4, c5⟩ := rtake_fin (x1 := x1) (x2 := x2) (room := room) HFb.out z0 z1 z2 z3 HL5.out HB5.out _ rfl
    have HC := hid (And.intro c4 c5)
    obtain ⟨Z, hZ⟩ : ∃ Z, Z = ((((w5.setCell ⟨w.heap.size + 1, 0, none⟩ (.int .i64 room)).setCell ⟨w.heap.size + 1, 1, none⟩ (.slice (some ⟨vb, vo, none⟩) n vc)).setCell ⟨w.heap.size + 1 + 1, 0, none⟩ (.int .i64 x1)).setCell ⟨w.heap.size + 1 + 1, 1, none⟩ (.string x2)) := ⟨_, rfl⟩
    rw [← hZ] at c0 c1 c2 c3 HC ⊢
    clear c4 c5 hZ z0 z1 z2 z3 q0 q1 q2 q3 hS5 HKA HKB hS0
    go_wp2
    refine bodyPost_ret (v := .tuple #[.agg #[.int .i64 room, .slice (some ⟨vb, vo, none⟩) n vc], .agg #[.int .i64 x1, .string x2], .bool true]) (by simp [results, Try.results25, go_sem, c0, c1, c2, c3]) rfl ?_
    exact ⟨_, rfl, HC.out.1, HC.out.2⟩
theorem rtake_pick {n : Nat} {who : Int} {d : Nat → List Msg} (h : ¬ (usr n who = true ∧ d who.toNat ≠ [])) : who < 0 ∨ (n : Int) ≤ who ∨ (∃ i : Nat, i < n ∧ who = i ∧ d i = []) := by
  by_cases h0 : who < 0
  · exact Or.inl h0
  · by_cases h1 : (n : Int) ≤ who
    · exact Or.inr (Or.inl h1)
    · refine Or.inr (Or.inr ⟨who.toNat, by omega, by omega, ?_⟩)
      by_cases h2 : d who.toNat = []
      · exact h2
      · exact absurd ⟨by unfold usr; simp; omega, h2⟩ h
set_option maxRecDepth 20000 in
set_option maxHeartbeats 4000000 in
theorem rtake_none (room : Int) (vL : Value) (n : Nat) (who : Int) (F : Nat → Prop) (d : Nat → List Msg) (w : World) (hD : LSees F w vL n d) (h : who < 0 ∨ (n : Int) ≤ who ∨ (∃ i : Nat, i < n ∧ who = i ∧ d i = [])) :
    Calls Try.prog 25 #[poV room vL, .int .i64 who] w fun e w' => e = .returned (.tuple #[poV room vL, Mq.mV Mq.z0, .bool false]) ∧ Below w.heap.size w w' := by
  obtain ⟨b, off, cap, hv, hc, hn1, hf, hcell⟩ := hD
  subst hv
  have HB := hid (((below_alloc w (.cells #[.int .i64 room, .slice (some ⟨b, off, none⟩) n cap] 29)).alloc (by simp) (.cells #[.int .i64 room, .slice (some ⟨b, off, none⟩) n cap] 29)).alloc (by simp; omega) (.cells #[.int .i64 0, .string ⟨#[]⟩] 55))
  unfold poV Mq.mV Mq.z0
  by_cases h0 : who < 0
  · clear hcell h
    go_enter Try.func25, Try.ntmps25
    go_wp2
    refine bodyPost_ret (v := .tuple #[.agg #[.int .i64 room, .slice (some ⟨b, off, none⟩) n cap], .agg #[.int .i64 0, .string ⟨#[]⟩], .bool false]) (by simp [results, Try.results25, go_sem]) rfl ?_
    exact ⟨rfl, HB.out⟩
  by_cases h1 : (n : Int) ≤ who
  · clear hcell h
    go_enter Try.func25, Try.ntmps25
    go_wp2
    refine bodyPost_ret (v := .tuple #[.agg #[.int .i64 room, .slice (some ⟨b, off, none⟩) n cap], .agg #[.int .i64 0, .string ⟨#[]⟩], .bool false]) (by simp [results, Try.results25, go_sem]) rfl ?_
    exact ⟨rfl, HB.out⟩
  obtain ⟨i, hi, rfl, hd⟩ : ∃ i : Nat, i < n ∧ who = i ∧ d i = [] := by
    rcases h with h | h | h
    · exact absurd h h0
    · exact absurd h h1
    · exact h
  obtain ⟨u, hu, hm⟩ := hcell i hi
  rw [hd] at hm
  obtain ⟨ao, c, huv⟩ := hm.shape
  subst huv
  have hbl := World.block_lt_of_cell? w _ hu
  simp only at hbl
  have hbl1 : b < w.heap.size + 1 := by omega
  have hbl2 : b < w.heap.size + 1 + 1 := by omega
  have hlt : (i : Int) < n := by omega
  have hni : ¬ n ≤ i := by omega
  clear hcell h hm hd
  go_enter Try.func25, Try.ntmps25
  go_wp2
  refine bodyPost_ret (v := .tuple #[.agg #[.int .i64 room, .slice (some ⟨b, off, none⟩) n cap], .agg #[.int .i64 0, .string ⟨#[]⟩], .bool false]) (by simp [results, Try.results25, go_sem]) rfl ?_
  exact ⟨rfl, HB.out⟩
end Go.Proofs.Ytahibklmcooanaa
