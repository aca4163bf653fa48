/-
  Take of a state.
-/
import Derived.Test.YtkaffbchlngfaaaDoorVTake
namespace Go.Proofs.YtkaffbchlngfaaaDoor
open Go.RowKit
set_option linter.unusedVariables false
set_option linter.unusedSimpArgs false

theorem Sees.take {w : World} {ao : Option Addr} {n cap : Nat} {xs : List Int} (h : Sees w (.slice ao n cap) xs) (k : Nat) (hk : k ≤ xs.length) : Sees w (.slice ao k cap) (xs.take k) := by
  obtain ⟨b, off, ao', cap', e, hc, hn, ha, hcell⟩ := h
  cases e
  have hl : (xs.take k).length = k := by rw [List.length_take]; omega
  refine ⟨b, off, ao, cap, by rw [hl], by omega, hn, fun hx => ha (fun h0 => hx (by rw [h0]; simp)), fun j hj => ?_⟩
  rw [hl] at hj
  rw [hcell j (by omega)]
  simp [List.getD, List.getElem?_take, hj]
theorem Sees.drop {w : World} {ad : Addr} {n cap : Nat} {xs : List Int} (h : Sees w (.slice (some ad) n cap) xs) (k : Nat) (hk : k ≤ xs.length) : Sees w (.slice (some (ad.add k)) (n - k) (cap - k)) (xs.drop k) := by
  obtain ⟨b, off, ao', cap', e, hc, hn, ha, hcell⟩ := h
  cases e
  have hl : (xs.drop k).length = xs.length - k := by rw [List.length_drop]
  refine ⟨b, off + k, _, cap - k, by rw [hl], by omega, (fun h0 => by cases h0), fun hx => ?_, fun j hj => ?_⟩
  · have h0 := ha (fun h0 => hx (by rw [h0]; simp))
    cases h0
    rw [addr_add]
  · rw [hl] at hj
    rw [Nat.add_assoc, hcell (k + j) (by omega)]
    simp [List.getD, List.getElem?_drop]
theorem Sees.end {w : World} {ao : Option Addr} {n cap : Nat} {xs : List Int} (h : Sees w (.slice ao n cap) xs) (c : Nat) (hc : ao = none → c = 0) : Sees w (.slice ao 0 c) ([] : List Int) :=
  ⟨0, 0, ao, c, rfl, Nat.zero_le _, hc, fun h => absurd rfl h, fun j hj => by simp at hj⟩

set_option maxRecDepth 100000 in
set_option maxHeartbeats 2000000 in
theorem take_bad (sv : Value) (s : StL) (vs vk : Value) (n : Int) (E : Int) (w : World) (hS : SeesS w sv s vs vk) (hE : (n < 0 ∧ E = 1) ∨ (0 ≤ n ∧ (s.st.length : Int) < n ∧ E = 3)) :
    Calls Tryd.prog 50 #[sv, .int .i64 n] w fun e w' => e = .returned (.tuple #[.agg #[.int .i64 0, .slice none 0 0, .slice none 0 0], .slice none 0 0, .int .i64 E]) ∧ Below w.heap.size w w' := by
  obtain ⟨rfl, hs1, hs2, _, _⟩ := hS
  obtain ⟨b1, o1, a1, n1, rfl, hc1, _, _, _⟩ := hs1
  obtain ⟨W, hW⟩ : ∃ W, W = (w.alloc (.cells #[.int .i64 s.pc, .slice a1 s.st.length n1, vk] 34)).alloc (.cells #[.int .i64 0, .slice none 0 0, .slice none 0 0] 34) := ⟨_, rfl⟩
  have hb : Below w.heap.size w W := by rw [hW]; exact below_alloc2 w _ _
  obtain ⟨hz0, hz1⟩ := heap_new1 w (.cells #[.int .i64 s.pc, .slice a1 s.st.length n1, vk] 34) (.cells #[.int .i64 0, .slice none 0 0, .slice none 0 0] 34)
  rw [← hW] at hz0 hz1
  obtain ⟨g0, g1, g2, _, _, _⟩ := cel3 hz0
  obtain ⟨k0, k1, k2, z0, z1, z2⟩ := cel3 hz1
  have HB := hid hb
  have HZ := hid hz1
  clear hb hz0 hz1 hs2
  rcases hE with ⟨h1, rfl⟩ | ⟨h0, h1, rfl⟩
  · go_enter Tryd.func50, Tryd.ntmps50
    iterate 9 (first | go_values | go_skip | go_guarded | go_step | go_upon | go_back | go_simp)
    rw [← hW]
    clear hW
    go_wp2
    refine bodyPost_ret (results_ctt (fn := Tryd.f50) (p1 := 4) (u := 5) (x := 6) rfl _ _ (w.heap.size + 1) 34 #[.int .i64 0, .slice none 0 0, .slice none 0 0] (0, 0) _ (.slice none 0 0) (.int .i64 1) rfl rfl rfl (fill3_g HZ.out) Tryd.underlying34 rfl) rfl ?_
    exact ⟨rfl, fill3_below HB.out (by omega) _ _ _⟩
  · have h2 : ¬ n < 0 := by omega
    go_enter Tryd.func50, Tryd.ntmps50
    iterate 9 (first | go_values | go_skip | go_guarded | go_step | go_upon | go_back | go_simp)
    rw [← hW]
    clear hW
    go_wp2
    refine bodyPost_ret (results_ctt (fn := Tryd.f50) (p1 := 4) (u := 5) (x := 6) rfl _ _ (w.heap.size + 1) 34 #[.int .i64 0, .slice none 0 0, .slice none 0 0] (0, 0) _ (.slice none 0 0) (.int .i64 3) rfl rfl rfl (fill3_g HZ.out) Tryd.underlying34 rfl) rfl ?_
    exact ⟨rfl, fill3_below HB.out (by omega) _ _ _⟩

set_option maxRecDepth 100000 in
set_option maxHeartbeats 4000000 in
theorem take_any (sv : Value) (s : StL) (vs vk : Value) (k m : Nat) (w : World) (hS : SeesS w sv s vs vk) (hkm : k + m = s.st.length) (hc0 : s.st.length * 8 ≤ 140737488355328) (hc : s.ca.length * 8 ≤ 140737488355328) :
    Calls Tryd.prog 50 #[sv, .int .i64 (m : Int)] w fun e w' => ∃ us uk ul, e = .returned (.tuple #[.agg #[.int .i64 s.pc, us, uk], ul, .int .i64 0]) ∧ OwnS w' w.heap.size us uk (s.st.take k) s.ca ∧ Owns w' w.heap.size ul (s.st.drop k) ∧ Below w.heap.size w w' := by
  obtain ⟨rfl, hs1, hs2, _, _⟩ := hS
  have hs1' := hs1
  obtain ⟨b1, o1, a1, n1, rfl, hc1, hn1, ha1, _⟩ := hs1'
  obtain ⟨L, hL⟩ : ∃ L, s.st.length = L := ⟨_, rfl⟩
  rw [hL] at hs1 hc1 hkm hc0
  rw [hL]
  obtain ⟨W, hW⟩ : ∃ W, W = (w.alloc (.cells #[.int .i64 s.pc, .slice a1 L n1, vk] 34)).alloc (.cells #[.int .i64 0, .slice none 0 0, .slice none 0 0] 34) := ⟨_, rfl⟩
  have hb : Below w.heap.size w W := by rw [hW]; exact below_alloc2 w _ _
  obtain ⟨hz0, hz1⟩ := heap_new1 w (.cells #[.int .i64 s.pc, .slice a1 L n1, vk] 34) (.cells #[.int .i64 0, .slice none 0 0, .slice none 0 0] 34)
  rw [← hW] at hz0 hz1
  have hbd : Below w.heap.size w W.drew := Below.drew hb
  have hWd : Below W.heap.size W W.drew := Below.drew (Below.refl _ _)
  have hsz := (Array.getElem?_eq_some_iff.1 hz1).1
  have HKC : Hid (∀ X : World, X.heap[w.heap.size]? = W.heap[w.heap.size]? → X.cell? ⟨w.heap.size, 0, none⟩ = some (.int .i64 s.pc) ∧ X.cell? ⟨w.heap.size, 1, none⟩ = some (.slice a1 L n1) ∧ X.cell? ⟨w.heap.size, 2, none⟩ = some vk) := fun X h => by
    obtain ⟨g0, g1, g2, _⟩ := cel3 (h.trans hz0)
    exact ⟨g0, g1, g2⟩
  have HZC : Hid (∀ X, Below W.heap.size W X → X.heap[w.heap.size + 1]? = some (.cells #[.int .i64 0, .slice none 0 0, .slice none 0 0] 34 (0, 0))) := fun X h => (h.block _ hsz).trans hz1
  have HF1 : Hid (∀ X, Below w.heap.size w X → Calls Tryd.prog 65 #[.slice a1 k n1] X fun e w' => ∃ v', e = .returned v' ∧ Owns w' X.heap.size v' (s.st.take k) ∧ Below X.heap.size X w') := fun X h => fresh_any _ (s.st.take k) X ((hs1.below h).take k (by omega)) (by simp [hL]; omega)
  have HF2 : Hid (∀ X, Below w.heap.size w X → Calls Tryd.prog 65 #[vk] X fun e w' => ∃ v', e = .returned v' ∧ Owns w' X.heap.size v' s.ca ∧ Below X.heap.size X w') := fun X h => fresh_any _ s.ca X (hs2.below h) hc
  have HSD : Hid (∀ X, Below w.heap.size w X → (k < n1 → ∀ ad, a1 = some ad → Sees X (.slice (some (ad.add k)) (L - k) (n1 - k)) (s.st.drop k)) ∧ (k = n1 → Sees X (.slice a1 0 0) (s.st.drop k))) := fun X h => by
    refine ⟨fun h1 ad e => ?_, fun h1 => ?_⟩
    · subst e
      exact (hs1.below h).drop k (by omega)
    · rw [List.drop_eq_nil_of_le (by omega)]
      exact (hs1.below h).end 0 (fun _ => rfl)
  have HF3 : Hid (∀ (X : World) (u : Value), Sees X u (s.st.drop k) → Calls Tryd.prog 65 #[u] X fun e w' => ∃ v', e = .returned v' ∧ Owns w' X.heap.size v' (s.st.drop k) ∧ Below X.heap.size X w') := fun X u h => fresh_any _ (s.st.drop k) X h (by simp [hL]; omega)
  obtain ⟨c0, c1, c2⟩ := HKC.out W rfl
  have hd0 := HKC.out W.drew rfl
  have HB := hid hb
  have HBD := hid hWd
  have nn : ¬ ((m : Int) < 0) := by omega
  have nn2 : ¬ ((L : Int) < (m : Int)) := by omega
  have e1 : (L : Int) - (m : Int) = (k : Int) := by omega
  have e2 : IntKind.i64.wrap (k : Int) = (k : Int) := wrap_i64_nat _ (by omega)
  have e3 : (k : Int) ≤ (n1 : Int) := by omega
  have e4 : (k : Int) ≤ (L : Int) := by omega
  have HZ1 := hid hz1
  have HKF : Hid (∀ (X : World) (x y z : Value), Below W.heap.size W X → (((X.setCell ⟨w.heap.size + 1, 0, none⟩ x).setCell ⟨w.heap.size + 1, 1, none⟩ y).setCell ⟨w.heap.size + 1, 2, none⟩ z).cell? ⟨w.heap.size, 0, none⟩ = some (.int .i64 s.pc) ∧ (((X.setCell ⟨w.heap.size + 1, 0, none⟩ x).setCell ⟨w.heap.size + 1, 1, none⟩ y).setCell ⟨w.heap.size + 1, 2, none⟩ z).cell? ⟨w.heap.size, 1, none⟩ = some (.slice a1 L n1) ∧ (((X.setCell ⟨w.heap.size + 1, 0, none⟩ x).setCell ⟨w.heap.size + 1, 1, none⟩ y).setCell ⟨w.heap.size + 1, 2, none⟩ z).cell? ⟨w.heap.size, 2, none⟩ = some vk) := fun X x y z h => HKC.out _ ((fill3_far (w := X) (g := w.heap.size + 1) (j := w.heap.size) x y z (by omega)).trans (h.block w.heap.size (by omega)))
  have HT1 : Hid True := trivial
  have HT2 : Hid (1 = 1) := rfl
  have HB2z : Hid (w.heap.size ≤ W.heap.size) := HB.out.size
  have HLL := hid hL
  clear hb hbd hWd hz0 hz1 hs1 hs2 hL
  by_cases hkn : k = n1
  · obtain rfl : m = 0 := by omega
    obtain rfl : L = k := by omega
    subst hkn
    have HG3 := hid (fun (X : World) (h : Below w.heap.size w X) => HF3.out X _ ((HSD.out X h).2 rfl))
    clear HF3 HSD
    go_enter Tryd.func50, Tryd.ntmps50
    iterate 9 (first | go_values | go_skip | go_guarded | go_step | go_upon | go_back | go_simp)
    rw [← hW]
    clear hW
    go_wp2_with fail
    go_region_held3 (fun X => X.cell? ⟨w.heap.size, 0, none⟩ = some (.int .i64 s.pc) ∧ X.cell? ⟨w.heap.size, 1, none⟩ = some (.slice a1 L L) ∧ X.cell? ⟨w.heap.size, 2, none⟩ = some vk)
      (first | (with_reducible exact hd0) | (with_reducible exact k1) | (with_reducible exact k2) | (with_reducible exact k3) | (with_reducible exact HKF.out _ _ _ _ HB3.out) | (with_reducible exact HKF.out _ _ _ _ HB2.out))
      (first
        | (go_at_call 65
           clear HT1
           refine (HF1.out W.drew (HB.out.trans (HBD.out.mono HB.out.size))).mono ?_
           rintro e w1 ⟨u1, rfl, o1, b1⟩
           have b1' := HBD.out.trans b1
           have k1 := HKC.out w1 (b1'.block _ (by omega))
           obtain ⟨aa1, cc1, hu1⟩ := ownsRow_shape o1
           subst hu1
           have HO1 := hid o1
           have HB1 := hid b1'
           clear o1 b1 b1')
        | (go_at_call 65
           clear HT2
           refine (HF2.out w1 (HB.out.trans (HB1.out.mono HB.out.size))).mono ?_
           rintro e w2 ⟨u2, rfl, o2, b2⟩
           have b2' := HB1.out.trans (b2.mono HB1.out.size)
           have k2 := HKC.out w2 (b2'.block _ (by omega))
           obtain ⟨aa2, cc2, hu2⟩ := ownsRow_shape o2
           subst hu2
           have HC2 := hid (HZC.out w2 b2')
           obtain ⟨q0, q1, q2, z0, z1, z2⟩ := cel3 HC2.out
           have HO2 := hid o2
           have HO1b := hid (ownsRow_below HO1.out b2)
           have HL1 := hid HO1.out.lt
           have HB2 := hid b2'
           clear o2 b2 b2')
        | (go_at_call 65
           refine (HG3.out w2 (HB.out.trans (HB2.out.mono HB.out.size))).mono ?_
           rintro e w3 ⟨u3, rfl, o3, b3⟩
           have b3' := HB2.out.trans (b3.mono HB2.out.size)
           have k3 := HKC.out w3 (b3'.block _ (by omega))
           obtain ⟨aa3, cc3, hu3⟩ := ownsRow_shape o3
           subst hu3
           have HC3 := hid (HZC.out w3 b3')
           obtain ⟨p0, p1, p2, y0, y1, y2⟩ := cel3 HC3.out
           have HO3 := hid o3
           have HO1c := hid (ownsRow_below HO1b.out b3)
           have HO2c := hid (ownsRow_below HO2.out b3)
           have HL2 := hid HO2.out.lt
           have HB3 := hid b3'
           clear o3 b3 b3')
        | (go_at_call 65
           refine (HG3.out _ (fill3_below (g := w.heap.size + 1) (HB.out.trans (HB2.out.mono HB.out.size)) (Nat.le_succ _) _ _ _)).mono ?_
           rintro e w3 ⟨u3, rfl, o3, b3⟩
           have hs2 := HB2.out.size
           have k3 := HKC.out w3 ((b3.block _ (by simp; omega)).trans ((fill3_far _ _ _ (by omega)).trans (HB2.out.block _ (by omega))))
           obtain ⟨aa3, cc3, hu3⟩ := ownsRow_shape o3
           subst hu3
           have HC3 := hid ((b3.block _ (by simp; omega)).trans (fill3_g HC2.out))
           have HO3 := hid o3
           have HO1c := hid (ownsRow_below (ownsRow_same HO1b.out (fun j hj => fill3_far _ _ _ (by have := (HL1.out j hj).1; omega))) b3)
           have HO2c := hid (ownsRow_below (ownsRow_same HO2.out (fun j hj => fill3_far _ _ _ (by have := (HO2.out.lt j hj).1; have := HB1.out.size; omega))) b3)
           have HL2 := hid HO2.out.lt
           have HB3 := hid ((fill3_below (g := w.heap.size + 1) (HB.out.trans (HB2.out.mono HB.out.size)) (Nat.le_succ _) _ _ _).trans (b3.mono (by simp; omega)))
           have HTB : Hid (3 = 3) := rfl
           clear o3 b3 hs2)
        | fail)
    all_goals
      go_wp2
      have e9 : (s.st.take L).length = min L s.st.length := List.length_take
      have e8 : (s.st.drop L).length = s.st.length - L := List.length_drop
      have hl1 : ∀ j, (Value.slice aa1 (min L s.st.length) cc1).ownBlock = some j → W.heap.size ≤ j ∧ j < w1.heap.size := fun j hj => HL1.out j (by cases aa1 <;> exact hj)
      have hl2 := HL2.out
      have ho1 : w3.ownsRow W.heap.size 3 1 (.slice aa1 (min L s.st.length) cc1) (s.st.take L).length ((s.st.take L).map (Value.int .i64)) := by rw [← e9]; exact HO1c.out
      have ho3 := HO3.out
      rw [e8] at ho3
      have hl3 : ∀ j, (Value.slice aa3 (s.st.length - L) cc3).ownBlock = some j → w2.heap.size ≤ j := fun j hj => by
        have h0 := (HO3.out.lt j (by cases aa3 <;> exact hj)).1
        simpa [fill3] using h0
      have hs := HB.out.size
      have hs1 := HB1.out.size
      have hs2 := HB2.out.size
      first
        | (refine bodyPost_ret (results_ctt (fn := Tryd.f50) (p1 := 4) (u := 5) (x := 6) rfl _ _ (w.heap.size + 1) 34 _ (0, 0) _ _ (.int .i64 0) rfl rfl rfl HC3.out Tryd.underlying34 rfl) rfl ?_
           refine ⟨_, _, _, rfl, ⟨ownsRow_le ho1 hs, ownsRow_le HO2c.out (by omega), fun j hj e => ?_⟩, ?_, HB3.out⟩
           · have := (hl1 j hj).2
             have := (hl2 j e).1
             omega
           · exact ownsRow_le ho3 (by simp [fill3]; omega))
        | (refine bodyPost_ret (results_ctt (fn := Tryd.f50) (p1 := 4) (u := 5) (x := 6) rfl _ _ (w.heap.size + 1) 34 _ (0, 0) _ _ (.int .i64 0) rfl rfl rfl (fill3_g HC3.out) Tryd.underlying34 rfl) rfl ?_
           refine ⟨_, _, _, rfl, ⟨ownsRow_le (ownsRow_same ho1 (fun j hj => fill3_far _ _ _ (by have := (hl1 j hj).1; omega))) hs, ownsRow_le (ownsRow_same HO2c.out (fun j hj => fill3_far _ _ _ (by have := (hl2 j hj).1; omega))) (by omega), fun j hj e => ?_⟩, ?_, fill3_below (HB.out.trans (HB3.out.mono hs)) (by omega) _ _ _⟩
           · have := (hl1 j hj).2
             have := (hl2 j e).1
             omega
           · exact ownsRow_le (ownsRow_same ho3 (fun j hj => fill3_far _ _ _ (by have := hl3 j hj; omega))) (by omega))
  · have hkl : k < n1 := by omega
    obtain ⟨ad, rfl⟩ : ∃ ad, a1 = some ad := by
      cases a1 with
      | none => exact absurd (hn1 rfl) (by omega)
      | some ad => exact ⟨ad, rfl⟩
    have e5 : (k : Int) < (n1 : Int) := by omega
    have HG3 := hid (fun (X : World) (h : Below w.heap.size w X) => HF3.out X _ ((HSD.out X h).1 hkl _ rfl))
    clear HF3 HSD
    go_enter Tryd.func50, Tryd.ntmps50
    iterate 9 (first | go_values | go_skip | go_guarded | go_step | go_upon | go_back | go_simp)
    rw [← hW]
    clear hW
    go_wp2_with fail
    go_region_held3 (fun X => X.cell? ⟨w.heap.size, 0, none⟩ = some (.int .i64 s.pc) ∧ X.cell? ⟨w.heap.size, 1, none⟩ = some (.slice (some ad) L n1) ∧ X.cell? ⟨w.heap.size, 2, none⟩ = some vk)
      (first | (with_reducible exact hd0) | (with_reducible exact k1) | (with_reducible exact k2) | (with_reducible exact k3) | (with_reducible exact HKF.out _ _ _ _ HB3.out) | (with_reducible exact HKF.out _ _ _ _ HB2.out))
      (first
        | (go_at_call 65
           clear HT1
           refine (HF1.out W.drew (HB.out.trans (HBD.out.mono HB.out.size))).mono ?_
           rintro e w1 ⟨u1, rfl, o1, b1⟩
           have b1' := HBD.out.trans b1
           have k1 := HKC.out w1 (b1'.block _ (by omega))
           obtain ⟨aa1, cc1, hu1⟩ := ownsRow_shape o1
           subst hu1
           have HO1 := hid o1
           have HB1 := hid b1'
           clear o1 b1 b1')
        | (go_at_call 65
           clear HT2
           refine (HF2.out w1 (HB.out.trans (HB1.out.mono HB.out.size))).mono ?_
           rintro e w2 ⟨u2, rfl, o2, b2⟩
           have b2' := HB1.out.trans (b2.mono HB1.out.size)
           have k2 := HKC.out w2 (b2'.block _ (by omega))
           obtain ⟨aa2, cc2, hu2⟩ := ownsRow_shape o2
           subst hu2
           have HC2 := hid (HZC.out w2 b2')
           obtain ⟨q0, q1, q2, z0, z1, z2⟩ := cel3 HC2.out
           have HO2 := hid o2
           have HO1b := hid (ownsRow_below HO1.out b2)
           have HL1 := hid HO1.out.lt
           have HB2 := hid b2'
           clear o2 b2 b2')
        | (go_at_call 65
           refine (HG3.out w2 (HB.out.trans (HB2.out.mono HB.out.size))).mono ?_
           rintro e w3 ⟨u3, rfl, o3, b3⟩
           have b3' := HB2.out.trans (b3.mono HB2.out.size)
           have k3 := HKC.out w3 (b3'.block _ (by omega))
           obtain ⟨aa3, cc3, hu3⟩ := ownsRow_shape o3
           subst hu3
           have HC3 := hid (HZC.out w3 b3')
           obtain ⟨p0, p1, p2, y0, y1, y2⟩ := cel3 HC3.out
           have HO3 := hid o3
           have HO1c := hid (ownsRow_below HO1b.out b3)
           have HO2c := hid (ownsRow_below HO2.out b3)
           have HL2 := hid HO2.out.lt
           have HB3 := hid b3'
           clear o3 b3 b3')
        | (go_at_call 65
           refine (HG3.out _ (fill3_below (g := w.heap.size + 1) (HB.out.trans (HB2.out.mono HB.out.size)) (Nat.le_succ _) _ _ _)).mono ?_
           rintro e w3 ⟨u3, rfl, o3, b3⟩
           have hs2 := HB2.out.size
           have k3 := HKC.out w3 ((b3.block _ (by simp; omega)).trans ((fill3_far _ _ _ (by omega)).trans (HB2.out.block _ (by omega))))
           obtain ⟨aa3, cc3, hu3⟩ := ownsRow_shape o3
           subst hu3
           have HC3 := hid ((b3.block _ (by simp; omega)).trans (fill3_g HC2.out))
           have HO3 := hid o3
           have HO1c := hid (ownsRow_below (ownsRow_same HO1b.out (fun j hj => fill3_far _ _ _ (by have := (HL1.out j hj).1; omega))) b3)
           have HO2c := hid (ownsRow_below (ownsRow_same HO2.out (fun j hj => fill3_far _ _ _ (by have := (HO2.out.lt j hj).1; have := HB1.out.size; omega))) b3)
           have HL2 := hid HO2.out.lt
           have HB3 := hid ((fill3_below (g := w.heap.size + 1) (HB.out.trans (HB2.out.mono HB.out.size)) (Nat.le_succ _) _ _ _).trans (b3.mono (by simp; omega)))
           have HTB : Hid (3 = 3) := rfl
           clear o3 b3 hs2)
        | fail)
    all_goals
      go_wp2
      have e9 : (s.st.take k).length = min k s.st.length := List.length_take
      have e8 : (s.st.drop k).length = s.st.length - k := List.length_drop
      have hl1 : ∀ j, (Value.slice aa1 (min k s.st.length) cc1).ownBlock = some j → W.heap.size ≤ j ∧ j < w1.heap.size := fun j hj => HL1.out j (by cases aa1 <;> exact hj)
      have hl2 := HL2.out
      have ho1 : w3.ownsRow W.heap.size 3 1 (.slice aa1 (min k s.st.length) cc1) (s.st.take k).length ((s.st.take k).map (Value.int .i64)) := by rw [← e9]; exact HO1c.out
      have ho3 := HO3.out
      rw [e8] at ho3
      have hl3 : ∀ j, (Value.slice aa3 (s.st.length - k) cc3).ownBlock = some j → w2.heap.size ≤ j := fun j hj => by
        have h0 := (HO3.out.lt j (by cases aa3 <;> exact hj)).1
        simpa [fill3] using h0
      have hs := HB.out.size
      have hs1 := HB1.out.size
      have hs2 := HB2.out.size
      first
        | (refine bodyPost_ret (results_ctt (fn := Tryd.f50) (p1 := 4) (u := 5) (x := 6) rfl _ _ (w.heap.size + 1) 34 _ (0, 0) _ _ (.int .i64 0) rfl rfl rfl HC3.out Tryd.underlying34 rfl) rfl ?_
           refine ⟨_, _, _, rfl, ⟨ownsRow_le ho1 hs, ownsRow_le HO2c.out (by omega), fun j hj e => ?_⟩, ?_, HB3.out⟩
           · have := (hl1 j hj).2
             have := (hl2 j e).1
             omega
           · exact ownsRow_le ho3 (by simp [fill3]; omega))
        | (refine bodyPost_ret (results_ctt (fn := Tryd.f50) (p1 := 4) (u := 5) (x := 6) rfl _ _ (w.heap.size + 1) 34 _ (0, 0) _ _ (.int .i64 0) rfl rfl rfl (fill3_g HC3.out) Tryd.underlying34 rfl) rfl ?_
           refine ⟨_, _, _, rfl, ⟨ownsRow_le (ownsRow_same ho1 (fun j hj => fill3_far _ _ _ (by have := (hl1 j hj).1; omega))) hs, ownsRow_le (ownsRow_same HO2c.out (fun j hj => fill3_far _ _ _ (by have := (hl2 j hj).1; omega))) (by omega), fun j hj e => ?_⟩, ?_, fill3_below (HB.out.trans (HB3.out.mono hs)) (by omega) _ _ _⟩
           · have := (hl1 j hj).2
             have := (hl2 j e).1
             omega
           · exact ownsRow_le (ownsRow_same ho3 (fun j hj => fill3_far _ _ _ (by have := hl3 j hj; omega))) (by omega))
end Go.Proofs.YtkaffbchlngfaaaDoor
