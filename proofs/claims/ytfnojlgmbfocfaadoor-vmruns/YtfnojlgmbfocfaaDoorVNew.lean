/-
  A machine is made; how it stands.
-/
import Derived.Test.YtfnojlgmbfocfaaDoorVMay
import Derived.Test.YtfnojlgmbfocfaaDoorVStep
namespace Go.Proofs.YtfnojlgmbfocfaaDoor
open Go.RowKit
set_option linter.unusedVariables false
set_option linter.unusedSimpArgs false

set_option maxHeartbeats 1000000 in
theorem fresh_any (v : Value) (xs : List Int) (w : World) (hS : Sees w v xs) (hb : xs.length * 8 ≤ 140737488355328) :
    Calls Tryd.prog 30 #[v] w fun e w' => ∃ v', e = .returned v' ∧ Owns w' w.heap.size v' xs ∧ Below w.heap.size w w' := by
  obtain ⟨v', w', hr, ho, hg, hv⟩ := run_app w 23 w.heap.size _ [] (Owns.nil w _) v xs hS (by simpa using hb) (Nat.le_refl _)
  have HR := hid hr
  have HO : Hid (Owns w' w.heap.size v' xs) := by unfold Hid; simpa using ho
  have HB : Hid (Below w.heap.size w w') := (Below.refl _ _).grown hg (Nat.le_refl _) (fun k hk => by simp [Value.ownBlock] at hk)
  clear hr ho hg hv hS
  go_enter Tryd.func30, Tryd.ntmps30
  go_wp2_with (at_builtin; refine wpList_append_run rfl _ _ 23 23 rfl _ _ rfl rfl HR.out ?_)
  go_ret
  exact ⟨_, rfl, HO.out, HB.out⟩
set_option maxHeartbeats 1000000 in
theorem freshI_any (v : Value) (l : List InsL) (w : World) (hS : SeesI w v l) (hb : l.length * 16 ≤ 140737488355328) :
    Calls Tryd.prog 33 #[v] w fun e w' => ∃ v', e = .returned v' ∧ OwnsI w' w.heap.size v' l ∧ Below w.heap.size w w' := by
  obtain ⟨v', w', hr, ho, hg⟩ := run_appI w 22 v l hS hb
  have HR := hid hr
  have HO := hid ho
  have HB := hid hg
  clear hr ho hg hS
  go_enter Tryd.func33, Tryd.ntmps33
  go_wp2_with (at_builtin; refine wpList_append_run rfl _ _ 22 22 rfl _ _ rfl rfl HR.out ?_)
  go_ret
  exact ⟨_, rfl, HO.out, HB.out⟩

/-- A slice that may be cut short of its row. -/
theorem clip_any (ao : Option Addr) (n cap : Nat) (hn : n ≤ cap) (hc : cap ≤ 9223372036854775807) (w : World) :
    Calls Tryd.prog 35 #[.slice ao n cap] w fun e w' => e = .returned (.slice ao n n) ∧ w' = w := by
  have h1 : (n : Int) ≤ (cap : Int) := by omega
  go_enter Tryd.func35, Tryd.ntmps35
  go_wp2
  go_ret
  exact ⟨by simp, rfl⟩

theorem ownsRow_shape {w : World} {base : Nat} {e : TypeId} {size : Nat} {v : Value} {n : Nat} {xs : List Value} (h : w.ownsRow base e size v n xs) : ∃ ao cap, v = .slice ao n cap := by
  rcases h.2 with ⟨rfl, hn⟩ | ⟨g, cap, cur, rfl, _⟩
  · exact ⟨none, 0, by rw [hn]⟩
  · exact ⟨_, cap, rfl⟩

/-- A machine of rows that were made one behind the other. -/
theorem mach_new {w0 w1 w2 w3 : World} {B : Nat} {vc vs vk m : Value} {code : List InsL} {s : StL} (hB : B ≤ w0.heap.size) (o1 : OwnsI w1 w0.heap.size vc code) (o2 : Owns w2 w1.heap.size vs s.st) (o3 : Owns w3 w2.heap.size vk s.ca)
    (b1 : w0.heap.size ≤ w1.heap.size) (b2 : Below w1.heap.size w1 w2) (b3 : Below w2.heap.size w2 w3) : Mach (w3.alloc (.cells #[vc, m, .int .i64 s.pc, vs, vk] 73)) B w3.heap.size m vc vs vk code s := by
  have s2 := b2.size
  have s3 := b3.size
  have l1 := fun j hj => o1.lt j hj
  have l2 := fun j hj => o2.lt j hj
  have l3 := fun j hj => o3.lt j hj
  refine ⟨heap_alloc_new w3 _, by omega, ownsRow_le (ownsRow_below (ownsRow_below (ownsRow_below o1 b2) b3) (below_alloc w3 _)) hB, ownsRow_le (ownsRow_below (ownsRow_below o2 b3) (below_alloc w3 _)) (by omega), ownsRow_le (ownsRow_below o3 (below_alloc w3 _)) (by omega), fun e => ?_, fun e => ?_, fun e => ?_, fun j hj e => ?_, fun j hj e => ?_, fun j hj e => ?_⟩
  · have := (l1 _ e).2; omega
  · have := (l2 _ e).2; omega
  · have := (l3 _ e).2; omega
  · have := (l1 _ hj).2; have := (l2 _ e).1; omega
  · have := (l1 _ hj).2; have := (l3 _ e).1; omega
  · have := (l2 _ hj).2; have := (l3 _ e).1; omega

set_option maxRecDepth 20000 in
set_option maxHeartbeats 4000000 in
theorem newM_any (v : Value) (l : List InsL) (sv : Value) (s : StL) (vs vk : Value) (q : Nat) (w : World) (hV : SeesI w v l) (hS : SeesS w sv s vs vk) (h1 : l.length ≤ 1024) (h2 : s.st.length ≤ 64) (h3 : s.ca.length ≤ 32) :
    Calls Tryd.prog 25 #[v, sv, memV q] w fun e w' => ∃ p vc ws wk, e = .returned (.pointer (some ⟨p, 0, none⟩)) ∧ Mach w' w.heap.size p (memV q) vc ws wk l s ∧ Below w.heap.size w w' := by
  obtain ⟨rfl, hs1, hs2, _, _⟩ := hS
  obtain ⟨W, hW⟩ : ∃ W, W = w.alloc (.cells #[.int .i64 s.pc, vs, vk] 25) := ⟨_, rfl⟩
  have hb : Below w.heap.size w W := by rw [hW]; exact below_alloc w _
  have hbd : Below w.heap.size w W.drew := Below.drew hb
  have hz : W.heap[w.heap.size]? = some (.cells #[.int .i64 s.pc, vs, vk] 25 (0, 0)) := by rw [hW]; exact heap_alloc_new w _
  have hzl := (Array.getElem?_eq_some_iff.1 hz).1
  have g0 : W.drew.cell? ⟨w.heap.size, 0, none⟩ = some (.int .i64 s.pc) := by show W.cell? _ = _; simp [World.cell?, hz]
  have g1 : W.drew.cell? ⟨w.heap.size, 1, none⟩ = some vs := by show W.cell? _ = _; simp [World.cell?, hz]
  have g2 : W.drew.cell? ⟨w.heap.size, 2, none⟩ = some vk := by show W.cell? _ = _; simp [World.cell?, hz]
  have hf1 := freshI_any v l W.drew (hV.below hbd) (by omega)
  have HF2 := hid (fun w1 (h1 : Below w.heap.size w w1) => fresh_any vs s.st w1 (hs1.below h1) (by omega))
  have HF3 := hid (fun w1 (h1 : Below w.heap.size w w1) => fresh_any vk s.ca w1 (hs2.below h1) (by omega))
  have HB := hid hbd
  have HKC : Hid (∀ w1, Below W.drew.heap.size W.drew w1 → w1.cell? ⟨w.heap.size, 0, none⟩ = some (.int .i64 s.pc) ∧ w1.cell? ⟨w.heap.size, 1, none⟩ = some vs ∧ w1.cell? ⟨w.heap.size, 2, none⟩ = some vk) := fun w1 h1 => ⟨(h1.cell (p := ⟨w.heap.size, 0, none⟩) hzl).trans g0, (h1.cell (p := ⟨w.heap.size, 1, none⟩) hzl).trans g1, (h1.cell (p := ⟨w.heap.size, 2, none⟩) hzl).trans g2⟩
  have HKA : Hid (∀ (w1 : World) (o : Obj), Below W.drew.heap.size W.drew w1 → (w1.alloc o).cell? ⟨w.heap.size, 0, none⟩ = some (.int .i64 s.pc) ∧ (w1.alloc o).cell? ⟨w.heap.size, 1, none⟩ = some vs ∧ (w1.alloc o).cell? ⟨w.heap.size, 2, none⟩ = some vk) := fun w1 o h1 => HKC.out _ (h1.trans ((below_alloc w1 o).mono h1.size))
  have hszW : w.heap.size ≤ W.drew.heap.size := hbd.size
  clear hb hbd hz hV hs1 hs2
  unfold memV
  go_enter Tryd.func25, Tryd.ntmps25
  go_wp2
  rw [← hW]
  clear hW
  go_region_held3 (fun X => X.cell? ⟨w.heap.size, 0, none⟩ = some (.int .i64 s.pc) ∧ X.cell? ⟨w.heap.size, 1, none⟩ = some vs ∧ X.cell? ⟨w.heap.size, 2, none⟩ = some vk)
    (first | (with_reducible exact ⟨g0, g1, g2⟩) | (with_reducible exact k1) | (with_reducible exact k2) | (with_reducible exact k3) | (with_reducible exact HKA.out _ _ B3.out))
    (first
      | (go_at_call 33
         refine hf1.mono ?_
         rintro e w1 ⟨u1, rfl, o1, b1⟩
         obtain ⟨aa1, cc1, hu1⟩ := ownsRow_shape o1
         subst hu1
         have k1 := HKC.out w1 b1
         have B1 := hid b1
         have O1 := hid o1
         have hf2 := HF2.out w1 (HB.out.trans (b1.mono HB.out.size))
         clear hf1 o1 b1)
      | (go_at_call 30
         refine hf2.mono ?_
         rintro e w2 ⟨u2, rfl, o2, b2⟩
         obtain ⟨aa2, cc2, hu2⟩ := ownsRow_shape o2
         subst hu2
         have b2' := B1.out.trans (b2.mono B1.out.size)
         have k2 := HKC.out w2 b2'
         have B2 := hid b2'
         have C2 := hid b2
         have O2 := hid o2
         have hf3 := HF3.out w2 (HB.out.trans (b2'.mono HB.out.size))
         clear hf2 o2 b2 b2')
      | (go_at_call 30
         refine hf3.mono ?_
         rintro e w3 ⟨u3, rfl, o3, b3⟩
         obtain ⟨aa3, cc3, hu3⟩ := ownsRow_shape o3
         subst hu3
         have b3' := B2.out.trans (b3.mono B2.out.size)
         have k3 := HKC.out w3 b3'
         have B3 := hid b3'
         have C3 := hid b3
         have O3 := hid o3
         clear hf3 o3 b3 b3'))
  all_goals
    go_wp2
    go_ret
    exact ⟨_, _, _, _, rfl, mach_new hszW O1.out O2.out O3.out B1.out.size C2.out C3.out, (HB.out.trans (B3.out.mono HB.out.size)).alloc (Nat.le_trans HB.out.size B3.out.size) _⟩

/-- What a machine tells of itself: rows that are its own. -/
def OwnC (w : World) (B : Nat) (v : Value) (xs : List Int) : Prop :=
  (v = .slice none 0 0 ∧ xs = []) ∨ ∃ g cur, v = .slice (some ⟨g, 0, none⟩) xs.length xs.length ∧ B ≤ g ∧ w.heap[g]? = some (.cells cur 3 (0, 0)) ∧ xs.length ≤ cur.size ∧ cur.toList.take xs.length = xs.map (Value.int .i64)
theorem Owns.clip {w : World} {B : Nat} {ao : Option Addr} {n cap : Nat} {xs : List Int} (h : Owns w B (.slice ao n cap) xs) : OwnC w B (.slice ao n n) xs := by
  rcases h.2 with ⟨e, hn⟩ | ⟨g, cp, cur, e, hb, hg, hc, _, hsz, ht⟩
  · cases e
    exact Or.inl ⟨rfl, List.eq_nil_of_length_eq_zero hn⟩
  · cases e
    exact Or.inr ⟨g, cur, rfl, hb, hg, by omega, by simpa using ht⟩
theorem OwnC.sees {w : World} {B : Nat} {v : Value} {xs : List Int} (h : OwnC w B v xs) : Sees w v xs := by
  rcases h with ⟨rfl, rfl⟩ | ⟨g, cur, rfl, hb, hg, hl, ht⟩
  · exact Sees.nil w
  · refine ⟨g, 0, _, _, rfl, Nat.le_refl _, (fun h => by cases h), fun _ => rfl, fun j hj => ?_⟩
    have h1 : (cur.toList.take xs.length)[j]? = some (.int .i64 (xs.getD j 0)) := by rw [ht]; simp [List.getD, hj]
    rw [List.getElem?_take, if_pos hj] at h1
    simp only [World.cell?, Nat.zero_add, hg]
    simpa using h1
theorem OwnC.same {w w' : World} {B : Nat} {v : Value} {xs : List Int} (h : OwnC w B v xs) (hb : ∀ j, v.ownBlock = some j → w'.heap[j]? = w.heap[j]?) : OwnC w' B v xs := by
  rcases h with h | ⟨g, cur, rfl, hb2, hg, hl, ht⟩
  · exact Or.inl h
  · exact Or.inr ⟨g, cur, rfl, hb2, by rw [hb g rfl]; exact hg, hl, ht⟩
theorem OwnC.lt {w : World} {B : Nat} {v : Value} {xs : List Int} (h : OwnC w B v xs) : ∀ j, v.ownBlock = some j → B ≤ j ∧ j < w.heap.size := by
  rcases h with ⟨rfl, rfl⟩ | ⟨g, cur, rfl, hb2, hg, hl, ht⟩
  · intro j hj; simp [Value.ownBlock] at hj
  · intro j hj
    simp [Value.ownBlock] at hj
    subst hj
    exact ⟨hb2, (Array.getElem?_eq_some_iff.1 hg).1⟩
theorem OwnC.below {w w' : World} {B : Nat} {v : Value} {xs : List Int} (h : OwnC w B v xs) (hb : Below w.heap.size w w') : OwnC w' B v xs := h.same (fun j hj => hb.block j (h.lt j hj).2)

theorem Owns.shape3 {w : World} {base : Nat} {v : Value} {xs : List Int} (h : Owns w base v xs) : ∃ ao cap, v = .slice ao xs.length cap ∧ xs.length ≤ cap ∧ cap ≤ 9223372036854775807 := by
  rcases h.2 with ⟨rfl, hn⟩ | ⟨g, cap, cur, rfl, _, _, hc, hm, _⟩
  · exact ⟨none, 0, by rw [hn], by omega, by omega⟩
  · exact ⟨_, cap, rfl, hc, hm⟩

set_option maxRecDepth 20000 in
set_option maxHeartbeats 4000000 in
theorem state_any (w : World) (B p : Nat) (m vc vs vk : Value) (code : List InsL) (s : StL) (h : Mach w B p m vc vs vk code s) (hl : s.st.length ≤ 64) (hc : s.ca.length ≤ 32) :
    Calls Tryd.prog 27 #[.pointer (some ⟨p, 0, none⟩)] w fun e w' => ∃ us uk, e = .returned (.agg #[.int .i64 s.pc, us, uk]) ∧ OwnC w' B us s.st ∧ OwnC w' B uk s.ca ∧ (∀ j, us.ownBlock = some j → uk.ownBlock ≠ some j) ∧ Below w.heap.size w w' := by
  have hO1 := h.os
  have hO2 := h.ok
  have hSK := h.sk
  obtain ⟨a1, n1, hv1, hc1, hm1⟩ := hO1.shape3
  obtain ⟨a2, n2, hv2, hc2, hm2⟩ := hO2.shape3
  subst hv1
  subst hv2
  obtain ⟨W, hW⟩ : ∃ W, W = w.alloc (.cells #[.int .i64 0, .slice none 0 0, .slice none 0 0] 25) := ⟨_, rfl⟩
  have hb : Below w.heap.size w W := by rw [hW]; exact below_alloc w _
  have hM := h.below hb
  obtain ⟨c0, c1, c2, c3, c4, f2, f3, f4⟩ := hM.cells
  have hk1 := clip_any a1 s.st.length n1 hc1 hm1 W.drew
  have hk2 := clip_any a2 s.ca.length n2 hc2 hm2 W.drew
  have hz : W.heap[w.heap.size]? = some (.cells #[.int .i64 0, .slice none 0 0, .slice none 0 0] 25 (0, 0)) := by rw [hW]; exact heap_alloc_new w _
  have z0 : W.frozen? ⟨w.heap.size, 0, none⟩ = false := by simp [World.frozen?, hz]
  have z1 : W.frozen? ⟨w.heap.size, 1, none⟩ = false := by simp [World.frozen?, hz]
  have z2 : W.frozen? ⟨w.heap.size, 2, none⟩ = false := by simp [World.frozen?, hz]
  have g0 : W.cell? ⟨w.heap.size, 0, none⟩ = some (.int .i64 0) := by simp [World.cell?, hz]
  have g1 : W.cell? ⟨w.heap.size, 1, none⟩ = some (.slice none 0 0) := by simp [World.cell?, hz]
  have g2 : W.cell? ⟨w.heap.size, 2, none⟩ = some (.slice none 0 0) := by simp [World.cell?, hz]
  have HO1 := hid hO1
  have HO2 := hid hO2
  have HSK := hid hSK
  have HB := hid hb
  have HZ := hid hz
  have hzl := (Array.getElem?_eq_some_iff.1 hz).1
  have HL1 := hid hO1.lt
  have HL2 := hid hO2.lt
  have hpz : p ≠ w.heap.size := by have := h.lt; omega
  have HSD : Hid (W.drew.cell? ⟨p, 2, none⟩ = some (.int .i64 s.pc) ∧ W.drew.cell? ⟨p, 3, none⟩ = some (.slice a1 s.st.length n1) ∧ W.drew.cell? ⟨p, 4, none⟩ = some (.slice a2 s.ca.length n2)) := ⟨c2, c3, c4⟩
  have HKS : Hid (∀ x y z : Value, (((W.setCell ⟨w.heap.size, 0, none⟩ x).setCell ⟨w.heap.size, 1, none⟩ y).setCell ⟨w.heap.size, 2, none⟩ z).drew.cell? ⟨p, 2, none⟩ = some (.int .i64 s.pc) ∧ (((W.setCell ⟨w.heap.size, 0, none⟩ x).setCell ⟨w.heap.size, 1, none⟩ y).setCell ⟨w.heap.size, 2, none⟩ z).drew.cell? ⟨p, 3, none⟩ = some (.slice a1 s.st.length n1) ∧ (((W.setCell ⟨w.heap.size, 0, none⟩ x).setCell ⟨w.heap.size, 1, none⟩ y).setCell ⟨w.heap.size, 2, none⟩ z).drew.cell? ⟨p, 4, none⟩ = some (.slice a2 s.ca.length n2)) := fun x y z => by
    have e : (((W.setCell ⟨w.heap.size, 0, none⟩ x).setCell ⟨w.heap.size, 1, none⟩ y).setCell ⟨w.heap.size, 2, none⟩ z).drew.heap[p]? = W.heap[p]? := by show (((W.setCell ⟨w.heap.size, 0, none⟩ x).setCell ⟨w.heap.size, 1, none⟩ y).setCell ⟨w.heap.size, 2, none⟩ z).heap[p]? = _; rw [far_set hpz, far_set hpz, far_set hpz]
    exact ⟨(World.cell?_of_block (a := ⟨p, 2, none⟩) e).trans c2, (World.cell?_of_block (a := ⟨p, 3, none⟩) e).trans c3, (World.cell?_of_block (a := ⟨p, 4, none⟩) e).trans c4⟩
  clear h hb hM hz hO1 hO2 hSK c0 c1 c2 c3 c4
  go_enter Tryd.func27, Tryd.ntmps27
  go_wp2
  rw [← hW]
  clear hW
  go_region_held3 (fun X => X.cell? ⟨p, 2, none⟩ = some (.int .i64 s.pc) ∧ X.cell? ⟨p, 3, none⟩ = some (.slice a1 s.st.length n1) ∧ X.cell? ⟨p, 4, none⟩ = some (.slice a2 s.ca.length n2))
    (first | (with_reducible exact HSD.out) | (with_reducible exact HKS.out _ _ _))
    (first
      | (go_at_call 35
         refine hk1.mono ?_
         rintro e w1 ⟨rfl, hw1⟩
         subst w1
         clear hk1)
      | (go_at_call 35
         refine hk2.mono ?_
         rintro e w1 ⟨rfl, hw1⟩
         subst w1
         clear hk2))
  all_goals
    go_wp2
    refine bodyPost_ret (v := .agg #[.int .i64 s.pc, .slice a1 s.st.length s.st.length, .slice a2 s.ca.length s.ca.length]) (results_cell_row (fn := Tryd.f27) (p := 2) (ty := 25) rfl _ _ w.heap.size 25 #[.int .i64 s.pc, .slice a1 s.st.length s.st.length, .slice a2 s.ca.length s.ca.length] (0, 0) _ rfl (by exact heap_fill3 HZ.out) Tryd.underlying25 rfl rfl) rfl ?_
    have hfar : ∀ (x y z : Value) (j : Nat), j < w.heap.size → (((W.setCell ⟨w.heap.size, 0, none⟩ x).setCell ⟨w.heap.size, 1, none⟩ y).setCell ⟨w.heap.size, 2, none⟩ z).drew.heap[j]? = w.heap[j]? := fun x y z j hj => by
      show (((W.setCell ⟨w.heap.size, 0, none⟩ x).setCell ⟨w.heap.size, 1, none⟩ y).setCell ⟨w.heap.size, 2, none⟩ z).heap[j]? = _
      rw [far_set (by omega), far_set (by omega), far_set (by omega)]
      exact HB.out.block j hj
    refine ⟨_, _, rfl, HO1.out.clip.same (fun j hj => hfar _ _ _ j (HO1.out.clip.lt j hj).2), HO2.out.clip.same (fun j hj => hfar _ _ _ j (HO2.out.clip.lt j hj).2), fun j hj e => HSK.out j ?_ ?_, ?_⟩
    · cases a1 <;> exact hj
    · cases a2 <;> exact e
    · exact Below.drew (((HB.out.setCell (p := ⟨w.heap.size, 0, none⟩) (Nat.le_refl _) _).setCell (p := ⟨w.heap.size, 1, none⟩) (Nat.le_refl _) _).setCell (p := ⟨w.heap.size, 2, none⟩) (Nat.le_refl _) _)
end Go.Proofs.YtfnojlgmbfocfaaDoor
