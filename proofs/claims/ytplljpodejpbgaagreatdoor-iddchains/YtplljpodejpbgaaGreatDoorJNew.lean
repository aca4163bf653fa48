/-
  New, where the users may be.
-/
import Derived.Test.YtplljpodejpbgaaGreatDoorJNewA
import Derived.Test.YtplljpodejpbgaaGreatDoorJSet5
namespace Go.Proofs.YtplljpodejpbgaaGreatDoor
open Go.RowKit
set_option linter.unusedVariables false
set_option linter.unusedSimpArgs false
set_option maxRecDepth 100000

def accOf (l : List UsL) (i : Nat) : Acc := match l[i]? with
  | some u => ⟨u.name, u.salt, u.digest, 0, if u.op then sd (sd ([] ++ [2 * (i : Int) + 2]) ++ [2 * (i : Int) + 1]) else sd ([] ++ [2 * (i : Int) + 2])⟩
  | none => acc0
def grTo (l : List UsL) : Nat → List Gra
  | 0 => []
  | k + 1 => grTo l k ++ (match l[k]? with
    | some u => ⟨-1, -1, (k : Int), 2 * (k : Int) + 2⟩ :: (if u.op then [⟨-1, -1, (k : Int), 2 * (k : Int) + 1⟩] else [])
    | none => [])
/-- The first k accounts are made, the others are as nought. -/
structure UsTo (l : List UsL) (k : Nat) (us : List (Acc × Value)) : Prop where
  len : us.length = l.length
  done : ∀ i, i < k → ∃ v, us[i]? = some (accOf l i, v)
  rest : ∀ i, k ≤ i → i < l.length → us[i]? = some (acc0, .slice none 0 0)
theorem UsTo.zero (l : List UsL) : UsTo l 0 (us0 l.length) := ⟨by simp [us0], fun i hi => absurd hi (by omega), fun i _ hi => by unfold us0; rw [List.getElem?_replicate, if_pos hi]⟩
theorem UsTo.step {l : List UsL} {k : Nat} {us : List (Acc × Value)} (h : UsTo l k us) (hk : k < l.length) (x : Acc × Value) (hx : x.1 = accOf l k) : UsTo l (k + 1) (us.set k x) := by
  have hl := h.len
  refine ⟨by rw [List.length_set]; exact hl, fun i hi => ?_, fun i h1 h2 => ?_⟩
  · by_cases e : i = k
    · subst e
      exact ⟨x.2, by rw [List.getElem?_set_self (by omega), ← hx]⟩
    · obtain ⟨v, hv⟩ := h.done i (by omega)
      exact ⟨v, by rw [List.getElem?_set_ne (fun e' => e e'.symm)]; exact hv⟩
  · rw [List.getElem?_set_ne (by omega)]
    exact h.rest i (by omega) h2
theorem grTo_len (l : List UsL) : ∀ k, (grTo l k).length ≤ 2 * k
  | 0 => by simp [grTo]
  | k + 1 => by
    have := grTo_len l k
    rw [grTo, List.length_append]
    cases l[k]? with
    | none => simp; omega
    | some u => cases h : u.op <;> simp [h] <;> omega

set_option maxHeartbeats 8000000 in
theorem new_yes (v vd0 : Value) (l : List UsL) (dr : List Int) (w0 : World) (hS : SeesK 4 w0 v l.length (uC l)) (hD : Sees w0 vd0 dr) (hm : mayB l = true) (hz : ∀ u ∈ l, u.name.size ≤ 140737488355328 ∧ u.salt.size ≤ 140737488355328 ∧ u.digest.size ≤ 140737488355328) (hdl : dr.length * 8 ≤ 140737488355328) :
    Calls Tryz.prog 8 #[v, vd0] w0 fun e w' => ∃ d ub mb us vd vg, e = .returned (.tuple #[.pointer (some ⟨d, 0, none⟩), .int .i64 0]) ∧ IdAt w' d ub mb us vd dr 0 [] vg (grTo l l.length) ∧ UsTo l l.length us ∧ Below w0.heap.size w0 w' ∧ (∀ k, mineD d ub mb vg k → w0.heap.size ≤ k) := by
  have h16 : 1 ≤ l.length ∧ l.length ≤ 16 := by
    unfold mayB at hm
    simp at hm
    exact hm.1
  have hmy := mayBe_any v l w0 hS hz
  rw [hm] at hmy
  obtain ⟨b, off, ao, cap, hv, hcap, hao, hcell⟩ := seesU hS
  subst hv
  obtain rfl := hao (by omega)
  have hmk := fun w1 => make_acc l.length h16.2 w1
  have hmm : ∀ w1 : World, (Instr.makeMap 71 none).run Tryz.prog w1 = .ok (.map (some w1.heap.size)) (w1.alloc (.map #[] 0)) := fun w1 => run_makeMap _ w1
  obtain ⟨Z, hZ⟩ : ∃ Z, Z = (aC (us0 l.length)).toArray := ⟨_, rfl⟩
  rw [← hZ] at hmk
  have HZ := hid hZ
  have HMY := hid hmy
  have HC := hid hcell
  have HD0 := hid hD
  have hbl := World.block_lt_of_cell? w0 _ (hcell 0 (l[0]'(by omega)) (List.getElem?_eq_getElem _)).1
  obtain ⟨h1, h2⟩ := h16
  have HN1 := hid h1
  have HN2 := hid h2
  obtain ⟨v, hv⟩ : ∃ v, v = Value.slice (some ⟨b, off, none⟩) l.length cap := ⟨_, rfl⟩
  clear hmy hcell hD hm hz hS hZ hao
  go_enter Tryz.func8, Tryz.ntmps8
  go_wp2_with fail
  refine HMY.out.mono ?_
  rintro e w ⟨rfl, hb0⟩
  have HB0 := hid hb0
  have HD := hid (HD0.out.below hb0)
  clear hb0 HMY
  go_wp2_with fail
  go_cut [6] (fun p6 wx => ∃ d a m vd, p6 = .pointer (some ⟨d, 0, none⟩) ∧ Hid (IdAt wx d a m (us0 l.length) vd dr 0 [] (.slice none 0 0) [] ∧ Below w.heap.size w wx ∧ (∀ k, mineD d a m (.slice none 0 0) k → w.heap.size ≤ k)))
  case first =>
    refine wp_region_noPanic ?_
    refine wp_region_held_drew (S := fun _ => True) (by kernel_rfl) ?_ (fun hHeld => ?_)
    · trivial
    refine wpAnyH_take (i := 0) (oi := { dst := some 12, op := Op.move (Operand.tmp 0), type := 22, pos := "idd.go:43", after := #[], guard := none }) (v := (.slice (some ⟨b, off, none⟩) l.length cap)) rfl (by kernel_rfl) (by kernel_rfl) (by kernel_rfl) (fun _ _ _ h => h) (Or.inl ⟨by rfl, ?_⟩) trivial ?_
    · intro wz hSw
      try dsimp only at hSw
      go_simp
    try simp only [Act.put, List.setIfInBounds_toArray, List.set_cons_zero, List.set_cons_succ]
    refine wpAnyH_take (i := 1) (oi := { dst := some 13, op := Op.call { callee := Callee.builtin Builtin.len, args := #[Operand.tmp 12], argTypes := #[22] }, type := 3, pos := "idd.go:43", after := #[{ on := 0, ground := Ground.data }], guard := none }) (v := (.int .i64 (l.length : Int))) rfl (by kernel_rfl) (by kernel_rfl) (by kernel_rfl) (fun _ _ _ h => h) (Or.inl ⟨by rfl, ?_⟩) trivial ?_
    · intro wz hSw
      try dsimp only at hSw
      go_simp
    try simp only [Act.put, List.setIfInBounds_toArray, List.set_cons_zero, List.set_cons_succ]
    refine wpAnyH_take (i := 3) (oi := { dst := some 15, op := Op.move (Operand.tmp 1), type := 23, pos := "idd.go:43", after := #[], guard := none }) (v := vd0) rfl (by kernel_rfl) (by kernel_rfl) (by kernel_rfl) (fun _ _ _ h => h) (Or.inl ⟨by rfl, ?_⟩) trivial ?_
    · intro wz hSw
      try dsimp only at hSw
      go_simp
    try simp only [Act.put, List.setIfInBounds_toArray, List.set_cons_zero, List.set_cons_succ]
    clear hHeld
    have HB := hid (show Below w.heap.size w w.drew from Below.drew (Below.refl _ _))
    obtain ⟨X0, hX0⟩ : ∃ X0, X0 = w.drew := ⟨_, rfl⟩
    rw [← hX0] at HB ⊢
    clear hX0
    refine wpAnyH_ready (rs := [2, 4, 5]) (by kernel_rfl) (by simp) ?_
    refine AllReadyH.cons (o := { dst := some 14, op := Op.makeSlice 70 (Operand.tmp 13) (Operand.tmp 13), type := 70, pos := "idd.go:43", after := #[{ on := 1, ground := Ground.data }, { on := 1, ground := Ground.data }], guard := none }) rfl (fun K hK => ?_) (AllReadyH.cons (o := { dst := some 16, op := Op.call { callee := Callee.value (Operand.func 31), args := #[Operand.tmp 15], argTypes := #[23] }, type := 23, pos := "idd.go:43", after := #[{ on := 3, ground := Ground.data }], guard := none }) rfl (fun K hK => ?_) (AllReadyH.cons (o := { dst := some 17, op := Op.makeMap 71 none, type := 71, pos := "idd.go:43", after := #[], guard := none }) rfl (fun K hK => ?_) AllReadyH.nil))
    · go_simp
      refine hK.out _ _ trivial (fun hHeld => ?_)
      clear hK K hHeld
      try simp only [Act.put, List.setIfInBounds_toArray, List.set_cons_zero, List.set_cons_succ]
      have hn := heap_alloc_new X0 (.cells Z 86)
      have hb := below_alloc X0 (.cells Z 86)
      obtain ⟨X1, hx⟩ : ∃ x, x = X0.alloc (.cells Z 86) := ⟨_, rfl⟩
      rw [← hx] at hn hb ⊢
      clear hx
      obtain ⟨a, ha⟩ : ∃ a, a = X0.heap.size := ⟨_, rfl⟩
      rw [← ha] at hn ⊢
      have HGA := hid (show w.heap.size ≤ a by rw [ha]; exact HB.out.size)
      clear ha
      have HBn := hid (HB.out.trans (hb.mono HB.out.size))
      clear HB
      have HB := HBn
      clear HBn
      have HA := hid hn
      clear hn hb
      refine wpAnyH_ready (rs := [4, 5]) (by kernel_rfl) (by simp) ?_
      refine AllReadyH.cons (o := { dst := some 16, op := Op.call { callee := Callee.value (Operand.func 31), args := #[Operand.tmp 15], argTypes := #[23] }, type := 23, pos := "idd.go:43", after := #[{ on := 3, ground := Ground.data }], guard := none }) rfl (fun K hK => ?_) (AllReadyH.cons (o := { dst := some 17, op := Op.makeMap 71 none, type := 71, pos := "idd.go:43", after := #[], guard := none }) rfl (fun K hK => ?_) AllReadyH.nil)
      · go_simp
        refine (freshI_any vd0 dr X1 (HD.out.below HB.out) (by omega)).mono ?_
        rintro e X2 ⟨vd, rfl, hO, hb⟩
        obtain ⟨ad, cd, rfl⟩ := row_shape hO
        have hO := owns_le hO HB.out.size
        refine hK.out _ _ trivial (fun hHeld => ?_)
        clear hK K hHeld
        try simp only [Act.put, List.setIfInBounds_toArray, List.set_cons_zero, List.set_cons_succ]
        have HBn := hid (HB.out.trans (hb.mono HB.out.size))
        clear HB
        have HB := HBn
        clear HBn
        have HAn := hid ((hb.block a (Array.getElem?_eq_some_iff.1 HA.out).1).trans HA.out)
        clear HA
        have HA := HAn
        clear HAn
        have HO := hid hO
        clear hO hb
        refine wpAnyH_ready (rs := [5]) (by kernel_rfl) (by simp) ?_
        refine AllReadyH.cons (o := { dst := some 17, op := Op.makeMap 71 none, type := 71, pos := "idd.go:43", after := #[], guard := none }) rfl (fun K hK => ?_) AllReadyH.nil
        go_simp
        refine hK.out _ _ trivial (fun hHeld => ?_)
        clear hK K hHeld
        try simp only [Act.put, List.setIfInBounds_toArray, List.set_cons_zero, List.set_cons_succ]
        have hn := heap_alloc_new X2 (.map #[] 0)
        have hb := below_alloc X2 (.map #[] 0)
        obtain ⟨X3, hx⟩ : ∃ x, x = X2.alloc (.map #[] 0) := ⟨_, rfl⟩
        rw [← hx] at hn hb ⊢
        clear hx
        obtain ⟨m, hm⟩ : ∃ a, a = X2.heap.size := ⟨_, rfl⟩
        rw [← hm] at hn ⊢
        have HGM := hid (show w.heap.size ≤ m by rw [hm]; exact HB.out.size)
        clear hm
        have HBn := hid (HB.out.trans (hb.mono HB.out.size))
        clear HB
        have HB := HBn
        clear HBn
        have HAn := hid ((hb.block a (Array.getElem?_eq_some_iff.1 HA.out).1).trans HA.out)
        clear HA
        have HA := HAn
        clear HAn
        have HOn := hid (HO.out.below hb)
        clear HO
        have HO := HOn
        clear HOn
        have HM := hid hn
        clear hn hb
        refine wpAnyH_take (i := 6) (oi := { dst := some 18, op := Op.build 73 #[(1, Operand.tmp 14), (2, Operand.tmp 16), (4, Operand.tmp 17)], type := 73, pos := "idd.go:43", after := #[{ on := 2, ground := Ground.data }, { on := 4, ground := Ground.data }, { on := 5, ground := Ground.data }], guard := none }) (v := (.agg #[.pointer none, .slice (some ⟨a, 0, none⟩) l.length l.length, .slice ad dr.length cd, .int .i64 0, .map (some m), .slice none 0 0])) rfl (by kernel_rfl) (by kernel_rfl) (by kernel_rfl) (fun _ _ _ h => h) (Or.inl ⟨by rfl, ?_⟩) trivial ?_
        · intro wz hSw
          try dsimp only at hSw
          go_simp
        try simp only [Act.put, List.setIfInBounds_toArray, List.set_cons_zero, List.set_cons_succ]
        refine wpAnyH_ready (rs := [7]) (by kernel_rfl) (by simp) ?_
        refine AllReadyH.cons (o := { dst := some 19, op := Op.box 73 (Operand.tmp 18), type := 27, pos := "idd.go:43", after := #[{ on := 6, ground := Ground.data }], guard := none }) rfl (fun K hK => ?_) AllReadyH.nil
        go_simp
        refine hK.out _ _ trivial (fun hHeld => ?_)
        clear hK K hHeld
        try simp only [Act.put, List.setIfInBounds_toArray, List.set_cons_zero, List.set_cons_succ]
        have hn := heap_alloc_new X3 (.cells #[.pointer none, .slice (some ⟨a, 0, none⟩) l.length l.length, .slice ad dr.length cd, .int .i64 0, .map (some m), .slice none 0 0] 73)
        have hb := below_alloc X3 (.cells #[.pointer none, .slice (some ⟨a, 0, none⟩) l.length l.length, .slice ad dr.length cd, .int .i64 0, .map (some m), .slice none 0 0] 73)
        obtain ⟨X4, hx⟩ : ∃ x, x = X3.alloc (.cells #[.pointer none, .slice (some ⟨a, 0, none⟩) l.length l.length, .slice ad dr.length cd, .int .i64 0, .map (some m), .slice none 0 0] 73) := ⟨_, rfl⟩
        rw [← hx] at hn hb ⊢
        clear hx
        obtain ⟨d, hd⟩ : ∃ a, a = X3.heap.size := ⟨_, rfl⟩
        rw [← hd] at hn ⊢
        have HGD := hid (show w.heap.size ≤ d by rw [hd]; exact HB.out.size)
        clear hd
        have HBn := hid (HB.out.trans (hb.mono HB.out.size))
        clear HB
        have HB := HBn
        clear HBn
        have HAn := hid ((hb.block a (Array.getElem?_eq_some_iff.1 HA.out).1).trans HA.out)
        clear HA
        have HA := HAn
        clear HAn
        have HMn := hid ((hb.block m (Array.getElem?_eq_some_iff.1 HM.out).1).trans HM.out)
        clear HM
        have HM := HMn
        clear HMn
        have HOn := hid (HO.out.below hb)
        clear HO
        have HO := HOn
        clear HOn
        have HN := hid hn
        clear hn hb
        refine wpAnyH_ready (rs := [8]) (by kernel_rfl) (by simp) ?_
        refine AllReadyH.cons (o := { dst := some 20, op := Op.call { callee := Callee.value (Operand.func 30), args := #[Operand.tmp 19], argTypes := #[27] }, type := 27, pos := "idd.go:43", after := #[{ on := 7, ground := Ground.data }, { on := 4, ground := Ground.chain }], guard := none }) rfl (fun K hK => ?_) AllReadyH.nil
        go_simp
        refine (lay_any d X4 _ _ _ _ _ HN.out).mono ?_
        rintro e X5 ⟨rfl, hX5, hl5⟩
        refine hK.out _ _ trivial (fun hHeld => ?_)
        clear hK K hHeld
        try simp only [Act.put, List.setIfInBounds_toArray, List.set_cons_zero, List.set_cons_succ]
        have HF := hid (new_fin HB.out HA.out HM.out HO.out HN.out hX5 hl5 HZ.out HN1.out HN2.out HGA.out HGM.out HGD.out)
        clear hX5 hl5 HB HA HM HO HN
        refine wpAnyH_ready (rs := [9]) (by kernel_rfl) (by simp) ?_
        refine AllReadyH.cons (o := { dst := some 6, op := Op.assign (Operand.tmp 20), type := 27, pos := "idd.go:43", after := #[{ on := 8, ground := Ground.data }, { on := 8, ground := Ground.chain }, { on := 0, ground := Ground.phase }, { on := 1, ground := Ground.phase }, { on := 2, ground := Ground.phase }, { on := 3, ground := Ground.phase }, { on := 4, ground := Ground.phase }, { on := 5, ground := Ground.phase }, { on := 6, ground := Ground.phase }, { on := 7, ground := Ground.phase }, { on := 8, ground := Ground.phase }], guard := none }) rfl (fun K hK => ?_) AllReadyH.nil
        go_simp
        refine hK.out _ _ trivial (fun hHeld => ?_)
        clear hK K hHeld
        try simp only [Act.put, List.setIfInBounds_toArray, List.set_cons_zero, List.set_cons_succ]
        refine wpAnyH_done (by kernel_rfl) ?_ _
        refine NoPanic.normal ?_
        go_wp2
        go_meet
        case rel => exact ⟨_, _, _, _, rfl, HF⟩
      · go_simp
        refine hK.out _ _ trivial (fun hHeld => ?_)
        clear hK K hHeld
        try simp only [Act.put, List.setIfInBounds_toArray, List.set_cons_zero, List.set_cons_succ]
        have hn := heap_alloc_new X1 (.map #[] 0)
        have hb := below_alloc X1 (.map #[] 0)
        obtain ⟨X2, hx⟩ : ∃ x, x = X1.alloc (.map #[] 0) := ⟨_, rfl⟩
        rw [← hx] at hn hb ⊢
        clear hx
        obtain ⟨m, hm⟩ : ∃ a, a = X1.heap.size := ⟨_, rfl⟩
        rw [← hm] at hn ⊢
        have HGM := hid (show w.heap.size ≤ m by rw [hm]; exact HB.out.size)
        clear hm
        have HBn := hid (HB.out.trans (hb.mono HB.out.size))
        clear HB
        have HB := HBn
        clear HBn
        have HAn := hid ((hb.block a (Array.getElem?_eq_some_iff.1 HA.out).1).trans HA.out)
        clear HA
        have HA := HAn
        clear HAn
        have HM := hid hn
        clear hn hb
        refine wpAnyH_ready (rs := [4]) (by kernel_rfl) (by simp) ?_
        refine AllReadyH.cons (o := { dst := some 16, op := Op.call { callee := Callee.value (Operand.func 31), args := #[Operand.tmp 15], argTypes := #[23] }, type := 23, pos := "idd.go:43", after := #[{ on := 3, ground := Ground.data }], guard := none }) rfl (fun K hK => ?_) AllReadyH.nil
        go_simp
        refine (freshI_any vd0 dr X2 (HD.out.below HB.out) (by omega)).mono ?_
        rintro e X3 ⟨vd, rfl, hO, hb⟩
        obtain ⟨ad, cd, rfl⟩ := row_shape hO
        have hO := owns_le hO HB.out.size
        refine hK.out _ _ trivial (fun hHeld => ?_)
        clear hK K hHeld
        try simp only [Act.put, List.setIfInBounds_toArray, List.set_cons_zero, List.set_cons_succ]
        have HBn := hid (HB.out.trans (hb.mono HB.out.size))
        clear HB
        have HB := HBn
        clear HBn
        have HAn := hid ((hb.block a (Array.getElem?_eq_some_iff.1 HA.out).1).trans HA.out)
        clear HA
        have HA := HAn
        clear HAn
        have HMn := hid ((hb.block m (Array.getElem?_eq_some_iff.1 HM.out).1).trans HM.out)
        clear HM
        have HM := HMn
        clear HMn
        have HO := hid hO
        clear hO hb
        refine wpAnyH_take (i := 6) (oi := { dst := some 18, op := Op.build 73 #[(1, Operand.tmp 14), (2, Operand.tmp 16), (4, Operand.tmp 17)], type := 73, pos := "idd.go:43", after := #[{ on := 2, ground := Ground.data }, { on := 4, ground := Ground.data }, { on := 5, ground := Ground.data }], guard := none }) (v := (.agg #[.pointer none, .slice (some ⟨a, 0, none⟩) l.length l.length, .slice ad dr.length cd, .int .i64 0, .map (some m), .slice none 0 0])) rfl (by kernel_rfl) (by kernel_rfl) (by kernel_rfl) (fun _ _ _ h => h) (Or.inl ⟨by rfl, ?_⟩) trivial ?_
        · intro wz hSw
          try dsimp only at hSw
          go_simp
        try simp only [Act.put, List.setIfInBounds_toArray, List.set_cons_zero, List.set_cons_succ]
        refine wpAnyH_ready (rs := [7]) (by kernel_rfl) (by simp) ?_
        refine AllReadyH.cons (o := { dst := some 19, op := Op.box 73 (Operand.tmp 18), type := 27, pos := "idd.go:43", after := #[{ on := 6, ground := Ground.data }], guard := none }) rfl (fun K hK => ?_) AllReadyH.nil
        go_simp
        refine hK.out _ _ trivial (fun hHeld => ?_)
        clear hK K hHeld
        try simp only [Act.put, List.setIfInBounds_toArray, List.set_cons_zero, List.set_cons_succ]
        have hn := heap_alloc_new X3 (.cells #[.pointer none, .slice (some ⟨a, 0, none⟩) l.length l.length, .slice ad dr.length cd, .int .i64 0, .map (some m), .slice none 0 0] 73)
        have hb := below_alloc X3 (.cells #[.pointer none, .slice (some ⟨a, 0, none⟩) l.length l.length, .slice ad dr.length cd, .int .i64 0, .map (some m), .slice none 0 0] 73)
        obtain ⟨X4, hx⟩ : ∃ x, x = X3.alloc (.cells #[.pointer none, .slice (some ⟨a, 0, none⟩) l.length l.length, .slice ad dr.length cd, .int .i64 0, .map (some m), .slice none 0 0] 73) := ⟨_, rfl⟩
        rw [← hx] at hn hb ⊢
        clear hx
        obtain ⟨d, hd⟩ : ∃ a, a = X3.heap.size := ⟨_, rfl⟩
        rw [← hd] at hn ⊢
        have HGD := hid (show w.heap.size ≤ d by rw [hd]; exact HB.out.size)
        clear hd
        have HBn := hid (HB.out.trans (hb.mono HB.out.size))
        clear HB
        have HB := HBn
        clear HBn
        have HAn := hid ((hb.block a (Array.getElem?_eq_some_iff.1 HA.out).1).trans HA.out)
        clear HA
        have HA := HAn
        clear HAn
        have HMn := hid ((hb.block m (Array.getElem?_eq_some_iff.1 HM.out).1).trans HM.out)
        clear HM
        have HM := HMn
        clear HMn
        have HOn := hid (HO.out.below hb)
        clear HO
        have HO := HOn
        clear HOn
        have HN := hid hn
        clear hn hb
        refine wpAnyH_ready (rs := [8]) (by kernel_rfl) (by simp) ?_
        refine AllReadyH.cons (o := { dst := some 20, op := Op.call { callee := Callee.value (Operand.func 30), args := #[Operand.tmp 19], argTypes := #[27] }, type := 27, pos := "idd.go:43", after := #[{ on := 7, ground := Ground.data }, { on := 4, ground := Ground.chain }], guard := none }) rfl (fun K hK => ?_) AllReadyH.nil
        go_simp
        refine (lay_any d X4 _ _ _ _ _ HN.out).mono ?_
        rintro e X5 ⟨rfl, hX5, hl5⟩
        refine hK.out _ _ trivial (fun hHeld => ?_)
        clear hK K hHeld
        try simp only [Act.put, List.setIfInBounds_toArray, List.set_cons_zero, List.set_cons_succ]
        have HF := hid (new_fin HB.out HA.out HM.out HO.out HN.out hX5 hl5 HZ.out HN1.out HN2.out HGA.out HGM.out HGD.out)
        clear hX5 hl5 HB HA HM HO HN
        refine wpAnyH_ready (rs := [9]) (by kernel_rfl) (by simp) ?_
        refine AllReadyH.cons (o := { dst := some 6, op := Op.assign (Operand.tmp 20), type := 27, pos := "idd.go:43", after := #[{ on := 8, ground := Ground.data }, { on := 8, ground := Ground.chain }, { on := 0, ground := Ground.phase }, { on := 1, ground := Ground.phase }, { on := 2, ground := Ground.phase }, { on := 3, ground := Ground.phase }, { on := 4, ground := Ground.phase }, { on := 5, ground := Ground.phase }, { on := 6, ground := Ground.phase }, { on := 7, ground := Ground.phase }, { on := 8, ground := Ground.phase }], guard := none }) rfl (fun K hK => ?_) AllReadyH.nil
        go_simp
        refine hK.out _ _ trivial (fun hHeld => ?_)
        clear hK K hHeld
        try simp only [Act.put, List.setIfInBounds_toArray, List.set_cons_zero, List.set_cons_succ]
        refine wpAnyH_done (by kernel_rfl) ?_ _
        refine NoPanic.normal ?_
        go_wp2
        go_meet
        case rel => exact ⟨_, _, _, _, rfl, HF⟩
    · go_simp
      refine (freshI_any vd0 dr X0 (HD.out.below HB.out) (by omega)).mono ?_
      rintro e X1 ⟨vd, rfl, hO, hb⟩
      obtain ⟨ad, cd, rfl⟩ := row_shape hO
      have hO := owns_le hO HB.out.size
      refine hK.out _ _ trivial (fun hHeld => ?_)
      clear hK K hHeld
      try simp only [Act.put, List.setIfInBounds_toArray, List.set_cons_zero, List.set_cons_succ]
      have HBn := hid (HB.out.trans (hb.mono HB.out.size))
      clear HB
      have HB := HBn
      clear HBn
      have HO := hid hO
      clear hO hb
      refine wpAnyH_ready (rs := [2, 5]) (by kernel_rfl) (by simp) ?_
      refine AllReadyH.cons (o := { dst := some 14, op := Op.makeSlice 70 (Operand.tmp 13) (Operand.tmp 13), type := 70, pos := "idd.go:43", after := #[{ on := 1, ground := Ground.data }, { on := 1, ground := Ground.data }], guard := none }) rfl (fun K hK => ?_) (AllReadyH.cons (o := { dst := some 17, op := Op.makeMap 71 none, type := 71, pos := "idd.go:43", after := #[], guard := none }) rfl (fun K hK => ?_) AllReadyH.nil)
      · go_simp
        refine hK.out _ _ trivial (fun hHeld => ?_)
        clear hK K hHeld
        try simp only [Act.put, List.setIfInBounds_toArray, List.set_cons_zero, List.set_cons_succ]
        have hn := heap_alloc_new X1 (.cells Z 86)
        have hb := below_alloc X1 (.cells Z 86)
        obtain ⟨X2, hx⟩ : ∃ x, x = X1.alloc (.cells Z 86) := ⟨_, rfl⟩
        rw [← hx] at hn hb ⊢
        clear hx
        obtain ⟨a, ha⟩ : ∃ a, a = X1.heap.size := ⟨_, rfl⟩
        rw [← ha] at hn ⊢
        have HGA := hid (show w.heap.size ≤ a by rw [ha]; exact HB.out.size)
        clear ha
        have HBn := hid (HB.out.trans (hb.mono HB.out.size))
        clear HB
        have HB := HBn
        clear HBn
        have HOn := hid (HO.out.below hb)
        clear HO
        have HO := HOn
        clear HOn
        have HA := hid hn
        clear hn hb
        refine wpAnyH_ready (rs := [5]) (by kernel_rfl) (by simp) ?_
        refine AllReadyH.cons (o := { dst := some 17, op := Op.makeMap 71 none, type := 71, pos := "idd.go:43", after := #[], guard := none }) rfl (fun K hK => ?_) AllReadyH.nil
        go_simp
        refine hK.out _ _ trivial (fun hHeld => ?_)
        clear hK K hHeld
        try simp only [Act.put, List.setIfInBounds_toArray, List.set_cons_zero, List.set_cons_succ]
        have hn := heap_alloc_new X2 (.map #[] 0)
        have hb := below_alloc X2 (.map #[] 0)
        obtain ⟨X3, hx⟩ : ∃ x, x = X2.alloc (.map #[] 0) := ⟨_, rfl⟩
        rw [← hx] at hn hb ⊢
        clear hx
        obtain ⟨m, hm⟩ : ∃ a, a = X2.heap.size := ⟨_, rfl⟩
        rw [← hm] at hn ⊢
        have HGM := hid (show w.heap.size ≤ m by rw [hm]; exact HB.out.size)
        clear hm
        have HBn := hid (HB.out.trans (hb.mono HB.out.size))
        clear HB
        have HB := HBn
        clear HBn
        have HAn := hid ((hb.block a (Array.getElem?_eq_some_iff.1 HA.out).1).trans HA.out)
        clear HA
        have HA := HAn
        clear HAn
        have HOn := hid (HO.out.below hb)
        clear HO
        have HO := HOn
        clear HOn
        have HM := hid hn
        clear hn hb
        refine wpAnyH_take (i := 6) (oi := { dst := some 18, op := Op.build 73 #[(1, Operand.tmp 14), (2, Operand.tmp 16), (4, Operand.tmp 17)], type := 73, pos := "idd.go:43", after := #[{ on := 2, ground := Ground.data }, { on := 4, ground := Ground.data }, { on := 5, ground := Ground.data }], guard := none }) (v := (.agg #[.pointer none, .slice (some ⟨a, 0, none⟩) l.length l.length, .slice ad dr.length cd, .int .i64 0, .map (some m), .slice none 0 0])) rfl (by kernel_rfl) (by kernel_rfl) (by kernel_rfl) (fun _ _ _ h => h) (Or.inl ⟨by rfl, ?_⟩) trivial ?_
        · intro wz hSw
          try dsimp only at hSw
          go_simp
        try simp only [Act.put, List.setIfInBounds_toArray, List.set_cons_zero, List.set_cons_succ]
        refine wpAnyH_ready (rs := [7]) (by kernel_rfl) (by simp) ?_
        refine AllReadyH.cons (o := { dst := some 19, op := Op.box 73 (Operand.tmp 18), type := 27, pos := "idd.go:43", after := #[{ on := 6, ground := Ground.data }], guard := none }) rfl (fun K hK => ?_) AllReadyH.nil
        go_simp
        refine hK.out _ _ trivial (fun hHeld => ?_)
        clear hK K hHeld
        try simp only [Act.put, List.setIfInBounds_toArray, List.set_cons_zero, List.set_cons_succ]
        have hn := heap_alloc_new X3 (.cells #[.pointer none, .slice (some ⟨a, 0, none⟩) l.length l.length, .slice ad dr.length cd, .int .i64 0, .map (some m), .slice none 0 0] 73)
        have hb := below_alloc X3 (.cells #[.pointer none, .slice (some ⟨a, 0, none⟩) l.length l.length, .slice ad dr.length cd, .int .i64 0, .map (some m), .slice none 0 0] 73)
        obtain ⟨X4, hx⟩ : ∃ x, x = X3.alloc (.cells #[.pointer none, .slice (some ⟨a, 0, none⟩) l.length l.length, .slice ad dr.length cd, .int .i64 0, .map (some m), .slice none 0 0] 73) := ⟨_, rfl⟩
        rw [← hx] at hn hb ⊢
        clear hx
        obtain ⟨d, hd⟩ : ∃ a, a = X3.heap.size := ⟨_, rfl⟩
        rw [← hd] at hn ⊢
        have HGD := hid (show w.heap.size ≤ d by rw [hd]; exact HB.out.size)
        clear hd
        have HBn := hid (HB.out.trans (hb.mono HB.out.size))
        clear HB
        have HB := HBn
        clear HBn
        have HAn := hid ((hb.block a (Array.getElem?_eq_some_iff.1 HA.out).1).trans HA.out)
        clear HA
        have HA := HAn
        clear HAn
        have HMn := hid ((hb.block m (Array.getElem?_eq_some_iff.1 HM.out).1).trans HM.out)
        clear HM
        have HM := HMn
        clear HMn
        have HOn := hid (HO.out.below hb)
        clear HO
        have HO := HOn
        clear HOn
        have HN := hid hn
        clear hn hb
        refine wpAnyH_ready (rs := [8]) (by kernel_rfl) (by simp) ?_
        refine AllReadyH.cons (o := { dst := some 20, op := Op.call { callee := Callee.value (Operand.func 30), args := #[Operand.tmp 19], argTypes := #[27] }, type := 27, pos := "idd.go:43", after := #[{ on := 7, ground := Ground.data }, { on := 4, ground := Ground.chain }], guard := none }) rfl (fun K hK => ?_) AllReadyH.nil
        go_simp
        refine (lay_any d X4 _ _ _ _ _ HN.out).mono ?_
        rintro e X5 ⟨rfl, hX5, hl5⟩
        refine hK.out _ _ trivial (fun hHeld => ?_)
        clear hK K hHeld
        try simp only [Act.put, List.setIfInBounds_toArray, List.set_cons_zero, List.set_cons_succ]
        have HF := hid (new_fin HB.out HA.out HM.out HO.out HN.out hX5 hl5 HZ.out HN1.out HN2.out HGA.out HGM.out HGD.out)
        clear hX5 hl5 HB HA HM HO HN
        refine wpAnyH_ready (rs := [9]) (by kernel_rfl) (by simp) ?_
        refine AllReadyH.cons (o := { dst := some 6, op := Op.assign (Operand.tmp 20), type := 27, pos := "idd.go:43", after := #[{ on := 8, ground := Ground.data }, { on := 8, ground := Ground.chain }, { on := 0, ground := Ground.phase }, { on := 1, ground := Ground.phase }, { on := 2, ground := Ground.phase }, { on := 3, ground := Ground.phase }, { on := 4, ground := Ground.phase }, { on := 5, ground := Ground.phase }, { on := 6, ground := Ground.phase }, { on := 7, ground := Ground.phase }, { on := 8, ground := Ground.phase }], guard := none }) rfl (fun K hK => ?_) AllReadyH.nil
        go_simp
        refine hK.out _ _ trivial (fun hHeld => ?_)
        clear hK K hHeld
        try simp only [Act.put, List.setIfInBounds_toArray, List.set_cons_zero, List.set_cons_succ]
        refine wpAnyH_done (by kernel_rfl) ?_ _
        refine NoPanic.normal ?_
        go_wp2
        go_meet
        case rel => exact ⟨_, _, _, _, rfl, HF⟩
      · go_simp
        refine hK.out _ _ trivial (fun hHeld => ?_)
        clear hK K hHeld
        try simp only [Act.put, List.setIfInBounds_toArray, List.set_cons_zero, List.set_cons_succ]
        have hn := heap_alloc_new X1 (.map #[] 0)
        have hb := below_alloc X1 (.map #[] 0)
        obtain ⟨X2, hx⟩ : ∃ x, x = X1.alloc (.map #[] 0) := ⟨_, rfl⟩
        rw [← hx] at hn hb ⊢
        clear hx
        obtain ⟨m, hm⟩ : ∃ a, a = X1.heap.size := ⟨_, rfl⟩
        rw [← hm] at hn ⊢
        have HGM := hid (show w.heap.size ≤ m by rw [hm]; exact HB.out.size)
        clear hm
        have HBn := hid (HB.out.trans (hb.mono HB.out.size))
        clear HB
        have HB := HBn
        clear HBn
        have HOn := hid (HO.out.below hb)
        clear HO
        have HO := HOn
        clear HOn
        have HM := hid hn
        clear hn hb
        refine wpAnyH_ready (rs := [2]) (by kernel_rfl) (by simp) ?_
        refine AllReadyH.cons (o := { dst := some 14, op := Op.makeSlice 70 (Operand.tmp 13) (Operand.tmp 13), type := 70, pos := "idd.go:43", after := #[{ on := 1, ground := Ground.data }, { on := 1, ground := Ground.data }], guard := none }) rfl (fun K hK => ?_) AllReadyH.nil
        go_simp
        refine hK.out _ _ trivial (fun hHeld => ?_)
        clear hK K hHeld
        try simp only [Act.put, List.setIfInBounds_toArray, List.set_cons_zero, List.set_cons_succ]
        have hn := heap_alloc_new X2 (.cells Z 86)
        have hb := below_alloc X2 (.cells Z 86)
        obtain ⟨X3, hx⟩ : ∃ x, x = X2.alloc (.cells Z 86) := ⟨_, rfl⟩
        rw [← hx] at hn hb ⊢
        clear hx
        obtain ⟨a, ha⟩ : ∃ a, a = X2.heap.size := ⟨_, rfl⟩
        rw [← ha] at hn ⊢
        have HGA := hid (show w.heap.size ≤ a by rw [ha]; exact HB.out.size)
        clear ha
        have HBn := hid (HB.out.trans (hb.mono HB.out.size))
        clear HB
        have HB := HBn
        clear HBn
        have HMn := hid ((hb.block m (Array.getElem?_eq_some_iff.1 HM.out).1).trans HM.out)
        clear HM
        have HM := HMn
        clear HMn
        have HOn := hid (HO.out.below hb)
        clear HO
        have HO := HOn
        clear HOn
        have HA := hid hn
        clear hn hb
        refine wpAnyH_take (i := 6) (oi := { dst := some 18, op := Op.build 73 #[(1, Operand.tmp 14), (2, Operand.tmp 16), (4, Operand.tmp 17)], type := 73, pos := "idd.go:43", after := #[{ on := 2, ground := Ground.data }, { on := 4, ground := Ground.data }, { on := 5, ground := Ground.data }], guard := none }) (v := (.agg #[.pointer none, .slice (some ⟨a, 0, none⟩) l.length l.length, .slice ad dr.length cd, .int .i64 0, .map (some m), .slice none 0 0])) rfl (by kernel_rfl) (by kernel_rfl) (by kernel_rfl) (fun _ _ _ h => h) (Or.inl ⟨by rfl, ?_⟩) trivial ?_
        · intro wz hSw
          try dsimp only at hSw
          go_simp
        try simp only [Act.put, List.setIfInBounds_toArray, List.set_cons_zero, List.set_cons_succ]
        refine wpAnyH_ready (rs := [7]) (by kernel_rfl) (by simp) ?_
        refine AllReadyH.cons (o := { dst := some 19, op := Op.box 73 (Operand.tmp 18), type := 27, pos := "idd.go:43", after := #[{ on := 6, ground := Ground.data }], guard := none }) rfl (fun K hK => ?_) AllReadyH.nil
        go_simp
        refine hK.out _ _ trivial (fun hHeld => ?_)
        clear hK K hHeld
        try simp only [Act.put, List.setIfInBounds_toArray, List.set_cons_zero, List.set_cons_succ]
        have hn := heap_alloc_new X3 (.cells #[.pointer none, .slice (some ⟨a, 0, none⟩) l.length l.length, .slice ad dr.length cd, .int .i64 0, .map (some m), .slice none 0 0] 73)
        have hb := below_alloc X3 (.cells #[.pointer none, .slice (some ⟨a, 0, none⟩) l.length l.length, .slice ad dr.length cd, .int .i64 0, .map (some m), .slice none 0 0] 73)
        obtain ⟨X4, hx⟩ : ∃ x, x = X3.alloc (.cells #[.pointer none, .slice (some ⟨a, 0, none⟩) l.length l.length, .slice ad dr.length cd, .int .i64 0, .map (some m), .slice none 0 0] 73) := ⟨_, rfl⟩
        rw [← hx] at hn hb ⊢
        clear hx
        obtain ⟨d, hd⟩ : ∃ a, a = X3.heap.size := ⟨_, rfl⟩
        rw [← hd] at hn ⊢
        have HGD := hid (show w.heap.size ≤ d by rw [hd]; exact HB.out.size)
        clear hd
        have HBn := hid (HB.out.trans (hb.mono HB.out.size))
        clear HB
        have HB := HBn
        clear HBn
        have HAn := hid ((hb.block a (Array.getElem?_eq_some_iff.1 HA.out).1).trans HA.out)
        clear HA
        have HA := HAn
        clear HAn
        have HMn := hid ((hb.block m (Array.getElem?_eq_some_iff.1 HM.out).1).trans HM.out)
        clear HM
        have HM := HMn
        clear HMn
        have HOn := hid (HO.out.below hb)
        clear HO
        have HO := HOn
        clear HOn
        have HN := hid hn
        clear hn hb
        refine wpAnyH_ready (rs := [8]) (by kernel_rfl) (by simp) ?_
        refine AllReadyH.cons (o := { dst := some 20, op := Op.call { callee := Callee.value (Operand.func 30), args := #[Operand.tmp 19], argTypes := #[27] }, type := 27, pos := "idd.go:43", after := #[{ on := 7, ground := Ground.data }, { on := 4, ground := Ground.chain }], guard := none }) rfl (fun K hK => ?_) AllReadyH.nil
        go_simp
        refine (lay_any d X4 _ _ _ _ _ HN.out).mono ?_
        rintro e X5 ⟨rfl, hX5, hl5⟩
        refine hK.out _ _ trivial (fun hHeld => ?_)
        clear hK K hHeld
        try simp only [Act.put, List.setIfInBounds_toArray, List.set_cons_zero, List.set_cons_succ]
        have HF := hid (new_fin HB.out HA.out HM.out HO.out HN.out hX5 hl5 HZ.out HN1.out HN2.out HGA.out HGM.out HGD.out)
        clear hX5 hl5 HB HA HM HO HN
        refine wpAnyH_ready (rs := [9]) (by kernel_rfl) (by simp) ?_
        refine AllReadyH.cons (o := { dst := some 6, op := Op.assign (Operand.tmp 20), type := 27, pos := "idd.go:43", after := #[{ on := 8, ground := Ground.data }, { on := 8, ground := Ground.chain }, { on := 0, ground := Ground.phase }, { on := 1, ground := Ground.phase }, { on := 2, ground := Ground.phase }, { on := 3, ground := Ground.phase }, { on := 4, ground := Ground.phase }, { on := 5, ground := Ground.phase }, { on := 6, ground := Ground.phase }, { on := 7, ground := Ground.phase }, { on := 8, ground := Ground.phase }], guard := none }) rfl (fun K hK => ?_) AllReadyH.nil
        go_simp
        refine hK.out _ _ trivial (fun hHeld => ?_)
        clear hK K hHeld
        try simp only [Act.put, List.setIfInBounds_toArray, List.set_cons_zero, List.set_cons_succ]
        refine wpAnyH_done (by kernel_rfl) ?_ _
        refine NoPanic.normal ?_
        go_wp2
        go_meet
        case rel => exact ⟨_, _, _, _, rfl, HF⟩
    · go_simp
      refine hK.out _ _ trivial (fun hHeld => ?_)
      clear hK K hHeld
      try simp only [Act.put, List.setIfInBounds_toArray, List.set_cons_zero, List.set_cons_succ]
      have hn := heap_alloc_new X0 (.map #[] 0)
      have hb := below_alloc X0 (.map #[] 0)
      obtain ⟨X1, hx⟩ : ∃ x, x = X0.alloc (.map #[] 0) := ⟨_, rfl⟩
      rw [← hx] at hn hb ⊢
      clear hx
      obtain ⟨m, hm⟩ : ∃ a, a = X0.heap.size := ⟨_, rfl⟩
      rw [← hm] at hn ⊢
      have HGM := hid (show w.heap.size ≤ m by rw [hm]; exact HB.out.size)
      clear hm
      have HBn := hid (HB.out.trans (hb.mono HB.out.size))
      clear HB
      have HB := HBn
      clear HBn
      have HM := hid hn
      clear hn hb
      refine wpAnyH_ready (rs := [2, 4]) (by kernel_rfl) (by simp) ?_
      refine AllReadyH.cons (o := { dst := some 14, op := Op.makeSlice 70 (Operand.tmp 13) (Operand.tmp 13), type := 70, pos := "idd.go:43", after := #[{ on := 1, ground := Ground.data }, { on := 1, ground := Ground.data }], guard := none }) rfl (fun K hK => ?_) (AllReadyH.cons (o := { dst := some 16, op := Op.call { callee := Callee.value (Operand.func 31), args := #[Operand.tmp 15], argTypes := #[23] }, type := 23, pos := "idd.go:43", after := #[{ on := 3, ground := Ground.data }], guard := none }) rfl (fun K hK => ?_) AllReadyH.nil)
      · go_simp
        refine hK.out _ _ trivial (fun hHeld => ?_)
        clear hK K hHeld
        try simp only [Act.put, List.setIfInBounds_toArray, List.set_cons_zero, List.set_cons_succ]
        have hn := heap_alloc_new X1 (.cells Z 86)
        have hb := below_alloc X1 (.cells Z 86)
        obtain ⟨X2, hx⟩ : ∃ x, x = X1.alloc (.cells Z 86) := ⟨_, rfl⟩
        rw [← hx] at hn hb ⊢
        clear hx
        obtain ⟨a, ha⟩ : ∃ a, a = X1.heap.size := ⟨_, rfl⟩
        rw [← ha] at hn ⊢
        have HGA := hid (show w.heap.size ≤ a by rw [ha]; exact HB.out.size)
        clear ha
        have HBn := hid (HB.out.trans (hb.mono HB.out.size))
        clear HB
        have HB := HBn
        clear HBn
        have HMn := hid ((hb.block m (Array.getElem?_eq_some_iff.1 HM.out).1).trans HM.out)
        clear HM
        have HM := HMn
        clear HMn
        have HA := hid hn
        clear hn hb
        refine wpAnyH_ready (rs := [4]) (by kernel_rfl) (by simp) ?_
        refine AllReadyH.cons (o := { dst := some 16, op := Op.call { callee := Callee.value (Operand.func 31), args := #[Operand.tmp 15], argTypes := #[23] }, type := 23, pos := "idd.go:43", after := #[{ on := 3, ground := Ground.data }], guard := none }) rfl (fun K hK => ?_) AllReadyH.nil
        go_simp
        refine (freshI_any vd0 dr X2 (HD.out.below HB.out) (by omega)).mono ?_
        rintro e X3 ⟨vd, rfl, hO, hb⟩
        obtain ⟨ad, cd, rfl⟩ := row_shape hO
        have hO := owns_le hO HB.out.size
        refine hK.out _ _ trivial (fun hHeld => ?_)
        clear hK K hHeld
        try simp only [Act.put, List.setIfInBounds_toArray, List.set_cons_zero, List.set_cons_succ]
        have HBn := hid (HB.out.trans (hb.mono HB.out.size))
        clear HB
        have HB := HBn
        clear HBn
        have HAn := hid ((hb.block a (Array.getElem?_eq_some_iff.1 HA.out).1).trans HA.out)
        clear HA
        have HA := HAn
        clear HAn
        have HMn := hid ((hb.block m (Array.getElem?_eq_some_iff.1 HM.out).1).trans HM.out)
        clear HM
        have HM := HMn
        clear HMn
        have HO := hid hO
        clear hO hb
        refine wpAnyH_take (i := 6) (oi := { dst := some 18, op := Op.build 73 #[(1, Operand.tmp 14), (2, Operand.tmp 16), (4, Operand.tmp 17)], type := 73, pos := "idd.go:43", after := #[{ on := 2, ground := Ground.data }, { on := 4, ground := Ground.data }, { on := 5, ground := Ground.data }], guard := none }) (v := (.agg #[.pointer none, .slice (some ⟨a, 0, none⟩) l.length l.length, .slice ad dr.length cd, .int .i64 0, .map (some m), .slice none 0 0])) rfl (by kernel_rfl) (by kernel_rfl) (by kernel_rfl) (fun _ _ _ h => h) (Or.inl ⟨by rfl, ?_⟩) trivial ?_
        · intro wz hSw
          try dsimp only at hSw
          go_simp
        try simp only [Act.put, List.setIfInBounds_toArray, List.set_cons_zero, List.set_cons_succ]
        refine wpAnyH_ready (rs := [7]) (by kernel_rfl) (by simp) ?_
        refine AllReadyH.cons (o := { dst := some 19, op := Op.box 73 (Operand.tmp 18), type := 27, pos := "idd.go:43", after := #[{ on := 6, ground := Ground.data }], guard := none }) rfl (fun K hK => ?_) AllReadyH.nil
        go_simp
        refine hK.out _ _ trivial (fun hHeld => ?_)
        clear hK K hHeld
        try simp only [Act.put, List.setIfInBounds_toArray, List.set_cons_zero, List.set_cons_succ]
        have hn := heap_alloc_new X3 (.cells #[.pointer none, .slice (some ⟨a, 0, none⟩) l.length l.length, .slice ad dr.length cd, .int .i64 0, .map (some m), .slice none 0 0] 73)
        have hb := below_alloc X3 (.cells #[.pointer none, .slice (some ⟨a, 0, none⟩) l.length l.length, .slice ad dr.length cd, .int .i64 0, .map (some m), .slice none 0 0] 73)
        obtain ⟨X4, hx⟩ : ∃ x, x = X3.alloc (.cells #[.pointer none, .slice (some ⟨a, 0, none⟩) l.length l.length, .slice ad dr.length cd, .int .i64 0, .map (some m), .slice none 0 0] 73) := ⟨_, rfl⟩
        rw [← hx] at hn hb ⊢
        clear hx
        obtain ⟨d, hd⟩ : ∃ a, a = X3.heap.size := ⟨_, rfl⟩
        rw [← hd] at hn ⊢
        have HGD := hid (show w.heap.size ≤ d by rw [hd]; exact HB.out.size)
        clear hd
        have HBn := hid (HB.out.trans (hb.mono HB.out.size))
        clear HB
        have HB := HBn
        clear HBn
        have HAn := hid ((hb.block a (Array.getElem?_eq_some_iff.1 HA.out).1).trans HA.out)
        clear HA
        have HA := HAn
        clear HAn
        have HMn := hid ((hb.block m (Array.getElem?_eq_some_iff.1 HM.out).1).trans HM.out)
        clear HM
        have HM := HMn
        clear HMn
        have HOn := hid (HO.out.below hb)
        clear HO
        have HO := HOn
        clear HOn
        have HN := hid hn
        clear hn hb
        refine wpAnyH_ready (rs := [8]) (by kernel_rfl) (by simp) ?_
        refine AllReadyH.cons (o := { dst := some 20, op := Op.call { callee := Callee.value (Operand.func 30), args := #[Operand.tmp 19], argTypes := #[27] }, type := 27, pos := "idd.go:43", after := #[{ on := 7, ground := Ground.data }, { on := 4, ground := Ground.chain }], guard := none }) rfl (fun K hK => ?_) AllReadyH.nil
        go_simp
        refine (lay_any d X4 _ _ _ _ _ HN.out).mono ?_
        rintro e X5 ⟨rfl, hX5, hl5⟩
        refine hK.out _ _ trivial (fun hHeld => ?_)
        clear hK K hHeld
        try simp only [Act.put, List.setIfInBounds_toArray, List.set_cons_zero, List.set_cons_succ]
        have HF := hid (new_fin HB.out HA.out HM.out HO.out HN.out hX5 hl5 HZ.out HN1.out HN2.out HGA.out HGM.out HGD.out)
        clear hX5 hl5 HB HA HM HO HN
        refine wpAnyH_ready (rs := [9]) (by kernel_rfl) (by simp) ?_
        refine AllReadyH.cons (o := { dst := some 6, op := Op.assign (Operand.tmp 20), type := 27, pos := "idd.go:43", after := #[{ on := 8, ground := Ground.data }, { on := 8, ground := Ground.chain }, { on := 0, ground := Ground.phase }, { on := 1, ground := Ground.phase }, { on := 2, ground := Ground.phase }, { on := 3, ground := Ground.phase }, { on := 4, ground := Ground.phase }, { on := 5, ground := Ground.phase }, { on := 6, ground := Ground.phase }, { on := 7, ground := Ground.phase }, { on := 8, ground := Ground.phase }], guard := none }) rfl (fun K hK => ?_) AllReadyH.nil
        go_simp
        refine hK.out _ _ trivial (fun hHeld => ?_)
        clear hK K hHeld
        try simp only [Act.put, List.setIfInBounds_toArray, List.set_cons_zero, List.set_cons_succ]
        refine wpAnyH_done (by kernel_rfl) ?_ _
        refine NoPanic.normal ?_
        go_wp2
        go_meet
        case rel => exact ⟨_, _, _, _, rfl, HF⟩
      · go_simp
        refine (freshI_any vd0 dr X1 (HD.out.below HB.out) (by omega)).mono ?_
        rintro e X2 ⟨vd, rfl, hO, hb⟩
        obtain ⟨ad, cd, rfl⟩ := row_shape hO
        have hO := owns_le hO HB.out.size
        refine hK.out _ _ trivial (fun hHeld => ?_)
        clear hK K hHeld
        try simp only [Act.put, List.setIfInBounds_toArray, List.set_cons_zero, List.set_cons_succ]
        have HBn := hid (HB.out.trans (hb.mono HB.out.size))
        clear HB
        have HB := HBn
        clear HBn
        have HMn := hid ((hb.block m (Array.getElem?_eq_some_iff.1 HM.out).1).trans HM.out)
        clear HM
        have HM := HMn
        clear HMn
        have HO := hid hO
        clear hO hb
        refine wpAnyH_ready (rs := [2]) (by kernel_rfl) (by simp) ?_
        refine AllReadyH.cons (o := { dst := some 14, op := Op.makeSlice 70 (Operand.tmp 13) (Operand.tmp 13), type := 70, pos := "idd.go:43", after := #[{ on := 1, ground := Ground.data }, { on := 1, ground := Ground.data }], guard := none }) rfl (fun K hK => ?_) AllReadyH.nil
        go_simp
        refine hK.out _ _ trivial (fun hHeld => ?_)
        clear hK K hHeld
        try simp only [Act.put, List.setIfInBounds_toArray, List.set_cons_zero, List.set_cons_succ]
        have hn := heap_alloc_new X2 (.cells Z 86)
        have hb := below_alloc X2 (.cells Z 86)
        obtain ⟨X3, hx⟩ : ∃ x, x = X2.alloc (.cells Z 86) := ⟨_, rfl⟩
        rw [← hx] at hn hb ⊢
        clear hx
        obtain ⟨a, ha⟩ : ∃ a, a = X2.heap.size := ⟨_, rfl⟩
        rw [← ha] at hn ⊢
        have HGA := hid (show w.heap.size ≤ a by rw [ha]; exact HB.out.size)
        clear ha
        have HBn := hid (HB.out.trans (hb.mono HB.out.size))
        clear HB
        have HB := HBn
        clear HBn
        have HMn := hid ((hb.block m (Array.getElem?_eq_some_iff.1 HM.out).1).trans HM.out)
        clear HM
        have HM := HMn
        clear HMn
        have HOn := hid (HO.out.below hb)
        clear HO
        have HO := HOn
        clear HOn
        have HA := hid hn
        clear hn hb
        refine wpAnyH_take (i := 6) (oi := { dst := some 18, op := Op.build 73 #[(1, Operand.tmp 14), (2, Operand.tmp 16), (4, Operand.tmp 17)], type := 73, pos := "idd.go:43", after := #[{ on := 2, ground := Ground.data }, { on := 4, ground := Ground.data }, { on := 5, ground := Ground.data }], guard := none }) (v := (.agg #[.pointer none, .slice (some ⟨a, 0, none⟩) l.length l.length, .slice ad dr.length cd, .int .i64 0, .map (some m), .slice none 0 0])) rfl (by kernel_rfl) (by kernel_rfl) (by kernel_rfl) (fun _ _ _ h => h) (Or.inl ⟨by rfl, ?_⟩) trivial ?_
        · intro wz hSw
          try dsimp only at hSw
          go_simp
        try simp only [Act.put, List.setIfInBounds_toArray, List.set_cons_zero, List.set_cons_succ]
        refine wpAnyH_ready (rs := [7]) (by kernel_rfl) (by simp) ?_
        refine AllReadyH.cons (o := { dst := some 19, op := Op.box 73 (Operand.tmp 18), type := 27, pos := "idd.go:43", after := #[{ on := 6, ground := Ground.data }], guard := none }) rfl (fun K hK => ?_) AllReadyH.nil
        go_simp
        refine hK.out _ _ trivial (fun hHeld => ?_)
        clear hK K hHeld
        try simp only [Act.put, List.setIfInBounds_toArray, List.set_cons_zero, List.set_cons_succ]
        have hn := heap_alloc_new X3 (.cells #[.pointer none, .slice (some ⟨a, 0, none⟩) l.length l.length, .slice ad dr.length cd, .int .i64 0, .map (some m), .slice none 0 0] 73)
        have hb := below_alloc X3 (.cells #[.pointer none, .slice (some ⟨a, 0, none⟩) l.length l.length, .slice ad dr.length cd, .int .i64 0, .map (some m), .slice none 0 0] 73)
        obtain ⟨X4, hx⟩ : ∃ x, x = X3.alloc (.cells #[.pointer none, .slice (some ⟨a, 0, none⟩) l.length l.length, .slice ad dr.length cd, .int .i64 0, .map (some m), .slice none 0 0] 73) := ⟨_, rfl⟩
        rw [← hx] at hn hb ⊢
        clear hx
        obtain ⟨d, hd⟩ : ∃ a, a = X3.heap.size := ⟨_, rfl⟩
        rw [← hd] at hn ⊢
        have HGD := hid (show w.heap.size ≤ d by rw [hd]; exact HB.out.size)
        clear hd
        have HBn := hid (HB.out.trans (hb.mono HB.out.size))
        clear HB
        have HB := HBn
        clear HBn
        have HAn := hid ((hb.block a (Array.getElem?_eq_some_iff.1 HA.out).1).trans HA.out)
        clear HA
        have HA := HAn
        clear HAn
        have HMn := hid ((hb.block m (Array.getElem?_eq_some_iff.1 HM.out).1).trans HM.out)
        clear HM
        have HM := HMn
        clear HMn
        have HOn := hid (HO.out.below hb)
        clear HO
        have HO := HOn
        clear HOn
        have HN := hid hn
        clear hn hb
        refine wpAnyH_ready (rs := [8]) (by kernel_rfl) (by simp) ?_
        refine AllReadyH.cons (o := { dst := some 20, op := Op.call { callee := Callee.value (Operand.func 30), args := #[Operand.tmp 19], argTypes := #[27] }, type := 27, pos := "idd.go:43", after := #[{ on := 7, ground := Ground.data }, { on := 4, ground := Ground.chain }], guard := none }) rfl (fun K hK => ?_) AllReadyH.nil
        go_simp
        refine (lay_any d X4 _ _ _ _ _ HN.out).mono ?_
        rintro e X5 ⟨rfl, hX5, hl5⟩
        refine hK.out _ _ trivial (fun hHeld => ?_)
        clear hK K hHeld
        try simp only [Act.put, List.setIfInBounds_toArray, List.set_cons_zero, List.set_cons_succ]
        have HF := hid (new_fin HB.out HA.out HM.out HO.out HN.out hX5 hl5 HZ.out HN1.out HN2.out HGA.out HGM.out HGD.out)
        clear hX5 hl5 HB HA HM HO HN
        refine wpAnyH_ready (rs := [9]) (by kernel_rfl) (by simp) ?_
        refine AllReadyH.cons (o := { dst := some 6, op := Op.assign (Operand.tmp 20), type := 27, pos := "idd.go:43", after := #[{ on := 8, ground := Ground.data }, { on := 8, ground := Ground.chain }, { on := 0, ground := Ground.phase }, { on := 1, ground := Ground.phase }, { on := 2, ground := Ground.phase }, { on := 3, ground := Ground.phase }, { on := 4, ground := Ground.phase }, { on := 5, ground := Ground.phase }, { on := 6, ground := Ground.phase }, { on := 7, ground := Ground.phase }, { on := 8, ground := Ground.phase }], guard := none }) rfl (fun K hK => ?_) AllReadyH.nil
        go_simp
        refine hK.out _ _ trivial (fun hHeld => ?_)
        clear hK K hHeld
        try simp only [Act.put, List.setIfInBounds_toArray, List.set_cons_zero, List.set_cons_succ]
        refine wpAnyH_done (by kernel_rfl) ?_ _
        refine NoPanic.normal ?_
        go_wp2
        go_meet
        case rel => exact ⟨_, _, _, _, rfl, HF⟩
  case rest =>
    obtain ⟨d, a, m, vd, rfl, HX⟩ := hcut
    obtain ⟨hI, hB, hG⟩ := HX.out
    have HI0 := hid hI
    have HBW := hid (HB0.out.trans (hB.mono HB0.out.size))
    have HG := hid (fun k hk => Nat.le_trans HB0.out.size (hG k hk))
    clear hI hB hG HX HB0 hmk hmm HZ HD
    go_wp2
    go_loopw [7, 8, 23] (fun _ _ i wr => ∃ (k : Nat) (us : List (Acc × Value)) (vg : Value), k ≤ l.length ∧ i = .int .i64 k ∧ Hid (IdAt wr d a m us vd dr 0 [] vg (grTo l k)) ∧ Hid (UsTo l k us) ∧ Hid (Below w0.heap.size w0 wr) ∧ Hid (∀ j, mineD d a m vg j → w0.heap.size ≤ j)) (fun _ _ i _ => l.length - (intOf i).toNat)
    case atStart => exact ⟨0, us0 l.length, .slice none 0 0, Nat.zero_le _, rfl, HI0, UsTo.zero l, HBW, HG⟩
    clear HI0 HBW HG
    case round =>
      obtain ⟨k, us, vg, hk, rfl, HI, HU, HBW, HG⟩ := hrel
      by_cases hlt : k < l.length
      · obtain ⟨u, hu⟩ : ∃ u, l[k]? = some u := ⟨_, List.getElem?_eq_getElem hlt⟩
        obtain ⟨c0, c1, c2, c3⟩ := HC.out k u hu
        have d0 := (HBW.out.cell (p := ⟨b, off + k * 4, none⟩) hbl).trans c0
        have d1 := (HBW.out.cell (p := ⟨b, off + k * 4 + 1, none⟩) hbl).trans c1
        have d2 := (HBW.out.cell (p := ⟨b, off + k * 4 + 2, none⟩) hbl).trans c2
        have d3 := (HBW.out.cell (p := ⟨b, off + k * 4 + 3, none⟩) hbl).trans c3
        have hlen := HU.out.len
        have hus := HU.out.rest k (Nat.le_refl _) hlt
        have hk2 : k < us.length := by omega
        have HLEN := hid hlen
        have hki : (k : Int) < (us.length : Int) := by omega
        have hki2 : (k : Int) < (l.length : Int) := by omega
        obtain ⟨W, hW⟩ : ∃ W, W = wr.alloc (.cells #[.string u.name, .string u.salt, .string u.digest, .bool u.op] 55) := ⟨_, rfl⟩
        have hbW : Below wr.heap.size wr W := by rw [hW]; exact below_alloc wr _
        have hX : UBox W wr.heap.size u := by unfold UBox; rw [hW]; exact heap_alloc_new wr _
        have hXl : wr.heap.size < W.heap.size := by rw [hW]; simp
        obtain ⟨x0, x1, x2, x3⟩ := hX.cells
        have HU1 := hid hu
        have HBX := hid hbW
        have hltd := HI.out.ltd
        have hsz := hbW.size
        obtain ⟨q0, q1, q2, q3, q4, q5⟩ := HI.out.cells
        have hda := HI.out.apart.1
        have z1 : W.cell? ⟨d, 1, none⟩ = some (.slice (some ⟨a, 0, none⟩) us.length us.length) := (hbW.cell (p := ⟨d, 1, none⟩) hltd).trans q1
        have hpa : wr.heap.size ≠ a := by have := HI.out.ltu; omega
        have hiU := hid HU.out
        have HLU := hid HI.out.ltu
        obtain ⟨p, hp⟩ : ∃ p, p = wr.heap.size := ⟨_, rfl⟩
        have HW := hid hW
        have hpl : wr.heap.size ≤ wr.heap.size := Nat.le_refl _
        rw [← hp] at x0 x1 x2 x3 hXl hpa hX
        have HXB := hid hX
        have HPL := hid (show wr.heap.size ≤ p by omega)
        clear hpl
        obtain ⟨nm, sl, dg, op⟩ := u
        simp only at d0 d1 d2 d3 x0 x1 x2 x3 HW HU1
        have hS0 : d < W.drew.heap.size ∧ p < W.drew.heap.size ∧ W.drew.cell? ⟨d, 1, none⟩ = some (.slice (some ⟨a, 0, none⟩) us.length us.length) ∧ W.drew.cell? ⟨p, 0, none⟩ = some (.string nm) ∧ W.drew.cell? ⟨p, 1, none⟩ = some (.string sl) ∧ W.drew.cell? ⟨p, 2, none⟩ = some (.string dg) := ⟨Nat.lt_of_lt_of_le hltd hsz, hXl, z1, x0, x1, x2⟩
        have hKB : Hid (∀ X X' : World, Below X.heap.size X X' → (d < X.heap.size ∧ p < X.heap.size ∧ X.cell? ⟨d, 1, none⟩ = some (.slice (some ⟨a, 0, none⟩) us.length us.length) ∧ X.cell? ⟨p, 0, none⟩ = some (.string nm) ∧ X.cell? ⟨p, 1, none⟩ = some (.string sl) ∧ X.cell? ⟨p, 2, none⟩ = some (.string dg)) →
            (d < X'.heap.size ∧ p < X'.heap.size ∧ X'.cell? ⟨d, 1, none⟩ = some (.slice (some ⟨a, 0, none⟩) us.length us.length) ∧ X'.cell? ⟨p, 0, none⟩ = some (.string nm) ∧ X'.cell? ⟨p, 1, none⟩ = some (.string sl) ∧ X'.cell? ⟨p, 2, none⟩ = some (.string dg))) := fun X X' hb hh =>
          ⟨Nat.lt_of_lt_of_le hh.1 hb.size, Nat.lt_of_lt_of_le hh.2.1 hb.size, (hb.cell (p := ⟨d, 1, none⟩) hh.1).trans hh.2.2.1, (hb.cell (p := ⟨p, 0, none⟩) hh.2.1).trans hh.2.2.2.1, (hb.cell (p := ⟨p, 1, none⟩) hh.2.1).trans hh.2.2.2.2.1, (hb.cell (p := ⟨p, 2, none⟩) hh.2.1).trans hh.2.2.2.2.2⟩
        have hK5 : Hid (∀ X : World, (d < X.heap.size ∧ p < X.heap.size ∧ X.cell? ⟨d, 1, none⟩ = some (.slice (some ⟨a, 0, none⟩) us.length us.length) ∧ X.cell? ⟨p, 0, none⟩ = some (.string nm) ∧ X.cell? ⟨p, 1, none⟩ = some (.string sl) ∧ X.cell? ⟨p, 2, none⟩ = some (.string dg)) →
            (d < (set5 X a (k * 5) (.string nm) (.string sl) (.string dg) (.int .i64 0) (.slice none 0 0)).heap.size ∧ p < (set5 X a (k * 5) (.string nm) (.string sl) (.string dg) (.int .i64 0) (.slice none 0 0)).heap.size ∧ (set5 X a (k * 5) (.string nm) (.string sl) (.string dg) (.int .i64 0) (.slice none 0 0)).cell? ⟨d, 1, none⟩ = some (.slice (some ⟨a, 0, none⟩) us.length us.length) ∧ (set5 X a (k * 5) (.string nm) (.string sl) (.string dg) (.int .i64 0) (.slice none 0 0)).cell? ⟨p, 0, none⟩ = some (.string nm) ∧ (set5 X a (k * 5) (.string nm) (.string sl) (.string dg) (.int .i64 0) (.slice none 0 0)).cell? ⟨p, 1, none⟩ = some (.string sl) ∧ (set5 X a (k * 5) (.string nm) (.string sl) (.string dg) (.int .i64 0) (.slice none 0 0)).cell? ⟨p, 2, none⟩ = some (.string dg))) := fun X hh => by
          have e : (set5 X a (k * 5) (.string nm) (.string sl) (.string dg) (.int .i64 0) (.slice none 0 0)).heap.size = X.heap.size := by simp [set5]
          rw [e, set5_far _ _ _ _ _ _ _ _ _ _ hda.symm, set5_far _ _ _ _ _ _ _ _ _ _ hpa.symm, set5_far _ _ _ _ _ _ _ _ _ _ hpa.symm, set5_far _ _ _ _ _ _ _ _ _ _ hpa.symm]
          exact hh
        clear c0 c1 c2 c3 hu hbW hX q0 q1 q2 q3 q4 q5 hsz hlen z1 hW
        go_wp2_with fail
        rw [← hp]
        rw [← HW.out]
        clear HW
        clear hp
        refine wp_region_noPanic ?_
        refine wp_region_held_drew (S := fun X => d < X.heap.size ∧ p < X.heap.size ∧ X.cell? ⟨d, 1, none⟩ = some (.slice (some ⟨a, 0, none⟩) us.length us.length) ∧ X.cell? ⟨p, 0, none⟩ = some (.string nm) ∧ X.cell? ⟨p, 1, none⟩ = some (.string sl) ∧ X.cell? ⟨p, 2, none⟩ = some (.string dg)) (by kernel_rfl) ?_ (fun hHeld => ?_)
        · first | (with_reducible exact hS7) | (with_reducible exact hS6) | (with_reducible exact hS5) | (with_reducible exact hS8) | exact hS0
        refine wpAnyH_take (i := 0) (oi := { dst := some 28, op := Op.move (Operand.tmp 6), type := 27, pos := "idd.go:45", after := #[], guard := none }) (v := (.pointer (some ⟨d, 0, none⟩))) rfl (by kernel_rfl) (by kernel_rfl) (by kernel_rfl) (fun _ _ _ h => h) (Or.inl ⟨by rfl, ?_⟩) (by assumption) ?_
        · intro w hSw
          try dsimp only at hSw
          go_simp
        try simp only [Act.put, List.setIfInBounds_toArray, List.set_cons_zero, List.set_cons_succ]
        refine wpAnyH_take (i := 1) (oi := { dst := some 29, op := Op.nilCheck (Operand.tmp 28), type := 0, pos := "idd.go:45", after := #[{ on := 0, ground := Ground.data }], guard := none }) (v := (.pointer (some ⟨d, 0, none⟩))) rfl (by kernel_rfl) (by kernel_rfl) (by kernel_rfl) (fun _ _ _ h => h) (Or.inl ⟨by rfl, ?_⟩) (by assumption) ?_
        · intro w hSw
          try dsimp only at hSw
          go_simp
        try simp only [Act.put, List.setIfInBounds_toArray, List.set_cons_zero, List.set_cons_succ]
        refine wpAnyH_take (i := 2) (oi := { dst := some 30, op := Op.fieldAddr 73 (Operand.tmp 29) 1, type := 0, pos := "idd.go:45", after := #[{ on := 1, ground := Ground.data }], guard := none }) (v := (.pointer (some ⟨d, 1, none⟩))) rfl (by kernel_rfl) (by kernel_rfl) (by kernel_rfl) (fun _ _ _ h => h) (Or.inl ⟨by rfl, ?_⟩) (by assumption) ?_
        · intro w hSw
          try dsimp only at hSw
          go_simp
        try simp only [Act.put, List.setIfInBounds_toArray, List.set_cons_zero, List.set_cons_succ]
        refine wpAnyH_take (i := 3) (oi := { dst := some 31, op := Op.load 70 (Operand.tmp 30), type := 70, pos := "idd.go:45", after := #[{ on := 2, ground := Ground.data }], guard := none }) (v := (.slice (some ⟨a, 0, none⟩) us.length us.length)) rfl (by kernel_rfl) (by kernel_rfl) (by kernel_rfl) (fun _ _ _ h => h) (Or.inl ⟨by rfl, ?_⟩) (by assumption) ?_
        · intro w hSw
          try dsimp only at hSw
          go_simp
        try simp only [Act.put, List.setIfInBounds_toArray, List.set_cons_zero, List.set_cons_succ]
        refine wpAnyH_take (i := 4) (oi := { dst := some 32, op := Op.move (Operand.tmp 7), type := 3, pos := "idd.go:45", after := #[], guard := none }) (v := (.int .i64 (k : Int))) rfl (by kernel_rfl) (by kernel_rfl) (by kernel_rfl) (fun _ _ _ h => h) (Or.inl ⟨by rfl, ?_⟩) (by assumption) ?_
        · intro w hSw
          try dsimp only at hSw
          go_simp
        try simp only [Act.put, List.setIfInBounds_toArray, List.set_cons_zero, List.set_cons_succ]
        refine wpAnyH_take (i := 5) (oi := { dst := some 33, op := Op.fieldAddr 55 (Operand.tmp 8) 0, type := 0, pos := "idd.go:45", after := #[], guard := none }) (v := (.pointer (some ⟨p, 0, none⟩))) rfl (by kernel_rfl) (by kernel_rfl) (by kernel_rfl) (fun _ _ _ h => h) (Or.inl ⟨by rfl, ?_⟩) (by assumption) ?_
        · intro w hSw
          try dsimp only at hSw
          go_simp
        try simp only [Act.put, List.setIfInBounds_toArray, List.set_cons_zero, List.set_cons_succ]
        refine wpAnyH_take (i := 6) (oi := { dst := some 34, op := Op.load 9 (Operand.tmp 33), type := 9, pos := "idd.go:45", after := #[{ on := 5, ground := Ground.data }], guard := none }) (v := (.string nm)) rfl (by kernel_rfl) (by kernel_rfl) (by kernel_rfl) (fun _ _ _ h => h) (Or.inl ⟨by rfl, ?_⟩) (by assumption) ?_
        · intro w hSw
          try dsimp only at hSw
          go_simp
        try simp only [Act.put, List.setIfInBounds_toArray, List.set_cons_zero, List.set_cons_succ]
        refine wpAnyH_take (i := 8) (oi := { dst := some 36, op := Op.fieldAddr 55 (Operand.tmp 8) 1, type := 0, pos := "idd.go:45", after := #[], guard := none }) (v := (.pointer (some ⟨p, 1, none⟩))) rfl (by kernel_rfl) (by kernel_rfl) (by kernel_rfl) (fun _ _ _ h => h) (Or.inl ⟨by rfl, ?_⟩) (by assumption) ?_
        · intro w hSw
          try dsimp only at hSw
          go_simp
        try simp only [Act.put, List.setIfInBounds_toArray, List.set_cons_zero, List.set_cons_succ]
        refine wpAnyH_take (i := 9) (oi := { dst := some 37, op := Op.load 9 (Operand.tmp 36), type := 9, pos := "idd.go:45", after := #[{ on := 8, ground := Ground.data }], guard := none }) (v := (.string sl)) rfl (by kernel_rfl) (by kernel_rfl) (by kernel_rfl) (fun _ _ _ h => h) (Or.inl ⟨by rfl, ?_⟩) (by assumption) ?_
        · intro w hSw
          try dsimp only at hSw
          go_simp
        try simp only [Act.put, List.setIfInBounds_toArray, List.set_cons_zero, List.set_cons_succ]
        refine wpAnyH_take (i := 11) (oi := { dst := some 39, op := Op.fieldAddr 55 (Operand.tmp 8) 2, type := 0, pos := "idd.go:45", after := #[], guard := none }) (v := (.pointer (some ⟨p, 2, none⟩))) rfl (by kernel_rfl) (by kernel_rfl) (by kernel_rfl) (fun _ _ _ h => h) (Or.inl ⟨by rfl, ?_⟩) (by assumption) ?_
        · intro w hSw
          try dsimp only at hSw
          go_simp
        try simp only [Act.put, List.setIfInBounds_toArray, List.set_cons_zero, List.set_cons_succ]
        refine wpAnyH_take (i := 12) (oi := { dst := some 40, op := Op.load 9 (Operand.tmp 39), type := 9, pos := "idd.go:45", after := #[{ on := 11, ground := Ground.data }], guard := none }) (v := (.string dg)) rfl (by kernel_rfl) (by kernel_rfl) (by kernel_rfl) (fun _ _ _ h => h) (Or.inl ⟨by rfl, ?_⟩) (by assumption) ?_
        · intro w hSw
          try dsimp only at hSw
          go_simp
        try simp only [Act.put, List.setIfInBounds_toArray, List.set_cons_zero, List.set_cons_succ]
        refine wpAnyH_ready (rs := [7]) (by kernel_rfl) (by simp) ?_
        refine AllReadyH.cons (o := { dst := some 35, op := Op.call { callee := Callee.value (Operand.func 32), args := #[Operand.tmp 34], argTypes := #[9] }, type := 9, pos := "idd.go:45", after := #[{ on := 6, ground := Ground.data }], guard := none }) rfl (fun K hK => ?_) AllReadyH.nil
        go_simp
        refine (freshText_any nm _).mono ?_
        rintro e w5 ⟨rfl, hb5⟩
        have HBZ := hid (undrewN hb5)
        have HBn := hid (HBX.out.trans (Below.mono (undrewN hb5) HBX.out.size))
        clear HBX
        have HBX := HBn
        clear HBn
        have hS5 := hKB.out _ _ (undrewN hb5) hS0
        clear hb5
        refine hK.out _ _ ?_ (fun hHeld => ?_)
        · first | (with_reducible exact hS7) | (with_reducible exact hS6) | (with_reducible exact hS5) | (with_reducible exact hS8) | exact hS0
        clear hK K
        try simp only [Act.put, List.setIfInBounds_toArray, List.set_cons_zero, List.set_cons_succ]
        refine wpAnyH_ready (rs := [10]) (by kernel_rfl) (by simp) ?_
        refine AllReadyH.cons (o := { dst := some 38, op := Op.call { callee := Callee.value (Operand.func 32), args := #[Operand.tmp 37], argTypes := #[9] }, type := 9, pos := "idd.go:45", after := #[{ on := 9, ground := Ground.data }, { on := 7, ground := Ground.chain }], guard := none }) rfl (fun K hK => ?_) AllReadyH.nil
        go_simp
        refine (freshText_any sl _).mono ?_
        rintro e w6 ⟨rfl, hb6⟩
        have HBZn := hid (HBZ.out.trans (hb6.mono HBZ.out.size))
        clear HBZ
        have HBZ := HBZn
        clear HBZn
        have HBn := hid (HBX.out.trans (Below.mono hb6 HBX.out.size))
        clear HBX
        have HBX := HBn
        clear HBn
        have hS6 := hKB.out _ _ hb6 hS5
        clear hb6
        refine hK.out _ _ ?_ (fun hHeld => ?_)
        · first | (with_reducible exact hS7) | (with_reducible exact hS6) | (with_reducible exact hS5) | (with_reducible exact hS8) | exact hS0
        clear hK K
        try simp only [Act.put, List.setIfInBounds_toArray, List.set_cons_zero, List.set_cons_succ]
        refine wpAnyH_ready (rs := [13]) (by kernel_rfl) (by simp) ?_
        refine AllReadyH.cons (o := { dst := some 41, op := Op.call { callee := Callee.value (Operand.func 32), args := #[Operand.tmp 40], argTypes := #[9] }, type := 9, pos := "idd.go:45", after := #[{ on := 12, ground := Ground.data }, { on := 10, ground := Ground.chain }], guard := none }) rfl (fun K hK => ?_) AllReadyH.nil
        go_simp
        refine (freshText_any dg _).mono ?_
        rintro e w7 ⟨rfl, hb7⟩
        have HBZn := hid (HBZ.out.trans (hb7.mono HBZ.out.size))
        clear HBZ
        have HBZ := HBZn
        clear HBZn
        have HBn := hid (HBX.out.trans (Below.mono hb7 HBX.out.size))
        clear HBX
        have HBX := HBn
        clear HBn
        have hS7 := hKB.out _ _ hb7 hS6
        clear hb7
        refine hK.out _ _ ?_ (fun hHeld => ?_)
        · first | (with_reducible exact hS7) | (with_reducible exact hS6) | (with_reducible exact hS5) | (with_reducible exact hS8) | exact hS0
        clear hK K
        try simp only [Act.put, List.setIfInBounds_toArray, List.set_cons_zero, List.set_cons_succ]
        refine wpAnyH_take (i := 14) (oi := { dst := some 42, op := Op.build 86 #[(0, Operand.tmp 35), (1, Operand.tmp 38), (2, Operand.tmp 41)], type := 86, pos := "idd.go:45", after := #[{ on := 7, ground := Ground.data }, { on := 10, ground := Ground.data }, { on := 13, ground := Ground.data }], guard := none }) (v := (.agg #[.string nm, .string sl, .string dg, .int .i64 0, .slice none 0 0])) rfl (by kernel_rfl) (by kernel_rfl) (by kernel_rfl) (fun _ _ _ h => h) (Or.inl ⟨by rfl, ?_⟩) (by assumption) ?_
        · intro w hSw
          try dsimp only at hSw
          go_simp
        try simp only [Act.put, List.setIfInBounds_toArray, List.set_cons_zero, List.set_cons_succ]
        refine wpAnyH_take (i := 15) (oi := { dst := some 43, op := Op.indexAddr 70 (Operand.tmp 31) (Operand.tmp 32), type := 0, pos := "idd.go:45", after := #[{ on := 3, ground := Ground.data }, { on := 4, ground := Ground.data }, { on := 0, ground := Ground.phase }, { on := 1, ground := Ground.phase }, { on := 2, ground := Ground.phase }, { on := 3, ground := Ground.phase }, { on := 4, ground := Ground.phase }, { on := 5, ground := Ground.phase }, { on := 6, ground := Ground.phase }, { on := 7, ground := Ground.phase }, { on := 8, ground := Ground.phase }, { on := 9, ground := Ground.phase }, { on := 10, ground := Ground.phase }, { on := 11, ground := Ground.phase }, { on := 12, ground := Ground.phase }, { on := 13, ground := Ground.phase }, { on := 14, ground := Ground.phase }], guard := none }) (v := (.pointer (some ⟨a, k * 5, none⟩))) rfl (by kernel_rfl) (by kernel_rfl) (by kernel_rfl) (fun _ _ _ h => h) (Or.inl ⟨by rfl, ?_⟩) (by assumption) ?_
        · intro w hSw
          try dsimp only at hSw
          go_simp
        try simp only [Act.put, List.setIfInBounds_toArray, List.set_cons_zero, List.set_cons_succ]
        have hid7 := HI.out.below (HBX.out)
        have hb57 := HBZ.out
        obtain ⟨g0, g1, g2, g3, g4⟩ := hid7.acc hus
        have gf := fun j => (hid7.warm j).2
        have hfin := set_acc hid7 hk2 ⟨⟨nm, sl, dg, 0, []⟩, .slice none 0 0⟩ rfl (World.ownsRow_nil _ _ _ _) List.Pairwise.nil
        have hS8 := hK5.out _ hS7
        unfold set5 at hfin hS8
        simp only at hfin hS8
        have HFIN := hid hfin
        have hBX7 := HXB.out.below hb57
        clear hid7 hfin
        refine wpAnyH_ready (rs := [16]) (by kernel_rfl) (by simp) ?_
        refine AllReadyH.cons (o := { dst := none, op := Op.store 86 (Operand.tmp 43) (Operand.tmp 42), type := 0, pos := "idd.go:45", after := #[{ on := 15, ground := Ground.data }, { on := 14, ground := Ground.data }, { on := 13, ground := Ground.chain }, { on := 0, ground := Ground.phase }, { on := 1, ground := Ground.phase }, { on := 2, ground := Ground.phase }, { on := 3, ground := Ground.phase }, { on := 4, ground := Ground.phase }, { on := 5, ground := Ground.phase }, { on := 6, ground := Ground.phase }, { on := 7, ground := Ground.phase }, { on := 8, ground := Ground.phase }, { on := 9, ground := Ground.phase }, { on := 10, ground := Ground.phase }, { on := 11, ground := Ground.phase }, { on := 12, ground := Ground.phase }, { on := 13, ground := Ground.phase }, { on := 14, ground := Ground.phase }], guard := none }) rfl (fun K hK => ?_) AllReadyH.nil
        go_simp
        refine hK.out _ _ ?_ (fun hHeld => ?_)
        · first | (with_reducible exact hS7) | (with_reducible exact hS6) | (with_reducible exact hS5) | (with_reducible exact hS8) | exact hS0
        clear hK K
        try simp only [Act.put, List.setIfInBounds_toArray, List.set_cons_zero, List.set_cons_succ]
        refine wpAnyH_done (by kernel_rfl) ?_ _
        refine NoPanic.normal ?_
        obtain ⟨Y, hY⟩ : ∃ Y, Y = (((((w7.setCell ⟨a, k * 5, none⟩ (.string nm)).setCell ⟨a, k * 5 + 1, none⟩ (.string sl)).setCell ⟨a, k * 5 + 2, none⟩ (.string dg)).setCell ⟨a, k * 5 + 3, none⟩ (.int .i64 0)).setCell ⟨a, k * 5 + 4, none⟩ (.slice none 0 0)) := ⟨_, rfl⟩
        rw [← hY] at HFIN ⊢
        have hIY := HFIN.out.1
        have hGY := HFIN.out.2
        have HBY := hid ((HBW.out.trans (HBX.out.mono HBW.out.size)).trans (hGY.below (fun b hb => by rw [hb]; exact HG.out a (Or.inr (Or.inl rfl))) (Nat.le_trans HBW.out.size HBX.out.size)))
        have hsz7 := HBX.out.size
        have hp7 : p < w7.heap.size := hS7.2.1
        have hXY : UBox Y p ⟨nm, sl, dg, op⟩ := (hGY.block p hp7 (fun e => hpa e)).trans hBX7
        have hpm : ¬ mineD d a m vg p := by
          have e1 := HI.out.ltm
          have e2 := HPL.out
          rintro (e | e | e | e)
          · omega
          · exact hpa e
          · omega
          · have := ownsRow_lt HI.out.gra e; omega
        have hpY : p < Y.heap.size := (Array.getElem?_eq_some_iff.1 hXY).1
        have hq1 : (us.set k (⟨nm, sl, dg, 0, []⟩, .slice none 0 0))[k]? = some (⟨nm, sl, dg, 0, []⟩, .slice none 0 0) := by simp [hk2]
        have hgl := grTo_len l k
        have hgr := grant_any Y d a m _ vd dr 0 [] vg (grTo l k) hIY k _ hq1 (-1) (-1) (2 * (k : Int) + 2) (by simp) (by omega)
        have hint := integrity_any (k : Int) Y (by omega) (by omega)
        have HGR := hid hgr
        have HIN := hid hint
        have HXY := hid hXY
        clear hY hS0 hS5 hS6 hS7 hS8 hHeld hKB hK5 hIY hGY hgr hint hXY x0 x1 x2 x3 d0 d1 d2 d3 g0 g1 g2 g3 g4 gf HFIN hBX7 hq1 hus
        go_wp2_with fail
        refine HIN.out.mono ?_
        rintro e w8 ⟨rfl, hw8⟩
        subst w8
        go_wp2_with fail
        refine HGR.out.mono ?_
        rintro e w8 ⟨rfl, v1, vg1, hI8, hG8, hV8⟩
        have HB8 := hid (HBY.out.trans (hG8.below HG.out HBY.out.size))
        have hX8 : UBox w8 p ⟨nm, sl, dg, op⟩ := (hG8.block p hpY hpm).trans HXY.out
        have HG8 : Hid (∀ j, mineD d a m vg1 j → w0.heap.size ≤ j) := by
          rintro j (e | e | e | e)
          · exact HG.out j (Or.inl e)
          · exact HG.out j (Or.inr (Or.inl e))
          · exact HG.out j (Or.inr (Or.inr (Or.inl e)))
          · rcases hV8 j e with e | e
            · exact HG.out j (Or.inr (Or.inr (Or.inr e)))
            · have := HBY.out.size; omega
        rw [List.set_set] at hI8
        have HI8 := hid hI8
        obtain ⟨x0, x1, x2, x3⟩ := hX8.cells
        simp only at x3
        clear hI8 hG8 hV8 hX8 x0 x1 x2 HGR HIN
        cases op with
        | false =>
          have hacc : accOf l k = ⟨nm, sl, dg, 0, sd ([] ++ [2 * (k : Int) + 2])⟩ := by unfold accOf; rw [HU1.out]; simp
          have HGE := hid (show grTo l (k + 1) = grTo l k ++ [⟨-1, -1, (k : Int), 2 * (k : Int) + 2⟩] by rw [grTo, HU1.out]; simp)
          have HU2 := hid (hiU.out.step hlt (ownP (⟨nm, sl, dg, 0, []⟩, .slice none 0 0) (sd ([] ++ [2 * (k : Int) + 2])) v1) hacc.symm)
          clear hacc
          go_wp2
          go_roundw
          case rel => exact ⟨k + 1, _, vg1, by omega, by go_num, by rw [HGE.out]; exact HI8.out, HU2, HB8, HG8⟩
          case measure => simp [intOf]; omega
        | true =>
          have hacc : accOf l k = ⟨nm, sl, dg, 0, sd (sd ([] ++ [2 * (k : Int) + 2]) ++ [2 * (k : Int) + 1])⟩ := by unfold accOf; rw [HU1.out]; simp
          have HGE := hid (show grTo l (k + 1) = (grTo l k ++ [⟨-1, -1, (k : Int), 2 * (k : Int) + 2⟩]) ++ [⟨-1, -1, (k : Int), 2 * (k : Int) + 1⟩] by rw [grTo, HU1.out]; simp)
          have hq2 : (us.set k (ownP (⟨nm, sl, dg, 0, []⟩, .slice none 0 0) (sd ([] ++ [2 * (k : Int) + 2])) v1))[k]? = some (ownP (⟨nm, sl, dg, 0, []⟩, .slice none 0 0) (sd ([] ++ [2 * (k : Int) + 2])) v1) := by simp [hk2]
          have hol : (sd ([] ++ [2 * (k : Int) + 2])).length ≤ 1 := length_sd_le _
          have hgr := grant_any w8 d a m _ vd dr 0 [] vg1 _ HI8.out k _ hq2 (-1) (-1) (2 * (k : Int) + 1) (by show (sd ([] ++ [2 * (k : Int) + 2])).length ≤ _; omega) (by rw [List.length_append]; simp; omega)
          have HGR := hid hgr
          have HSC := hid (secrecy_any (k : Int) w8 (by omega) (by omega))
          clear hgr hq2 hol
          go_wp2_with fail
          refine HSC.out.mono ?_
          rintro e w9 ⟨rfl, hw9⟩
          subst w9
          go_wp2_with fail
          refine HGR.out.mono ?_
          rintro e w9 ⟨rfl, v2, vg2, hI9, hG9, hV9⟩
          have HB9 := hid (HB8.out.trans (hG9.below HG8.out HB8.out.size))
          have HG9 : Hid (∀ j, mineD d a m vg2 j → w0.heap.size ≤ j) := by
            rintro j (e | e | e | e)
            · exact HG8.out j (Or.inl e)
            · exact HG8.out j (Or.inr (Or.inl e))
            · exact HG8.out j (Or.inr (Or.inr (Or.inl e)))
            · rcases hV9 j e with e | e
              · exact HG8.out j (Or.inr (Or.inr (Or.inr e)))
              · have := HB8.out.size; omega
          rw [List.set_set] at hI9
          have HI9 := hid hI9
          have HU2 := hid (hiU.out.step hlt (ownP (ownP (⟨nm, sl, dg, 0, []⟩, .slice none 0 0) (sd ([] ++ [2 * (k : Int) + 2])) v1) (sd ((ownP (⟨nm, sl, dg, 0, []⟩, .slice none 0 0) (sd ([] ++ [2 * (k : Int) + 2])) v1).1.own ++ [2 * (k : Int) + 1])) v2) hacc.symm)
          clear hI9 hG9 hV9 HGR HSC hacc
          go_wp2
          go_roundw
          case rel => exact ⟨k + 1, _, vg2, by omega, by go_num, by rw [HGE.out]; exact HI9.out, HU2, HB9, HG9⟩
          case measure => simp [intOf]; omega
      · have hk' : k = l.length := by omega
        subst hk'
        go_wp2
        go_ret2
        exact ⟨d, a, m, us, vd, vg, rfl, HI.out, HU.out, HBW.out, HG.out⟩
end Go.Proofs.YtplljpodejpbgaaGreatDoor
