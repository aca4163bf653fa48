/-
  The walk of LabelMixes. (Laid by wip/tools/gen_mixes3.py.)
-/
import Derived.Test.YtjgohajlabdloaaMixE
import Derived.Test.YtjgohajlabdloaaTwo
import Derived.Deep.DeepCutAuto
import Derived.Deep.CutBlock
import Derived.Deep.LoopGhost
namespace Go.Proofs.Ytjgohajlabdloaa
open Go.RowKit
set_option linter.unusedVariables false
set_option linter.unusedSimpArgs false

theorem owns_slice {w : World} {base : Nat} {v : Value} {xs : List Int} (h : Owns w base v xs) : ∃ ao n c, v = .slice ao n c := by
  obtain ⟨b, off, ao, cap, hv, _⟩ := h.sees
  exact ⟨ao, _, cap, hv⟩

/-- A label of the call's own lies at p. -/
structure LabO (w : World) (base p : Nat) (va vb : Value) (xs ys : List Int) : Prop where
  lab : LabAt w p va vb
  oa : Owns w base va xs
  ob : Owns w base vb ys
theorem LabO.below {w w' : World} {base p : Nat} {va vb : Value} {xs ys : List Int} (h : LabO w base p va vb xs ys) (hb : Below w.heap.size w w') : LabO w' base p va vb xs ys :=
  ⟨h.lab.below hb h.lab.lt, h.oa.below hb, h.ob.below hb⟩
theorem LabO.seesL {w : World} {base p : Nat} {va vb : Value} {xs ys : List Int} (h : LabO w base p va vb xs ys) (h1 : xs.length ≤ 64) (h2 : ys.length ≤ 64) : SeesL w (.agg #[va, vb]) xs ys :=
  ⟨va, vb, rfl, h.oa.sees, h.ob.sees, by omega, by omega⟩
theorem LabO.put {w : World} {base p g m : Nat} {va vb : Value} {xs ys : List Int} (h : LabO w base p va vb xs ys) (hg : g < base) (hp : p ≠ g) (x : Value) : LabO (w.setCell ⟨g, m, none⟩ x) base p va vb xs ys := by
  have ne : ∀ {v : Value} {zs : List Int}, Owns w base v zs → v.ownBlock ≠ some g := by
    intro v zs hO e
    rcases hO.2 with ⟨hlv, _⟩ | ⟨g', cap, cur, hlv, hb, _, _⟩
    · rw [hlv] at e
      simp [Value.ownBlock] at e
    · rw [hlv] at e
      simp [Value.ownBlock] at e
      omega
  exact ⟨h.lab.far hp, owns_far h.oa (ne h.oa), owns_far h.ob (ne h.ob)⟩
theorem mixL_p (ok : Bool) (p q : List Int) : (mixL ok p q p).length ≤ 64 := by
  unfold mixL
  split
  · split
    · omega
    · simp
  · simp
theorem mixL_q (ok : Bool) (p q : List Int) : (mixL ok p q q).length ≤ 64 := by
  unfold mixL
  split
  · split
    · omega
    · simp
  · simp
/-- A label is laid into a block of its own. -/
theorem labO_new {w : World} {base : Nat} {va vb : Value} {xs ys : List Int} (ha : Owns w base va xs) (hb : Owns w base vb ys) : LabO (w.alloc (.cells #[va, vb] 24)) base w.heap.size va vb xs ys :=
  ⟨LabAt.new w va vb, ha.below (below_alloc w _), hb.below (below_alloc w _)⟩

set_option maxRecDepth 20000 in
set_option maxHeartbeats 8000000 in
theorem mixes_walk (a b : Value) (s i t j : List Int) (w : World) (h1 : SeesL w a s i) (h2 : SeesL w b t j)
    (n1 : s.length * 8 ≤ 140737488355328) (n2 : i.length * 8 ≤ 140737488355328) (n3 : t.length * 8 ≤ 140737488355328) (n4 : j.length * 8 ≤ 140737488355328) :
    Calls Try.prog 4 #[a, b] w fun e w' => e = .returned (.bool true) ∧ Below w.heap.size w w' := by
  have hA1 := h1
  obtain ⟨u1, x1, rfl, _⟩ := h1
  have hA2 := h2
  obtain ⟨u2, x2, rfl, _⟩ := h2
  obtain ⟨W, hW⟩ : ∃ W, W = (w.alloc (.cells #[u1, x1] 24)).alloc (.cells #[u2, x2] 24) := ⟨_, rfl⟩
  have d1 : SeesL W (.agg #[u1, x1]) s i := by rw [hW]; exact ((hA1.box _).box _)
  have d2 : SeesL W (.agg #[u2, x2]) t j := by rw [hW]; exact ((hA2.box _).box _)
  have hZ : Below w.heap.size w W := by rw [hW]; exact ((below_alloc w _).alloc (by simp) _)
  have HA1 := hid (show Boxed W (w.heap.size) u1 x1 by rw [hW]; exact ((Boxed.new _ _ _).box _))
  have HA2 := hid (show Boxed W (w.heap.size + 1) u2 x2 by rw [hW]; exact (Boxed.new2 _ _ _ _))
  have HZ := hid hZ
  have hsz := hZ.size
  have HW := hid hW
  have HB := hid (Below.refl W.heap.size W)
  have hszW : W.heap.size = w.heap.size + 2 := by rw [hW]; simp
  have Z1 := hid (fun w1 (h : Below W.heap.size W w1) => lent_any _ s i w1 (d1.below h) n1 n2)
  have Z2 := hid (fun w1 (h : Below W.heap.size W w1) => lent_any _ t j w1 (d2.below h) n3 n4)
  have HD1 := hid d1
  have HD2 := hid d2
  clear d1 d2 hA1 hA2 hW hZ
  obtain ⟨c1, c2⟩ := HA1.out
  obtain ⟨c3, c4⟩ := HA2.out
  go_enter Try.func4, Try.ntmps4
  go_wp2_with fail
  rw [← HW.out]
  clear HW
  go_cut [5, 6] from 18 to 21 (fun q7 q8 wx => ∃ p q v1 y1 v2 y2, q7 = .pointer (some ⟨p, 0, none⟩) ∧ q8 = .pointer (some ⟨q, 0, none⟩) ∧ TwoLabs W wx p q v1 y1 v2 y2 s i t j)
  case first =>
    refine wp_region_noPanic ?_
    refine wp_region_held_drew (S := (fun w' => w'.cell? ⟨w.heap.size, 0, none⟩ = some u1 ∧ w'.cell? ⟨w.heap.size, 1, none⟩ = some x1 ∧ w'.cell? ⟨w.heap.size + 1, 0, none⟩ = some u2 ∧ w'.cell? ⟨w.heap.size + 1, 1, none⟩ = some x2)) (by kernel_rfl) ?_ (fun hHeld => ?_)
    · first | (refine ⟨?_, ?_, ?_, ?_⟩ <;> first | assumption | (simp [*, World.cell?_alloc_some, World.cell?_setCell_far]; done))
    have HBn := hid (Below.drew HB.out)
    clear HB
    have HB := HBn
    clear HBn
    obtain ⟨w0, hw⟩ : ∃ x, x = W.drew := ⟨_, rfl⟩
    rw [← hw] at HB hHeld ⊢
    clear hw c1 c2 c3 c4
    obtain ⟨c1, c2⟩ := HA1.out.below HB.out
    obtain ⟨c3, c4⟩ := HA2.out.below HB.out
    refine wpAnyH_take (i := 0) (oi := { dst := some 18, op := Op.load 24 (Operand.tmp 2), type := 24, pos := "law.go:43", after := #[], guard := none }) (v := (.agg #[u1, x1])) rfl (by kernel_rfl) (by kernel_rfl) (by kernel_rfl) (fun _ _ _ h => h) (Or.inl ⟨by rfl, ?_⟩) (by assumption) ?_
    · intro w hSw
      try dsimp only at hSw
      go_simp
    try simp only [Act.put, List.setIfInBounds_toArray, List.set_cons_zero, List.set_cons_succ]
    refine wpAnyH_take (i := 2) (oi := { dst := some 20, op := Op.load 24 (Operand.tmp 3), type := 24, pos := "law.go:43", after := #[], guard := none }) (v := (.agg #[u2, x2])) rfl (by kernel_rfl) (by kernel_rfl) (by kernel_rfl) (fun _ _ _ h => h) (Or.inl ⟨by rfl, ?_⟩) (by assumption) ?_
    · intro w hSw
      try dsimp only at hSw
      go_simp
    try simp only [Act.put, List.setIfInBounds_toArray, List.set_cons_zero, List.set_cons_succ]
    refine wpAnyH_ready (rs := [1, 4, 5]) (by kernel_rfl) (by simp) ?_
    refine AllReadyH.cons (o := { dst := some 19, op := Op.call { callee := Callee.value (Operand.func 8), args := #[Operand.tmp 18], argTypes := #[24] }, type := 24, pos := "law.go:43", after := #[{ on := 0, ground := Ground.data }], guard := none }) rfl (fun K hK => ?_) (AllReadyH.cons (o := { dst := some 5, op := Op.alloc 24, type := 0, pos := "law.go:43", after := #[], guard := none }) rfl (fun K hK => ?_) (AllReadyH.cons (o := { dst := some 6, op := Op.alloc 24, type := 0, pos := "law.go:43", after := #[], guard := none }) rfl (fun K hK => ?_) AllReadyH.nil))
    · go_simp
      refine (Z1.out _ HB.out).mono ?_
      rintro e w1 ⟨v1, y1, rfl, hO, hP, h'⟩
      have HOn1 := hid (And.intro (owns_le hO HB.out.size) (owns_le hP HB.out.size))
      clear hO hP
      have HBn := hid (HB.out.trans (h'.mono HB.out.size))
      clear HB
      have HB := HBn
      clear HBn c1 c2 c3 c4
      obtain ⟨c1, c2⟩ := HA1.out.below HB.out
      obtain ⟨c3, c4⟩ := HA2.out.below HB.out
      have HO1 := HOn1
      clear HOn1 h'
      try go_wp2_with fail
      refine hK.out _ _ ?_ (fun hHeld => ?_)
      · first | (refine ⟨?_, ?_, ?_, ?_⟩ <;> first | assumption | (simp [*, World.cell?_alloc_some, World.cell?_setCell_far]; done))
      clear hK K
      try simp only [Act.put, List.setIfInBounds_toArray, List.set_cons_zero, List.set_cons_succ]
      refine wpAnyH_ready (rs := [3, 4, 5]) (by kernel_rfl) (by simp) ?_
      refine AllReadyH.cons (o := { dst := some 21, op := Op.call { callee := Callee.value (Operand.func 8), args := #[Operand.tmp 20], argTypes := #[24] }, type := 24, pos := "law.go:43", after := #[{ on := 2, ground := Ground.data }, { on := 1, ground := Ground.chain }], guard := none }) rfl (fun K hK => ?_) (AllReadyH.cons (o := { dst := some 5, op := Op.alloc 24, type := 0, pos := "law.go:43", after := #[], guard := none }) rfl (fun K hK => ?_) (AllReadyH.cons (o := { dst := some 6, op := Op.alloc 24, type := 0, pos := "law.go:43", after := #[], guard := none }) rfl (fun K hK => ?_) AllReadyH.nil))
      · go_simp
        refine (Z2.out _ HB.out).mono ?_
        rintro e w2 ⟨v2, y2, rfl, hO, hP, h'⟩
        have HOn2 := hid (And.intro (owns_le hO HB.out.size) (owns_le hP HB.out.size))
        clear hO hP
        have HBn := hid (HB.out.trans (h'.mono HB.out.size))
        clear HB
        have HB := HBn
        clear HBn c1 c2 c3 c4
        obtain ⟨c1, c2⟩ := HA1.out.below HB.out
        obtain ⟨c3, c4⟩ := HA2.out.below HB.out
        have HO1n := hid (And.intro (HO1.out.1.below h') (HO1.out.2.below h'))
        clear HO1
        have HO1 := HO1n
        clear HO1n
        have HO2 := HOn2
        clear HOn2 h'
        try go_wp2_with fail
        refine hK.out _ _ ?_ (fun hHeld => ?_)
        · first | (refine ⟨?_, ?_, ?_, ?_⟩ <;> first | assumption | (simp [*, World.cell?_alloc_some, World.cell?_setCell_far]; done))
        clear hK K
        try simp only [Act.put, List.setIfInBounds_toArray, List.set_cons_zero, List.set_cons_succ]
        refine wpAnyH_ready (rs := [4, 5]) (by kernel_rfl) (by simp) ?_
        refine AllReadyH.cons (o := { dst := some 5, op := Op.alloc 24, type := 0, pos := "law.go:43", after := #[], guard := none }) rfl (fun K hK => ?_) (AllReadyH.cons (o := { dst := some 6, op := Op.alloc 24, type := 0, pos := "law.go:43", after := #[], guard := none }) rfl (fun K hK => ?_) AllReadyH.nil)
        · go_simp
          refine hK.out _ _ ?_ (fun hHeld => ?_)
          · first | (refine ⟨?_, ?_, ?_, ?_⟩ <;> first | assumption | (simp [*, World.cell?_alloc_some, World.cell?_setCell_far]; done))
          clear hK K
          have h' : Below w2.heap.size w2 (w2.alloc (.cells #[.slice none 0 0, .slice none 0 0] 24)) := below_alloc _ _
          have HLn := LabAt.new w2 (.slice none 0 0) (.slice none 0 0)
          obtain ⟨w3, hw⟩ : ∃ x, x = w2.alloc (.cells #[.slice none 0 0, .slice none 0 0] 24) := ⟨_, rfl⟩
          rw [← hw] at h' HLn hHeld ⊢
          clear hw
          obtain ⟨p4, hp⟩ : ∃ x, x = w2.heap.size := ⟨_, rfl⟩
          rw [← hp] at HLn ⊢
          have HG4 := hid (show W.heap.size ≤ p4 from by rw [hp]; exact HB.out.size)
          clear hp
          have HBn := hid (HB.out.trans (h'.mono HB.out.size))
          clear HB
          have HB := HBn
          clear HBn c1 c2 c3 c4
          obtain ⟨c1, c2⟩ := HA1.out.below HB.out
          obtain ⟨c3, c4⟩ := HA2.out.below HB.out
          have HO1n := hid (And.intro (HO1.out.1.below h') (HO1.out.2.below h'))
          clear HO1
          have HO1 := HO1n
          clear HO1n
          have HO2n := hid (And.intro (HO2.out.1.below h') (HO2.out.2.below h'))
          clear HO2
          have HO2 := HO2n
          clear HO2n
          have HL4 := hid HLn
          clear HLn h'
          try simp only [Act.put, List.setIfInBounds_toArray, List.set_cons_zero, List.set_cons_succ]
          refine wpAnyH_ready (rs := [5]) (by kernel_rfl) (by simp) ?_
          refine AllReadyH.cons (o := { dst := some 6, op := Op.alloc 24, type := 0, pos := "law.go:43", after := #[], guard := none }) rfl (fun K hK => ?_) AllReadyH.nil
          · go_simp
            refine hK.out _ _ ?_ (fun hHeld => ?_)
            · first | (refine ⟨?_, ?_, ?_, ?_⟩ <;> first | assumption | (simp [*, World.cell?_alloc_some, World.cell?_setCell_far]; done))
            clear hK K
            have h' : Below w3.heap.size w3 (w3.alloc (.cells #[.slice none 0 0, .slice none 0 0] 24)) := below_alloc _ _
            have HLn := LabAt.new w3 (.slice none 0 0) (.slice none 0 0)
            obtain ⟨w4, hw⟩ : ∃ x, x = w3.alloc (.cells #[.slice none 0 0, .slice none 0 0] 24) := ⟨_, rfl⟩
            rw [← hw] at h' HLn hHeld ⊢
            clear hw
            obtain ⟨p5, hp⟩ : ∃ x, x = w3.heap.size := ⟨_, rfl⟩
            rw [← hp] at HLn ⊢
            have HG5 := hid (show W.heap.size ≤ p5 from by rw [hp]; exact HB.out.size)
            have HNE := hid (show p4 ≠ p5 from by have := HL4.out.lt; omega)
            clear hp
            have HBn := hid (HB.out.trans (h'.mono HB.out.size))
            clear HB
            have HB := HBn
            clear HBn c1 c2 c3 c4
            obtain ⟨c1, c2⟩ := HA1.out.below HB.out
            obtain ⟨c3, c4⟩ := HA2.out.below HB.out
            have HO1n := hid (And.intro (HO1.out.1.below h') (HO1.out.2.below h'))
            clear HO1
            have HO1 := HO1n
            clear HO1n
            have HO2n := hid (And.intro (HO2.out.1.below h') (HO2.out.2.below h'))
            clear HO2
            have HO2 := HO2n
            clear HO2n
            have HL4n := hid (HL4.out.below h' HL4.out.lt)
            clear HL4
            have HL4 := HL4n
            clear HL4n
            have HL5 := hid HLn
            clear HLn h'
            try simp only [Act.put, List.setIfInBounds_toArray, List.set_cons_zero, List.set_cons_succ]
            obtain ⟨e1, e2, e3, e4⟩ := HL4.out.cells
            obtain ⟨e5, e6, e7, e8⟩ := ((HL5.out.far (o := 0) (x := v1) (Ne.symm HNE.out)).far (o := 1) (x := y1) (Ne.symm HNE.out)).cells
            have g1 : p4 ≠ w.heap.size := by have := HG4.out; omega
            have g2 : p4 ≠ w.heap.size + 1 := by have := HG4.out; omega
            have g3 : p5 ≠ w.heap.size := by have := HG5.out; omega
            have g4 : p5 ≠ w.heap.size + 1 := by have := HG5.out; omega
            have HT := hid (two_labs HB.out HL4.out HL5.out HNE.out HG4.out HG5.out HO1.out.1 HO1.out.2 HO2.out.1 HO2.out.2)
            obtain ⟨am1, nm1, cm1, hm1⟩ := owns_slice HO1.out.1
            obtain ⟨am2, nm2, cm2, hm2⟩ := owns_slice HO1.out.2
            obtain ⟨am3, nm3, cm3, hm3⟩ := owns_slice HO2.out.1
            obtain ⟨am4, nm4, cm4, hm4⟩ := owns_slice HO2.out.2
            subst hm1
            subst hm2
            subst hm3
            subst hm4
            clear HL4 HL5 HO1 HO2 HG4 HG5 HNE HB
            refine wpAnyH_ready (rs := [6]) (by kernel_rfl) (by simp) ?_
            refine AllReadyH.cons (o := { dst := none, op := Op.store 24 (Operand.tmp 5) (Operand.tmp 19), type := 0, pos := "law.go:43", after := #[{ on := 4, ground := Ground.data }, { on := 1, ground := Ground.data }, { on := 3, ground := Ground.chain }, { on := 0, ground := Ground.phase }, { on := 1, ground := Ground.phase }, { on := 2, ground := Ground.textOnly Departure.lateStores }, { on := 3, ground := Ground.textOnly Departure.lateStoresUnsure }, { on := 4, ground := Ground.phase }, { on := 5, ground := Ground.phase }], guard := none }) rfl (fun K hK => ?_) AllReadyH.nil
            go_simp
            refine hK.out _ _ ?_ (fun hHeld => ?_)
            · exact ⟨far2 c1 g1, far2 c2 g1, far2 c3 g2, far2 c4 g2⟩
            clear hK K
            try simp only [Act.put, List.setIfInBounds_toArray, List.set_cons_zero, List.set_cons_succ]
            refine wpAnyH_ready (rs := [7]) (by kernel_rfl) (by simp) ?_
            refine AllReadyH.cons (o := { dst := none, op := Op.store 24 (Operand.tmp 6) (Operand.tmp 21), type := 0, pos := "law.go:43", after := #[{ on := 5, ground := Ground.data }, { on := 3, ground := Ground.data }, { on := 6, ground := Ground.chain }, { on := 0, ground := Ground.phase }, { on := 1, ground := Ground.phase }, { on := 2, ground := Ground.phase }, { on := 3, ground := Ground.phase }, { on := 4, ground := Ground.phase }, { on := 5, ground := Ground.phase }, { on := 6, ground := Ground.phase }], guard := none }) rfl (fun K hK => ?_) AllReadyH.nil
            go_simp
            refine hK.out _ _ ?_ (fun hHeld => ?_)
            · exact ⟨far2 (far2 c1 g1) g3, far2 (far2 c2 g1) g3, far2 (far2 c3 g2) g4, far2 (far2 c4 g2) g4⟩
            clear hK K
            try simp only [Act.put, List.setIfInBounds_toArray, List.set_cons_zero, List.set_cons_succ]
            refine wpAnyH_done (by kernel_rfl) ?_ _
            refine NoPanic.normal ?_
            go_wp2_with fail
            go_meet
            exact ⟨_, _, _, _, _, _, rfl, rfl, HT.out⟩
        · go_simp
          refine hK.out _ _ ?_ (fun hHeld => ?_)
          · first | (refine ⟨?_, ?_, ?_, ?_⟩ <;> first | assumption | (simp [*, World.cell?_alloc_some, World.cell?_setCell_far]; done))
          clear hK K
          have h' : Below w2.heap.size w2 (w2.alloc (.cells #[.slice none 0 0, .slice none 0 0] 24)) := below_alloc _ _
          have HLn := LabAt.new w2 (.slice none 0 0) (.slice none 0 0)
          obtain ⟨w3, hw⟩ : ∃ x, x = w2.alloc (.cells #[.slice none 0 0, .slice none 0 0] 24) := ⟨_, rfl⟩
          rw [← hw] at h' HLn hHeld ⊢
          clear hw
          obtain ⟨p5, hp⟩ : ∃ x, x = w2.heap.size := ⟨_, rfl⟩
          rw [← hp] at HLn ⊢
          have HG5 := hid (show W.heap.size ≤ p5 from by rw [hp]; exact HB.out.size)
          clear hp
          have HBn := hid (HB.out.trans (h'.mono HB.out.size))
          clear HB
          have HB := HBn
          clear HBn c1 c2 c3 c4
          obtain ⟨c1, c2⟩ := HA1.out.below HB.out
          obtain ⟨c3, c4⟩ := HA2.out.below HB.out
          have HO1n := hid (And.intro (HO1.out.1.below h') (HO1.out.2.below h'))
          clear HO1
          have HO1 := HO1n
          clear HO1n
          have HO2n := hid (And.intro (HO2.out.1.below h') (HO2.out.2.below h'))
          clear HO2
          have HO2 := HO2n
          clear HO2n
          have HL5 := hid HLn
          clear HLn h'
          try simp only [Act.put, List.setIfInBounds_toArray, List.set_cons_zero, List.set_cons_succ]
          refine wpAnyH_ready (rs := [4]) (by kernel_rfl) (by simp) ?_
          refine AllReadyH.cons (o := { dst := some 5, op := Op.alloc 24, type := 0, pos := "law.go:43", after := #[], guard := none }) rfl (fun K hK => ?_) AllReadyH.nil
          · go_simp
            refine hK.out _ _ ?_ (fun hHeld => ?_)
            · first | (refine ⟨?_, ?_, ?_, ?_⟩ <;> first | assumption | (simp [*, World.cell?_alloc_some, World.cell?_setCell_far]; done))
            clear hK K
            have h' : Below w3.heap.size w3 (w3.alloc (.cells #[.slice none 0 0, .slice none 0 0] 24)) := below_alloc _ _
            have HLn := LabAt.new w3 (.slice none 0 0) (.slice none 0 0)
            obtain ⟨w4, hw⟩ : ∃ x, x = w3.alloc (.cells #[.slice none 0 0, .slice none 0 0] 24) := ⟨_, rfl⟩
            rw [← hw] at h' HLn hHeld ⊢
            clear hw
            obtain ⟨p4, hp⟩ : ∃ x, x = w3.heap.size := ⟨_, rfl⟩
            rw [← hp] at HLn ⊢
            have HG4 := hid (show W.heap.size ≤ p4 from by rw [hp]; exact HB.out.size)
            have HNE := hid (show p4 ≠ p5 from by have := HL5.out.lt; omega)
            clear hp
            have HBn := hid (HB.out.trans (h'.mono HB.out.size))
            clear HB
            have HB := HBn
            clear HBn c1 c2 c3 c4
            obtain ⟨c1, c2⟩ := HA1.out.below HB.out
            obtain ⟨c3, c4⟩ := HA2.out.below HB.out
            have HO1n := hid (And.intro (HO1.out.1.below h') (HO1.out.2.below h'))
            clear HO1
            have HO1 := HO1n
            clear HO1n
            have HO2n := hid (And.intro (HO2.out.1.below h') (HO2.out.2.below h'))
            clear HO2
            have HO2 := HO2n
            clear HO2n
            have HL5n := hid (HL5.out.below h' HL5.out.lt)
            clear HL5
            have HL5 := HL5n
            clear HL5n
            have HL4 := hid HLn
            clear HLn h'
            try simp only [Act.put, List.setIfInBounds_toArray, List.set_cons_zero, List.set_cons_succ]
            obtain ⟨e1, e2, e3, e4⟩ := HL4.out.cells
            obtain ⟨e5, e6, e7, e8⟩ := ((HL5.out.far (o := 0) (x := v1) (Ne.symm HNE.out)).far (o := 1) (x := y1) (Ne.symm HNE.out)).cells
            have g1 : p4 ≠ w.heap.size := by have := HG4.out; omega
            have g2 : p4 ≠ w.heap.size + 1 := by have := HG4.out; omega
            have g3 : p5 ≠ w.heap.size := by have := HG5.out; omega
            have g4 : p5 ≠ w.heap.size + 1 := by have := HG5.out; omega
            have HT := hid (two_labs HB.out HL4.out HL5.out HNE.out HG4.out HG5.out HO1.out.1 HO1.out.2 HO2.out.1 HO2.out.2)
            obtain ⟨am1, nm1, cm1, hm1⟩ := owns_slice HO1.out.1
            obtain ⟨am2, nm2, cm2, hm2⟩ := owns_slice HO1.out.2
            obtain ⟨am3, nm3, cm3, hm3⟩ := owns_slice HO2.out.1
            obtain ⟨am4, nm4, cm4, hm4⟩ := owns_slice HO2.out.2
            subst hm1
            subst hm2
            subst hm3
            subst hm4
            clear HL4 HL5 HO1 HO2 HG4 HG5 HNE HB
            refine wpAnyH_ready (rs := [6]) (by kernel_rfl) (by simp) ?_
            refine AllReadyH.cons (o := { dst := none, op := Op.store 24 (Operand.tmp 5) (Operand.tmp 19), type := 0, pos := "law.go:43", after := #[{ on := 4, ground := Ground.data }, { on := 1, ground := Ground.data }, { on := 3, ground := Ground.chain }, { on := 0, ground := Ground.phase }, { on := 1, ground := Ground.phase }, { on := 2, ground := Ground.textOnly Departure.lateStores }, { on := 3, ground := Ground.textOnly Departure.lateStoresUnsure }, { on := 4, ground := Ground.phase }, { on := 5, ground := Ground.phase }], guard := none }) rfl (fun K hK => ?_) AllReadyH.nil
            go_simp
            refine hK.out _ _ ?_ (fun hHeld => ?_)
            · exact ⟨far2 c1 g1, far2 c2 g1, far2 c3 g2, far2 c4 g2⟩
            clear hK K
            try simp only [Act.put, List.setIfInBounds_toArray, List.set_cons_zero, List.set_cons_succ]
            refine wpAnyH_ready (rs := [7]) (by kernel_rfl) (by simp) ?_
            refine AllReadyH.cons (o := { dst := none, op := Op.store 24 (Operand.tmp 6) (Operand.tmp 21), type := 0, pos := "law.go:43", after := #[{ on := 5, ground := Ground.data }, { on := 3, ground := Ground.data }, { on := 6, ground := Ground.chain }, { on := 0, ground := Ground.phase }, { on := 1, ground := Ground.phase }, { on := 2, ground := Ground.phase }, { on := 3, ground := Ground.phase }, { on := 4, ground := Ground.phase }, { on := 5, ground := Ground.phase }, { on := 6, ground := Ground.phase }], guard := none }) rfl (fun K hK => ?_) AllReadyH.nil
            go_simp
            refine hK.out _ _ ?_ (fun hHeld => ?_)
            · exact ⟨far2 (far2 c1 g1) g3, far2 (far2 c2 g1) g3, far2 (far2 c3 g2) g4, far2 (far2 c4 g2) g4⟩
            clear hK K
            try simp only [Act.put, List.setIfInBounds_toArray, List.set_cons_zero, List.set_cons_succ]
            refine wpAnyH_done (by kernel_rfl) ?_ _
            refine NoPanic.normal ?_
            go_wp2_with fail
            go_meet
            exact ⟨_, _, _, _, _, _, rfl, rfl, HT.out⟩
      · go_simp
        refine hK.out _ _ ?_ (fun hHeld => ?_)
        · first | (refine ⟨?_, ?_, ?_, ?_⟩ <;> first | assumption | (simp [*, World.cell?_alloc_some, World.cell?_setCell_far]; done))
        clear hK K
        have h' : Below w1.heap.size w1 (w1.alloc (.cells #[.slice none 0 0, .slice none 0 0] 24)) := below_alloc _ _
        have HLn := LabAt.new w1 (.slice none 0 0) (.slice none 0 0)
        obtain ⟨w2, hw⟩ : ∃ x, x = w1.alloc (.cells #[.slice none 0 0, .slice none 0 0] 24) := ⟨_, rfl⟩
        rw [← hw] at h' HLn hHeld ⊢
        clear hw
        obtain ⟨p4, hp⟩ : ∃ x, x = w1.heap.size := ⟨_, rfl⟩
        rw [← hp] at HLn ⊢
        have HG4 := hid (show W.heap.size ≤ p4 from by rw [hp]; exact HB.out.size)
        clear hp
        have HBn := hid (HB.out.trans (h'.mono HB.out.size))
        clear HB
        have HB := HBn
        clear HBn c1 c2 c3 c4
        obtain ⟨c1, c2⟩ := HA1.out.below HB.out
        obtain ⟨c3, c4⟩ := HA2.out.below HB.out
        have HO1n := hid (And.intro (HO1.out.1.below h') (HO1.out.2.below h'))
        clear HO1
        have HO1 := HO1n
        clear HO1n
        have HL4 := hid HLn
        clear HLn h'
        try simp only [Act.put, List.setIfInBounds_toArray, List.set_cons_zero, List.set_cons_succ]
        refine wpAnyH_ready (rs := [3, 5]) (by kernel_rfl) (by simp) ?_
        refine AllReadyH.cons (o := { dst := some 21, op := Op.call { callee := Callee.value (Operand.func 8), args := #[Operand.tmp 20], argTypes := #[24] }, type := 24, pos := "law.go:43", after := #[{ on := 2, ground := Ground.data }, { on := 1, ground := Ground.chain }], guard := none }) rfl (fun K hK => ?_) (AllReadyH.cons (o := { dst := some 6, op := Op.alloc 24, type := 0, pos := "law.go:43", after := #[], guard := none }) rfl (fun K hK => ?_) AllReadyH.nil)
        · go_simp
          refine (Z2.out _ HB.out).mono ?_
          rintro e w3 ⟨v2, y2, rfl, hO, hP, h'⟩
          have HOn2 := hid (And.intro (owns_le hO HB.out.size) (owns_le hP HB.out.size))
          clear hO hP
          have HBn := hid (HB.out.trans (h'.mono HB.out.size))
          clear HB
          have HB := HBn
          clear HBn c1 c2 c3 c4
          obtain ⟨c1, c2⟩ := HA1.out.below HB.out
          obtain ⟨c3, c4⟩ := HA2.out.below HB.out
          have HO1n := hid (And.intro (HO1.out.1.below h') (HO1.out.2.below h'))
          clear HO1
          have HO1 := HO1n
          clear HO1n
          have HL4n := hid (HL4.out.below h' HL4.out.lt)
          clear HL4
          have HL4 := HL4n
          clear HL4n
          have HO2 := HOn2
          clear HOn2 h'
          try go_wp2_with fail
          refine hK.out _ _ ?_ (fun hHeld => ?_)
          · first | (refine ⟨?_, ?_, ?_, ?_⟩ <;> first | assumption | (simp [*, World.cell?_alloc_some, World.cell?_setCell_far]; done))
          clear hK K
          try simp only [Act.put, List.setIfInBounds_toArray, List.set_cons_zero, List.set_cons_succ]
          refine wpAnyH_ready (rs := [5]) (by kernel_rfl) (by simp) ?_
          refine AllReadyH.cons (o := { dst := some 6, op := Op.alloc 24, type := 0, pos := "law.go:43", after := #[], guard := none }) rfl (fun K hK => ?_) AllReadyH.nil
          · go_simp
            refine hK.out _ _ ?_ (fun hHeld => ?_)
            · first | (refine ⟨?_, ?_, ?_, ?_⟩ <;> first | assumption | (simp [*, World.cell?_alloc_some, World.cell?_setCell_far]; done))
            clear hK K
            have h' : Below w3.heap.size w3 (w3.alloc (.cells #[.slice none 0 0, .slice none 0 0] 24)) := below_alloc _ _
            have HLn := LabAt.new w3 (.slice none 0 0) (.slice none 0 0)
            obtain ⟨w4, hw⟩ : ∃ x, x = w3.alloc (.cells #[.slice none 0 0, .slice none 0 0] 24) := ⟨_, rfl⟩
            rw [← hw] at h' HLn hHeld ⊢
            clear hw
            obtain ⟨p5, hp⟩ : ∃ x, x = w3.heap.size := ⟨_, rfl⟩
            rw [← hp] at HLn ⊢
            have HG5 := hid (show W.heap.size ≤ p5 from by rw [hp]; exact HB.out.size)
            have HNE := hid (show p4 ≠ p5 from by have := HL4.out.lt; omega)
            clear hp
            have HBn := hid (HB.out.trans (h'.mono HB.out.size))
            clear HB
            have HB := HBn
            clear HBn c1 c2 c3 c4
            obtain ⟨c1, c2⟩ := HA1.out.below HB.out
            obtain ⟨c3, c4⟩ := HA2.out.below HB.out
            have HO1n := hid (And.intro (HO1.out.1.below h') (HO1.out.2.below h'))
            clear HO1
            have HO1 := HO1n
            clear HO1n
            have HO2n := hid (And.intro (HO2.out.1.below h') (HO2.out.2.below h'))
            clear HO2
            have HO2 := HO2n
            clear HO2n
            have HL4n := hid (HL4.out.below h' HL4.out.lt)
            clear HL4
            have HL4 := HL4n
            clear HL4n
            have HL5 := hid HLn
            clear HLn h'
            try simp only [Act.put, List.setIfInBounds_toArray, List.set_cons_zero, List.set_cons_succ]
            obtain ⟨e1, e2, e3, e4⟩ := HL4.out.cells
            obtain ⟨e5, e6, e7, e8⟩ := ((HL5.out.far (o := 0) (x := v1) (Ne.symm HNE.out)).far (o := 1) (x := y1) (Ne.symm HNE.out)).cells
            have g1 : p4 ≠ w.heap.size := by have := HG4.out; omega
            have g2 : p4 ≠ w.heap.size + 1 := by have := HG4.out; omega
            have g3 : p5 ≠ w.heap.size := by have := HG5.out; omega
            have g4 : p5 ≠ w.heap.size + 1 := by have := HG5.out; omega
            have HT := hid (two_labs HB.out HL4.out HL5.out HNE.out HG4.out HG5.out HO1.out.1 HO1.out.2 HO2.out.1 HO2.out.2)
            obtain ⟨am1, nm1, cm1, hm1⟩ := owns_slice HO1.out.1
            obtain ⟨am2, nm2, cm2, hm2⟩ := owns_slice HO1.out.2
            obtain ⟨am3, nm3, cm3, hm3⟩ := owns_slice HO2.out.1
            obtain ⟨am4, nm4, cm4, hm4⟩ := owns_slice HO2.out.2
            subst hm1
            subst hm2
            subst hm3
            subst hm4
            clear HL4 HL5 HO1 HO2 HG4 HG5 HNE HB
            refine wpAnyH_ready (rs := [6]) (by kernel_rfl) (by simp) ?_
            refine AllReadyH.cons (o := { dst := none, op := Op.store 24 (Operand.tmp 5) (Operand.tmp 19), type := 0, pos := "law.go:43", after := #[{ on := 4, ground := Ground.data }, { on := 1, ground := Ground.data }, { on := 3, ground := Ground.chain }, { on := 0, ground := Ground.phase }, { on := 1, ground := Ground.phase }, { on := 2, ground := Ground.textOnly Departure.lateStores }, { on := 3, ground := Ground.textOnly Departure.lateStoresUnsure }, { on := 4, ground := Ground.phase }, { on := 5, ground := Ground.phase }], guard := none }) rfl (fun K hK => ?_) AllReadyH.nil
            go_simp
            refine hK.out _ _ ?_ (fun hHeld => ?_)
            · exact ⟨far2 c1 g1, far2 c2 g1, far2 c3 g2, far2 c4 g2⟩
            clear hK K
            try simp only [Act.put, List.setIfInBounds_toArray, List.set_cons_zero, List.set_cons_succ]
            refine wpAnyH_ready (rs := [7]) (by kernel_rfl) (by simp) ?_
            refine AllReadyH.cons (o := { dst := none, op := Op.store 24 (Operand.tmp 6) (Operand.tmp 21), type := 0, pos := "law.go:43", after := #[{ on := 5, ground := Ground.data }, { on := 3, ground := Ground.data }, { on := 6, ground := Ground.chain }, { on := 0, ground := Ground.phase }, { on := 1, ground := Ground.phase }, { on := 2, ground := Ground.phase }, { on := 3, ground := Ground.phase }, { on := 4, ground := Ground.phase }, { on := 5, ground := Ground.phase }, { on := 6, ground := Ground.phase }], guard := none }) rfl (fun K hK => ?_) AllReadyH.nil
            go_simp
            refine hK.out _ _ ?_ (fun hHeld => ?_)
            · exact ⟨far2 (far2 c1 g1) g3, far2 (far2 c2 g1) g3, far2 (far2 c3 g2) g4, far2 (far2 c4 g2) g4⟩
            clear hK K
            try simp only [Act.put, List.setIfInBounds_toArray, List.set_cons_zero, List.set_cons_succ]
            refine wpAnyH_done (by kernel_rfl) ?_ _
            refine NoPanic.normal ?_
            go_wp2_with fail
            go_meet
            exact ⟨_, _, _, _, _, _, rfl, rfl, HT.out⟩
        · go_simp
          refine hK.out _ _ ?_ (fun hHeld => ?_)
          · first | (refine ⟨?_, ?_, ?_, ?_⟩ <;> first | assumption | (simp [*, World.cell?_alloc_some, World.cell?_setCell_far]; done))
          clear hK K
          have h' : Below w2.heap.size w2 (w2.alloc (.cells #[.slice none 0 0, .slice none 0 0] 24)) := below_alloc _ _
          have HLn := LabAt.new w2 (.slice none 0 0) (.slice none 0 0)
          obtain ⟨w3, hw⟩ : ∃ x, x = w2.alloc (.cells #[.slice none 0 0, .slice none 0 0] 24) := ⟨_, rfl⟩
          rw [← hw] at h' HLn hHeld ⊢
          clear hw
          obtain ⟨p5, hp⟩ : ∃ x, x = w2.heap.size := ⟨_, rfl⟩
          rw [← hp] at HLn ⊢
          have HG5 := hid (show W.heap.size ≤ p5 from by rw [hp]; exact HB.out.size)
          have HNE := hid (show p4 ≠ p5 from by have := HL4.out.lt; omega)
          clear hp
          have HBn := hid (HB.out.trans (h'.mono HB.out.size))
          clear HB
          have HB := HBn
          clear HBn c1 c2 c3 c4
          obtain ⟨c1, c2⟩ := HA1.out.below HB.out
          obtain ⟨c3, c4⟩ := HA2.out.below HB.out
          have HO1n := hid (And.intro (HO1.out.1.below h') (HO1.out.2.below h'))
          clear HO1
          have HO1 := HO1n
          clear HO1n
          have HL4n := hid (HL4.out.below h' HL4.out.lt)
          clear HL4
          have HL4 := HL4n
          clear HL4n
          have HL5 := hid HLn
          clear HLn h'
          try simp only [Act.put, List.setIfInBounds_toArray, List.set_cons_zero, List.set_cons_succ]
          refine wpAnyH_ready (rs := [3]) (by kernel_rfl) (by simp) ?_
          refine AllReadyH.cons (o := { dst := some 21, op := Op.call { callee := Callee.value (Operand.func 8), args := #[Operand.tmp 20], argTypes := #[24] }, type := 24, pos := "law.go:43", after := #[{ on := 2, ground := Ground.data }, { on := 1, ground := Ground.chain }], guard := none }) rfl (fun K hK => ?_) AllReadyH.nil
          · go_simp
            refine (Z2.out _ HB.out).mono ?_
            rintro e w4 ⟨v2, y2, rfl, hO, hP, h'⟩
            have HOn2 := hid (And.intro (owns_le hO HB.out.size) (owns_le hP HB.out.size))
            clear hO hP
            have HBn := hid (HB.out.trans (h'.mono HB.out.size))
            clear HB
            have HB := HBn
            clear HBn c1 c2 c3 c4
            obtain ⟨c1, c2⟩ := HA1.out.below HB.out
            obtain ⟨c3, c4⟩ := HA2.out.below HB.out
            have HO1n := hid (And.intro (HO1.out.1.below h') (HO1.out.2.below h'))
            clear HO1
            have HO1 := HO1n
            clear HO1n
            have HL4n := hid (HL4.out.below h' HL4.out.lt)
            clear HL4
            have HL4 := HL4n
            clear HL4n
            have HL5n := hid (HL5.out.below h' HL5.out.lt)
            clear HL5
            have HL5 := HL5n
            clear HL5n
            have HO2 := HOn2
            clear HOn2 h'
            try go_wp2_with fail
            refine hK.out _ _ ?_ (fun hHeld => ?_)
            · first | (refine ⟨?_, ?_, ?_, ?_⟩ <;> first | assumption | (simp [*, World.cell?_alloc_some, World.cell?_setCell_far]; done))
            clear hK K
            try simp only [Act.put, List.setIfInBounds_toArray, List.set_cons_zero, List.set_cons_succ]
            obtain ⟨e1, e2, e3, e4⟩ := HL4.out.cells
            obtain ⟨e5, e6, e7, e8⟩ := ((HL5.out.far (o := 0) (x := v1) (Ne.symm HNE.out)).far (o := 1) (x := y1) (Ne.symm HNE.out)).cells
            have g1 : p4 ≠ w.heap.size := by have := HG4.out; omega
            have g2 : p4 ≠ w.heap.size + 1 := by have := HG4.out; omega
            have g3 : p5 ≠ w.heap.size := by have := HG5.out; omega
            have g4 : p5 ≠ w.heap.size + 1 := by have := HG5.out; omega
            have HT := hid (two_labs HB.out HL4.out HL5.out HNE.out HG4.out HG5.out HO1.out.1 HO1.out.2 HO2.out.1 HO2.out.2)
            obtain ⟨am1, nm1, cm1, hm1⟩ := owns_slice HO1.out.1
            obtain ⟨am2, nm2, cm2, hm2⟩ := owns_slice HO1.out.2
            obtain ⟨am3, nm3, cm3, hm3⟩ := owns_slice HO2.out.1
            obtain ⟨am4, nm4, cm4, hm4⟩ := owns_slice HO2.out.2
            subst hm1
            subst hm2
            subst hm3
            subst hm4
            clear HL4 HL5 HO1 HO2 HG4 HG5 HNE HB
            refine wpAnyH_ready (rs := [6]) (by kernel_rfl) (by simp) ?_
            refine AllReadyH.cons (o := { dst := none, op := Op.store 24 (Operand.tmp 5) (Operand.tmp 19), type := 0, pos := "law.go:43", after := #[{ on := 4, ground := Ground.data }, { on := 1, ground := Ground.data }, { on := 3, ground := Ground.chain }, { on := 0, ground := Ground.phase }, { on := 1, ground := Ground.phase }, { on := 2, ground := Ground.textOnly Departure.lateStores }, { on := 3, ground := Ground.textOnly Departure.lateStoresUnsure }, { on := 4, ground := Ground.phase }, { on := 5, ground := Ground.phase }], guard := none }) rfl (fun K hK => ?_) AllReadyH.nil
            go_simp
            refine hK.out _ _ ?_ (fun hHeld => ?_)
            · exact ⟨far2 c1 g1, far2 c2 g1, far2 c3 g2, far2 c4 g2⟩
            clear hK K
            try simp only [Act.put, List.setIfInBounds_toArray, List.set_cons_zero, List.set_cons_succ]
            refine wpAnyH_ready (rs := [7]) (by kernel_rfl) (by simp) ?_
            refine AllReadyH.cons (o := { dst := none, op := Op.store 24 (Operand.tmp 6) (Operand.tmp 21), type := 0, pos := "law.go:43", after := #[{ on := 5, ground := Ground.data }, { on := 3, ground := Ground.data }, { on := 6, ground := Ground.chain }, { on := 0, ground := Ground.phase }, { on := 1, ground := Ground.phase }, { on := 2, ground := Ground.phase }, { on := 3, ground := Ground.phase }, { on := 4, ground := Ground.phase }, { on := 5, ground := Ground.phase }, { on := 6, ground := Ground.phase }], guard := none }) rfl (fun K hK => ?_) AllReadyH.nil
            go_simp
            refine hK.out _ _ ?_ (fun hHeld => ?_)
            · exact ⟨far2 (far2 c1 g1) g3, far2 (far2 c2 g1) g3, far2 (far2 c3 g2) g4, far2 (far2 c4 g2) g4⟩
            clear hK K
            try simp only [Act.put, List.setIfInBounds_toArray, List.set_cons_zero, List.set_cons_succ]
            refine wpAnyH_done (by kernel_rfl) ?_ _
            refine NoPanic.normal ?_
            go_wp2_with fail
            go_meet
            exact ⟨_, _, _, _, _, _, rfl, rfl, HT.out⟩
      · go_simp
        refine hK.out _ _ ?_ (fun hHeld => ?_)
        · first | (refine ⟨?_, ?_, ?_, ?_⟩ <;> first | assumption | (simp [*, World.cell?_alloc_some, World.cell?_setCell_far]; done))
        clear hK K
        have h' : Below w1.heap.size w1 (w1.alloc (.cells #[.slice none 0 0, .slice none 0 0] 24)) := below_alloc _ _
        have HLn := LabAt.new w1 (.slice none 0 0) (.slice none 0 0)
        obtain ⟨w2, hw⟩ : ∃ x, x = w1.alloc (.cells #[.slice none 0 0, .slice none 0 0] 24) := ⟨_, rfl⟩
        rw [← hw] at h' HLn hHeld ⊢
        clear hw
        obtain ⟨p5, hp⟩ : ∃ x, x = w1.heap.size := ⟨_, rfl⟩
        rw [← hp] at HLn ⊢
        have HG5 := hid (show W.heap.size ≤ p5 from by rw [hp]; exact HB.out.size)
        clear hp
        have HBn := hid (HB.out.trans (h'.mono HB.out.size))
        clear HB
        have HB := HBn
        clear HBn c1 c2 c3 c4
        obtain ⟨c1, c2⟩ := HA1.out.below HB.out
        obtain ⟨c3, c4⟩ := HA2.out.below HB.out
        have HO1n := hid (And.intro (HO1.out.1.below h') (HO1.out.2.below h'))
        clear HO1
        have HO1 := HO1n
        clear HO1n
        have HL5 := hid HLn
        clear HLn h'
        try simp only [Act.put, List.setIfInBounds_toArray, List.set_cons_zero, List.set_cons_succ]
        refine wpAnyH_ready (rs := [3, 4]) (by kernel_rfl) (by simp) ?_
        refine AllReadyH.cons (o := { dst := some 21, op := Op.call { callee := Callee.value (Operand.func 8), args := #[Operand.tmp 20], argTypes := #[24] }, type := 24, pos := "law.go:43", after := #[{ on := 2, ground := Ground.data }, { on := 1, ground := Ground.chain }], guard := none }) rfl (fun K hK => ?_) (AllReadyH.cons (o := { dst := some 5, op := Op.alloc 24, type := 0, pos := "law.go:43", after := #[], guard := none }) rfl (fun K hK => ?_) AllReadyH.nil)
        · go_simp
          refine (Z2.out _ HB.out).mono ?_
          rintro e w3 ⟨v2, y2, rfl, hO, hP, h'⟩
          have HOn2 := hid (And.intro (owns_le hO HB.out.size) (owns_le hP HB.out.size))
          clear hO hP
          have HBn := hid (HB.out.trans (h'.mono HB.out.size))
          clear HB
          have HB := HBn
          clear HBn c1 c2 c3 c4
          obtain ⟨c1, c2⟩ := HA1.out.below HB.out
          obtain ⟨c3, c4⟩ := HA2.out.below HB.out
          have HO1n := hid (And.intro (HO1.out.1.below h') (HO1.out.2.below h'))
          clear HO1
          have HO1 := HO1n
          clear HO1n
          have HL5n := hid (HL5.out.below h' HL5.out.lt)
          clear HL5
          have HL5 := HL5n
          clear HL5n
          have HO2 := HOn2
          clear HOn2 h'
          try go_wp2_with fail
          refine hK.out _ _ ?_ (fun hHeld => ?_)
          · first | (refine ⟨?_, ?_, ?_, ?_⟩ <;> first | assumption | (simp [*, World.cell?_alloc_some, World.cell?_setCell_far]; done))
          clear hK K
          try simp only [Act.put, List.setIfInBounds_toArray, List.set_cons_zero, List.set_cons_succ]
          refine wpAnyH_ready (rs := [4]) (by kernel_rfl) (by simp) ?_
          refine AllReadyH.cons (o := { dst := some 5, op := Op.alloc 24, type := 0, pos := "law.go:43", after := #[], guard := none }) rfl (fun K hK => ?_) AllReadyH.nil
          · go_simp
            refine hK.out _ _ ?_ (fun hHeld => ?_)
            · first | (refine ⟨?_, ?_, ?_, ?_⟩ <;> first | assumption | (simp [*, World.cell?_alloc_some, World.cell?_setCell_far]; done))
            clear hK K
            have h' : Below w3.heap.size w3 (w3.alloc (.cells #[.slice none 0 0, .slice none 0 0] 24)) := below_alloc _ _
            have HLn := LabAt.new w3 (.slice none 0 0) (.slice none 0 0)
            obtain ⟨w4, hw⟩ : ∃ x, x = w3.alloc (.cells #[.slice none 0 0, .slice none 0 0] 24) := ⟨_, rfl⟩
            rw [← hw] at h' HLn hHeld ⊢
            clear hw
            obtain ⟨p4, hp⟩ : ∃ x, x = w3.heap.size := ⟨_, rfl⟩
            rw [← hp] at HLn ⊢
            have HG4 := hid (show W.heap.size ≤ p4 from by rw [hp]; exact HB.out.size)
            have HNE := hid (show p4 ≠ p5 from by have := HL5.out.lt; omega)
            clear hp
            have HBn := hid (HB.out.trans (h'.mono HB.out.size))
            clear HB
            have HB := HBn
            clear HBn c1 c2 c3 c4
            obtain ⟨c1, c2⟩ := HA1.out.below HB.out
            obtain ⟨c3, c4⟩ := HA2.out.below HB.out
            have HO1n := hid (And.intro (HO1.out.1.below h') (HO1.out.2.below h'))
            clear HO1
            have HO1 := HO1n
            clear HO1n
            have HO2n := hid (And.intro (HO2.out.1.below h') (HO2.out.2.below h'))
            clear HO2
            have HO2 := HO2n
            clear HO2n
            have HL5n := hid (HL5.out.below h' HL5.out.lt)
            clear HL5
            have HL5 := HL5n
            clear HL5n
            have HL4 := hid HLn
            clear HLn h'
            try simp only [Act.put, List.setIfInBounds_toArray, List.set_cons_zero, List.set_cons_succ]
            obtain ⟨e1, e2, e3, e4⟩ := HL4.out.cells
            obtain ⟨e5, e6, e7, e8⟩ := ((HL5.out.far (o := 0) (x := v1) (Ne.symm HNE.out)).far (o := 1) (x := y1) (Ne.symm HNE.out)).cells
            have g1 : p4 ≠ w.heap.size := by have := HG4.out; omega
            have g2 : p4 ≠ w.heap.size + 1 := by have := HG4.out; omega
            have g3 : p5 ≠ w.heap.size := by have := HG5.out; omega
            have g4 : p5 ≠ w.heap.size + 1 := by have := HG5.out; omega
            have HT := hid (two_labs HB.out HL4.out HL5.out HNE.out HG4.out HG5.out HO1.out.1 HO1.out.2 HO2.out.1 HO2.out.2)
            obtain ⟨am1, nm1, cm1, hm1⟩ := owns_slice HO1.out.1
            obtain ⟨am2, nm2, cm2, hm2⟩ := owns_slice HO1.out.2
            obtain ⟨am3, nm3, cm3, hm3⟩ := owns_slice HO2.out.1
            obtain ⟨am4, nm4, cm4, hm4⟩ := owns_slice HO2.out.2
            subst hm1
            subst hm2
            subst hm3
            subst hm4
            clear HL4 HL5 HO1 HO2 HG4 HG5 HNE HB
            refine wpAnyH_ready (rs := [6]) (by kernel_rfl) (by simp) ?_
            refine AllReadyH.cons (o := { dst := none, op := Op.store 24 (Operand.tmp 5) (Operand.tmp 19), type := 0, pos := "law.go:43", after := #[{ on := 4, ground := Ground.data }, { on := 1, ground := Ground.data }, { on := 3, ground := Ground.chain }, { on := 0, ground := Ground.phase }, { on := 1, ground := Ground.phase }, { on := 2, ground := Ground.textOnly Departure.lateStores }, { on := 3, ground := Ground.textOnly Departure.lateStoresUnsure }, { on := 4, ground := Ground.phase }, { on := 5, ground := Ground.phase }], guard := none }) rfl (fun K hK => ?_) AllReadyH.nil
            go_simp
            refine hK.out _ _ ?_ (fun hHeld => ?_)
            · exact ⟨far2 c1 g1, far2 c2 g1, far2 c3 g2, far2 c4 g2⟩
            clear hK K
            try simp only [Act.put, List.setIfInBounds_toArray, List.set_cons_zero, List.set_cons_succ]
            refine wpAnyH_ready (rs := [7]) (by kernel_rfl) (by simp) ?_
            refine AllReadyH.cons (o := { dst := none, op := Op.store 24 (Operand.tmp 6) (Operand.tmp 21), type := 0, pos := "law.go:43", after := #[{ on := 5, ground := Ground.data }, { on := 3, ground := Ground.data }, { on := 6, ground := Ground.chain }, { on := 0, ground := Ground.phase }, { on := 1, ground := Ground.phase }, { on := 2, ground := Ground.phase }, { on := 3, ground := Ground.phase }, { on := 4, ground := Ground.phase }, { on := 5, ground := Ground.phase }, { on := 6, ground := Ground.phase }], guard := none }) rfl (fun K hK => ?_) AllReadyH.nil
            go_simp
            refine hK.out _ _ ?_ (fun hHeld => ?_)
            · exact ⟨far2 (far2 c1 g1) g3, far2 (far2 c2 g1) g3, far2 (far2 c3 g2) g4, far2 (far2 c4 g2) g4⟩
            clear hK K
            try simp only [Act.put, List.setIfInBounds_toArray, List.set_cons_zero, List.set_cons_succ]
            refine wpAnyH_done (by kernel_rfl) ?_ _
            refine NoPanic.normal ?_
            go_wp2_with fail
            go_meet
            exact ⟨_, _, _, _, _, _, rfl, rfl, HT.out⟩
        · go_simp
          refine hK.out _ _ ?_ (fun hHeld => ?_)
          · first | (refine ⟨?_, ?_, ?_, ?_⟩ <;> first | assumption | (simp [*, World.cell?_alloc_some, World.cell?_setCell_far]; done))
          clear hK K
          have h' : Below w2.heap.size w2 (w2.alloc (.cells #[.slice none 0 0, .slice none 0 0] 24)) := below_alloc _ _
          have HLn := LabAt.new w2 (.slice none 0 0) (.slice none 0 0)
          obtain ⟨w3, hw⟩ : ∃ x, x = w2.alloc (.cells #[.slice none 0 0, .slice none 0 0] 24) := ⟨_, rfl⟩
          rw [← hw] at h' HLn hHeld ⊢
          clear hw
          obtain ⟨p4, hp⟩ : ∃ x, x = w2.heap.size := ⟨_, rfl⟩
          rw [← hp] at HLn ⊢
          have HG4 := hid (show W.heap.size ≤ p4 from by rw [hp]; exact HB.out.size)
          have HNE := hid (show p4 ≠ p5 from by have := HL5.out.lt; omega)
          clear hp
          have HBn := hid (HB.out.trans (h'.mono HB.out.size))
          clear HB
          have HB := HBn
          clear HBn c1 c2 c3 c4
          obtain ⟨c1, c2⟩ := HA1.out.below HB.out
          obtain ⟨c3, c4⟩ := HA2.out.below HB.out
          have HO1n := hid (And.intro (HO1.out.1.below h') (HO1.out.2.below h'))
          clear HO1
          have HO1 := HO1n
          clear HO1n
          have HL5n := hid (HL5.out.below h' HL5.out.lt)
          clear HL5
          have HL5 := HL5n
          clear HL5n
          have HL4 := hid HLn
          clear HLn h'
          try simp only [Act.put, List.setIfInBounds_toArray, List.set_cons_zero, List.set_cons_succ]
          refine wpAnyH_ready (rs := [3]) (by kernel_rfl) (by simp) ?_
          refine AllReadyH.cons (o := { dst := some 21, op := Op.call { callee := Callee.value (Operand.func 8), args := #[Operand.tmp 20], argTypes := #[24] }, type := 24, pos := "law.go:43", after := #[{ on := 2, ground := Ground.data }, { on := 1, ground := Ground.chain }], guard := none }) rfl (fun K hK => ?_) AllReadyH.nil
          · go_simp
            refine (Z2.out _ HB.out).mono ?_
            rintro e w4 ⟨v2, y2, rfl, hO, hP, h'⟩
            have HOn2 := hid (And.intro (owns_le hO HB.out.size) (owns_le hP HB.out.size))
            clear hO hP
            have HBn := hid (HB.out.trans (h'.mono HB.out.size))
            clear HB
            have HB := HBn
            clear HBn c1 c2 c3 c4
            obtain ⟨c1, c2⟩ := HA1.out.below HB.out
            obtain ⟨c3, c4⟩ := HA2.out.below HB.out
            have HO1n := hid (And.intro (HO1.out.1.below h') (HO1.out.2.below h'))
            clear HO1
            have HO1 := HO1n
            clear HO1n
            have HL4n := hid (HL4.out.below h' HL4.out.lt)
            clear HL4
            have HL4 := HL4n
            clear HL4n
            have HL5n := hid (HL5.out.below h' HL5.out.lt)
            clear HL5
            have HL5 := HL5n
            clear HL5n
            have HO2 := HOn2
            clear HOn2 h'
            try go_wp2_with fail
            refine hK.out _ _ ?_ (fun hHeld => ?_)
            · first | (refine ⟨?_, ?_, ?_, ?_⟩ <;> first | assumption | (simp [*, World.cell?_alloc_some, World.cell?_setCell_far]; done))
            clear hK K
            try simp only [Act.put, List.setIfInBounds_toArray, List.set_cons_zero, List.set_cons_succ]
            obtain ⟨e1, e2, e3, e4⟩ := HL4.out.cells
            obtain ⟨e5, e6, e7, e8⟩ := ((HL5.out.far (o := 0) (x := v1) (Ne.symm HNE.out)).far (o := 1) (x := y1) (Ne.symm HNE.out)).cells
            have g1 : p4 ≠ w.heap.size := by have := HG4.out; omega
            have g2 : p4 ≠ w.heap.size + 1 := by have := HG4.out; omega
            have g3 : p5 ≠ w.heap.size := by have := HG5.out; omega
            have g4 : p5 ≠ w.heap.size + 1 := by have := HG5.out; omega
            have HT := hid (two_labs HB.out HL4.out HL5.out HNE.out HG4.out HG5.out HO1.out.1 HO1.out.2 HO2.out.1 HO2.out.2)
            obtain ⟨am1, nm1, cm1, hm1⟩ := owns_slice HO1.out.1
            obtain ⟨am2, nm2, cm2, hm2⟩ := owns_slice HO1.out.2
            obtain ⟨am3, nm3, cm3, hm3⟩ := owns_slice HO2.out.1
            obtain ⟨am4, nm4, cm4, hm4⟩ := owns_slice HO2.out.2
            subst hm1
            subst hm2
            subst hm3
            subst hm4
            clear HL4 HL5 HO1 HO2 HG4 HG5 HNE HB
            refine wpAnyH_ready (rs := [6]) (by kernel_rfl) (by simp) ?_
            refine AllReadyH.cons (o := { dst := none, op := Op.store 24 (Operand.tmp 5) (Operand.tmp 19), type := 0, pos := "law.go:43", after := #[{ on := 4, ground := Ground.data }, { on := 1, ground := Ground.data }, { on := 3, ground := Ground.chain }, { on := 0, ground := Ground.phase }, { on := 1, ground := Ground.phase }, { on := 2, ground := Ground.textOnly Departure.lateStores }, { on := 3, ground := Ground.textOnly Departure.lateStoresUnsure }, { on := 4, ground := Ground.phase }, { on := 5, ground := Ground.phase }], guard := none }) rfl (fun K hK => ?_) AllReadyH.nil
            go_simp
            refine hK.out _ _ ?_ (fun hHeld => ?_)
            · exact ⟨far2 c1 g1, far2 c2 g1, far2 c3 g2, far2 c4 g2⟩
            clear hK K
            try simp only [Act.put, List.setIfInBounds_toArray, List.set_cons_zero, List.set_cons_succ]
            refine wpAnyH_ready (rs := [7]) (by kernel_rfl) (by simp) ?_
            refine AllReadyH.cons (o := { dst := none, op := Op.store 24 (Operand.tmp 6) (Operand.tmp 21), type := 0, pos := "law.go:43", after := #[{ on := 5, ground := Ground.data }, { on := 3, ground := Ground.data }, { on := 6, ground := Ground.chain }, { on := 0, ground := Ground.phase }, { on := 1, ground := Ground.phase }, { on := 2, ground := Ground.phase }, { on := 3, ground := Ground.phase }, { on := 4, ground := Ground.phase }, { on := 5, ground := Ground.phase }, { on := 6, ground := Ground.phase }], guard := none }) rfl (fun K hK => ?_) AllReadyH.nil
            go_simp
            refine hK.out _ _ ?_ (fun hHeld => ?_)
            · exact ⟨far2 (far2 c1 g1) g3, far2 (far2 c2 g1) g3, far2 (far2 c3 g2) g4, far2 (far2 c4 g2) g4⟩
            clear hK K
            try simp only [Act.put, List.setIfInBounds_toArray, List.set_cons_zero, List.set_cons_succ]
            refine wpAnyH_done (by kernel_rfl) ?_ _
            refine NoPanic.normal ?_
            go_wp2_with fail
            go_meet
            exact ⟨_, _, _, _, _, _, rfl, rfl, HT.out⟩
    · go_simp
      refine hK.out _ _ ?_ (fun hHeld => ?_)
      · first | (refine ⟨?_, ?_, ?_, ?_⟩ <;> first | assumption | (simp [*, World.cell?_alloc_some, World.cell?_setCell_far]; done))
      clear hK K
      have h' : Below w0.heap.size w0 (w0.alloc (.cells #[.slice none 0 0, .slice none 0 0] 24)) := below_alloc _ _
      have HLn := LabAt.new w0 (.slice none 0 0) (.slice none 0 0)
      obtain ⟨w1, hw⟩ : ∃ x, x = w0.alloc (.cells #[.slice none 0 0, .slice none 0 0] 24) := ⟨_, rfl⟩
      rw [← hw] at h' HLn hHeld ⊢
      clear hw
      obtain ⟨p4, hp⟩ : ∃ x, x = w0.heap.size := ⟨_, rfl⟩
      rw [← hp] at HLn ⊢
      have HG4 := hid (show W.heap.size ≤ p4 from by rw [hp]; exact HB.out.size)
      clear hp
      have HBn := hid (HB.out.trans (h'.mono HB.out.size))
      clear HB
      have HB := HBn
      clear HBn c1 c2 c3 c4
      obtain ⟨c1, c2⟩ := HA1.out.below HB.out
      obtain ⟨c3, c4⟩ := HA2.out.below HB.out
      have HL4 := hid HLn
      clear HLn h'
      try simp only [Act.put, List.setIfInBounds_toArray, List.set_cons_zero, List.set_cons_succ]
      refine wpAnyH_ready (rs := [1, 5]) (by kernel_rfl) (by simp) ?_
      refine AllReadyH.cons (o := { dst := some 19, op := Op.call { callee := Callee.value (Operand.func 8), args := #[Operand.tmp 18], argTypes := #[24] }, type := 24, pos := "law.go:43", after := #[{ on := 0, ground := Ground.data }], guard := none }) rfl (fun K hK => ?_) (AllReadyH.cons (o := { dst := some 6, op := Op.alloc 24, type := 0, pos := "law.go:43", after := #[], guard := none }) rfl (fun K hK => ?_) AllReadyH.nil)
      · go_simp
        refine (Z1.out _ HB.out).mono ?_
        rintro e w2 ⟨v1, y1, rfl, hO, hP, h'⟩
        have HOn1 := hid (And.intro (owns_le hO HB.out.size) (owns_le hP HB.out.size))
        clear hO hP
        have HBn := hid (HB.out.trans (h'.mono HB.out.size))
        clear HB
        have HB := HBn
        clear HBn c1 c2 c3 c4
        obtain ⟨c1, c2⟩ := HA1.out.below HB.out
        obtain ⟨c3, c4⟩ := HA2.out.below HB.out
        have HL4n := hid (HL4.out.below h' HL4.out.lt)
        clear HL4
        have HL4 := HL4n
        clear HL4n
        have HO1 := HOn1
        clear HOn1 h'
        try go_wp2_with fail
        refine hK.out _ _ ?_ (fun hHeld => ?_)
        · first | (refine ⟨?_, ?_, ?_, ?_⟩ <;> first | assumption | (simp [*, World.cell?_alloc_some, World.cell?_setCell_far]; done))
        clear hK K
        try simp only [Act.put, List.setIfInBounds_toArray, List.set_cons_zero, List.set_cons_succ]
        refine wpAnyH_ready (rs := [3, 5]) (by kernel_rfl) (by simp) ?_
        refine AllReadyH.cons (o := { dst := some 21, op := Op.call { callee := Callee.value (Operand.func 8), args := #[Operand.tmp 20], argTypes := #[24] }, type := 24, pos := "law.go:43", after := #[{ on := 2, ground := Ground.data }, { on := 1, ground := Ground.chain }], guard := none }) rfl (fun K hK => ?_) (AllReadyH.cons (o := { dst := some 6, op := Op.alloc 24, type := 0, pos := "law.go:43", after := #[], guard := none }) rfl (fun K hK => ?_) AllReadyH.nil)
        · go_simp
          refine (Z2.out _ HB.out).mono ?_
          rintro e w3 ⟨v2, y2, rfl, hO, hP, h'⟩
          have HOn2 := hid (And.intro (owns_le hO HB.out.size) (owns_le hP HB.out.size))
          clear hO hP
          have HBn := hid (HB.out.trans (h'.mono HB.out.size))
          clear HB
          have HB := HBn
          clear HBn c1 c2 c3 c4
          obtain ⟨c1, c2⟩ := HA1.out.below HB.out
          obtain ⟨c3, c4⟩ := HA2.out.below HB.out
          have HO1n := hid (And.intro (HO1.out.1.below h') (HO1.out.2.below h'))
          clear HO1
          have HO1 := HO1n
          clear HO1n
          have HL4n := hid (HL4.out.below h' HL4.out.lt)
          clear HL4
          have HL4 := HL4n
          clear HL4n
          have HO2 := HOn2
          clear HOn2 h'
          try go_wp2_with fail
          refine hK.out _ _ ?_ (fun hHeld => ?_)
          · first | (refine ⟨?_, ?_, ?_, ?_⟩ <;> first | assumption | (simp [*, World.cell?_alloc_some, World.cell?_setCell_far]; done))
          clear hK K
          try simp only [Act.put, List.setIfInBounds_toArray, List.set_cons_zero, List.set_cons_succ]
          refine wpAnyH_ready (rs := [5]) (by kernel_rfl) (by simp) ?_
          refine AllReadyH.cons (o := { dst := some 6, op := Op.alloc 24, type := 0, pos := "law.go:43", after := #[], guard := none }) rfl (fun K hK => ?_) AllReadyH.nil
          · go_simp
            refine hK.out _ _ ?_ (fun hHeld => ?_)
            · first | (refine ⟨?_, ?_, ?_, ?_⟩ <;> first | assumption | (simp [*, World.cell?_alloc_some, World.cell?_setCell_far]; done))
            clear hK K
            have h' : Below w3.heap.size w3 (w3.alloc (.cells #[.slice none 0 0, .slice none 0 0] 24)) := below_alloc _ _
            have HLn := LabAt.new w3 (.slice none 0 0) (.slice none 0 0)
            obtain ⟨w4, hw⟩ : ∃ x, x = w3.alloc (.cells #[.slice none 0 0, .slice none 0 0] 24) := ⟨_, rfl⟩
            rw [← hw] at h' HLn hHeld ⊢
            clear hw
            obtain ⟨p5, hp⟩ : ∃ x, x = w3.heap.size := ⟨_, rfl⟩
            rw [← hp] at HLn ⊢
            have HG5 := hid (show W.heap.size ≤ p5 from by rw [hp]; exact HB.out.size)
            have HNE := hid (show p4 ≠ p5 from by have := HL4.out.lt; omega)
            clear hp
            have HBn := hid (HB.out.trans (h'.mono HB.out.size))
            clear HB
            have HB := HBn
            clear HBn c1 c2 c3 c4
            obtain ⟨c1, c2⟩ := HA1.out.below HB.out
            obtain ⟨c3, c4⟩ := HA2.out.below HB.out
            have HO1n := hid (And.intro (HO1.out.1.below h') (HO1.out.2.below h'))
            clear HO1
            have HO1 := HO1n
            clear HO1n
            have HO2n := hid (And.intro (HO2.out.1.below h') (HO2.out.2.below h'))
            clear HO2
            have HO2 := HO2n
            clear HO2n
            have HL4n := hid (HL4.out.below h' HL4.out.lt)
            clear HL4
            have HL4 := HL4n
            clear HL4n
            have HL5 := hid HLn
            clear HLn h'
            try simp only [Act.put, List.setIfInBounds_toArray, List.set_cons_zero, List.set_cons_succ]
            obtain ⟨e1, e2, e3, e4⟩ := HL4.out.cells
            obtain ⟨e5, e6, e7, e8⟩ := ((HL5.out.far (o := 0) (x := v1) (Ne.symm HNE.out)).far (o := 1) (x := y1) (Ne.symm HNE.out)).cells
            have g1 : p4 ≠ w.heap.size := by have := HG4.out; omega
            have g2 : p4 ≠ w.heap.size + 1 := by have := HG4.out; omega
            have g3 : p5 ≠ w.heap.size := by have := HG5.out; omega
            have g4 : p5 ≠ w.heap.size + 1 := by have := HG5.out; omega
            have HT := hid (two_labs HB.out HL4.out HL5.out HNE.out HG4.out HG5.out HO1.out.1 HO1.out.2 HO2.out.1 HO2.out.2)
            obtain ⟨am1, nm1, cm1, hm1⟩ := owns_slice HO1.out.1
            obtain ⟨am2, nm2, cm2, hm2⟩ := owns_slice HO1.out.2
            obtain ⟨am3, nm3, cm3, hm3⟩ := owns_slice HO2.out.1
            obtain ⟨am4, nm4, cm4, hm4⟩ := owns_slice HO2.out.2
            subst hm1
            subst hm2
            subst hm3
            subst hm4
            clear HL4 HL5 HO1 HO2 HG4 HG5 HNE HB
            refine wpAnyH_ready (rs := [6]) (by kernel_rfl) (by simp) ?_
            refine AllReadyH.cons (o := { dst := none, op := Op.store 24 (Operand.tmp 5) (Operand.tmp 19), type := 0, pos := "law.go:43", after := #[{ on := 4, ground := Ground.data }, { on := 1, ground := Ground.data }, { on := 3, ground := Ground.chain }, { on := 0, ground := Ground.phase }, { on := 1, ground := Ground.phase }, { on := 2, ground := Ground.textOnly Departure.lateStores }, { on := 3, ground := Ground.textOnly Departure.lateStoresUnsure }, { on := 4, ground := Ground.phase }, { on := 5, ground := Ground.phase }], guard := none }) rfl (fun K hK => ?_) AllReadyH.nil
            go_simp
            refine hK.out _ _ ?_ (fun hHeld => ?_)
            · exact ⟨far2 c1 g1, far2 c2 g1, far2 c3 g2, far2 c4 g2⟩
            clear hK K
            try simp only [Act.put, List.setIfInBounds_toArray, List.set_cons_zero, List.set_cons_succ]
            refine wpAnyH_ready (rs := [7]) (by kernel_rfl) (by simp) ?_
            refine AllReadyH.cons (o := { dst := none, op := Op.store 24 (Operand.tmp 6) (Operand.tmp 21), type := 0, pos := "law.go:43", after := #[{ on := 5, ground := Ground.data }, { on := 3, ground := Ground.data }, { on := 6, ground := Ground.chain }, { on := 0, ground := Ground.phase }, { on := 1, ground := Ground.phase }, { on := 2, ground := Ground.phase }, { on := 3, ground := Ground.phase }, { on := 4, ground := Ground.phase }, { on := 5, ground := Ground.phase }, { on := 6, ground := Ground.phase }], guard := none }) rfl (fun K hK => ?_) AllReadyH.nil
            go_simp
            refine hK.out _ _ ?_ (fun hHeld => ?_)
            · exact ⟨far2 (far2 c1 g1) g3, far2 (far2 c2 g1) g3, far2 (far2 c3 g2) g4, far2 (far2 c4 g2) g4⟩
            clear hK K
            try simp only [Act.put, List.setIfInBounds_toArray, List.set_cons_zero, List.set_cons_succ]
            refine wpAnyH_done (by kernel_rfl) ?_ _
            refine NoPanic.normal ?_
            go_wp2_with fail
            go_meet
            exact ⟨_, _, _, _, _, _, rfl, rfl, HT.out⟩
        · go_simp
          refine hK.out _ _ ?_ (fun hHeld => ?_)
          · first | (refine ⟨?_, ?_, ?_, ?_⟩ <;> first | assumption | (simp [*, World.cell?_alloc_some, World.cell?_setCell_far]; done))
          clear hK K
          have h' : Below w2.heap.size w2 (w2.alloc (.cells #[.slice none 0 0, .slice none 0 0] 24)) := below_alloc _ _
          have HLn := LabAt.new w2 (.slice none 0 0) (.slice none 0 0)
          obtain ⟨w3, hw⟩ : ∃ x, x = w2.alloc (.cells #[.slice none 0 0, .slice none 0 0] 24) := ⟨_, rfl⟩
          rw [← hw] at h' HLn hHeld ⊢
          clear hw
          obtain ⟨p5, hp⟩ : ∃ x, x = w2.heap.size := ⟨_, rfl⟩
          rw [← hp] at HLn ⊢
          have HG5 := hid (show W.heap.size ≤ p5 from by rw [hp]; exact HB.out.size)
          have HNE := hid (show p4 ≠ p5 from by have := HL4.out.lt; omega)
          clear hp
          have HBn := hid (HB.out.trans (h'.mono HB.out.size))
          clear HB
          have HB := HBn
          clear HBn c1 c2 c3 c4
          obtain ⟨c1, c2⟩ := HA1.out.below HB.out
          obtain ⟨c3, c4⟩ := HA2.out.below HB.out
          have HO1n := hid (And.intro (HO1.out.1.below h') (HO1.out.2.below h'))
          clear HO1
          have HO1 := HO1n
          clear HO1n
          have HL4n := hid (HL4.out.below h' HL4.out.lt)
          clear HL4
          have HL4 := HL4n
          clear HL4n
          have HL5 := hid HLn
          clear HLn h'
          try simp only [Act.put, List.setIfInBounds_toArray, List.set_cons_zero, List.set_cons_succ]
          refine wpAnyH_ready (rs := [3]) (by kernel_rfl) (by simp) ?_
          refine AllReadyH.cons (o := { dst := some 21, op := Op.call { callee := Callee.value (Operand.func 8), args := #[Operand.tmp 20], argTypes := #[24] }, type := 24, pos := "law.go:43", after := #[{ on := 2, ground := Ground.data }, { on := 1, ground := Ground.chain }], guard := none }) rfl (fun K hK => ?_) AllReadyH.nil
          · go_simp
            refine (Z2.out _ HB.out).mono ?_
            rintro e w4 ⟨v2, y2, rfl, hO, hP, h'⟩
            have HOn2 := hid (And.intro (owns_le hO HB.out.size) (owns_le hP HB.out.size))
            clear hO hP
            have HBn := hid (HB.out.trans (h'.mono HB.out.size))
            clear HB
            have HB := HBn
            clear HBn c1 c2 c3 c4
            obtain ⟨c1, c2⟩ := HA1.out.below HB.out
            obtain ⟨c3, c4⟩ := HA2.out.below HB.out
            have HO1n := hid (And.intro (HO1.out.1.below h') (HO1.out.2.below h'))
            clear HO1
            have HO1 := HO1n
            clear HO1n
            have HL4n := hid (HL4.out.below h' HL4.out.lt)
            clear HL4
            have HL4 := HL4n
            clear HL4n
            have HL5n := hid (HL5.out.below h' HL5.out.lt)
            clear HL5
            have HL5 := HL5n
            clear HL5n
            have HO2 := HOn2
            clear HOn2 h'
            try go_wp2_with fail
            refine hK.out _ _ ?_ (fun hHeld => ?_)
            · first | (refine ⟨?_, ?_, ?_, ?_⟩ <;> first | assumption | (simp [*, World.cell?_alloc_some, World.cell?_setCell_far]; done))
            clear hK K
            try simp only [Act.put, List.setIfInBounds_toArray, List.set_cons_zero, List.set_cons_succ]
            obtain ⟨e1, e2, e3, e4⟩ := HL4.out.cells
            obtain ⟨e5, e6, e7, e8⟩ := ((HL5.out.far (o := 0) (x := v1) (Ne.symm HNE.out)).far (o := 1) (x := y1) (Ne.symm HNE.out)).cells
            have g1 : p4 ≠ w.heap.size := by have := HG4.out; omega
            have g2 : p4 ≠ w.heap.size + 1 := by have := HG4.out; omega
            have g3 : p5 ≠ w.heap.size := by have := HG5.out; omega
            have g4 : p5 ≠ w.heap.size + 1 := by have := HG5.out; omega
            have HT := hid (two_labs HB.out HL4.out HL5.out HNE.out HG4.out HG5.out HO1.out.1 HO1.out.2 HO2.out.1 HO2.out.2)
            obtain ⟨am1, nm1, cm1, hm1⟩ := owns_slice HO1.out.1
            obtain ⟨am2, nm2, cm2, hm2⟩ := owns_slice HO1.out.2
            obtain ⟨am3, nm3, cm3, hm3⟩ := owns_slice HO2.out.1
            obtain ⟨am4, nm4, cm4, hm4⟩ := owns_slice HO2.out.2
            subst hm1
            subst hm2
            subst hm3
            subst hm4
            clear HL4 HL5 HO1 HO2 HG4 HG5 HNE HB
            refine wpAnyH_ready (rs := [6]) (by kernel_rfl) (by simp) ?_
            refine AllReadyH.cons (o := { dst := none, op := Op.store 24 (Operand.tmp 5) (Operand.tmp 19), type := 0, pos := "law.go:43", after := #[{ on := 4, ground := Ground.data }, { on := 1, ground := Ground.data }, { on := 3, ground := Ground.chain }, { on := 0, ground := Ground.phase }, { on := 1, ground := Ground.phase }, { on := 2, ground := Ground.textOnly Departure.lateStores }, { on := 3, ground := Ground.textOnly Departure.lateStoresUnsure }, { on := 4, ground := Ground.phase }, { on := 5, ground := Ground.phase }], guard := none }) rfl (fun K hK => ?_) AllReadyH.nil
            go_simp
            refine hK.out _ _ ?_ (fun hHeld => ?_)
            · exact ⟨far2 c1 g1, far2 c2 g1, far2 c3 g2, far2 c4 g2⟩
            clear hK K
            try simp only [Act.put, List.setIfInBounds_toArray, List.set_cons_zero, List.set_cons_succ]
            refine wpAnyH_ready (rs := [7]) (by kernel_rfl) (by simp) ?_
            refine AllReadyH.cons (o := { dst := none, op := Op.store 24 (Operand.tmp 6) (Operand.tmp 21), type := 0, pos := "law.go:43", after := #[{ on := 5, ground := Ground.data }, { on := 3, ground := Ground.data }, { on := 6, ground := Ground.chain }, { on := 0, ground := Ground.phase }, { on := 1, ground := Ground.phase }, { on := 2, ground := Ground.phase }, { on := 3, ground := Ground.phase }, { on := 4, ground := Ground.phase }, { on := 5, ground := Ground.phase }, { on := 6, ground := Ground.phase }], guard := none }) rfl (fun K hK => ?_) AllReadyH.nil
            go_simp
            refine hK.out _ _ ?_ (fun hHeld => ?_)
            · exact ⟨far2 (far2 c1 g1) g3, far2 (far2 c2 g1) g3, far2 (far2 c3 g2) g4, far2 (far2 c4 g2) g4⟩
            clear hK K
            try simp only [Act.put, List.setIfInBounds_toArray, List.set_cons_zero, List.set_cons_succ]
            refine wpAnyH_done (by kernel_rfl) ?_ _
            refine NoPanic.normal ?_
            go_wp2_with fail
            go_meet
            exact ⟨_, _, _, _, _, _, rfl, rfl, HT.out⟩
      · go_simp
        refine hK.out _ _ ?_ (fun hHeld => ?_)
        · first | (refine ⟨?_, ?_, ?_, ?_⟩ <;> first | assumption | (simp [*, World.cell?_alloc_some, World.cell?_setCell_far]; done))
        clear hK K
        have h' : Below w1.heap.size w1 (w1.alloc (.cells #[.slice none 0 0, .slice none 0 0] 24)) := below_alloc _ _
        have HLn := LabAt.new w1 (.slice none 0 0) (.slice none 0 0)
        obtain ⟨w2, hw⟩ : ∃ x, x = w1.alloc (.cells #[.slice none 0 0, .slice none 0 0] 24) := ⟨_, rfl⟩
        rw [← hw] at h' HLn hHeld ⊢
        clear hw
        obtain ⟨p5, hp⟩ : ∃ x, x = w1.heap.size := ⟨_, rfl⟩
        rw [← hp] at HLn ⊢
        have HG5 := hid (show W.heap.size ≤ p5 from by rw [hp]; exact HB.out.size)
        have HNE := hid (show p4 ≠ p5 from by have := HL4.out.lt; omega)
        clear hp
        have HBn := hid (HB.out.trans (h'.mono HB.out.size))
        clear HB
        have HB := HBn
        clear HBn c1 c2 c3 c4
        obtain ⟨c1, c2⟩ := HA1.out.below HB.out
        obtain ⟨c3, c4⟩ := HA2.out.below HB.out
        have HL4n := hid (HL4.out.below h' HL4.out.lt)
        clear HL4
        have HL4 := HL4n
        clear HL4n
        have HL5 := hid HLn
        clear HLn h'
        try simp only [Act.put, List.setIfInBounds_toArray, List.set_cons_zero, List.set_cons_succ]
        refine wpAnyH_ready (rs := [1]) (by kernel_rfl) (by simp) ?_
        refine AllReadyH.cons (o := { dst := some 19, op := Op.call { callee := Callee.value (Operand.func 8), args := #[Operand.tmp 18], argTypes := #[24] }, type := 24, pos := "law.go:43", after := #[{ on := 0, ground := Ground.data }], guard := none }) rfl (fun K hK => ?_) AllReadyH.nil
        · go_simp
          refine (Z1.out _ HB.out).mono ?_
          rintro e w3 ⟨v1, y1, rfl, hO, hP, h'⟩
          have HOn1 := hid (And.intro (owns_le hO HB.out.size) (owns_le hP HB.out.size))
          clear hO hP
          have HBn := hid (HB.out.trans (h'.mono HB.out.size))
          clear HB
          have HB := HBn
          clear HBn c1 c2 c3 c4
          obtain ⟨c1, c2⟩ := HA1.out.below HB.out
          obtain ⟨c3, c4⟩ := HA2.out.below HB.out
          have HL4n := hid (HL4.out.below h' HL4.out.lt)
          clear HL4
          have HL4 := HL4n
          clear HL4n
          have HL5n := hid (HL5.out.below h' HL5.out.lt)
          clear HL5
          have HL5 := HL5n
          clear HL5n
          have HO1 := HOn1
          clear HOn1 h'
          try go_wp2_with fail
          refine hK.out _ _ ?_ (fun hHeld => ?_)
          · first | (refine ⟨?_, ?_, ?_, ?_⟩ <;> first | assumption | (simp [*, World.cell?_alloc_some, World.cell?_setCell_far]; done))
          clear hK K
          try simp only [Act.put, List.setIfInBounds_toArray, List.set_cons_zero, List.set_cons_succ]
          refine wpAnyH_ready (rs := [3]) (by kernel_rfl) (by simp) ?_
          refine AllReadyH.cons (o := { dst := some 21, op := Op.call { callee := Callee.value (Operand.func 8), args := #[Operand.tmp 20], argTypes := #[24] }, type := 24, pos := "law.go:43", after := #[{ on := 2, ground := Ground.data }, { on := 1, ground := Ground.chain }], guard := none }) rfl (fun K hK => ?_) AllReadyH.nil
          · go_simp
            refine (Z2.out _ HB.out).mono ?_
            rintro e w4 ⟨v2, y2, rfl, hO, hP, h'⟩
            have HOn2 := hid (And.intro (owns_le hO HB.out.size) (owns_le hP HB.out.size))
            clear hO hP
            have HBn := hid (HB.out.trans (h'.mono HB.out.size))
            clear HB
            have HB := HBn
            clear HBn c1 c2 c3 c4
            obtain ⟨c1, c2⟩ := HA1.out.below HB.out
            obtain ⟨c3, c4⟩ := HA2.out.below HB.out
            have HO1n := hid (And.intro (HO1.out.1.below h') (HO1.out.2.below h'))
            clear HO1
            have HO1 := HO1n
            clear HO1n
            have HL4n := hid (HL4.out.below h' HL4.out.lt)
            clear HL4
            have HL4 := HL4n
            clear HL4n
            have HL5n := hid (HL5.out.below h' HL5.out.lt)
            clear HL5
            have HL5 := HL5n
            clear HL5n
            have HO2 := HOn2
            clear HOn2 h'
            try go_wp2_with fail
            refine hK.out _ _ ?_ (fun hHeld => ?_)
            · first | (refine ⟨?_, ?_, ?_, ?_⟩ <;> first | assumption | (simp [*, World.cell?_alloc_some, World.cell?_setCell_far]; done))
            clear hK K
            try simp only [Act.put, List.setIfInBounds_toArray, List.set_cons_zero, List.set_cons_succ]
            obtain ⟨e1, e2, e3, e4⟩ := HL4.out.cells
            obtain ⟨e5, e6, e7, e8⟩ := ((HL5.out.far (o := 0) (x := v1) (Ne.symm HNE.out)).far (o := 1) (x := y1) (Ne.symm HNE.out)).cells
            have g1 : p4 ≠ w.heap.size := by have := HG4.out; omega
            have g2 : p4 ≠ w.heap.size + 1 := by have := HG4.out; omega
            have g3 : p5 ≠ w.heap.size := by have := HG5.out; omega
            have g4 : p5 ≠ w.heap.size + 1 := by have := HG5.out; omega
            have HT := hid (two_labs HB.out HL4.out HL5.out HNE.out HG4.out HG5.out HO1.out.1 HO1.out.2 HO2.out.1 HO2.out.2)
            obtain ⟨am1, nm1, cm1, hm1⟩ := owns_slice HO1.out.1
            obtain ⟨am2, nm2, cm2, hm2⟩ := owns_slice HO1.out.2
            obtain ⟨am3, nm3, cm3, hm3⟩ := owns_slice HO2.out.1
            obtain ⟨am4, nm4, cm4, hm4⟩ := owns_slice HO2.out.2
            subst hm1
            subst hm2
            subst hm3
            subst hm4
            clear HL4 HL5 HO1 HO2 HG4 HG5 HNE HB
            refine wpAnyH_ready (rs := [6]) (by kernel_rfl) (by simp) ?_
            refine AllReadyH.cons (o := { dst := none, op := Op.store 24 (Operand.tmp 5) (Operand.tmp 19), type := 0, pos := "law.go:43", after := #[{ on := 4, ground := Ground.data }, { on := 1, ground := Ground.data }, { on := 3, ground := Ground.chain }, { on := 0, ground := Ground.phase }, { on := 1, ground := Ground.phase }, { on := 2, ground := Ground.textOnly Departure.lateStores }, { on := 3, ground := Ground.textOnly Departure.lateStoresUnsure }, { on := 4, ground := Ground.phase }, { on := 5, ground := Ground.phase }], guard := none }) rfl (fun K hK => ?_) AllReadyH.nil
            go_simp
            refine hK.out _ _ ?_ (fun hHeld => ?_)
            · exact ⟨far2 c1 g1, far2 c2 g1, far2 c3 g2, far2 c4 g2⟩
            clear hK K
            try simp only [Act.put, List.setIfInBounds_toArray, List.set_cons_zero, List.set_cons_succ]
            refine wpAnyH_ready (rs := [7]) (by kernel_rfl) (by simp) ?_
            refine AllReadyH.cons (o := { dst := none, op := Op.store 24 (Operand.tmp 6) (Operand.tmp 21), type := 0, pos := "law.go:43", after := #[{ on := 5, ground := Ground.data }, { on := 3, ground := Ground.data }, { on := 6, ground := Ground.chain }, { on := 0, ground := Ground.phase }, { on := 1, ground := Ground.phase }, { on := 2, ground := Ground.phase }, { on := 3, ground := Ground.phase }, { on := 4, ground := Ground.phase }, { on := 5, ground := Ground.phase }, { on := 6, ground := Ground.phase }], guard := none }) rfl (fun K hK => ?_) AllReadyH.nil
            go_simp
            refine hK.out _ _ ?_ (fun hHeld => ?_)
            · exact ⟨far2 (far2 c1 g1) g3, far2 (far2 c2 g1) g3, far2 (far2 c3 g2) g4, far2 (far2 c4 g2) g4⟩
            clear hK K
            try simp only [Act.put, List.setIfInBounds_toArray, List.set_cons_zero, List.set_cons_succ]
            refine wpAnyH_done (by kernel_rfl) ?_ _
            refine NoPanic.normal ?_
            go_wp2_with fail
            go_meet
            exact ⟨_, _, _, _, _, _, rfl, rfl, HT.out⟩
    · go_simp
      refine hK.out _ _ ?_ (fun hHeld => ?_)
      · first | (refine ⟨?_, ?_, ?_, ?_⟩ <;> first | assumption | (simp [*, World.cell?_alloc_some, World.cell?_setCell_far]; done))
      clear hK K
      have h' : Below w0.heap.size w0 (w0.alloc (.cells #[.slice none 0 0, .slice none 0 0] 24)) := below_alloc _ _
      have HLn := LabAt.new w0 (.slice none 0 0) (.slice none 0 0)
      obtain ⟨w1, hw⟩ : ∃ x, x = w0.alloc (.cells #[.slice none 0 0, .slice none 0 0] 24) := ⟨_, rfl⟩
      rw [← hw] at h' HLn hHeld ⊢
      clear hw
      obtain ⟨p5, hp⟩ : ∃ x, x = w0.heap.size := ⟨_, rfl⟩
      rw [← hp] at HLn ⊢
      have HG5 := hid (show W.heap.size ≤ p5 from by rw [hp]; exact HB.out.size)
      clear hp
      have HBn := hid (HB.out.trans (h'.mono HB.out.size))
      clear HB
      have HB := HBn
      clear HBn c1 c2 c3 c4
      obtain ⟨c1, c2⟩ := HA1.out.below HB.out
      obtain ⟨c3, c4⟩ := HA2.out.below HB.out
      have HL5 := hid HLn
      clear HLn h'
      try simp only [Act.put, List.setIfInBounds_toArray, List.set_cons_zero, List.set_cons_succ]
      refine wpAnyH_ready (rs := [1, 4]) (by kernel_rfl) (by simp) ?_
      refine AllReadyH.cons (o := { dst := some 19, op := Op.call { callee := Callee.value (Operand.func 8), args := #[Operand.tmp 18], argTypes := #[24] }, type := 24, pos := "law.go:43", after := #[{ on := 0, ground := Ground.data }], guard := none }) rfl (fun K hK => ?_) (AllReadyH.cons (o := { dst := some 5, op := Op.alloc 24, type := 0, pos := "law.go:43", after := #[], guard := none }) rfl (fun K hK => ?_) AllReadyH.nil)
      · go_simp
        refine (Z1.out _ HB.out).mono ?_
        rintro e w2 ⟨v1, y1, rfl, hO, hP, h'⟩
        have HOn1 := hid (And.intro (owns_le hO HB.out.size) (owns_le hP HB.out.size))
        clear hO hP
        have HBn := hid (HB.out.trans (h'.mono HB.out.size))
        clear HB
        have HB := HBn
        clear HBn c1 c2 c3 c4
        obtain ⟨c1, c2⟩ := HA1.out.below HB.out
        obtain ⟨c3, c4⟩ := HA2.out.below HB.out
        have HL5n := hid (HL5.out.below h' HL5.out.lt)
        clear HL5
        have HL5 := HL5n
        clear HL5n
        have HO1 := HOn1
        clear HOn1 h'
        try go_wp2_with fail
        refine hK.out _ _ ?_ (fun hHeld => ?_)
        · first | (refine ⟨?_, ?_, ?_, ?_⟩ <;> first | assumption | (simp [*, World.cell?_alloc_some, World.cell?_setCell_far]; done))
        clear hK K
        try simp only [Act.put, List.setIfInBounds_toArray, List.set_cons_zero, List.set_cons_succ]
        refine wpAnyH_ready (rs := [3, 4]) (by kernel_rfl) (by simp) ?_
        refine AllReadyH.cons (o := { dst := some 21, op := Op.call { callee := Callee.value (Operand.func 8), args := #[Operand.tmp 20], argTypes := #[24] }, type := 24, pos := "law.go:43", after := #[{ on := 2, ground := Ground.data }, { on := 1, ground := Ground.chain }], guard := none }) rfl (fun K hK => ?_) (AllReadyH.cons (o := { dst := some 5, op := Op.alloc 24, type := 0, pos := "law.go:43", after := #[], guard := none }) rfl (fun K hK => ?_) AllReadyH.nil)
        · go_simp
          refine (Z2.out _ HB.out).mono ?_
          rintro e w3 ⟨v2, y2, rfl, hO, hP, h'⟩
          have HOn2 := hid (And.intro (owns_le hO HB.out.size) (owns_le hP HB.out.size))
          clear hO hP
          have HBn := hid (HB.out.trans (h'.mono HB.out.size))
          clear HB
          have HB := HBn
          clear HBn c1 c2 c3 c4
          obtain ⟨c1, c2⟩ := HA1.out.below HB.out
          obtain ⟨c3, c4⟩ := HA2.out.below HB.out
          have HO1n := hid (And.intro (HO1.out.1.below h') (HO1.out.2.below h'))
          clear HO1
          have HO1 := HO1n
          clear HO1n
          have HL5n := hid (HL5.out.below h' HL5.out.lt)
          clear HL5
          have HL5 := HL5n
          clear HL5n
          have HO2 := HOn2
          clear HOn2 h'
          try go_wp2_with fail
          refine hK.out _ _ ?_ (fun hHeld => ?_)
          · first | (refine ⟨?_, ?_, ?_, ?_⟩ <;> first | assumption | (simp [*, World.cell?_alloc_some, World.cell?_setCell_far]; done))
          clear hK K
          try simp only [Act.put, List.setIfInBounds_toArray, List.set_cons_zero, List.set_cons_succ]
          refine wpAnyH_ready (rs := [4]) (by kernel_rfl) (by simp) ?_
          refine AllReadyH.cons (o := { dst := some 5, op := Op.alloc 24, type := 0, pos := "law.go:43", after := #[], guard := none }) rfl (fun K hK => ?_) AllReadyH.nil
          · go_simp
            refine hK.out _ _ ?_ (fun hHeld => ?_)
            · first | (refine ⟨?_, ?_, ?_, ?_⟩ <;> first | assumption | (simp [*, World.cell?_alloc_some, World.cell?_setCell_far]; done))
            clear hK K
            have h' : Below w3.heap.size w3 (w3.alloc (.cells #[.slice none 0 0, .slice none 0 0] 24)) := below_alloc _ _
            have HLn := LabAt.new w3 (.slice none 0 0) (.slice none 0 0)
            obtain ⟨w4, hw⟩ : ∃ x, x = w3.alloc (.cells #[.slice none 0 0, .slice none 0 0] 24) := ⟨_, rfl⟩
            rw [← hw] at h' HLn hHeld ⊢
            clear hw
            obtain ⟨p4, hp⟩ : ∃ x, x = w3.heap.size := ⟨_, rfl⟩
            rw [← hp] at HLn ⊢
            have HG4 := hid (show W.heap.size ≤ p4 from by rw [hp]; exact HB.out.size)
            have HNE := hid (show p4 ≠ p5 from by have := HL5.out.lt; omega)
            clear hp
            have HBn := hid (HB.out.trans (h'.mono HB.out.size))
            clear HB
            have HB := HBn
            clear HBn c1 c2 c3 c4
            obtain ⟨c1, c2⟩ := HA1.out.below HB.out
            obtain ⟨c3, c4⟩ := HA2.out.below HB.out
            have HO1n := hid (And.intro (HO1.out.1.below h') (HO1.out.2.below h'))
            clear HO1
            have HO1 := HO1n
            clear HO1n
            have HO2n := hid (And.intro (HO2.out.1.below h') (HO2.out.2.below h'))
            clear HO2
            have HO2 := HO2n
            clear HO2n
            have HL5n := hid (HL5.out.below h' HL5.out.lt)
            clear HL5
            have HL5 := HL5n
            clear HL5n
            have HL4 := hid HLn
            clear HLn h'
            try simp only [Act.put, List.setIfInBounds_toArray, List.set_cons_zero, List.set_cons_succ]
            obtain ⟨e1, e2, e3, e4⟩ := HL4.out.cells
            obtain ⟨e5, e6, e7, e8⟩ := ((HL5.out.far (o := 0) (x := v1) (Ne.symm HNE.out)).far (o := 1) (x := y1) (Ne.symm HNE.out)).cells
            have g1 : p4 ≠ w.heap.size := by have := HG4.out; omega
            have g2 : p4 ≠ w.heap.size + 1 := by have := HG4.out; omega
            have g3 : p5 ≠ w.heap.size := by have := HG5.out; omega
            have g4 : p5 ≠ w.heap.size + 1 := by have := HG5.out; omega
            have HT := hid (two_labs HB.out HL4.out HL5.out HNE.out HG4.out HG5.out HO1.out.1 HO1.out.2 HO2.out.1 HO2.out.2)
            obtain ⟨am1, nm1, cm1, hm1⟩ := owns_slice HO1.out.1
            obtain ⟨am2, nm2, cm2, hm2⟩ := owns_slice HO1.out.2
            obtain ⟨am3, nm3, cm3, hm3⟩ := owns_slice HO2.out.1
            obtain ⟨am4, nm4, cm4, hm4⟩ := owns_slice HO2.out.2
            subst hm1
            subst hm2
            subst hm3
            subst hm4
            clear HL4 HL5 HO1 HO2 HG4 HG5 HNE HB
            refine wpAnyH_ready (rs := [6]) (by kernel_rfl) (by simp) ?_
            refine AllReadyH.cons (o := { dst := none, op := Op.store 24 (Operand.tmp 5) (Operand.tmp 19), type := 0, pos := "law.go:43", after := #[{ on := 4, ground := Ground.data }, { on := 1, ground := Ground.data }, { on := 3, ground := Ground.chain }, { on := 0, ground := Ground.phase }, { on := 1, ground := Ground.phase }, { on := 2, ground := Ground.textOnly Departure.lateStores }, { on := 3, ground := Ground.textOnly Departure.lateStoresUnsure }, { on := 4, ground := Ground.phase }, { on := 5, ground := Ground.phase }], guard := none }) rfl (fun K hK => ?_) AllReadyH.nil
            go_simp
            refine hK.out _ _ ?_ (fun hHeld => ?_)
            · exact ⟨far2 c1 g1, far2 c2 g1, far2 c3 g2, far2 c4 g2⟩
            clear hK K
            try simp only [Act.put, List.setIfInBounds_toArray, List.set_cons_zero, List.set_cons_succ]
            refine wpAnyH_ready (rs := [7]) (by kernel_rfl) (by simp) ?_
            refine AllReadyH.cons (o := { dst := none, op := Op.store 24 (Operand.tmp 6) (Operand.tmp 21), type := 0, pos := "law.go:43", after := #[{ on := 5, ground := Ground.data }, { on := 3, ground := Ground.data }, { on := 6, ground := Ground.chain }, { on := 0, ground := Ground.phase }, { on := 1, ground := Ground.phase }, { on := 2, ground := Ground.phase }, { on := 3, ground := Ground.phase }, { on := 4, ground := Ground.phase }, { on := 5, ground := Ground.phase }, { on := 6, ground := Ground.phase }], guard := none }) rfl (fun K hK => ?_) AllReadyH.nil
            go_simp
            refine hK.out _ _ ?_ (fun hHeld => ?_)
            · exact ⟨far2 (far2 c1 g1) g3, far2 (far2 c2 g1) g3, far2 (far2 c3 g2) g4, far2 (far2 c4 g2) g4⟩
            clear hK K
            try simp only [Act.put, List.setIfInBounds_toArray, List.set_cons_zero, List.set_cons_succ]
            refine wpAnyH_done (by kernel_rfl) ?_ _
            refine NoPanic.normal ?_
            go_wp2_with fail
            go_meet
            exact ⟨_, _, _, _, _, _, rfl, rfl, HT.out⟩
        · go_simp
          refine hK.out _ _ ?_ (fun hHeld => ?_)
          · first | (refine ⟨?_, ?_, ?_, ?_⟩ <;> first | assumption | (simp [*, World.cell?_alloc_some, World.cell?_setCell_far]; done))
          clear hK K
          have h' : Below w2.heap.size w2 (w2.alloc (.cells #[.slice none 0 0, .slice none 0 0] 24)) := below_alloc _ _
          have HLn := LabAt.new w2 (.slice none 0 0) (.slice none 0 0)
          obtain ⟨w3, hw⟩ : ∃ x, x = w2.alloc (.cells #[.slice none 0 0, .slice none 0 0] 24) := ⟨_, rfl⟩
          rw [← hw] at h' HLn hHeld ⊢
          clear hw
          obtain ⟨p4, hp⟩ : ∃ x, x = w2.heap.size := ⟨_, rfl⟩
          rw [← hp] at HLn ⊢
          have HG4 := hid (show W.heap.size ≤ p4 from by rw [hp]; exact HB.out.size)
          have HNE := hid (show p4 ≠ p5 from by have := HL5.out.lt; omega)
          clear hp
          have HBn := hid (HB.out.trans (h'.mono HB.out.size))
          clear HB
          have HB := HBn
          clear HBn c1 c2 c3 c4
          obtain ⟨c1, c2⟩ := HA1.out.below HB.out
          obtain ⟨c3, c4⟩ := HA2.out.below HB.out
          have HO1n := hid (And.intro (HO1.out.1.below h') (HO1.out.2.below h'))
          clear HO1
          have HO1 := HO1n
          clear HO1n
          have HL5n := hid (HL5.out.below h' HL5.out.lt)
          clear HL5
          have HL5 := HL5n
          clear HL5n
          have HL4 := hid HLn
          clear HLn h'
          try simp only [Act.put, List.setIfInBounds_toArray, List.set_cons_zero, List.set_cons_succ]
          refine wpAnyH_ready (rs := [3]) (by kernel_rfl) (by simp) ?_
          refine AllReadyH.cons (o := { dst := some 21, op := Op.call { callee := Callee.value (Operand.func 8), args := #[Operand.tmp 20], argTypes := #[24] }, type := 24, pos := "law.go:43", after := #[{ on := 2, ground := Ground.data }, { on := 1, ground := Ground.chain }], guard := none }) rfl (fun K hK => ?_) AllReadyH.nil
          · go_simp
            refine (Z2.out _ HB.out).mono ?_
            rintro e w4 ⟨v2, y2, rfl, hO, hP, h'⟩
            have HOn2 := hid (And.intro (owns_le hO HB.out.size) (owns_le hP HB.out.size))
            clear hO hP
            have HBn := hid (HB.out.trans (h'.mono HB.out.size))
            clear HB
            have HB := HBn
            clear HBn c1 c2 c3 c4
            obtain ⟨c1, c2⟩ := HA1.out.below HB.out
            obtain ⟨c3, c4⟩ := HA2.out.below HB.out
            have HO1n := hid (And.intro (HO1.out.1.below h') (HO1.out.2.below h'))
            clear HO1
            have HO1 := HO1n
            clear HO1n
            have HL4n := hid (HL4.out.below h' HL4.out.lt)
            clear HL4
            have HL4 := HL4n
            clear HL4n
            have HL5n := hid (HL5.out.below h' HL5.out.lt)
            clear HL5
            have HL5 := HL5n
            clear HL5n
            have HO2 := HOn2
            clear HOn2 h'
            try go_wp2_with fail
            refine hK.out _ _ ?_ (fun hHeld => ?_)
            · first | (refine ⟨?_, ?_, ?_, ?_⟩ <;> first | assumption | (simp [*, World.cell?_alloc_some, World.cell?_setCell_far]; done))
            clear hK K
            try simp only [Act.put, List.setIfInBounds_toArray, List.set_cons_zero, List.set_cons_succ]
            obtain ⟨e1, e2, e3, e4⟩ := HL4.out.cells
            obtain ⟨e5, e6, e7, e8⟩ := ((HL5.out.far (o := 0) (x := v1) (Ne.symm HNE.out)).far (o := 1) (x := y1) (Ne.symm HNE.out)).cells
            have g1 : p4 ≠ w.heap.size := by have := HG4.out; omega
            have g2 : p4 ≠ w.heap.size + 1 := by have := HG4.out; omega
            have g3 : p5 ≠ w.heap.size := by have := HG5.out; omega
            have g4 : p5 ≠ w.heap.size + 1 := by have := HG5.out; omega
            have HT := hid (two_labs HB.out HL4.out HL5.out HNE.out HG4.out HG5.out HO1.out.1 HO1.out.2 HO2.out.1 HO2.out.2)
            obtain ⟨am1, nm1, cm1, hm1⟩ := owns_slice HO1.out.1
            obtain ⟨am2, nm2, cm2, hm2⟩ := owns_slice HO1.out.2
            obtain ⟨am3, nm3, cm3, hm3⟩ := owns_slice HO2.out.1
            obtain ⟨am4, nm4, cm4, hm4⟩ := owns_slice HO2.out.2
            subst hm1
            subst hm2
            subst hm3
            subst hm4
            clear HL4 HL5 HO1 HO2 HG4 HG5 HNE HB
            refine wpAnyH_ready (rs := [6]) (by kernel_rfl) (by simp) ?_
            refine AllReadyH.cons (o := { dst := none, op := Op.store 24 (Operand.tmp 5) (Operand.tmp 19), type := 0, pos := "law.go:43", after := #[{ on := 4, ground := Ground.data }, { on := 1, ground := Ground.data }, { on := 3, ground := Ground.chain }, { on := 0, ground := Ground.phase }, { on := 1, ground := Ground.phase }, { on := 2, ground := Ground.textOnly Departure.lateStores }, { on := 3, ground := Ground.textOnly Departure.lateStoresUnsure }, { on := 4, ground := Ground.phase }, { on := 5, ground := Ground.phase }], guard := none }) rfl (fun K hK => ?_) AllReadyH.nil
            go_simp
            refine hK.out _ _ ?_ (fun hHeld => ?_)
            · exact ⟨far2 c1 g1, far2 c2 g1, far2 c3 g2, far2 c4 g2⟩
            clear hK K
            try simp only [Act.put, List.setIfInBounds_toArray, List.set_cons_zero, List.set_cons_succ]
            refine wpAnyH_ready (rs := [7]) (by kernel_rfl) (by simp) ?_
            refine AllReadyH.cons (o := { dst := none, op := Op.store 24 (Operand.tmp 6) (Operand.tmp 21), type := 0, pos := "law.go:43", after := #[{ on := 5, ground := Ground.data }, { on := 3, ground := Ground.data }, { on := 6, ground := Ground.chain }, { on := 0, ground := Ground.phase }, { on := 1, ground := Ground.phase }, { on := 2, ground := Ground.phase }, { on := 3, ground := Ground.phase }, { on := 4, ground := Ground.phase }, { on := 5, ground := Ground.phase }, { on := 6, ground := Ground.phase }], guard := none }) rfl (fun K hK => ?_) AllReadyH.nil
            go_simp
            refine hK.out _ _ ?_ (fun hHeld => ?_)
            · exact ⟨far2 (far2 c1 g1) g3, far2 (far2 c2 g1) g3, far2 (far2 c3 g2) g4, far2 (far2 c4 g2) g4⟩
            clear hK K
            try simp only [Act.put, List.setIfInBounds_toArray, List.set_cons_zero, List.set_cons_succ]
            refine wpAnyH_done (by kernel_rfl) ?_ _
            refine NoPanic.normal ?_
            go_wp2_with fail
            go_meet
            exact ⟨_, _, _, _, _, _, rfl, rfl, HT.out⟩
      · go_simp
        refine hK.out _ _ ?_ (fun hHeld => ?_)
        · first | (refine ⟨?_, ?_, ?_, ?_⟩ <;> first | assumption | (simp [*, World.cell?_alloc_some, World.cell?_setCell_far]; done))
        clear hK K
        have h' : Below w1.heap.size w1 (w1.alloc (.cells #[.slice none 0 0, .slice none 0 0] 24)) := below_alloc _ _
        have HLn := LabAt.new w1 (.slice none 0 0) (.slice none 0 0)
        obtain ⟨w2, hw⟩ : ∃ x, x = w1.alloc (.cells #[.slice none 0 0, .slice none 0 0] 24) := ⟨_, rfl⟩
        rw [← hw] at h' HLn hHeld ⊢
        clear hw
        obtain ⟨p4, hp⟩ : ∃ x, x = w1.heap.size := ⟨_, rfl⟩
        rw [← hp] at HLn ⊢
        have HG4 := hid (show W.heap.size ≤ p4 from by rw [hp]; exact HB.out.size)
        have HNE := hid (show p4 ≠ p5 from by have := HL5.out.lt; omega)
        clear hp
        have HBn := hid (HB.out.trans (h'.mono HB.out.size))
        clear HB
        have HB := HBn
        clear HBn c1 c2 c3 c4
        obtain ⟨c1, c2⟩ := HA1.out.below HB.out
        obtain ⟨c3, c4⟩ := HA2.out.below HB.out
        have HL5n := hid (HL5.out.below h' HL5.out.lt)
        clear HL5
        have HL5 := HL5n
        clear HL5n
        have HL4 := hid HLn
        clear HLn h'
        try simp only [Act.put, List.setIfInBounds_toArray, List.set_cons_zero, List.set_cons_succ]
        refine wpAnyH_ready (rs := [1]) (by kernel_rfl) (by simp) ?_
        refine AllReadyH.cons (o := { dst := some 19, op := Op.call { callee := Callee.value (Operand.func 8), args := #[Operand.tmp 18], argTypes := #[24] }, type := 24, pos := "law.go:43", after := #[{ on := 0, ground := Ground.data }], guard := none }) rfl (fun K hK => ?_) AllReadyH.nil
        · go_simp
          refine (Z1.out _ HB.out).mono ?_
          rintro e w3 ⟨v1, y1, rfl, hO, hP, h'⟩
          have HOn1 := hid (And.intro (owns_le hO HB.out.size) (owns_le hP HB.out.size))
          clear hO hP
          have HBn := hid (HB.out.trans (h'.mono HB.out.size))
          clear HB
          have HB := HBn
          clear HBn c1 c2 c3 c4
          obtain ⟨c1, c2⟩ := HA1.out.below HB.out
          obtain ⟨c3, c4⟩ := HA2.out.below HB.out
          have HL4n := hid (HL4.out.below h' HL4.out.lt)
          clear HL4
          have HL4 := HL4n
          clear HL4n
          have HL5n := hid (HL5.out.below h' HL5.out.lt)
          clear HL5
          have HL5 := HL5n
          clear HL5n
          have HO1 := HOn1
          clear HOn1 h'
          try go_wp2_with fail
          refine hK.out _ _ ?_ (fun hHeld => ?_)
          · first | (refine ⟨?_, ?_, ?_, ?_⟩ <;> first | assumption | (simp [*, World.cell?_alloc_some, World.cell?_setCell_far]; done))
          clear hK K
          try simp only [Act.put, List.setIfInBounds_toArray, List.set_cons_zero, List.set_cons_succ]
          refine wpAnyH_ready (rs := [3]) (by kernel_rfl) (by simp) ?_
          refine AllReadyH.cons (o := { dst := some 21, op := Op.call { callee := Callee.value (Operand.func 8), args := #[Operand.tmp 20], argTypes := #[24] }, type := 24, pos := "law.go:43", after := #[{ on := 2, ground := Ground.data }, { on := 1, ground := Ground.chain }], guard := none }) rfl (fun K hK => ?_) AllReadyH.nil
          · go_simp
            refine (Z2.out _ HB.out).mono ?_
            rintro e w4 ⟨v2, y2, rfl, hO, hP, h'⟩
            have HOn2 := hid (And.intro (owns_le hO HB.out.size) (owns_le hP HB.out.size))
            clear hO hP
            have HBn := hid (HB.out.trans (h'.mono HB.out.size))
            clear HB
            have HB := HBn
            clear HBn c1 c2 c3 c4
            obtain ⟨c1, c2⟩ := HA1.out.below HB.out
            obtain ⟨c3, c4⟩ := HA2.out.below HB.out
            have HO1n := hid (And.intro (HO1.out.1.below h') (HO1.out.2.below h'))
            clear HO1
            have HO1 := HO1n
            clear HO1n
            have HL4n := hid (HL4.out.below h' HL4.out.lt)
            clear HL4
            have HL4 := HL4n
            clear HL4n
            have HL5n := hid (HL5.out.below h' HL5.out.lt)
            clear HL5
            have HL5 := HL5n
            clear HL5n
            have HO2 := HOn2
            clear HOn2 h'
            try go_wp2_with fail
            refine hK.out _ _ ?_ (fun hHeld => ?_)
            · first | (refine ⟨?_, ?_, ?_, ?_⟩ <;> first | assumption | (simp [*, World.cell?_alloc_some, World.cell?_setCell_far]; done))
            clear hK K
            try simp only [Act.put, List.setIfInBounds_toArray, List.set_cons_zero, List.set_cons_succ]
            obtain ⟨e1, e2, e3, e4⟩ := HL4.out.cells
            obtain ⟨e5, e6, e7, e8⟩ := ((HL5.out.far (o := 0) (x := v1) (Ne.symm HNE.out)).far (o := 1) (x := y1) (Ne.symm HNE.out)).cells
            have g1 : p4 ≠ w.heap.size := by have := HG4.out; omega
            have g2 : p4 ≠ w.heap.size + 1 := by have := HG4.out; omega
            have g3 : p5 ≠ w.heap.size := by have := HG5.out; omega
            have g4 : p5 ≠ w.heap.size + 1 := by have := HG5.out; omega
            have HT := hid (two_labs HB.out HL4.out HL5.out HNE.out HG4.out HG5.out HO1.out.1 HO1.out.2 HO2.out.1 HO2.out.2)
            obtain ⟨am1, nm1, cm1, hm1⟩ := owns_slice HO1.out.1
            obtain ⟨am2, nm2, cm2, hm2⟩ := owns_slice HO1.out.2
            obtain ⟨am3, nm3, cm3, hm3⟩ := owns_slice HO2.out.1
            obtain ⟨am4, nm4, cm4, hm4⟩ := owns_slice HO2.out.2
            subst hm1
            subst hm2
            subst hm3
            subst hm4
            clear HL4 HL5 HO1 HO2 HG4 HG5 HNE HB
            refine wpAnyH_ready (rs := [6]) (by kernel_rfl) (by simp) ?_
            refine AllReadyH.cons (o := { dst := none, op := Op.store 24 (Operand.tmp 5) (Operand.tmp 19), type := 0, pos := "law.go:43", after := #[{ on := 4, ground := Ground.data }, { on := 1, ground := Ground.data }, { on := 3, ground := Ground.chain }, { on := 0, ground := Ground.phase }, { on := 1, ground := Ground.phase }, { on := 2, ground := Ground.textOnly Departure.lateStores }, { on := 3, ground := Ground.textOnly Departure.lateStoresUnsure }, { on := 4, ground := Ground.phase }, { on := 5, ground := Ground.phase }], guard := none }) rfl (fun K hK => ?_) AllReadyH.nil
            go_simp
            refine hK.out _ _ ?_ (fun hHeld => ?_)
            · exact ⟨far2 c1 g1, far2 c2 g1, far2 c3 g2, far2 c4 g2⟩
            clear hK K
            try simp only [Act.put, List.setIfInBounds_toArray, List.set_cons_zero, List.set_cons_succ]
            refine wpAnyH_ready (rs := [7]) (by kernel_rfl) (by simp) ?_
            refine AllReadyH.cons (o := { dst := none, op := Op.store 24 (Operand.tmp 6) (Operand.tmp 21), type := 0, pos := "law.go:43", after := #[{ on := 5, ground := Ground.data }, { on := 3, ground := Ground.data }, { on := 6, ground := Ground.chain }, { on := 0, ground := Ground.phase }, { on := 1, ground := Ground.phase }, { on := 2, ground := Ground.phase }, { on := 3, ground := Ground.phase }, { on := 4, ground := Ground.phase }, { on := 5, ground := Ground.phase }, { on := 6, ground := Ground.phase }], guard := none }) rfl (fun K hK => ?_) AllReadyH.nil
            go_simp
            refine hK.out _ _ ?_ (fun hHeld => ?_)
            · exact ⟨far2 (far2 c1 g1) g3, far2 (far2 c2 g1) g3, far2 (far2 c3 g2) g4, far2 (far2 c4 g2) g4⟩
            clear hK K
            try simp only [Act.put, List.setIfInBounds_toArray, List.set_cons_zero, List.set_cons_succ]
            refine wpAnyH_done (by kernel_rfl) ?_ _
            refine NoPanic.normal ?_
            go_wp2_with fail
            go_meet
            exact ⟨_, _, _, _, _, _, rfl, rfl, HT.out⟩
  case rest =>
    obtain ⟨p, q, v1, y1, v2, y2, rfl, rfl, hT⟩ := hcut
    have sC : SeesL wc (.agg #[v1, y1]) s i := ⟨v1, y1, rfl, hT.os.sees, hT.oi.sees, by omega, by omega⟩
    have sD : SeesL wc (.agg #[v2, y2]) t j := ⟨v2, y2, rfl, hT.ot.sees, hT.oj.sees, by omega, by omega⟩
    have sA := HD1.out.below hT.bel
    have sB := HD2.out.below hT.bel
    have F1 := hid (fun w1 (h : Below wc.heap.size wc w1) => lJoin_any _ _ s i t j w1 (sC.below h) (sD.below h))
    have F2 := hid (fun w1 (h : Below wc.heap.size wc w1) => rJoin_any _ _ s i t j w1 (sA.below h) (sB.below h))
    have F3 := hid (fun w1 (h : Below wc.heap.size wc w1) => lMeet_any _ _ s i t j w1 (sC.below h) (sD.below h))
    have F4 := hid (fun w1 (h : Below wc.heap.size wc w1) => rMeet_any _ _ s i t j w1 (sA.below h) (sB.below h))
    have F8 := hid (fun w1 (h : Below wc.heap.size wc w1) => alike_any _ _ s i s i w1 (sC.below h) (sA.below h))
    have F9 := hid (fun w1 (h : Below wc.heap.size wc w1) => alike_any _ _ t j t j w1 (sD.below h) (sB.below h))
    rw [show alikeB s i s i = true by simp [alikeB]] at F8
    rw [show alikeB t j t j = true by simp [alikeB]] at F9
    have l1 := mixL_p (mayB s i && mayB t j) (sd (s ++ t)) (meetL i j)
    have l2 := mixL_q (mayB s i && mayB t j) (sd (s ++ t)) (meetL i j)
    have l3 := mixL_p (mayB s i && mayB t j) (meetL s t) (sd (i ++ j))
    have l4 := mixL_q (mayB s i && mayB t j) (meetL s t) (sd (i ++ j))
    obtain ⟨JE, hJE⟩ : ∃ E, E = mixE (mayB s i && mayB t j) (sd (s ++ t)) (meetL i j) := ⟨_, rfl⟩
    obtain ⟨JS, hJS⟩ : ∃ X, X = mixL (mayB s i && mayB t j) (sd (s ++ t)) (meetL i j) (sd (s ++ t)) := ⟨_, rfl⟩
    obtain ⟨JI, hJI⟩ : ∃ X, X = mixL (mayB s i && mayB t j) (sd (s ++ t)) (meetL i j) (meetL i j) := ⟨_, rfl⟩
    obtain ⟨ME, hME⟩ : ∃ E, E = mixE (mayB s i && mayB t j) (meetL s t) (sd (i ++ j)) := ⟨_, rfl⟩
    obtain ⟨MS, hMS⟩ : ∃ X, X = mixL (mayB s i && mayB t j) (meetL s t) (sd (i ++ j)) (meetL s t) := ⟨_, rfl⟩
    obtain ⟨MI, hMI⟩ : ∃ X, X = mixL (mayB s i && mayB t j) (meetL s t) (sd (i ++ j)) (sd (i ++ j)) := ⟨_, rfl⟩
    rw [← hJE, ← hJS, ← hJI] at F1 F2
    rw [← hME, ← hMS, ← hMI] at F3 F4
    rw [← hJS] at l1
    rw [← hJI] at l2
    rw [← hMS] at l3
    rw [← hMI] at l4
    have HA1c := hid (HA1.out.below hT.bel)
    have HA2c := hid (HA2.out.below hT.bel)
    have HCc := hid hT.lab1
    have HDc := hid hT.lab2
    have HZc := hid (HZ.out.trans (hT.bel.mono HZ.out.size))
    have hAlo : w.heap.size + 1 < wc.heap.size := by have := hT.bel.size; omega
    have hplt := hT.lab1.lt
    have hqlt := hT.lab2.lt
    clear hT sC sD sA sB HD1 HD2 HA1 HA2 Z1 Z2 HB c1 c2 c3 c4 HZ hszW hsz hJE hJS hJI hME hMS hMI n1 n2 n3 n4
    have HC := hid (Below.refl wc.heap.size wc)
    obtain ⟨c1, c2⟩ := HA1c.out.below HC.out
    obtain ⟨c3, c4⟩ := HA2c.out.below HC.out
    obtain ⟨k1, k2, k3, k4⟩ := (HCc.out.below HC.out HCc.out.lt).cells
    obtain ⟨k5, k6, k7, k8⟩ := (HDc.out.below HC.out HDc.out.lt).cells
    go_wp2_with fail
    refine (F1.out _ HC.out).mono ?_
    rintro e w2 ⟨ja, jb, rfl, qa, qb, h'⟩
    clear F1
    obtain ⟨jao, jac, hva⟩ := Owns.form qa
    obtain ⟨jbo, jbc, hvb⟩ := Owns.form qb
    subst hva
    subst hvb
    clear c1 c2 c3 c4 k1 k2 k3 k4 k5 k6 k7 k8
    have hsw2 := h'.size
    try simp at hsw2
    have HGj := hid (fun g e => (World.ownsRow.lt qa g e).2)
    have hbase := HC.out.size
    have HCn := hid (HC.out.trans (h'.mono HC.out.size))
    clear HC h'
    have HC := HCn
    clear HCn
    have h' := below_alloc w2 (.cells #[.slice jao JS.length jac, .slice jbo JI.length jbc] 24)
    have HJ := hid (labO_new (owns_le qa (Nat.le_refl _)) (owns_le qb (Nat.le_refl _)))
    have HCn := hid (HC.out.trans (h'.mono HC.out.size))
    clear HC h'
    have HC := HCn
    clear HCn
    obtain ⟨c1, c2⟩ := HA1c.out.below HC.out
    obtain ⟨c3, c4⟩ := HA2c.out.below HC.out
    obtain ⟨k1, k2, k3, k4⟩ := (HCc.out.below HC.out HCc.out.lt).cells
    obtain ⟨k5, k6, k7, k8⟩ := (HDc.out.below HC.out HDc.out.lt).cells
    clear qa qb hbase
    go_wp2_with fail
    refine (F2.out _ HC.out).mono ?_
    rintro e w3 ⟨ka, kb, rfl, qa, qb, h'⟩
    clear F2
    obtain ⟨kao, kac, hva⟩ := Owns.form qa
    obtain ⟨kbo, kbc, hvb⟩ := Owns.form qb
    subst hva
    subst hvb
    clear c1 c2 c3 c4 k1 k2 k3 k4 k5 k6 k7 k8
    have hsw3 := h'.size
    try simp at hsw3
    have hbase := HC.out.size
    have HJn := hid (HJ.out.below h')
    clear HJ
    have HJ := HJn
    clear HJn
    have HCn := hid (HC.out.trans (h'.mono HC.out.size))
    clear HC h'
    have HC := HCn
    clear HCn
    have h' := below_alloc w3 (.cells #[.slice kao JS.length kac, .slice kbo JI.length kbc] 24)
    have HK := hid (labO_new (owns_le qa hbase) (owns_le qb hbase))
    have HJn := hid (HJ.out.below h')
    clear HJ
    have HJ := HJn
    clear HJn
    have HCn := hid (HC.out.trans (h'.mono HC.out.size))
    clear HC h'
    have HC := HCn
    clear HCn
    obtain ⟨c1, c2⟩ := HA1c.out.below HC.out
    obtain ⟨c3, c4⟩ := HA2c.out.below HC.out
    obtain ⟨k1, k2, k3, k4⟩ := (HCc.out.below HC.out HCc.out.lt).cells
    obtain ⟨k5, k6, k7, k8⟩ := (HDc.out.below HC.out HDc.out.lt).cells
    clear qa qb hbase
    go_wp2_with fail
    refine (F3.out _ HC.out).mono ?_
    rintro e w4 ⟨ma, mb, rfl, qa, qb, h'⟩
    clear F3
    obtain ⟨mao, mac, hva⟩ := Owns.form qa
    obtain ⟨mbo, mbc, hvb⟩ := Owns.form qb
    subst hva
    subst hvb
    clear c1 c2 c3 c4 k1 k2 k3 k4 k5 k6 k7 k8
    have hsw4 := h'.size
    try simp at hsw4
    have hbase := HC.out.size
    have HJn := hid (HJ.out.below h')
    clear HJ
    have HJ := HJn
    clear HJn
    have HKn := hid (HK.out.below h')
    clear HK
    have HK := HKn
    clear HKn
    have HCn := hid (HC.out.trans (h'.mono HC.out.size))
    clear HC h'
    have HC := HCn
    clear HCn
    have h' := below_alloc w4 (.cells #[.slice mao MS.length mac, .slice mbo MI.length mbc] 24)
    have HM := hid (labO_new (owns_le qa (Nat.le_refl _)) (owns_le qb (Nat.le_refl _)))
    have HJn := hid (HJ.out.below h')
    clear HJ
    have HJ := HJn
    clear HJn
    have HKn := hid (HK.out.below h')
    clear HK
    have HK := HKn
    clear HKn
    have HCn := hid (HC.out.trans (h'.mono HC.out.size))
    clear HC h'
    have HC := HCn
    clear HCn
    obtain ⟨c1, c2⟩ := HA1c.out.below HC.out
    obtain ⟨c3, c4⟩ := HA2c.out.below HC.out
    obtain ⟨k1, k2, k3, k4⟩ := (HCc.out.below HC.out HCc.out.lt).cells
    obtain ⟨k5, k6, k7, k8⟩ := (HDc.out.below HC.out HDc.out.lt).cells
    clear qa qb hbase
    go_wp2_with fail
    refine (F4.out _ HC.out).mono ?_
    rintro e w5 ⟨na, nb, rfl, qa, qb, h'⟩
    clear F4
    obtain ⟨nao, nac, hva⟩ := Owns.form qa
    obtain ⟨nbo, nbc, hvb⟩ := Owns.form qb
    subst hva
    subst hvb
    clear c1 c2 c3 c4 k1 k2 k3 k4 k5 k6 k7 k8
    have hsw5 := h'.size
    try simp at hsw5
    have hbase := HC.out.size
    have HJn := hid (HJ.out.below h')
    clear HJ
    have HJ := HJn
    clear HJn
    have HKn := hid (HK.out.below h')
    clear HK
    have HK := HKn
    clear HKn
    have HMn := hid (HM.out.below h')
    clear HM
    have HM := HMn
    clear HMn
    have HCn := hid (HC.out.trans (h'.mono HC.out.size))
    clear HC h'
    have HC := HCn
    clear HCn
    have h' := below_alloc w5 (.cells #[.slice nao MS.length nac, .slice nbo MI.length nbc] 24)
    have HN := hid (labO_new (owns_le qa hbase) (owns_le qb hbase))
    have HJn := hid (HJ.out.below h')
    clear HJ
    have HJ := HJn
    clear HJn
    have HKn := hid (HK.out.below h')
    clear HK
    have HK := HKn
    clear HKn
    have HMn := hid (HM.out.below h')
    clear HM
    have HM := HMn
    clear HMn
    have HCn := hid (HC.out.trans (h'.mono HC.out.size))
    clear HC h'
    have HC := HCn
    clear HCn
    obtain ⟨c1, c2⟩ := HA1c.out.below HC.out
    obtain ⟨c3, c4⟩ := HA2c.out.below HC.out
    obtain ⟨k1, k2, k3, k4⟩ := (HCc.out.below HC.out HCc.out.lt).cells
    obtain ⟨k5, k6, k7, k8⟩ := (HDc.out.below HC.out HDc.out.lt).cells
    clear qa qb hbase
    clear c1 c2 c3 c4 k1 k2 k3 k4 k5 k6 k7 k8
    obtain ⟨j1, j2, j3, j4⟩ := HJ.out.lab.cells
    obtain ⟨i1, i2, i3, i4⟩ := HK.out.lab.cells
    obtain ⟨m1, m2, m3, m4⟩ := HM.out.lab.cells
    obtain ⟨o1, o2, o3, o4⟩ := HN.out.lab.cells
    have F5 := hid (alike_any _ _ JS JI JS JI _ (HJ.out.seesL l1 l2) (HK.out.seesL l1 l2))
    rw [show alikeB JS JI JS JI = true by simp [alikeB]] at F5
    go_wp2_with fail
    refine F5.out.mono ?_
    rintro e w6 ⟨rfl, h'⟩
    clear F5
    clear j1 j2 j3 j4 i1 i2 i3 i4 m1 m2 m3 m4 o1 o2 o3 o4
    have HJn := hid (HJ.out.below h')
    clear HJ
    have HJ := HJn
    clear HJn
    have HKn := hid (HK.out.below h')
    clear HK
    have HK := HKn
    clear HKn
    have HMn := hid (HM.out.below h')
    clear HM
    have HM := HMn
    clear HMn
    have HNn := hid (HN.out.below h')
    clear HN
    have HN := HNn
    clear HNn
    have HCn := hid (HC.out.trans (h'.mono HC.out.size))
    clear HC h'
    have HC := HCn
    clear HCn
    obtain ⟨j1, j2, j3, j4⟩ := HJ.out.lab.cells
    obtain ⟨i1, i2, i3, i4⟩ := HK.out.lab.cells
    obtain ⟨m1, m2, m3, m4⟩ := HM.out.lab.cells
    obtain ⟨o1, o2, o3, o4⟩ := HN.out.lab.cells
    have F6 := hid (alike_any _ _ MS MI MS MI _ (HM.out.seesL l3 l4) (HN.out.seesL l3 l4))
    rw [show alikeB MS MI MS MI = true by simp [alikeB]] at F6
    go_wp2_with fail
    refine F6.out.mono ?_
    rintro e w7 ⟨rfl, h'⟩
    clear F6
    clear j1 j2 j3 j4 i1 i2 i3 i4 m1 m2 m3 m4 o1 o2 o3 o4
    have HJn := hid (HJ.out.below h')
    clear HJ
    have HJ := HJn
    clear HJn
    have HMn := hid (HM.out.below h')
    clear HM
    have HM := HMn
    clear HMn
    have HCn := hid (HC.out.trans (h'.mono HC.out.size))
    clear HC h'
    have HC := HCn
    clear HCn
    clear HK HN
    obtain ⟨BM, hBM⟩ : ∃ B, B = (w3.alloc (.cells #[.slice kao JS.length kac, .slice kbo JI.length kbc] 24)).heap.size := ⟨_, rfl⟩
    rw [← hBM] at HM
    have hBM2 : w2.heap.size < BM := by rw [hBM]; simp; omega
    have hBM3 : wc.heap.size ≤ BM := by omega
    have hBM4 : BM ≤ w4.heap.size := by rw [hBM]; simp; omega
    obtain ⟨nJ, hnJ⟩ : ∃ n, n = JS.length := ⟨_, rfl⟩
    obtain ⟨nM, hnM⟩ : ∃ n, n = MI.length := ⟨_, rfl⟩
    have HnJ := hid hnJ
    have HnM := hid hnM
    rw [← hnJ] at HJ HGj l1 ⊢
    rw [← hnM] at HM l4 ⊢
    clear hBM hnJ hnM
    obtain ⟨pj, hpj⟩ : ∃ n, n = w2.heap.size := ⟨_, rfl⟩
    obtain ⟨pm, hpm⟩ : ∃ n, n = w4.heap.size := ⟨_, rfl⟩
    rw [← hpj] at HJ HGj hBM2 ⊢
    rw [← hpm] at HM hBM4 ⊢
    clear hpj hpm
    go_wp2_with fail
    go_loopw [16] (fun i wq => ∃ (m : Nat) (es : List Int), m ≤ nJ ∧ i = .int .i64 m ∧ es.length = nJ ∧ Owns wq wc.heap.size (.slice jao nJ jac) es ∧ Below wc.heap.size wc wq ∧ LabAt wq pj (.slice jao nJ jac) (.slice jbo JI.length jbc) ∧ LabO wq BM pm (.slice mao MS.length mac) (.slice mbo nM mbc) MS MI) (fun i _ => nJ - (intOf i).toNat)
    case atStart => exact ⟨0, JS, Nat.zero_le _, rfl, HnJ.out.symm, HJ.out.oa, HC.out, HJ.out.lab, HM.out⟩
    case round =>
      clear HJ HC HM
      obtain ⟨m, es, hm, rfl, hel, hown, hbel, hlab, hM⟩ := hrel
      by_cases hml : m < nJ
      · obtain ⟨g, gc, hgv, hgb, _, hfz, hgc⟩ := owns_block hown (by omega)
        rw [hel] at hgv
        cases hgv
        have hgj := HGj.out g rfl
        obtain ⟨z0, hz0⟩ : ∃ z0, z0 = es.getD m 0 := ⟨_, rfl⟩
        have hcm := hgc m (by omega)
        rw [← hz0] at hcm
        have hfm := hfz m
        have hR := owns_put (k := m) (-7) hown hel
        have HR := hid (And.intro hR (hbel.setCell (p := ⟨g, m, none⟩) hgb (.int .i64 (-7))))
        have HL := hid (hlab.far (o := m) (x := .int .i64 (-7)) (show pj ≠ g by omega))
        have HM := hid (hM.put (m := m) (show g < BM by omega) (show pm ≠ g by omega) (.int .i64 (-7)))
        obtain ⟨j1, j2, j3, j4⟩ := hlab.cells
        clear hR hown hbel hgc hfz hz0 hlab hM
        go_wp2
        go_roundw
        case rel => exact ⟨m + 1, es.set m (-7), by omega, by go_num, by rw [List.length_set, hel], HR.out.1, HR.out.2, HL.out, HM.out⟩
        case measure => simp [intOf]; omega
      · have HC := hid hbel
        have HM := hid hM
        obtain ⟨j1, j2, j3, j4⟩ := hlab.cells
        clear hown hbel hlab hM
        obtain ⟨w8, hw8⟩ : ∃ w8, w8 = wr := ⟨_, rfl⟩
        rw [← hw8] at HC HM j1 j2 j3 j4 ⊢
        clear hw8
        go_wp2_with fail
        clear j1 j2 j3 j4
        go_loopw [17] (fun i wq => ∃ (m : Nat) (es : List Int), m ≤ nM ∧ i = .int .i64 m ∧ es.length = nM ∧ Owns wq BM (.slice mbo nM mbc) es ∧ Below wc.heap.size wc wq ∧ LabAt wq pm (.slice mao MS.length mac) (.slice mbo nM mbc)) (fun i _ => nM - (intOf i).toNat)
        case atStart => exact ⟨0, MI, Nat.zero_le _, rfl, HnM.out.symm, HM.out.ob, HC.out, HM.out.lab⟩
        case round =>
          clear HC HM
          obtain ⟨m2, es2, hm2, rfl, hel2, hown, hbel, hlab⟩ := hrel
          by_cases hml2 : m2 < nM
          · obtain ⟨g, gc, hgv, hgb, _, hfz, hgc⟩ := owns_block hown (by omega)
            rw [hel2] at hgv
            cases hgv
            have hne := owns_lab_ne hown hlab
            have hne2 : pm ≠ g := fun e => hne (by rw [e]; rfl)
            obtain ⟨z0, hz0⟩ : ∃ z0, z0 = es2.getD m2 0 := ⟨_, rfl⟩
            have hcm := hgc m2 (by omega)
            rw [← hz0] at hcm
            have hfm := hfz m2
            have hR := owns_put (k := m2) (-7) hown hel2
            have HR := hid (And.intro hR (hbel.setCell (p := ⟨g, m2, none⟩) (show wc.heap.size ≤ g by omega) (.int .i64 (-7))))
            have HL := hid (hlab.far (o := m2) (x := .int .i64 (-7)) hne2)
            obtain ⟨j1, j2, j3, j4⟩ := hlab.cells
            clear hR hown hbel hgc hfz hz0 hlab hne
            go_wp2
            go_roundw
            case rel => exact ⟨m2 + 1, es2.set m2 (-7), by omega, by go_num, by rw [List.length_set, hel2], HR.out.1, HR.out.2, HL.out⟩
            case measure => simp [intOf]; omega
          · have HC := hid hbel
            obtain ⟨j1, j2, j3, j4⟩ := hlab.cells
            clear hown hbel hlab
            obtain ⟨c1, c2⟩ := HA1c.out.below HC.out
            obtain ⟨c3, c4⟩ := HA2c.out.below HC.out
            obtain ⟨k1, k2, k3, k4⟩ := (HCc.out.below HC.out HCc.out.lt).cells
            obtain ⟨k5, k6, k7, k8⟩ := (HDc.out.below HC.out HDc.out.lt).cells
            go_wp2_with fail
            refine (F8.out _ HC.out).mono ?_
            rintro e w9 ⟨rfl, h'⟩
            clear F8 j1 j2 j3 j4
            clear c1 c2 c3 c4 k1 k2 k3 k4 k5 k6 k7 k8
            have HCn := hid (HC.out.trans (h'.mono HC.out.size))
            clear HC h'
            have HC := HCn
            clear HCn
            obtain ⟨c1, c2⟩ := HA1c.out.below HC.out
            obtain ⟨c3, c4⟩ := HA2c.out.below HC.out
            obtain ⟨k1, k2, k3, k4⟩ := (HCc.out.below HC.out HCc.out.lt).cells
            obtain ⟨k5, k6, k7, k8⟩ := (HDc.out.below HC.out HDc.out.lt).cells
            go_wp2_with fail
            refine (F9.out _ HC.out).mono ?_
            rintro e w10 ⟨rfl, h'⟩
            clear F9
            clear c1 c2 c3 c4 k1 k2 k3 k4 k5 k6 k7 k8
            have HCn := hid (HC.out.trans (h'.mono HC.out.size))
            clear HC h'
            have HC := HCn
            clear HCn
            obtain ⟨c1, c2⟩ := HA1c.out.below HC.out
            obtain ⟨c3, c4⟩ := HA2c.out.below HC.out
            obtain ⟨k1, k2, k3, k4⟩ := (HCc.out.below HC.out HCc.out.lt).cells
            obtain ⟨k5, k6, k7, k8⟩ := (HDc.out.below HC.out HDc.out.lt).cells
            go_wp2_with fail
            refine (awake_any _).mono ?_
            rintro e w11 ⟨rfl, h'⟩
            have hfin := HC.out.trans (h'.mono HC.out.size)
            have HFIN := hid (HZc.out.trans (hfin.mono HZc.out.size))
            clear h' hfin
            go_wp2
            go_ret
            exact ⟨rfl, HFIN.out⟩

end Go.Proofs.Ytjgohajlabdloaa
