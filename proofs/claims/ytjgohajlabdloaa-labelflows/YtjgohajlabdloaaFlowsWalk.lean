/-
  The walk of LabelFlows.
-/
import Derived.Test.YtjgohajlabdloaaTwo
import Derived.Deep.DeepCutAuto
import Derived.Deep.CutBlock
import Derived.Deep.LoopGhost
namespace Go.Proofs.Ytjgohajlabdloaa
open Go.RowKit
set_option linter.unusedVariables false
set_option linter.unusedSimpArgs false

theorem owns_slice {w : World} {base : Nat} {v : Value} {xs : List Int} (h : Owns w base v xs) : ∃ ao n c, v = .slice ao n c := by
  obtain ⟨b, off, ao, cap, hv, _⟩ := h.sees
  exact ⟨ao, _, cap, hv⟩

set_option maxRecDepth 20000 in
set_option maxHeartbeats 8000000 in
theorem flows_walk (a b o : Value) (s i t j own : List Int) (w : World) (h1 : SeesL w a s i) (h2 : SeesL w b t j) (h3 : Sees w o own) (hl : own.length ≤ 4611686018427387904)
    (n1 : s.length * 8 ≤ 140737488355328) (n2 : i.length * 8 ≤ 140737488355328) (n3 : t.length * 8 ≤ 140737488355328) (n4 : j.length * 8 ≤ 140737488355328) :
    Calls Try.prog 3 #[a, b, o] w fun e w' => e = .returned (.bool true) ∧ Below w.heap.size w w' := by
  have hA1 := h1
  obtain ⟨u1, x1, rfl, _⟩ := h1
  have hA2 := h2
  obtain ⟨u2, x2, rfl, _⟩ := h2
  obtain ⟨W, hW⟩ : ∃ W, W = (w.alloc (.cells #[u1, x1] 24)).alloc (.cells #[u2, x2] 24) := ⟨_, rfl⟩
  have d1 : SeesL W (.agg #[u1, x1]) s i := by rw [hW]; exact ((hA1.box _).box _)
  have d2 : SeesL W (.agg #[u2, x2]) t j := by rw [hW]; exact ((hA2.box _).box _)
  have hZ : Below w.heap.size w W := by rw [hW]; exact ((below_alloc w _).alloc (by simp) _)
  have HA1 := hid (show Boxed W (w.heap.size) u1 x1 by rw [hW]; exact ((Boxed.new _ _ _).box _))
  have HA2 := hid (show Boxed W (w.heap.size + 1) u2 x2 by rw [hW]; exact (Boxed.new2 _ _ _ _))
  have HZ := hid hZ
  have hsz := hZ.size
  have HW := hid hW
  have HB := hid (Below.refl W.heap.size W)
  have d3 : Sees W o own := by rw [hW]; exact (h3.box _).box _
  have hszW : W.heap.size = w.heap.size + 2 := by rw [hW]; simp
  have Z1 := hid (fun w1 (h : Below W.heap.size W w1) => lent_any _ s i w1 (d1.below h) n1 n2)
  have Z2 := hid (fun w1 (h : Below W.heap.size W w1) => lent_any _ t j w1 (d2.below h) n3 n4)
  have HD1 := hid d1
  have HD2 := hid d2
  have HD3 := hid d3
  clear d1 d2 d3 hA1 hA2 hW hZ h3
  obtain ⟨c1, c2⟩ := HA1.out
  obtain ⟨c3, c4⟩ := HA2.out
  go_enter Try.func3, Try.ntmps3
  go_wp2_with fail
  rw [← HW.out]
  clear HW
  go_cut [7, 8] from 19 to 22 (fun q7 q8 wx => ∃ p q v1 y1 v2 y2, q7 = .pointer (some ⟨p, 0, none⟩) ∧ q8 = .pointer (some ⟨q, 0, none⟩) ∧ TwoLabs W wx p q v1 y1 v2 y2 s i t j)
  case first =>
    refine wp_region_noPanic ?_
    refine wp_region_held_drew (S := (fun w' => w'.cell? ⟨w.heap.size, 0, none⟩ = some u1 ∧ w'.cell? ⟨w.heap.size, 1, none⟩ = some x1 ∧ w'.cell? ⟨w.heap.size + 1, 0, none⟩ = some u2 ∧ w'.cell? ⟨w.heap.size + 1, 1, none⟩ = some x2)) (by kernel_rfl) ?_ (fun hHeld => ?_)
    · first | (refine ⟨?_, ?_, ?_, ?_⟩ <;> first | assumption | (simp [*, World.cell?_alloc_some, World.cell?_setCell_far]; done))
    have HBn := hid (Below.drew HB.out)
    clear HB
    have HB := HBn
    clear HBn
    obtain ⟨w0, hw⟩ : ∃ x, x = W.drew := ⟨_, rfl⟩
    rw [← hw] at HB hHeld ⊢
    clear hw c1 c2 c3 c4
    obtain ⟨c1, c2⟩ := HA1.out.below HB.out
    obtain ⟨c3, c4⟩ := HA2.out.below HB.out
    refine wpAnyH_take (i := 0) (oi := { dst := some 19, op := Op.load 24 (Operand.tmp 3), type := 24, pos := "law.go:29", after := #[], guard := none }) (v := (.agg #[u1, x1])) rfl (by kernel_rfl) (by kernel_rfl) (by kernel_rfl) (fun _ _ _ h => h) (Or.inl ⟨by rfl, ?_⟩) (by assumption) ?_
    · intro w hSw
      try dsimp only at hSw
      go_simp
    try simp only [Act.put, List.setIfInBounds_toArray, List.set_cons_zero, List.set_cons_succ]
    refine wpAnyH_take (i := 2) (oi := { dst := some 21, op := Op.load 24 (Operand.tmp 4), type := 24, pos := "law.go:29", after := #[], guard := none }) (v := (.agg #[u2, x2])) rfl (by kernel_rfl) (by kernel_rfl) (by kernel_rfl) (fun _ _ _ h => h) (Or.inl ⟨by rfl, ?_⟩) (by assumption) ?_
    · intro w hSw
      try dsimp only at hSw
      go_simp
    try simp only [Act.put, List.setIfInBounds_toArray, List.set_cons_zero, List.set_cons_succ]
    refine wpAnyH_ready (rs := [1, 4, 5]) (by kernel_rfl) (by simp) ?_
    refine AllReadyH.cons (o := { dst := some 20, op := Op.call { callee := Callee.value (Operand.func 8), args := #[Operand.tmp 19], argTypes := #[24] }, type := 24, pos := "law.go:29", after := #[{ on := 0, ground := Ground.data }], guard := none }) rfl (fun K hK => ?_) (AllReadyH.cons (o := { dst := some 7, op := Op.alloc 24, type := 0, pos := "law.go:29", after := #[], guard := none }) rfl (fun K hK => ?_) (AllReadyH.cons (o := { dst := some 8, op := Op.alloc 24, type := 0, pos := "law.go:29", after := #[], guard := none }) rfl (fun K hK => ?_) AllReadyH.nil))
    · go_simp
      refine (Z1.out _ HB.out).mono ?_
      rintro e w1 ⟨v1, y1, rfl, hO, hP, h'⟩
      have HOn1 := hid (And.intro (owns_le hO HB.out.size) (owns_le hP HB.out.size))
      clear hO hP
      have HBn := hid (HB.out.trans (h'.mono HB.out.size))
      clear HB
      have HB := HBn
      clear HBn c1 c2 c3 c4
      obtain ⟨c1, c2⟩ := HA1.out.below HB.out
      obtain ⟨c3, c4⟩ := HA2.out.below HB.out
      have HO1 := HOn1
      clear HOn1 h'
      try go_wp2_with fail
      refine hK.out _ _ ?_ (fun hHeld => ?_)
      · first | (refine ⟨?_, ?_, ?_, ?_⟩ <;> first | assumption | (simp [*, World.cell?_alloc_some, World.cell?_setCell_far]; done))
      clear hK K
      try simp only [Act.put, List.setIfInBounds_toArray, List.set_cons_zero, List.set_cons_succ]
      refine wpAnyH_ready (rs := [3, 4, 5]) (by kernel_rfl) (by simp) ?_
      refine AllReadyH.cons (o := { dst := some 22, op := Op.call { callee := Callee.value (Operand.func 8), args := #[Operand.tmp 21], argTypes := #[24] }, type := 24, pos := "law.go:29", after := #[{ on := 2, ground := Ground.data }, { on := 1, ground := Ground.chain }], guard := none }) rfl (fun K hK => ?_) (AllReadyH.cons (o := { dst := some 7, op := Op.alloc 24, type := 0, pos := "law.go:29", after := #[], guard := none }) rfl (fun K hK => ?_) (AllReadyH.cons (o := { dst := some 8, op := Op.alloc 24, type := 0, pos := "law.go:29", after := #[], guard := none }) rfl (fun K hK => ?_) AllReadyH.nil))
      · go_simp
        refine (Z2.out _ HB.out).mono ?_
        rintro e w2 ⟨v2, y2, rfl, hO, hP, h'⟩
        have HOn2 := hid (And.intro (owns_le hO HB.out.size) (owns_le hP HB.out.size))
        clear hO hP
        have HBn := hid (HB.out.trans (h'.mono HB.out.size))
        clear HB
        have HB := HBn
        clear HBn c1 c2 c3 c4
        obtain ⟨c1, c2⟩ := HA1.out.below HB.out
        obtain ⟨c3, c4⟩ := HA2.out.below HB.out
        have HO1n := hid (And.intro (HO1.out.1.below h') (HO1.out.2.below h'))
        clear HO1
        have HO1 := HO1n
        clear HO1n
        have HO2 := HOn2
        clear HOn2 h'
        try go_wp2_with fail
        refine hK.out _ _ ?_ (fun hHeld => ?_)
        · first | (refine ⟨?_, ?_, ?_, ?_⟩ <;> first | assumption | (simp [*, World.cell?_alloc_some, World.cell?_setCell_far]; done))
        clear hK K
        try simp only [Act.put, List.setIfInBounds_toArray, List.set_cons_zero, List.set_cons_succ]
        refine wpAnyH_ready (rs := [4, 5]) (by kernel_rfl) (by simp) ?_
        refine AllReadyH.cons (o := { dst := some 7, op := Op.alloc 24, type := 0, pos := "law.go:29", after := #[], guard := none }) rfl (fun K hK => ?_) (AllReadyH.cons (o := { dst := some 8, op := Op.alloc 24, type := 0, pos := "law.go:29", after := #[], guard := none }) rfl (fun K hK => ?_) AllReadyH.nil)
        · go_simp
          refine hK.out _ _ ?_ (fun hHeld => ?_)
          · first | (refine ⟨?_, ?_, ?_, ?_⟩ <;> first | assumption | (simp [*, World.cell?_alloc_some, World.cell?_setCell_far]; done))
          clear hK K
          have h' : Below w2.heap.size w2 (w2.alloc (.cells #[.slice none 0 0, .slice none 0 0] 24)) := below_alloc _ _
          have HLn := LabAt.new w2 (.slice none 0 0) (.slice none 0 0)
          obtain ⟨w3, hw⟩ : ∃ x, x = w2.alloc (.cells #[.slice none 0 0, .slice none 0 0] 24) := ⟨_, rfl⟩
          rw [← hw] at h' HLn hHeld ⊢
          clear hw
          obtain ⟨p4, hp⟩ : ∃ x, x = w2.heap.size := ⟨_, rfl⟩
          rw [← hp] at HLn ⊢
          have HG4 := hid (show W.heap.size ≤ p4 from by rw [hp]; exact HB.out.size)
          clear hp
          have HBn := hid (HB.out.trans (h'.mono HB.out.size))
          clear HB
          have HB := HBn
          clear HBn c1 c2 c3 c4
          obtain ⟨c1, c2⟩ := HA1.out.below HB.out
          obtain ⟨c3, c4⟩ := HA2.out.below HB.out
          have HO1n := hid (And.intro (HO1.out.1.below h') (HO1.out.2.below h'))
          clear HO1
          have HO1 := HO1n
          clear HO1n
          have HO2n := hid (And.intro (HO2.out.1.below h') (HO2.out.2.below h'))
          clear HO2
          have HO2 := HO2n
          clear HO2n
          have HL4 := hid HLn
          clear HLn h'
          try simp only [Act.put, List.setIfInBounds_toArray, List.set_cons_zero, List.set_cons_succ]
          refine wpAnyH_ready (rs := [5]) (by kernel_rfl) (by simp) ?_
          refine AllReadyH.cons (o := { dst := some 8, op := Op.alloc 24, type := 0, pos := "law.go:29", after := #[], guard := none }) rfl (fun K hK => ?_) AllReadyH.nil
          · go_simp
            refine hK.out _ _ ?_ (fun hHeld => ?_)
            · first | (refine ⟨?_, ?_, ?_, ?_⟩ <;> first | assumption | (simp [*, World.cell?_alloc_some, World.cell?_setCell_far]; done))
            clear hK K
            have h' : Below w3.heap.size w3 (w3.alloc (.cells #[.slice none 0 0, .slice none 0 0] 24)) := below_alloc _ _
            have HLn := LabAt.new w3 (.slice none 0 0) (.slice none 0 0)
            obtain ⟨w4, hw⟩ : ∃ x, x = w3.alloc (.cells #[.slice none 0 0, .slice none 0 0] 24) := ⟨_, rfl⟩
            rw [← hw] at h' HLn hHeld ⊢
            clear hw
            obtain ⟨p5, hp⟩ : ∃ x, x = w3.heap.size := ⟨_, rfl⟩
            rw [← hp] at HLn ⊢
            have HG5 := hid (show W.heap.size ≤ p5 from by rw [hp]; exact HB.out.size)
            have HNE := hid (show p4 ≠ p5 from by have := HL4.out.lt; omega)
            clear hp
            have HBn := hid (HB.out.trans (h'.mono HB.out.size))
            clear HB
            have HB := HBn
            clear HBn c1 c2 c3 c4
            obtain ⟨c1, c2⟩ := HA1.out.below HB.out
            obtain ⟨c3, c4⟩ := HA2.out.below HB.out
            have HO1n := hid (And.intro (HO1.out.1.below h') (HO1.out.2.below h'))
            clear HO1
            have HO1 := HO1n
            clear HO1n
            have HO2n := hid (And.intro (HO2.out.1.below h') (HO2.out.2.below h'))
            clear HO2
            have HO2 := HO2n
            clear HO2n
            have HL4n := hid (HL4.out.below h' HL4.out.lt)
            clear HL4
            have HL4 := HL4n
            clear HL4n
            have HL5 := hid HLn
            clear HLn h'
            try simp only [Act.put, List.setIfInBounds_toArray, List.set_cons_zero, List.set_cons_succ]
            obtain ⟨e1, e2, e3, e4⟩ := HL4.out.cells
            obtain ⟨e5, e6, e7, e8⟩ := ((HL5.out.far (o := 0) (x := v1) (Ne.symm HNE.out)).far (o := 1) (x := y1) (Ne.symm HNE.out)).cells
            have g1 : p4 ≠ w.heap.size := by have := HG4.out; omega
            have g2 : p4 ≠ w.heap.size + 1 := by have := HG4.out; omega
            have g3 : p5 ≠ w.heap.size := by have := HG5.out; omega
            have g4 : p5 ≠ w.heap.size + 1 := by have := HG5.out; omega
            have HT := hid (two_labs HB.out HL4.out HL5.out HNE.out HG4.out HG5.out HO1.out.1 HO1.out.2 HO2.out.1 HO2.out.2)
            obtain ⟨am1, nm1, cm1, hm1⟩ := owns_slice HO1.out.1
            obtain ⟨am2, nm2, cm2, hm2⟩ := owns_slice HO1.out.2
            obtain ⟨am3, nm3, cm3, hm3⟩ := owns_slice HO2.out.1
            obtain ⟨am4, nm4, cm4, hm4⟩ := owns_slice HO2.out.2
            subst hm1
            subst hm2
            subst hm3
            subst hm4
            clear HL4 HL5 HO1 HO2 HG4 HG5 HNE HB
            refine wpAnyH_ready (rs := [6]) (by kernel_rfl) (by simp) ?_
            refine AllReadyH.cons (o := { dst := none, op := Op.store 24 (Operand.tmp 7) (Operand.tmp 20), type := 0, pos := "law.go:29", after := #[{ on := 4, ground := Ground.data }, { on := 1, ground := Ground.data }, { on := 3, ground := Ground.chain }, { on := 0, ground := Ground.phase }, { on := 1, ground := Ground.phase }, { on := 2, ground := Ground.textOnly Departure.lateStores }, { on := 3, ground := Ground.textOnly Departure.lateStoresUnsure }, { on := 4, ground := Ground.phase }, { on := 5, ground := Ground.phase }], guard := none }) rfl (fun K hK => ?_) AllReadyH.nil
            go_simp
            refine hK.out _ _ ?_ (fun hHeld => ?_)
            · exact ⟨far2 c1 g1, far2 c2 g1, far2 c3 g2, far2 c4 g2⟩
            clear hK K
            try simp only [Act.put, List.setIfInBounds_toArray, List.set_cons_zero, List.set_cons_succ]
            refine wpAnyH_ready (rs := [7]) (by kernel_rfl) (by simp) ?_
            refine AllReadyH.cons (o := { dst := none, op := Op.store 24 (Operand.tmp 8) (Operand.tmp 22), type := 0, pos := "law.go:29", after := #[{ on := 5, ground := Ground.data }, { on := 3, ground := Ground.data }, { on := 6, ground := Ground.chain }, { on := 0, ground := Ground.phase }, { on := 1, ground := Ground.phase }, { on := 2, ground := Ground.phase }, { on := 3, ground := Ground.phase }, { on := 4, ground := Ground.phase }, { on := 5, ground := Ground.phase }, { on := 6, ground := Ground.phase }], guard := none }) rfl (fun K hK => ?_) AllReadyH.nil
            go_simp
            refine hK.out _ _ ?_ (fun hHeld => ?_)
            · exact ⟨far2 (far2 c1 g1) g3, far2 (far2 c2 g1) g3, far2 (far2 c3 g2) g4, far2 (far2 c4 g2) g4⟩
            clear hK K
            try simp only [Act.put, List.setIfInBounds_toArray, List.set_cons_zero, List.set_cons_succ]
            refine wpAnyH_done (by kernel_rfl) ?_ _
            refine NoPanic.normal ?_
            go_wp2_with fail
            go_meet
            exact ⟨_, _, _, _, _, _, rfl, rfl, HT.out⟩
        · go_simp
          refine hK.out _ _ ?_ (fun hHeld => ?_)
          · first | (refine ⟨?_, ?_, ?_, ?_⟩ <;> first | assumption | (simp [*, World.cell?_alloc_some, World.cell?_setCell_far]; done))
          clear hK K
          have h' : Below w2.heap.size w2 (w2.alloc (.cells #[.slice none 0 0, .slice none 0 0] 24)) := below_alloc _ _
          have HLn := LabAt.new w2 (.slice none 0 0) (.slice none 0 0)
          obtain ⟨w3, hw⟩ : ∃ x, x = w2.alloc (.cells #[.slice none 0 0, .slice none 0 0] 24) := ⟨_, rfl⟩
          rw [← hw] at h' HLn hHeld ⊢
          clear hw
          obtain ⟨p5, hp⟩ : ∃ x, x = w2.heap.size := ⟨_, rfl⟩
          rw [← hp] at HLn ⊢
          have HG5 := hid (show W.heap.size ≤ p5 from by rw [hp]; exact HB.out.size)
          clear hp
          have HBn := hid (HB.out.trans (h'.mono HB.out.size))
          clear HB
          have HB := HBn
          clear HBn c1 c2 c3 c4
          obtain ⟨c1, c2⟩ := HA1.out.below HB.out
          obtain ⟨c3, c4⟩ := HA2.out.below HB.out
          have HO1n := hid (And.intro (HO1.out.1.below h') (HO1.out.2.below h'))
          clear HO1
          have HO1 := HO1n
          clear HO1n
          have HO2n := hid (And.intro (HO2.out.1.below h') (HO2.out.2.below h'))
          clear HO2
          have HO2 := HO2n
          clear HO2n
          have HL5 := hid HLn
          clear HLn h'
          try simp only [Act.put, List.setIfInBounds_toArray, List.set_cons_zero, List.set_cons_succ]
          refine wpAnyH_ready (rs := [4]) (by kernel_rfl) (by simp) ?_
          refine AllReadyH.cons (o := { dst := some 7, op := Op.alloc 24, type := 0, pos := "law.go:29", after := #[], guard := none }) rfl (fun K hK => ?_) AllReadyH.nil
          · go_simp
            refine hK.out _ _ ?_ (fun hHeld => ?_)
            · first | (refine ⟨?_, ?_, ?_, ?_⟩ <;> first | assumption | (simp [*, World.cell?_alloc_some, World.cell?_setCell_far]; done))
            clear hK K
            have h' : Below w3.heap.size w3 (w3.alloc (.cells #[.slice none 0 0, .slice none 0 0] 24)) := below_alloc _ _
            have HLn := LabAt.new w3 (.slice none 0 0) (.slice none 0 0)
            obtain ⟨w4, hw⟩ : ∃ x, x = w3.alloc (.cells #[.slice none 0 0, .slice none 0 0] 24) := ⟨_, rfl⟩
            rw [← hw] at h' HLn hHeld ⊢
            clear hw
            obtain ⟨p4, hp⟩ : ∃ x, x = w3.heap.size := ⟨_, rfl⟩
            rw [← hp] at HLn ⊢
            have HG4 := hid (show W.heap.size ≤ p4 from by rw [hp]; exact HB.out.size)
            have HNE := hid (show p4 ≠ p5 from by have := HL5.out.lt; omega)
            clear hp
            have HBn := hid (HB.out.trans (h'.mono HB.out.size))
            clear HB
            have HB := HBn
            clear HBn c1 c2 c3 c4
            obtain ⟨c1, c2⟩ := HA1.out.below HB.out
            obtain ⟨c3, c4⟩ := HA2.out.below HB.out
            have HO1n := hid (And.intro (HO1.out.1.below h') (HO1.out.2.below h'))
            clear HO1
            have HO1 := HO1n
            clear HO1n
            have HO2n := hid (And.intro (HO2.out.1.below h') (HO2.out.2.below h'))
            clear HO2
            have HO2 := HO2n
            clear HO2n
            have HL5n := hid (HL5.out.below h' HL5.out.lt)
            clear HL5
            have HL5 := HL5n
            clear HL5n
            have HL4 := hid HLn
            clear HLn h'
            try simp only [Act.put, List.setIfInBounds_toArray, List.set_cons_zero, List.set_cons_succ]
            obtain ⟨e1, e2, e3, e4⟩ := HL4.out.cells
            obtain ⟨e5, e6, e7, e8⟩ := ((HL5.out.far (o := 0) (x := v1) (Ne.symm HNE.out)).far (o := 1) (x := y1) (Ne.symm HNE.out)).cells
            have g1 : p4 ≠ w.heap.size := by have := HG4.out; omega
            have g2 : p4 ≠ w.heap.size + 1 := by have := HG4.out; omega
            have g3 : p5 ≠ w.heap.size := by have := HG5.out; omega
            have g4 : p5 ≠ w.heap.size + 1 := by have := HG5.out; omega
            have HT := hid (two_labs HB.out HL4.out HL5.out HNE.out HG4.out HG5.out HO1.out.1 HO1.out.2 HO2.out.1 HO2.out.2)
            obtain ⟨am1, nm1, cm1, hm1⟩ := owns_slice HO1.out.1
            obtain ⟨am2, nm2, cm2, hm2⟩ := owns_slice HO1.out.2
            obtain ⟨am3, nm3, cm3, hm3⟩ := owns_slice HO2.out.1
            obtain ⟨am4, nm4, cm4, hm4⟩ := owns_slice HO2.out.2
            subst hm1
            subst hm2
            subst hm3
            subst hm4
            clear HL4 HL5 HO1 HO2 HG4 HG5 HNE HB
            refine wpAnyH_ready (rs := [6]) (by kernel_rfl) (by simp) ?_
            refine AllReadyH.cons (o := { dst := none, op := Op.store 24 (Operand.tmp 7) (Operand.tmp 20), type := 0, pos := "law.go:29", after := #[{ on := 4, ground := Ground.data }, { on := 1, ground := Ground.data }, { on := 3, ground := Ground.chain }, { on := 0, ground := Ground.phase }, { on := 1, ground := Ground.phase }, { on := 2, ground := Ground.textOnly Departure.lateStores }, { on := 3, ground := Ground.textOnly Departure.lateStoresUnsure }, { on := 4, ground := Ground.phase }, { on := 5, ground := Ground.phase }], guard := none }) rfl (fun K hK => ?_) AllReadyH.nil
            go_simp
            refine hK.out _ _ ?_ (fun hHeld => ?_)
            · exact ⟨far2 c1 g1, far2 c2 g1, far2 c3 g2, far2 c4 g2⟩
            clear hK K
            try simp only [Act.put, List.setIfInBounds_toArray, List.set_cons_zero, List.set_cons_succ]
            refine wpAnyH_ready (rs := [7]) (by kernel_rfl) (by simp) ?_
            refine AllReadyH.cons (o := { dst := none, op := Op.store 24 (Operand.tmp 8) (Operand.tmp 22), type := 0, pos := "law.go:29", after := #[{ on := 5, ground := Ground.data }, { on := 3, ground := Ground.data }, { on := 6, ground := Ground.chain }, { on := 0, ground := Ground.phase }, { on := 1, ground := Ground.phase }, { on := 2, ground := Ground.phase }, { on := 3, ground := Ground.phase }, { on := 4, ground := Ground.phase }, { on := 5, ground := Ground.phase }, { on := 6, ground := Ground.phase }], guard := none }) rfl (fun K hK => ?_) AllReadyH.nil
            go_simp
            refine hK.out _ _ ?_ (fun hHeld => ?_)
            · exact ⟨far2 (far2 c1 g1) g3, far2 (far2 c2 g1) g3, far2 (far2 c3 g2) g4, far2 (far2 c4 g2) g4⟩
            clear hK K
            try simp only [Act.put, List.setIfInBounds_toArray, List.set_cons_zero, List.set_cons_succ]
            refine wpAnyH_done (by kernel_rfl) ?_ _
            refine NoPanic.normal ?_
            go_wp2_with fail
            go_meet
            exact ⟨_, _, _, _, _, _, rfl, rfl, HT.out⟩
      · go_simp
        refine hK.out _ _ ?_ (fun hHeld => ?_)
        · first | (refine ⟨?_, ?_, ?_, ?_⟩ <;> first | assumption | (simp [*, World.cell?_alloc_some, World.cell?_setCell_far]; done))
        clear hK K
        have h' : Below w1.heap.size w1 (w1.alloc (.cells #[.slice none 0 0, .slice none 0 0] 24)) := below_alloc _ _
        have HLn := LabAt.new w1 (.slice none 0 0) (.slice none 0 0)
        obtain ⟨w2, hw⟩ : ∃ x, x = w1.alloc (.cells #[.slice none 0 0, .slice none 0 0] 24) := ⟨_, rfl⟩
        rw [← hw] at h' HLn hHeld ⊢
        clear hw
        obtain ⟨p4, hp⟩ : ∃ x, x = w1.heap.size := ⟨_, rfl⟩
        rw [← hp] at HLn ⊢
        have HG4 := hid (show W.heap.size ≤ p4 from by rw [hp]; exact HB.out.size)
        clear hp
        have HBn := hid (HB.out.trans (h'.mono HB.out.size))
        clear HB
        have HB := HBn
        clear HBn c1 c2 c3 c4
        obtain ⟨c1, c2⟩ := HA1.out.below HB.out
        obtain ⟨c3, c4⟩ := HA2.out.below HB.out
        have HO1n := hid (And.intro (HO1.out.1.below h') (HO1.out.2.below h'))
        clear HO1
        have HO1 := HO1n
        clear HO1n
        have HL4 := hid HLn
        clear HLn h'
        try simp only [Act.put, List.setIfInBounds_toArray, List.set_cons_zero, List.set_cons_succ]
        refine wpAnyH_ready (rs := [3, 5]) (by kernel_rfl) (by simp) ?_
        refine AllReadyH.cons (o := { dst := some 22, op := Op.call { callee := Callee.value (Operand.func 8), args := #[Operand.tmp 21], argTypes := #[24] }, type := 24, pos := "law.go:29", after := #[{ on := 2, ground := Ground.data }, { on := 1, ground := Ground.chain }], guard := none }) rfl (fun K hK => ?_) (AllReadyH.cons (o := { dst := some 8, op := Op.alloc 24, type := 0, pos := "law.go:29", after := #[], guard := none }) rfl (fun K hK => ?_) AllReadyH.nil)
        · go_simp
          refine (Z2.out _ HB.out).mono ?_
          rintro e w3 ⟨v2, y2, rfl, hO, hP, h'⟩
          have HOn2 := hid (And.intro (owns_le hO HB.out.size) (owns_le hP HB.out.size))
          clear hO hP
          have HBn := hid (HB.out.trans (h'.mono HB.out.size))
          clear HB
          have HB := HBn
          clear HBn c1 c2 c3 c4
          obtain ⟨c1, c2⟩ := HA1.out.below HB.out
          obtain ⟨c3, c4⟩ := HA2.out.below HB.out
          have HO1n := hid (And.intro (HO1.out.1.below h') (HO1.out.2.below h'))
          clear HO1
          have HO1 := HO1n
          clear HO1n
          have HL4n := hid (HL4.out.below h' HL4.out.lt)
          clear HL4
          have HL4 := HL4n
          clear HL4n
          have HO2 := HOn2
          clear HOn2 h'
          try go_wp2_with fail
          refine hK.out _ _ ?_ (fun hHeld => ?_)
          · first | (refine ⟨?_, ?_, ?_, ?_⟩ <;> first | assumption | (simp [*, World.cell?_alloc_some, World.cell?_setCell_far]; done))
          clear hK K
          try simp only [Act.put, List.setIfInBounds_toArray, List.set_cons_zero, List.set_cons_succ]
          refine wpAnyH_ready (rs := [5]) (by kernel_rfl) (by simp) ?_
          refine AllReadyH.cons (o := { dst := some 8, op := Op.alloc 24, type := 0, pos := "law.go:29", after := #[], guard := none }) rfl (fun K hK => ?_) AllReadyH.nil
          · go_simp
            refine hK.out _ _ ?_ (fun hHeld => ?_)
            · first | (refine ⟨?_, ?_, ?_, ?_⟩ <;> first | assumption | (simp [*, World.cell?_alloc_some, World.cell?_setCell_far]; done))
            clear hK K
            have h' : Below w3.heap.size w3 (w3.alloc (.cells #[.slice none 0 0, .slice none 0 0] 24)) := below_alloc _ _
            have HLn := LabAt.new w3 (.slice none 0 0) (.slice none 0 0)
            obtain ⟨w4, hw⟩ : ∃ x, x = w3.alloc (.cells #[.slice none 0 0, .slice none 0 0] 24) := ⟨_, rfl⟩
            rw [← hw] at h' HLn hHeld ⊢
            clear hw
            obtain ⟨p5, hp⟩ : ∃ x, x = w3.heap.size := ⟨_, rfl⟩
            rw [← hp] at HLn ⊢
            have HG5 := hid (show W.heap.size ≤ p5 from by rw [hp]; exact HB.out.size)
            have HNE := hid (show p4 ≠ p5 from by have := HL4.out.lt; omega)
            clear hp
            have HBn := hid (HB.out.trans (h'.mono HB.out.size))
            clear HB
            have HB := HBn
            clear HBn c1 c2 c3 c4
            obtain ⟨c1, c2⟩ := HA1.out.below HB.out
            obtain ⟨c3, c4⟩ := HA2.out.below HB.out
            have HO1n := hid (And.intro (HO1.out.1.below h') (HO1.out.2.below h'))
            clear HO1
            have HO1 := HO1n
            clear HO1n
            have HO2n := hid (And.intro (HO2.out.1.below h') (HO2.out.2.below h'))
            clear HO2
            have HO2 := HO2n
            clear HO2n
            have HL4n := hid (HL4.out.below h' HL4.out.lt)
            clear HL4
            have HL4 := HL4n
            clear HL4n
            have HL5 := hid HLn
            clear HLn h'
            try simp only [Act.put, List.setIfInBounds_toArray, List.set_cons_zero, List.set_cons_succ]
            obtain ⟨e1, e2, e3, e4⟩ := HL4.out.cells
            obtain ⟨e5, e6, e7, e8⟩ := ((HL5.out.far (o := 0) (x := v1) (Ne.symm HNE.out)).far (o := 1) (x := y1) (Ne.symm HNE.out)).cells
            have g1 : p4 ≠ w.heap.size := by have := HG4.out; omega
            have g2 : p4 ≠ w.heap.size + 1 := by have := HG4.out; omega
            have g3 : p5 ≠ w.heap.size := by have := HG5.out; omega
            have g4 : p5 ≠ w.heap.size + 1 := by have := HG5.out; omega
            have HT := hid (two_labs HB.out HL4.out HL5.out HNE.out HG4.out HG5.out HO1.out.1 HO1.out.2 HO2.out.1 HO2.out.2)
            obtain ⟨am1, nm1, cm1, hm1⟩ := owns_slice HO1.out.1
            obtain ⟨am2, nm2, cm2, hm2⟩ := owns_slice HO1.out.2
            obtain ⟨am3, nm3, cm3, hm3⟩ := owns_slice HO2.out.1
            obtain ⟨am4, nm4, cm4, hm4⟩ := owns_slice HO2.out.2
            subst hm1
            subst hm2
            subst hm3
            subst hm4
            clear HL4 HL5 HO1 HO2 HG4 HG5 HNE HB
            refine wpAnyH_ready (rs := [6]) (by kernel_rfl) (by simp) ?_
            refine AllReadyH.cons (o := { dst := none, op := Op.store 24 (Operand.tmp 7) (Operand.tmp 20), type := 0, pos := "law.go:29", after := #[{ on := 4, ground := Ground.data }, { on := 1, ground := Ground.data }, { on := 3, ground := Ground.chain }, { on := 0, ground := Ground.phase }, { on := 1, ground := Ground.phase }, { on := 2, ground := Ground.textOnly Departure.lateStores }, { on := 3, ground := Ground.textOnly Departure.lateStoresUnsure }, { on := 4, ground := Ground.phase }, { on := 5, ground := Ground.phase }], guard := none }) rfl (fun K hK => ?_) AllReadyH.nil
            go_simp
            refine hK.out _ _ ?_ (fun hHeld => ?_)
            · exact ⟨far2 c1 g1, far2 c2 g1, far2 c3 g2, far2 c4 g2⟩
            clear hK K
            try simp only [Act.put, List.setIfInBounds_toArray, List.set_cons_zero, List.set_cons_succ]
            refine wpAnyH_ready (rs := [7]) (by kernel_rfl) (by simp) ?_
            refine AllReadyH.cons (o := { dst := none, op := Op.store 24 (Operand.tmp 8) (Operand.tmp 22), type := 0, pos := "law.go:29", after := #[{ on := 5, ground := Ground.data }, { on := 3, ground := Ground.data }, { on := 6, ground := Ground.chain }, { on := 0, ground := Ground.phase }, { on := 1, ground := Ground.phase }, { on := 2, ground := Ground.phase }, { on := 3, ground := Ground.phase }, { on := 4, ground := Ground.phase }, { on := 5, ground := Ground.phase }, { on := 6, ground := Ground.phase }], guard := none }) rfl (fun K hK => ?_) AllReadyH.nil
            go_simp
            refine hK.out _ _ ?_ (fun hHeld => ?_)
            · exact ⟨far2 (far2 c1 g1) g3, far2 (far2 c2 g1) g3, far2 (far2 c3 g2) g4, far2 (far2 c4 g2) g4⟩
            clear hK K
            try simp only [Act.put, List.setIfInBounds_toArray, List.set_cons_zero, List.set_cons_succ]
            refine wpAnyH_done (by kernel_rfl) ?_ _
            refine NoPanic.normal ?_
            go_wp2_with fail
            go_meet
            exact ⟨_, _, _, _, _, _, rfl, rfl, HT.out⟩
        · go_simp
          refine hK.out _ _ ?_ (fun hHeld => ?_)
          · first | (refine ⟨?_, ?_, ?_, ?_⟩ <;> first | assumption | (simp [*, World.cell?_alloc_some, World.cell?_setCell_far]; done))
          clear hK K
          have h' : Below w2.heap.size w2 (w2.alloc (.cells #[.slice none 0 0, .slice none 0 0] 24)) := below_alloc _ _
          have HLn := LabAt.new w2 (.slice none 0 0) (.slice none 0 0)
          obtain ⟨w3, hw⟩ : ∃ x, x = w2.alloc (.cells #[.slice none 0 0, .slice none 0 0] 24) := ⟨_, rfl⟩
          rw [← hw] at h' HLn hHeld ⊢
          clear hw
          obtain ⟨p5, hp⟩ : ∃ x, x = w2.heap.size := ⟨_, rfl⟩
          rw [← hp] at HLn ⊢
          have HG5 := hid (show W.heap.size ≤ p5 from by rw [hp]; exact HB.out.size)
          have HNE := hid (show p4 ≠ p5 from by have := HL4.out.lt; omega)
          clear hp
          have HBn := hid (HB.out.trans (h'.mono HB.out.size))
          clear HB
          have HB := HBn
          clear HBn c1 c2 c3 c4
          obtain ⟨c1, c2⟩ := HA1.out.below HB.out
          obtain ⟨c3, c4⟩ := HA2.out.below HB.out
          have HO1n := hid (And.intro (HO1.out.1.below h') (HO1.out.2.below h'))
          clear HO1
          have HO1 := HO1n
          clear HO1n
          have HL4n := hid (HL4.out.below h' HL4.out.lt)
          clear HL4
          have HL4 := HL4n
          clear HL4n
          have HL5 := hid HLn
          clear HLn h'
          try simp only [Act.put, List.setIfInBounds_toArray, List.set_cons_zero, List.set_cons_succ]
          refine wpAnyH_ready (rs := [3]) (by kernel_rfl) (by simp) ?_
          refine AllReadyH.cons (o := { dst := some 22, op := Op.call { callee := Callee.value (Operand.func 8), args := #[Operand.tmp 21], argTypes := #[24] }, type := 24, pos := "law.go:29", after := #[{ on := 2, ground := Ground.data }, { on := 1, ground := Ground.chain }], guard := none }) rfl (fun K hK => ?_) AllReadyH.nil
          · go_simp
            refine (Z2.out _ HB.out).mono ?_
            rintro e w4 ⟨v2, y2, rfl, hO, hP, h'⟩
            have HOn2 := hid (And.intro (owns_le hO HB.out.size) (owns_le hP HB.out.size))
            clear hO hP
            have HBn := hid (HB.out.trans (h'.mono HB.out.size))
            clear HB
            have HB := HBn
            clear HBn c1 c2 c3 c4
            obtain ⟨c1, c2⟩ := HA1.out.below HB.out
            obtain ⟨c3, c4⟩ := HA2.out.below HB.out
            have HO1n := hid (And.intro (HO1.out.1.below h') (HO1.out.2.below h'))
            clear HO1
            have HO1 := HO1n
            clear HO1n
            have HL4n := hid (HL4.out.below h' HL4.out.lt)
            clear HL4
            have HL4 := HL4n
            clear HL4n
            have HL5n := hid (HL5.out.below h' HL5.out.lt)
            clear HL5
            have HL5 := HL5n
            clear HL5n
            have HO2 := HOn2
            clear HOn2 h'
            try go_wp2_with fail
            refine hK.out _ _ ?_ (fun hHeld => ?_)
            · first | (refine ⟨?_, ?_, ?_, ?_⟩ <;> first | assumption | (simp [*, World.cell?_alloc_some, World.cell?_setCell_far]; done))
            clear hK K
            try simp only [Act.put, List.setIfInBounds_toArray, List.set_cons_zero, List.set_cons_succ]
            obtain ⟨e1, e2, e3, e4⟩ := HL4.out.cells
            obtain ⟨e5, e6, e7, e8⟩ := ((HL5.out.far (o := 0) (x := v1) (Ne.symm HNE.out)).far (o := 1) (x := y1) (Ne.symm HNE.out)).cells
            have g1 : p4 ≠ w.heap.size := by have := HG4.out; omega
            have g2 : p4 ≠ w.heap.size + 1 := by have := HG4.out; omega
            have g3 : p5 ≠ w.heap.size := by have := HG5.out; omega
            have g4 : p5 ≠ w.heap.size + 1 := by have := HG5.out; omega
            have HT := hid (two_labs HB.out HL4.out HL5.out HNE.out HG4.out HG5.out HO1.out.1 HO1.out.2 HO2.out.1 HO2.out.2)
            obtain ⟨am1, nm1, cm1, hm1⟩ := owns_slice HO1.out.1
            obtain ⟨am2, nm2, cm2, hm2⟩ := owns_slice HO1.out.2
            obtain ⟨am3, nm3, cm3, hm3⟩ := owns_slice HO2.out.1
            obtain ⟨am4, nm4, cm4, hm4⟩ := owns_slice HO2.out.2
            subst hm1
            subst hm2
            subst hm3
            subst hm4
            clear HL4 HL5 HO1 HO2 HG4 HG5 HNE HB
            refine wpAnyH_ready (rs := [6]) (by kernel_rfl) (by simp) ?_
            refine AllReadyH.cons (o := { dst := none, op := Op.store 24 (Operand.tmp 7) (Operand.tmp 20), type := 0, pos := "law.go:29", after := #[{ on := 4, ground := Ground.data }, { on := 1, ground := Ground.data }, { on := 3, ground := Ground.chain }, { on := 0, ground := Ground.phase }, { on := 1, ground := Ground.phase }, { on := 2, ground := Ground.textOnly Departure.lateStores }, { on := 3, ground := Ground.textOnly Departure.lateStoresUnsure }, { on := 4, ground := Ground.phase }, { on := 5, ground := Ground.phase }], guard := none }) rfl (fun K hK => ?_) AllReadyH.nil
            go_simp
            refine hK.out _ _ ?_ (fun hHeld => ?_)
            · exact ⟨far2 c1 g1, far2 c2 g1, far2 c3 g2, far2 c4 g2⟩
            clear hK K
            try simp only [Act.put, List.setIfInBounds_toArray, List.set_cons_zero, List.set_cons_succ]
            refine wpAnyH_ready (rs := [7]) (by kernel_rfl) (by simp) ?_
            refine AllReadyH.cons (o := { dst := none, op := Op.store 24 (Operand.tmp 8) (Operand.tmp 22), type := 0, pos := "law.go:29", after := #[{ on := 5, ground := Ground.data }, { on := 3, ground := Ground.data }, { on := 6, ground := Ground.chain }, { on := 0, ground := Ground.phase }, { on := 1, ground := Ground.phase }, { on := 2, ground := Ground.phase }, { on := 3, ground := Ground.phase }, { on := 4, ground := Ground.phase }, { on := 5, ground := Ground.phase }, { on := 6, ground := Ground.phase }], guard := none }) rfl (fun K hK => ?_) AllReadyH.nil
            go_simp
            refine hK.out _ _ ?_ (fun hHeld => ?_)
            · exact ⟨far2 (far2 c1 g1) g3, far2 (far2 c2 g1) g3, far2 (far2 c3 g2) g4, far2 (far2 c4 g2) g4⟩
            clear hK K
            try simp only [Act.put, List.setIfInBounds_toArray, List.set_cons_zero, List.set_cons_succ]
            refine wpAnyH_done (by kernel_rfl) ?_ _
            refine NoPanic.normal ?_
            go_wp2_with fail
            go_meet
            exact ⟨_, _, _, _, _, _, rfl, rfl, HT.out⟩
      · go_simp
        refine hK.out _ _ ?_ (fun hHeld => ?_)
        · first | (refine ⟨?_, ?_, ?_, ?_⟩ <;> first | assumption | (simp [*, World.cell?_alloc_some, World.cell?_setCell_far]; done))
        clear hK K
        have h' : Below w1.heap.size w1 (w1.alloc (.cells #[.slice none 0 0, .slice none 0 0] 24)) := below_alloc _ _
        have HLn := LabAt.new w1 (.slice none 0 0) (.slice none 0 0)
        obtain ⟨w2, hw⟩ : ∃ x, x = w1.alloc (.cells #[.slice none 0 0, .slice none 0 0] 24) := ⟨_, rfl⟩
        rw [← hw] at h' HLn hHeld ⊢
        clear hw
        obtain ⟨p5, hp⟩ : ∃ x, x = w1.heap.size := ⟨_, rfl⟩
        rw [← hp] at HLn ⊢
        have HG5 := hid (show W.heap.size ≤ p5 from by rw [hp]; exact HB.out.size)
        clear hp
        have HBn := hid (HB.out.trans (h'.mono HB.out.size))
        clear HB
        have HB := HBn
        clear HBn c1 c2 c3 c4
        obtain ⟨c1, c2⟩ := HA1.out.below HB.out
        obtain ⟨c3, c4⟩ := HA2.out.below HB.out
        have HO1n := hid (And.intro (HO1.out.1.below h') (HO1.out.2.below h'))
        clear HO1
        have HO1 := HO1n
        clear HO1n
        have HL5 := hid HLn
        clear HLn h'
        try simp only [Act.put, List.setIfInBounds_toArray, List.set_cons_zero, List.set_cons_succ]
        refine wpAnyH_ready (rs := [3, 4]) (by kernel_rfl) (by simp) ?_
        refine AllReadyH.cons (o := { dst := some 22, op := Op.call { callee := Callee.value (Operand.func 8), args := #[Operand.tmp 21], argTypes := #[24] }, type := 24, pos := "law.go:29", after := #[{ on := 2, ground := Ground.data }, { on := 1, ground := Ground.chain }], guard := none }) rfl (fun K hK => ?_) (AllReadyH.cons (o := { dst := some 7, op := Op.alloc 24, type := 0, pos := "law.go:29", after := #[], guard := none }) rfl (fun K hK => ?_) AllReadyH.nil)
        · go_simp
          refine (Z2.out _ HB.out).mono ?_
          rintro e w3 ⟨v2, y2, rfl, hO, hP, h'⟩
          have HOn2 := hid (And.intro (owns_le hO HB.out.size) (owns_le hP HB.out.size))
          clear hO hP
          have HBn := hid (HB.out.trans (h'.mono HB.out.size))
          clear HB
          have HB := HBn
          clear HBn c1 c2 c3 c4
          obtain ⟨c1, c2⟩ := HA1.out.below HB.out
          obtain ⟨c3, c4⟩ := HA2.out.below HB.out
          have HO1n := hid (And.intro (HO1.out.1.below h') (HO1.out.2.below h'))
          clear HO1
          have HO1 := HO1n
          clear HO1n
          have HL5n := hid (HL5.out.below h' HL5.out.lt)
          clear HL5
          have HL5 := HL5n
          clear HL5n
          have HO2 := HOn2
          clear HOn2 h'
          try go_wp2_with fail
          refine hK.out _ _ ?_ (fun hHeld => ?_)
          · first | (refine ⟨?_, ?_, ?_, ?_⟩ <;> first | assumption | (simp [*, World.cell?_alloc_some, World.cell?_setCell_far]; done))
          clear hK K
          try simp only [Act.put, List.setIfInBounds_toArray, List.set_cons_zero, List.set_cons_succ]
          refine wpAnyH_ready (rs := [4]) (by kernel_rfl) (by simp) ?_
          refine AllReadyH.cons (o := { dst := some 7, op := Op.alloc 24, type := 0, pos := "law.go:29", after := #[], guard := none }) rfl (fun K hK => ?_) AllReadyH.nil
          · go_simp
            refine hK.out _ _ ?_ (fun hHeld => ?_)
            · first | (refine ⟨?_, ?_, ?_, ?_⟩ <;> first | assumption | (simp [*, World.cell?_alloc_some, World.cell?_setCell_far]; done))
            clear hK K
            have h' : Below w3.heap.size w3 (w3.alloc (.cells #[.slice none 0 0, .slice none 0 0] 24)) := below_alloc _ _
            have HLn := LabAt.new w3 (.slice none 0 0) (.slice none 0 0)
            obtain ⟨w4, hw⟩ : ∃ x, x = w3.alloc (.cells #[.slice none 0 0, .slice none 0 0] 24) := ⟨_, rfl⟩
            rw [← hw] at h' HLn hHeld ⊢
            clear hw
            obtain ⟨p4, hp⟩ : ∃ x, x = w3.heap.size := ⟨_, rfl⟩
            rw [← hp] at HLn ⊢
            have HG4 := hid (show W.heap.size ≤ p4 from by rw [hp]; exact HB.out.size)
            have HNE := hid (show p4 ≠ p5 from by have := HL5.out.lt; omega)
            clear hp
            have HBn := hid (HB.out.trans (h'.mono HB.out.size))
            clear HB
            have HB := HBn
            clear HBn c1 c2 c3 c4
            obtain ⟨c1, c2⟩ := HA1.out.below HB.out
            obtain ⟨c3, c4⟩ := HA2.out.below HB.out
            have HO1n := hid (And.intro (HO1.out.1.below h') (HO1.out.2.below h'))
            clear HO1
            have HO1 := HO1n
            clear HO1n
            have HO2n := hid (And.intro (HO2.out.1.below h') (HO2.out.2.below h'))
            clear HO2
            have HO2 := HO2n
            clear HO2n
            have HL5n := hid (HL5.out.below h' HL5.out.lt)
            clear HL5
            have HL5 := HL5n
            clear HL5n
            have HL4 := hid HLn
            clear HLn h'
            try simp only [Act.put, List.setIfInBounds_toArray, List.set_cons_zero, List.set_cons_succ]
            obtain ⟨e1, e2, e3, e4⟩ := HL4.out.cells
            obtain ⟨e5, e6, e7, e8⟩ := ((HL5.out.far (o := 0) (x := v1) (Ne.symm HNE.out)).far (o := 1) (x := y1) (Ne.symm HNE.out)).cells
            have g1 : p4 ≠ w.heap.size := by have := HG4.out; omega
            have g2 : p4 ≠ w.heap.size + 1 := by have := HG4.out; omega
            have g3 : p5 ≠ w.heap.size := by have := HG5.out; omega
            have g4 : p5 ≠ w.heap.size + 1 := by have := HG5.out; omega
            have HT := hid (two_labs HB.out HL4.out HL5.out HNE.out HG4.out HG5.out HO1.out.1 HO1.out.2 HO2.out.1 HO2.out.2)
            obtain ⟨am1, nm1, cm1, hm1⟩ := owns_slice HO1.out.1
            obtain ⟨am2, nm2, cm2, hm2⟩ := owns_slice HO1.out.2
            obtain ⟨am3, nm3, cm3, hm3⟩ := owns_slice HO2.out.1
            obtain ⟨am4, nm4, cm4, hm4⟩ := owns_slice HO2.out.2
            subst hm1
            subst hm2
            subst hm3
            subst hm4
            clear HL4 HL5 HO1 HO2 HG4 HG5 HNE HB
            refine wpAnyH_ready (rs := [6]) (by kernel_rfl) (by simp) ?_
            refine AllReadyH.cons (o := { dst := none, op := Op.store 24 (Operand.tmp 7) (Operand.tmp 20), type := 0, pos := "law.go:29", after := #[{ on := 4, ground := Ground.data }, { on := 1, ground := Ground.data }, { on := 3, ground := Ground.chain }, { on := 0, ground := Ground.phase }, { on := 1, ground := Ground.phase }, { on := 2, ground := Ground.textOnly Departure.lateStores }, { on := 3, ground := Ground.textOnly Departure.lateStoresUnsure }, { on := 4, ground := Ground.phase }, { on := 5, ground := Ground.phase }], guard := none }) rfl (fun K hK => ?_) AllReadyH.nil
            go_simp
            refine hK.out _ _ ?_ (fun hHeld => ?_)
            · exact ⟨far2 c1 g1, far2 c2 g1, far2 c3 g2, far2 c4 g2⟩
            clear hK K
            try simp only [Act.put, List.setIfInBounds_toArray, List.set_cons_zero, List.set_cons_succ]
            refine wpAnyH_ready (rs := [7]) (by kernel_rfl) (by simp) ?_
            refine AllReadyH.cons (o := { dst := none, op := Op.store 24 (Operand.tmp 8) (Operand.tmp 22), type := 0, pos := "law.go:29", after := #[{ on := 5, ground := Ground.data }, { on := 3, ground := Ground.data }, { on := 6, ground := Ground.chain }, { on := 0, ground := Ground.phase }, { on := 1, ground := Ground.phase }, { on := 2, ground := Ground.phase }, { on := 3, ground := Ground.phase }, { on := 4, ground := Ground.phase }, { on := 5, ground := Ground.phase }, { on := 6, ground := Ground.phase }], guard := none }) rfl (fun K hK => ?_) AllReadyH.nil
            go_simp
            refine hK.out _ _ ?_ (fun hHeld => ?_)
            · exact ⟨far2 (far2 c1 g1) g3, far2 (far2 c2 g1) g3, far2 (far2 c3 g2) g4, far2 (far2 c4 g2) g4⟩
            clear hK K
            try simp only [Act.put, List.setIfInBounds_toArray, List.set_cons_zero, List.set_cons_succ]
            refine wpAnyH_done (by kernel_rfl) ?_ _
            refine NoPanic.normal ?_
            go_wp2_with fail
            go_meet
            exact ⟨_, _, _, _, _, _, rfl, rfl, HT.out⟩
        · go_simp
          refine hK.out _ _ ?_ (fun hHeld => ?_)
          · first | (refine ⟨?_, ?_, ?_, ?_⟩ <;> first | assumption | (simp [*, World.cell?_alloc_some, World.cell?_setCell_far]; done))
          clear hK K
          have h' : Below w2.heap.size w2 (w2.alloc (.cells #[.slice none 0 0, .slice none 0 0] 24)) := below_alloc _ _
          have HLn := LabAt.new w2 (.slice none 0 0) (.slice none 0 0)
          obtain ⟨w3, hw⟩ : ∃ x, x = w2.alloc (.cells #[.slice none 0 0, .slice none 0 0] 24) := ⟨_, rfl⟩
          rw [← hw] at h' HLn hHeld ⊢
          clear hw
          obtain ⟨p4, hp⟩ : ∃ x, x = w2.heap.size := ⟨_, rfl⟩
          rw [← hp] at HLn ⊢
          have HG4 := hid (show W.heap.size ≤ p4 from by rw [hp]; exact HB.out.size)
          have HNE := hid (show p4 ≠ p5 from by have := HL5.out.lt; omega)
          clear hp
          have HBn := hid (HB.out.trans (h'.mono HB.out.size))
          clear HB
          have HB := HBn
          clear HBn c1 c2 c3 c4
          obtain ⟨c1, c2⟩ := HA1.out.below HB.out
          obtain ⟨c3, c4⟩ := HA2.out.below HB.out
          have HO1n := hid (And.intro (HO1.out.1.below h') (HO1.out.2.below h'))
          clear HO1
          have HO1 := HO1n
          clear HO1n
          have HL5n := hid (HL5.out.below h' HL5.out.lt)
          clear HL5
          have HL5 := HL5n
          clear HL5n
          have HL4 := hid HLn
          clear HLn h'
          try simp only [Act.put, List.setIfInBounds_toArray, List.set_cons_zero, List.set_cons_succ]
          refine wpAnyH_ready (rs := [3]) (by kernel_rfl) (by simp) ?_
          refine AllReadyH.cons (o := { dst := some 22, op := Op.call { callee := Callee.value (Operand.func 8), args := #[Operand.tmp 21], argTypes := #[24] }, type := 24, pos := "law.go:29", after := #[{ on := 2, ground := Ground.data }, { on := 1, ground := Ground.chain }], guard := none }) rfl (fun K hK => ?_) AllReadyH.nil
          · go_simp
            refine (Z2.out _ HB.out).mono ?_
            rintro e w4 ⟨v2, y2, rfl, hO, hP, h'⟩
            have HOn2 := hid (And.intro (owns_le hO HB.out.size) (owns_le hP HB.out.size))
            clear hO hP
            have HBn := hid (HB.out.trans (h'.mono HB.out.size))
            clear HB
            have HB := HBn
            clear HBn c1 c2 c3 c4
            obtain ⟨c1, c2⟩ := HA1.out.below HB.out
            obtain ⟨c3, c4⟩ := HA2.out.below HB.out
            have HO1n := hid (And.intro (HO1.out.1.below h') (HO1.out.2.below h'))
            clear HO1
            have HO1 := HO1n
            clear HO1n
            have HL4n := hid (HL4.out.below h' HL4.out.lt)
            clear HL4
            have HL4 := HL4n
            clear HL4n
            have HL5n := hid (HL5.out.below h' HL5.out.lt)
            clear HL5
            have HL5 := HL5n
            clear HL5n
            have HO2 := HOn2
            clear HOn2 h'
            try go_wp2_with fail
            refine hK.out _ _ ?_ (fun hHeld => ?_)
            · first | (refine ⟨?_, ?_, ?_, ?_⟩ <;> first | assumption | (simp [*, World.cell?_alloc_some, World.cell?_setCell_far]; done))
            clear hK K
            try simp only [Act.put, List.setIfInBounds_toArray, List.set_cons_zero, List.set_cons_succ]
            obtain ⟨e1, e2, e3, e4⟩ := HL4.out.cells
            obtain ⟨e5, e6, e7, e8⟩ := ((HL5.out.far (o := 0) (x := v1) (Ne.symm HNE.out)).far (o := 1) (x := y1) (Ne.symm HNE.out)).cells
            have g1 : p4 ≠ w.heap.size := by have := HG4.out; omega
            have g2 : p4 ≠ w.heap.size + 1 := by have := HG4.out; omega
            have g3 : p5 ≠ w.heap.size := by have := HG5.out; omega
            have g4 : p5 ≠ w.heap.size + 1 := by have := HG5.out; omega
            have HT := hid (two_labs HB.out HL4.out HL5.out HNE.out HG4.out HG5.out HO1.out.1 HO1.out.2 HO2.out.1 HO2.out.2)
            obtain ⟨am1, nm1, cm1, hm1⟩ := owns_slice HO1.out.1
            obtain ⟨am2, nm2, cm2, hm2⟩ := owns_slice HO1.out.2
            obtain ⟨am3, nm3, cm3, hm3⟩ := owns_slice HO2.out.1
            obtain ⟨am4, nm4, cm4, hm4⟩ := owns_slice HO2.out.2
            subst hm1
            subst hm2
            subst hm3
            subst hm4
            clear HL4 HL5 HO1 HO2 HG4 HG5 HNE HB
            refine wpAnyH_ready (rs := [6]) (by kernel_rfl) (by simp) ?_
            refine AllReadyH.cons (o := { dst := none, op := Op.store 24 (Operand.tmp 7) (Operand.tmp 20), type := 0, pos := "law.go:29", after := #[{ on := 4, ground := Ground.data }, { on := 1, ground := Ground.data }, { on := 3, ground := Ground.chain }, { on := 0, ground := Ground.phase }, { on := 1, ground := Ground.phase }, { on := 2, ground := Ground.textOnly Departure.lateStores }, { on := 3, ground := Ground.textOnly Departure.lateStoresUnsure }, { on := 4, ground := Ground.phase }, { on := 5, ground := Ground.phase }], guard := none }) rfl (fun K hK => ?_) AllReadyH.nil
            go_simp
            refine hK.out _ _ ?_ (fun hHeld => ?_)
            · exact ⟨far2 c1 g1, far2 c2 g1, far2 c3 g2, far2 c4 g2⟩
            clear hK K
            try simp only [Act.put, List.setIfInBounds_toArray, List.set_cons_zero, List.set_cons_succ]
            refine wpAnyH_ready (rs := [7]) (by kernel_rfl) (by simp) ?_
            refine AllReadyH.cons (o := { dst := none, op := Op.store 24 (Operand.tmp 8) (Operand.tmp 22), type := 0, pos := "law.go:29", after := #[{ on := 5, ground := Ground.data }, { on := 3, ground := Ground.data }, { on := 6, ground := Ground.chain }, { on := 0, ground := Ground.phase }, { on := 1, ground := Ground.phase }, { on := 2, ground := Ground.phase }, { on := 3, ground := Ground.phase }, { on := 4, ground := Ground.phase }, { on := 5, ground := Ground.phase }, { on := 6, ground := Ground.phase }], guard := none }) rfl (fun K hK => ?_) AllReadyH.nil
            go_simp
            refine hK.out _ _ ?_ (fun hHeld => ?_)
            · exact ⟨far2 (far2 c1 g1) g3, far2 (far2 c2 g1) g3, far2 (far2 c3 g2) g4, far2 (far2 c4 g2) g4⟩
            clear hK K
            try simp only [Act.put, List.setIfInBounds_toArray, List.set_cons_zero, List.set_cons_succ]
            refine wpAnyH_done (by kernel_rfl) ?_ _
            refine NoPanic.normal ?_
            go_wp2_with fail
            go_meet
            exact ⟨_, _, _, _, _, _, rfl, rfl, HT.out⟩
    · go_simp
      refine hK.out _ _ ?_ (fun hHeld => ?_)
      · first | (refine ⟨?_, ?_, ?_, ?_⟩ <;> first | assumption | (simp [*, World.cell?_alloc_some, World.cell?_setCell_far]; done))
      clear hK K
      have h' : Below w0.heap.size w0 (w0.alloc (.cells #[.slice none 0 0, .slice none 0 0] 24)) := below_alloc _ _
      have HLn := LabAt.new w0 (.slice none 0 0) (.slice none 0 0)
      obtain ⟨w1, hw⟩ : ∃ x, x = w0.alloc (.cells #[.slice none 0 0, .slice none 0 0] 24) := ⟨_, rfl⟩
      rw [← hw] at h' HLn hHeld ⊢
      clear hw
      obtain ⟨p4, hp⟩ : ∃ x, x = w0.heap.size := ⟨_, rfl⟩
      rw [← hp] at HLn ⊢
      have HG4 := hid (show W.heap.size ≤ p4 from by rw [hp]; exact HB.out.size)
      clear hp
      have HBn := hid (HB.out.trans (h'.mono HB.out.size))
      clear HB
      have HB := HBn
      clear HBn c1 c2 c3 c4
      obtain ⟨c1, c2⟩ := HA1.out.below HB.out
      obtain ⟨c3, c4⟩ := HA2.out.below HB.out
      have HL4 := hid HLn
      clear HLn h'
      try simp only [Act.put, List.setIfInBounds_toArray, List.set_cons_zero, List.set_cons_succ]
      refine wpAnyH_ready (rs := [1, 5]) (by kernel_rfl) (by simp) ?_
      refine AllReadyH.cons (o := { dst := some 20, op := Op.call { callee := Callee.value (Operand.func 8), args := #[Operand.tmp 19], argTypes := #[24] }, type := 24, pos := "law.go:29", after := #[{ on := 0, ground := Ground.data }], guard := none }) rfl (fun K hK => ?_) (AllReadyH.cons (o := { dst := some 8, op := Op.alloc 24, type := 0, pos := "law.go:29", after := #[], guard := none }) rfl (fun K hK => ?_) AllReadyH.nil)
      · go_simp
        refine (Z1.out _ HB.out).mono ?_
        rintro e w2 ⟨v1, y1, rfl, hO, hP, h'⟩
        have HOn1 := hid (And.intro (owns_le hO HB.out.size) (owns_le hP HB.out.size))
        clear hO hP
        have HBn := hid (HB.out.trans (h'.mono HB.out.size))
        clear HB
        have HB := HBn
        clear HBn c1 c2 c3 c4
        obtain ⟨c1, c2⟩ := HA1.out.below HB.out
        obtain ⟨c3, c4⟩ := HA2.out.below HB.out
        have HL4n := hid (HL4.out.below h' HL4.out.lt)
        clear HL4
        have HL4 := HL4n
        clear HL4n
        have HO1 := HOn1
        clear HOn1 h'
        try go_wp2_with fail
        refine hK.out _ _ ?_ (fun hHeld => ?_)
        · first | (refine ⟨?_, ?_, ?_, ?_⟩ <;> first | assumption | (simp [*, World.cell?_alloc_some, World.cell?_setCell_far]; done))
        clear hK K
        try simp only [Act.put, List.setIfInBounds_toArray, List.set_cons_zero, List.set_cons_succ]
        refine wpAnyH_ready (rs := [3, 5]) (by kernel_rfl) (by simp) ?_
        refine AllReadyH.cons (o := { dst := some 22, op := Op.call { callee := Callee.value (Operand.func 8), args := #[Operand.tmp 21], argTypes := #[24] }, type := 24, pos := "law.go:29", after := #[{ on := 2, ground := Ground.data }, { on := 1, ground := Ground.chain }], guard := none }) rfl (fun K hK => ?_) (AllReadyH.cons (o := { dst := some 8, op := Op.alloc 24, type := 0, pos := "law.go:29", after := #[], guard := none }) rfl (fun K hK => ?_) AllReadyH.nil)
        · go_simp
          refine (Z2.out _ HB.out).mono ?_
          rintro e w3 ⟨v2, y2, rfl, hO, hP, h'⟩
          have HOn2 := hid (And.intro (owns_le hO HB.out.size) (owns_le hP HB.out.size))
          clear hO hP
          have HBn := hid (HB.out.trans (h'.mono HB.out.size))
          clear HB
          have HB := HBn
          clear HBn c1 c2 c3 c4
          obtain ⟨c1, c2⟩ := HA1.out.below HB.out
          obtain ⟨c3, c4⟩ := HA2.out.below HB.out
          have HO1n := hid (And.intro (HO1.out.1.below h') (HO1.out.2.below h'))
          clear HO1
          have HO1 := HO1n
          clear HO1n
          have HL4n := hid (HL4.out.below h' HL4.out.lt)
          clear HL4
          have HL4 := HL4n
          clear HL4n
          have HO2 := HOn2
          clear HOn2 h'
          try go_wp2_with fail
          refine hK.out _ _ ?_ (fun hHeld => ?_)
          · first | (refine ⟨?_, ?_, ?_, ?_⟩ <;> first | assumption | (simp [*, World.cell?_alloc_some, World.cell?_setCell_far]; done))
          clear hK K
          try simp only [Act.put, List.setIfInBounds_toArray, List.set_cons_zero, List.set_cons_succ]
          refine wpAnyH_ready (rs := [5]) (by kernel_rfl) (by simp) ?_
          refine AllReadyH.cons (o := { dst := some 8, op := Op.alloc 24, type := 0, pos := "law.go:29", after := #[], guard := none }) rfl (fun K hK => ?_) AllReadyH.nil
          · go_simp
            refine hK.out _ _ ?_ (fun hHeld => ?_)
            · first | (refine ⟨?_, ?_, ?_, ?_⟩ <;> first | assumption | (simp [*, World.cell?_alloc_some, World.cell?_setCell_far]; done))
            clear hK K
            have h' : Below w3.heap.size w3 (w3.alloc (.cells #[.slice none 0 0, .slice none 0 0] 24)) := below_alloc _ _
            have HLn := LabAt.new w3 (.slice none 0 0) (.slice none 0 0)
            obtain ⟨w4, hw⟩ : ∃ x, x = w3.alloc (.cells #[.slice none 0 0, .slice none 0 0] 24) := ⟨_, rfl⟩
            rw [← hw] at h' HLn hHeld ⊢
            clear hw
            obtain ⟨p5, hp⟩ : ∃ x, x = w3.heap.size := ⟨_, rfl⟩
            rw [← hp] at HLn ⊢
            have HG5 := hid (show W.heap.size ≤ p5 from by rw [hp]; exact HB.out.size)
            have HNE := hid (show p4 ≠ p5 from by have := HL4.out.lt; omega)
            clear hp
            have HBn := hid (HB.out.trans (h'.mono HB.out.size))
            clear HB
            have HB := HBn
            clear HBn c1 c2 c3 c4
            obtain ⟨c1, c2⟩ := HA1.out.below HB.out
            obtain ⟨c3, c4⟩ := HA2.out.below HB.out
            have HO1n := hid (And.intro (HO1.out.1.below h') (HO1.out.2.below h'))
            clear HO1
            have HO1 := HO1n
            clear HO1n
            have HO2n := hid (And.intro (HO2.out.1.below h') (HO2.out.2.below h'))
            clear HO2
            have HO2 := HO2n
            clear HO2n
            have HL4n := hid (HL4.out.below h' HL4.out.lt)
            clear HL4
            have HL4 := HL4n
            clear HL4n
            have HL5 := hid HLn
            clear HLn h'
            try simp only [Act.put, List.setIfInBounds_toArray, List.set_cons_zero, List.set_cons_succ]
            obtain ⟨e1, e2, e3, e4⟩ := HL4.out.cells
            obtain ⟨e5, e6, e7, e8⟩ := ((HL5.out.far (o := 0) (x := v1) (Ne.symm HNE.out)).far (o := 1) (x := y1) (Ne.symm HNE.out)).cells
            have g1 : p4 ≠ w.heap.size := by have := HG4.out; omega
            have g2 : p4 ≠ w.heap.size + 1 := by have := HG4.out; omega
            have g3 : p5 ≠ w.heap.size := by have := HG5.out; omega
            have g4 : p5 ≠ w.heap.size + 1 := by have := HG5.out; omega
            have HT := hid (two_labs HB.out HL4.out HL5.out HNE.out HG4.out HG5.out HO1.out.1 HO1.out.2 HO2.out.1 HO2.out.2)
            obtain ⟨am1, nm1, cm1, hm1⟩ := owns_slice HO1.out.1
            obtain ⟨am2, nm2, cm2, hm2⟩ := owns_slice HO1.out.2
            obtain ⟨am3, nm3, cm3, hm3⟩ := owns_slice HO2.out.1
            obtain ⟨am4, nm4, cm4, hm4⟩ := owns_slice HO2.out.2
            subst hm1
            subst hm2
            subst hm3
            subst hm4
            clear HL4 HL5 HO1 HO2 HG4 HG5 HNE HB
            refine wpAnyH_ready (rs := [6]) (by kernel_rfl) (by simp) ?_
            refine AllReadyH.cons (o := { dst := none, op := Op.store 24 (Operand.tmp 7) (Operand.tmp 20), type := 0, pos := "law.go:29", after := #[{ on := 4, ground := Ground.data }, { on := 1, ground := Ground.data }, { on := 3, ground := Ground.chain }, { on := 0, ground := Ground.phase }, { on := 1, ground := Ground.phase }, { on := 2, ground := Ground.textOnly Departure.lateStores }, { on := 3, ground := Ground.textOnly Departure.lateStoresUnsure }, { on := 4, ground := Ground.phase }, { on := 5, ground := Ground.phase }], guard := none }) rfl (fun K hK => ?_) AllReadyH.nil
            go_simp
            refine hK.out _ _ ?_ (fun hHeld => ?_)
            · exact ⟨far2 c1 g1, far2 c2 g1, far2 c3 g2, far2 c4 g2⟩
            clear hK K
            try simp only [Act.put, List.setIfInBounds_toArray, List.set_cons_zero, List.set_cons_succ]
            refine wpAnyH_ready (rs := [7]) (by kernel_rfl) (by simp) ?_
            refine AllReadyH.cons (o := { dst := none, op := Op.store 24 (Operand.tmp 8) (Operand.tmp 22), type := 0, pos := "law.go:29", after := #[{ on := 5, ground := Ground.data }, { on := 3, ground := Ground.data }, { on := 6, ground := Ground.chain }, { on := 0, ground := Ground.phase }, { on := 1, ground := Ground.phase }, { on := 2, ground := Ground.phase }, { on := 3, ground := Ground.phase }, { on := 4, ground := Ground.phase }, { on := 5, ground := Ground.phase }, { on := 6, ground := Ground.phase }], guard := none }) rfl (fun K hK => ?_) AllReadyH.nil
            go_simp
            refine hK.out _ _ ?_ (fun hHeld => ?_)
            · exact ⟨far2 (far2 c1 g1) g3, far2 (far2 c2 g1) g3, far2 (far2 c3 g2) g4, far2 (far2 c4 g2) g4⟩
            clear hK K
            try simp only [Act.put, List.setIfInBounds_toArray, List.set_cons_zero, List.set_cons_succ]
            refine wpAnyH_done (by kernel_rfl) ?_ _
            refine NoPanic.normal ?_
            go_wp2_with fail
            go_meet
            exact ⟨_, _, _, _, _, _, rfl, rfl, HT.out⟩
        · go_simp
          refine hK.out _ _ ?_ (fun hHeld => ?_)
          · first | (refine ⟨?_, ?_, ?_, ?_⟩ <;> first | assumption | (simp [*, World.cell?_alloc_some, World.cell?_setCell_far]; done))
          clear hK K
          have h' : Below w2.heap.size w2 (w2.alloc (.cells #[.slice none 0 0, .slice none 0 0] 24)) := below_alloc _ _
          have HLn := LabAt.new w2 (.slice none 0 0) (.slice none 0 0)
          obtain ⟨w3, hw⟩ : ∃ x, x = w2.alloc (.cells #[.slice none 0 0, .slice none 0 0] 24) := ⟨_, rfl⟩
          rw [← hw] at h' HLn hHeld ⊢
          clear hw
          obtain ⟨p5, hp⟩ : ∃ x, x = w2.heap.size := ⟨_, rfl⟩
          rw [← hp] at HLn ⊢
          have HG5 := hid (show W.heap.size ≤ p5 from by rw [hp]; exact HB.out.size)
          have HNE := hid (show p4 ≠ p5 from by have := HL4.out.lt; omega)
          clear hp
          have HBn := hid (HB.out.trans (h'.mono HB.out.size))
          clear HB
          have HB := HBn
          clear HBn c1 c2 c3 c4
          obtain ⟨c1, c2⟩ := HA1.out.below HB.out
          obtain ⟨c3, c4⟩ := HA2.out.below HB.out
          have HO1n := hid (And.intro (HO1.out.1.below h') (HO1.out.2.below h'))
          clear HO1
          have HO1 := HO1n
          clear HO1n
          have HL4n := hid (HL4.out.below h' HL4.out.lt)
          clear HL4
          have HL4 := HL4n
          clear HL4n
          have HL5 := hid HLn
          clear HLn h'
          try simp only [Act.put, List.setIfInBounds_toArray, List.set_cons_zero, List.set_cons_succ]
          refine wpAnyH_ready (rs := [3]) (by kernel_rfl) (by simp) ?_
          refine AllReadyH.cons (o := { dst := some 22, op := Op.call { callee := Callee.value (Operand.func 8), args := #[Operand.tmp 21], argTypes := #[24] }, type := 24, pos := "law.go:29", after := #[{ on := 2, ground := Ground.data }, { on := 1, ground := Ground.chain }], guard := none }) rfl (fun K hK => ?_) AllReadyH.nil
          · go_simp
            refine (Z2.out _ HB.out).mono ?_
            rintro e w4 ⟨v2, y2, rfl, hO, hP, h'⟩
            have HOn2 := hid (And.intro (owns_le hO HB.out.size) (owns_le hP HB.out.size))
            clear hO hP
            have HBn := hid (HB.out.trans (h'.mono HB.out.size))
            clear HB
            have HB := HBn
            clear HBn c1 c2 c3 c4
            obtain ⟨c1, c2⟩ := HA1.out.below HB.out
            obtain ⟨c3, c4⟩ := HA2.out.below HB.out
            have HO1n := hid (And.intro (HO1.out.1.below h') (HO1.out.2.below h'))
            clear HO1
            have HO1 := HO1n
            clear HO1n
            have HL4n := hid (HL4.out.below h' HL4.out.lt)
            clear HL4
            have HL4 := HL4n
            clear HL4n
            have HL5n := hid (HL5.out.below h' HL5.out.lt)
            clear HL5
            have HL5 := HL5n
            clear HL5n
            have HO2 := HOn2
            clear HOn2 h'
            try go_wp2_with fail
            refine hK.out _ _ ?_ (fun hHeld => ?_)
            · first | (refine ⟨?_, ?_, ?_, ?_⟩ <;> first | assumption | (simp [*, World.cell?_alloc_some, World.cell?_setCell_far]; done))
            clear hK K
            try simp only [Act.put, List.setIfInBounds_toArray, List.set_cons_zero, List.set_cons_succ]
            obtain ⟨e1, e2, e3, e4⟩ := HL4.out.cells
            obtain ⟨e5, e6, e7, e8⟩ := ((HL5.out.far (o := 0) (x := v1) (Ne.symm HNE.out)).far (o := 1) (x := y1) (Ne.symm HNE.out)).cells
            have g1 : p4 ≠ w.heap.size := by have := HG4.out; omega
            have g2 : p4 ≠ w.heap.size + 1 := by have := HG4.out; omega
            have g3 : p5 ≠ w.heap.size := by have := HG5.out; omega
            have g4 : p5 ≠ w.heap.size + 1 := by have := HG5.out; omega
            have HT := hid (two_labs HB.out HL4.out HL5.out HNE.out HG4.out HG5.out HO1.out.1 HO1.out.2 HO2.out.1 HO2.out.2)
            obtain ⟨am1, nm1, cm1, hm1⟩ := owns_slice HO1.out.1
            obtain ⟨am2, nm2, cm2, hm2⟩ := owns_slice HO1.out.2
            obtain ⟨am3, nm3, cm3, hm3⟩ := owns_slice HO2.out.1
            obtain ⟨am4, nm4, cm4, hm4⟩ := owns_slice HO2.out.2
            subst hm1
            subst hm2
            subst hm3
            subst hm4
            clear HL4 HL5 HO1 HO2 HG4 HG5 HNE HB
            refine wpAnyH_ready (rs := [6]) (by kernel_rfl) (by simp) ?_
            refine AllReadyH.cons (o := { dst := none, op := Op.store 24 (Operand.tmp 7) (Operand.tmp 20), type := 0, pos := "law.go:29", after := #[{ on := 4, ground := Ground.data }, { on := 1, ground := Ground.data }, { on := 3, ground := Ground.chain }, { on := 0, ground := Ground.phase }, { on := 1, ground := Ground.phase }, { on := 2, ground := Ground.textOnly Departure.lateStores }, { on := 3, ground := Ground.textOnly Departure.lateStoresUnsure }, { on := 4, ground := Ground.phase }, { on := 5, ground := Ground.phase }], guard := none }) rfl (fun K hK => ?_) AllReadyH.nil
            go_simp
            refine hK.out _ _ ?_ (fun hHeld => ?_)
            · exact ⟨far2 c1 g1, far2 c2 g1, far2 c3 g2, far2 c4 g2⟩
            clear hK K
            try simp only [Act.put, List.setIfInBounds_toArray, List.set_cons_zero, List.set_cons_succ]
            refine wpAnyH_ready (rs := [7]) (by kernel_rfl) (by simp) ?_
            refine AllReadyH.cons (o := { dst := none, op := Op.store 24 (Operand.tmp 8) (Operand.tmp 22), type := 0, pos := "law.go:29", after := #[{ on := 5, ground := Ground.data }, { on := 3, ground := Ground.data }, { on := 6, ground := Ground.chain }, { on := 0, ground := Ground.phase }, { on := 1, ground := Ground.phase }, { on := 2, ground := Ground.phase }, { on := 3, ground := Ground.phase }, { on := 4, ground := Ground.phase }, { on := 5, ground := Ground.phase }, { on := 6, ground := Ground.phase }], guard := none }) rfl (fun K hK => ?_) AllReadyH.nil
            go_simp
            refine hK.out _ _ ?_ (fun hHeld => ?_)
            · exact ⟨far2 (far2 c1 g1) g3, far2 (far2 c2 g1) g3, far2 (far2 c3 g2) g4, far2 (far2 c4 g2) g4⟩
            clear hK K
            try simp only [Act.put, List.setIfInBounds_toArray, List.set_cons_zero, List.set_cons_succ]
            refine wpAnyH_done (by kernel_rfl) ?_ _
            refine NoPanic.normal ?_
            go_wp2_with fail
            go_meet
            exact ⟨_, _, _, _, _, _, rfl, rfl, HT.out⟩
      · go_simp
        refine hK.out _ _ ?_ (fun hHeld => ?_)
        · first | (refine ⟨?_, ?_, ?_, ?_⟩ <;> first | assumption | (simp [*, World.cell?_alloc_some, World.cell?_setCell_far]; done))
        clear hK K
        have h' : Below w1.heap.size w1 (w1.alloc (.cells #[.slice none 0 0, .slice none 0 0] 24)) := below_alloc _ _
        have HLn := LabAt.new w1 (.slice none 0 0) (.slice none 0 0)
        obtain ⟨w2, hw⟩ : ∃ x, x = w1.alloc (.cells #[.slice none 0 0, .slice none 0 0] 24) := ⟨_, rfl⟩
        rw [← hw] at h' HLn hHeld ⊢
        clear hw
        obtain ⟨p5, hp⟩ : ∃ x, x = w1.heap.size := ⟨_, rfl⟩
        rw [← hp] at HLn ⊢
        have HG5 := hid (show W.heap.size ≤ p5 from by rw [hp]; exact HB.out.size)
        have HNE := hid (show p4 ≠ p5 from by have := HL4.out.lt; omega)
        clear hp
        have HBn := hid (HB.out.trans (h'.mono HB.out.size))
        clear HB
        have HB := HBn
        clear HBn c1 c2 c3 c4
        obtain ⟨c1, c2⟩ := HA1.out.below HB.out
        obtain ⟨c3, c4⟩ := HA2.out.below HB.out
        have HL4n := hid (HL4.out.below h' HL4.out.lt)
        clear HL4
        have HL4 := HL4n
        clear HL4n
        have HL5 := hid HLn
        clear HLn h'
        try simp only [Act.put, List.setIfInBounds_toArray, List.set_cons_zero, List.set_cons_succ]
        refine wpAnyH_ready (rs := [1]) (by kernel_rfl) (by simp) ?_
        refine AllReadyH.cons (o := { dst := some 20, op := Op.call { callee := Callee.value (Operand.func 8), args := #[Operand.tmp 19], argTypes := #[24] }, type := 24, pos := "law.go:29", after := #[{ on := 0, ground := Ground.data }], guard := none }) rfl (fun K hK => ?_) AllReadyH.nil
        · go_simp
          refine (Z1.out _ HB.out).mono ?_
          rintro e w3 ⟨v1, y1, rfl, hO, hP, h'⟩
          have HOn1 := hid (And.intro (owns_le hO HB.out.size) (owns_le hP HB.out.size))
          clear hO hP
          have HBn := hid (HB.out.trans (h'.mono HB.out.size))
          clear HB
          have HB := HBn
          clear HBn c1 c2 c3 c4
          obtain ⟨c1, c2⟩ := HA1.out.below HB.out
          obtain ⟨c3, c4⟩ := HA2.out.below HB.out
          have HL4n := hid (HL4.out.below h' HL4.out.lt)
          clear HL4
          have HL4 := HL4n
          clear HL4n
          have HL5n := hid (HL5.out.below h' HL5.out.lt)
          clear HL5
          have HL5 := HL5n
          clear HL5n
          have HO1 := HOn1
          clear HOn1 h'
          try go_wp2_with fail
          refine hK.out _ _ ?_ (fun hHeld => ?_)
          · first | (refine ⟨?_, ?_, ?_, ?_⟩ <;> first | assumption | (simp [*, World.cell?_alloc_some, World.cell?_setCell_far]; done))
          clear hK K
          try simp only [Act.put, List.setIfInBounds_toArray, List.set_cons_zero, List.set_cons_succ]
          refine wpAnyH_ready (rs := [3]) (by kernel_rfl) (by simp) ?_
          refine AllReadyH.cons (o := { dst := some 22, op := Op.call { callee := Callee.value (Operand.func 8), args := #[Operand.tmp 21], argTypes := #[24] }, type := 24, pos := "law.go:29", after := #[{ on := 2, ground := Ground.data }, { on := 1, ground := Ground.chain }], guard := none }) rfl (fun K hK => ?_) AllReadyH.nil
          · go_simp
            refine (Z2.out _ HB.out).mono ?_
            rintro e w4 ⟨v2, y2, rfl, hO, hP, h'⟩
            have HOn2 := hid (And.intro (owns_le hO HB.out.size) (owns_le hP HB.out.size))
            clear hO hP
            have HBn := hid (HB.out.trans (h'.mono HB.out.size))
            clear HB
            have HB := HBn
            clear HBn c1 c2 c3 c4
            obtain ⟨c1, c2⟩ := HA1.out.below HB.out
            obtain ⟨c3, c4⟩ := HA2.out.below HB.out
            have HO1n := hid (And.intro (HO1.out.1.below h') (HO1.out.2.below h'))
            clear HO1
            have HO1 := HO1n
            clear HO1n
            have HL4n := hid (HL4.out.below h' HL4.out.lt)
            clear HL4
            have HL4 := HL4n
            clear HL4n
            have HL5n := hid (HL5.out.below h' HL5.out.lt)
            clear HL5
            have HL5 := HL5n
            clear HL5n
            have HO2 := HOn2
            clear HOn2 h'
            try go_wp2_with fail
            refine hK.out _ _ ?_ (fun hHeld => ?_)
            · first | (refine ⟨?_, ?_, ?_, ?_⟩ <;> first | assumption | (simp [*, World.cell?_alloc_some, World.cell?_setCell_far]; done))
            clear hK K
            try simp only [Act.put, List.setIfInBounds_toArray, List.set_cons_zero, List.set_cons_succ]
            obtain ⟨e1, e2, e3, e4⟩ := HL4.out.cells
            obtain ⟨e5, e6, e7, e8⟩ := ((HL5.out.far (o := 0) (x := v1) (Ne.symm HNE.out)).far (o := 1) (x := y1) (Ne.symm HNE.out)).cells
            have g1 : p4 ≠ w.heap.size := by have := HG4.out; omega
            have g2 : p4 ≠ w.heap.size + 1 := by have := HG4.out; omega
            have g3 : p5 ≠ w.heap.size := by have := HG5.out; omega
            have g4 : p5 ≠ w.heap.size + 1 := by have := HG5.out; omega
            have HT := hid (two_labs HB.out HL4.out HL5.out HNE.out HG4.out HG5.out HO1.out.1 HO1.out.2 HO2.out.1 HO2.out.2)
            obtain ⟨am1, nm1, cm1, hm1⟩ := owns_slice HO1.out.1
            obtain ⟨am2, nm2, cm2, hm2⟩ := owns_slice HO1.out.2
            obtain ⟨am3, nm3, cm3, hm3⟩ := owns_slice HO2.out.1
            obtain ⟨am4, nm4, cm4, hm4⟩ := owns_slice HO2.out.2
            subst hm1
            subst hm2
            subst hm3
            subst hm4
            clear HL4 HL5 HO1 HO2 HG4 HG5 HNE HB
            refine wpAnyH_ready (rs := [6]) (by kernel_rfl) (by simp) ?_
            refine AllReadyH.cons (o := { dst := none, op := Op.store 24 (Operand.tmp 7) (Operand.tmp 20), type := 0, pos := "law.go:29", after := #[{ on := 4, ground := Ground.data }, { on := 1, ground := Ground.data }, { on := 3, ground := Ground.chain }, { on := 0, ground := Ground.phase }, { on := 1, ground := Ground.phase }, { on := 2, ground := Ground.textOnly Departure.lateStores }, { on := 3, ground := Ground.textOnly Departure.lateStoresUnsure }, { on := 4, ground := Ground.phase }, { on := 5, ground := Ground.phase }], guard := none }) rfl (fun K hK => ?_) AllReadyH.nil
            go_simp
            refine hK.out _ _ ?_ (fun hHeld => ?_)
            · exact ⟨far2 c1 g1, far2 c2 g1, far2 c3 g2, far2 c4 g2⟩
            clear hK K
            try simp only [Act.put, List.setIfInBounds_toArray, List.set_cons_zero, List.set_cons_succ]
            refine wpAnyH_ready (rs := [7]) (by kernel_rfl) (by simp) ?_
            refine AllReadyH.cons (o := { dst := none, op := Op.store 24 (Operand.tmp 8) (Operand.tmp 22), type := 0, pos := "law.go:29", after := #[{ on := 5, ground := Ground.data }, { on := 3, ground := Ground.data }, { on := 6, ground := Ground.chain }, { on := 0, ground := Ground.phase }, { on := 1, ground := Ground.phase }, { on := 2, ground := Ground.phase }, { on := 3, ground := Ground.phase }, { on := 4, ground := Ground.phase }, { on := 5, ground := Ground.phase }, { on := 6, ground := Ground.phase }], guard := none }) rfl (fun K hK => ?_) AllReadyH.nil
            go_simp
            refine hK.out _ _ ?_ (fun hHeld => ?_)
            · exact ⟨far2 (far2 c1 g1) g3, far2 (far2 c2 g1) g3, far2 (far2 c3 g2) g4, far2 (far2 c4 g2) g4⟩
            clear hK K
            try simp only [Act.put, List.setIfInBounds_toArray, List.set_cons_zero, List.set_cons_succ]
            refine wpAnyH_done (by kernel_rfl) ?_ _
            refine NoPanic.normal ?_
            go_wp2_with fail
            go_meet
            exact ⟨_, _, _, _, _, _, rfl, rfl, HT.out⟩
    · go_simp
      refine hK.out _ _ ?_ (fun hHeld => ?_)
      · first | (refine ⟨?_, ?_, ?_, ?_⟩ <;> first | assumption | (simp [*, World.cell?_alloc_some, World.cell?_setCell_far]; done))
      clear hK K
      have h' : Below w0.heap.size w0 (w0.alloc (.cells #[.slice none 0 0, .slice none 0 0] 24)) := below_alloc _ _
      have HLn := LabAt.new w0 (.slice none 0 0) (.slice none 0 0)
      obtain ⟨w1, hw⟩ : ∃ x, x = w0.alloc (.cells #[.slice none 0 0, .slice none 0 0] 24) := ⟨_, rfl⟩
      rw [← hw] at h' HLn hHeld ⊢
      clear hw
      obtain ⟨p5, hp⟩ : ∃ x, x = w0.heap.size := ⟨_, rfl⟩
      rw [← hp] at HLn ⊢
      have HG5 := hid (show W.heap.size ≤ p5 from by rw [hp]; exact HB.out.size)
      clear hp
      have HBn := hid (HB.out.trans (h'.mono HB.out.size))
      clear HB
      have HB := HBn
      clear HBn c1 c2 c3 c4
      obtain ⟨c1, c2⟩ := HA1.out.below HB.out
      obtain ⟨c3, c4⟩ := HA2.out.below HB.out
      have HL5 := hid HLn
      clear HLn h'
      try simp only [Act.put, List.setIfInBounds_toArray, List.set_cons_zero, List.set_cons_succ]
      refine wpAnyH_ready (rs := [1, 4]) (by kernel_rfl) (by simp) ?_
      refine AllReadyH.cons (o := { dst := some 20, op := Op.call { callee := Callee.value (Operand.func 8), args := #[Operand.tmp 19], argTypes := #[24] }, type := 24, pos := "law.go:29", after := #[{ on := 0, ground := Ground.data }], guard := none }) rfl (fun K hK => ?_) (AllReadyH.cons (o := { dst := some 7, op := Op.alloc 24, type := 0, pos := "law.go:29", after := #[], guard := none }) rfl (fun K hK => ?_) AllReadyH.nil)
      · go_simp
        refine (Z1.out _ HB.out).mono ?_
        rintro e w2 ⟨v1, y1, rfl, hO, hP, h'⟩
        have HOn1 := hid (And.intro (owns_le hO HB.out.size) (owns_le hP HB.out.size))
        clear hO hP
        have HBn := hid (HB.out.trans (h'.mono HB.out.size))
        clear HB
        have HB := HBn
        clear HBn c1 c2 c3 c4
        obtain ⟨c1, c2⟩ := HA1.out.below HB.out
        obtain ⟨c3, c4⟩ := HA2.out.below HB.out
        have HL5n := hid (HL5.out.below h' HL5.out.lt)
        clear HL5
        have HL5 := HL5n
        clear HL5n
        have HO1 := HOn1
        clear HOn1 h'
        try go_wp2_with fail
        refine hK.out _ _ ?_ (fun hHeld => ?_)
        · first | (refine ⟨?_, ?_, ?_, ?_⟩ <;> first | assumption | (simp [*, World.cell?_alloc_some, World.cell?_setCell_far]; done))
        clear hK K
        try simp only [Act.put, List.setIfInBounds_toArray, List.set_cons_zero, List.set_cons_succ]
        refine wpAnyH_ready (rs := [3, 4]) (by kernel_rfl) (by simp) ?_
        refine AllReadyH.cons (o := { dst := some 22, op := Op.call { callee := Callee.value (Operand.func 8), args := #[Operand.tmp 21], argTypes := #[24] }, type := 24, pos := "law.go:29", after := #[{ on := 2, ground := Ground.data }, { on := 1, ground := Ground.chain }], guard := none }) rfl (fun K hK => ?_) (AllReadyH.cons (o := { dst := some 7, op := Op.alloc 24, type := 0, pos := "law.go:29", after := #[], guard := none }) rfl (fun K hK => ?_) AllReadyH.nil)
        · go_simp
          refine (Z2.out _ HB.out).mono ?_
          rintro e w3 ⟨v2, y2, rfl, hO, hP, h'⟩
          have HOn2 := hid (And.intro (owns_le hO HB.out.size) (owns_le hP HB.out.size))
          clear hO hP
          have HBn := hid (HB.out.trans (h'.mono HB.out.size))
          clear HB
          have HB := HBn
          clear HBn c1 c2 c3 c4
          obtain ⟨c1, c2⟩ := HA1.out.below HB.out
          obtain ⟨c3, c4⟩ := HA2.out.below HB.out
          have HO1n := hid (And.intro (HO1.out.1.below h') (HO1.out.2.below h'))
          clear HO1
          have HO1 := HO1n
          clear HO1n
          have HL5n := hid (HL5.out.below h' HL5.out.lt)
          clear HL5
          have HL5 := HL5n
          clear HL5n
          have HO2 := HOn2
          clear HOn2 h'
          try go_wp2_with fail
          refine hK.out _ _ ?_ (fun hHeld => ?_)
          · first | (refine ⟨?_, ?_, ?_, ?_⟩ <;> first | assumption | (simp [*, World.cell?_alloc_some, World.cell?_setCell_far]; done))
          clear hK K
          try simp only [Act.put, List.setIfInBounds_toArray, List.set_cons_zero, List.set_cons_succ]
          refine wpAnyH_ready (rs := [4]) (by kernel_rfl) (by simp) ?_
          refine AllReadyH.cons (o := { dst := some 7, op := Op.alloc 24, type := 0, pos := "law.go:29", after := #[], guard := none }) rfl (fun K hK => ?_) AllReadyH.nil
          · go_simp
            refine hK.out _ _ ?_ (fun hHeld => ?_)
            · first | (refine ⟨?_, ?_, ?_, ?_⟩ <;> first | assumption | (simp [*, World.cell?_alloc_some, World.cell?_setCell_far]; done))
            clear hK K
            have h' : Below w3.heap.size w3 (w3.alloc (.cells #[.slice none 0 0, .slice none 0 0] 24)) := below_alloc _ _
            have HLn := LabAt.new w3 (.slice none 0 0) (.slice none 0 0)
            obtain ⟨w4, hw⟩ : ∃ x, x = w3.alloc (.cells #[.slice none 0 0, .slice none 0 0] 24) := ⟨_, rfl⟩
            rw [← hw] at h' HLn hHeld ⊢
            clear hw
            obtain ⟨p4, hp⟩ : ∃ x, x = w3.heap.size := ⟨_, rfl⟩
            rw [← hp] at HLn ⊢
            have HG4 := hid (show W.heap.size ≤ p4 from by rw [hp]; exact HB.out.size)
            have HNE := hid (show p4 ≠ p5 from by have := HL5.out.lt; omega)
            clear hp
            have HBn := hid (HB.out.trans (h'.mono HB.out.size))
            clear HB
            have HB := HBn
            clear HBn c1 c2 c3 c4
            obtain ⟨c1, c2⟩ := HA1.out.below HB.out
            obtain ⟨c3, c4⟩ := HA2.out.below HB.out
            have HO1n := hid (And.intro (HO1.out.1.below h') (HO1.out.2.below h'))
            clear HO1
            have HO1 := HO1n
            clear HO1n
            have HO2n := hid (And.intro (HO2.out.1.below h') (HO2.out.2.below h'))
            clear HO2
            have HO2 := HO2n
            clear HO2n
            have HL5n := hid (HL5.out.below h' HL5.out.lt)
            clear HL5
            have HL5 := HL5n
            clear HL5n
            have HL4 := hid HLn
            clear HLn h'
            try simp only [Act.put, List.setIfInBounds_toArray, List.set_cons_zero, List.set_cons_succ]
            obtain ⟨e1, e2, e3, e4⟩ := HL4.out.cells
            obtain ⟨e5, e6, e7, e8⟩ := ((HL5.out.far (o := 0) (x := v1) (Ne.symm HNE.out)).far (o := 1) (x := y1) (Ne.symm HNE.out)).cells
            have g1 : p4 ≠ w.heap.size := by have := HG4.out; omega
            have g2 : p4 ≠ w.heap.size + 1 := by have := HG4.out; omega
            have g3 : p5 ≠ w.heap.size := by have := HG5.out; omega
            have g4 : p5 ≠ w.heap.size + 1 := by have := HG5.out; omega
            have HT := hid (two_labs HB.out HL4.out HL5.out HNE.out HG4.out HG5.out HO1.out.1 HO1.out.2 HO2.out.1 HO2.out.2)
            obtain ⟨am1, nm1, cm1, hm1⟩ := owns_slice HO1.out.1
            obtain ⟨am2, nm2, cm2, hm2⟩ := owns_slice HO1.out.2
            obtain ⟨am3, nm3, cm3, hm3⟩ := owns_slice HO2.out.1
            obtain ⟨am4, nm4, cm4, hm4⟩ := owns_slice HO2.out.2
            subst hm1
            subst hm2
            subst hm3
            subst hm4
            clear HL4 HL5 HO1 HO2 HG4 HG5 HNE HB
            refine wpAnyH_ready (rs := [6]) (by kernel_rfl) (by simp) ?_
            refine AllReadyH.cons (o := { dst := none, op := Op.store 24 (Operand.tmp 7) (Operand.tmp 20), type := 0, pos := "law.go:29", after := #[{ on := 4, ground := Ground.data }, { on := 1, ground := Ground.data }, { on := 3, ground := Ground.chain }, { on := 0, ground := Ground.phase }, { on := 1, ground := Ground.phase }, { on := 2, ground := Ground.textOnly Departure.lateStores }, { on := 3, ground := Ground.textOnly Departure.lateStoresUnsure }, { on := 4, ground := Ground.phase }, { on := 5, ground := Ground.phase }], guard := none }) rfl (fun K hK => ?_) AllReadyH.nil
            go_simp
            refine hK.out _ _ ?_ (fun hHeld => ?_)
            · exact ⟨far2 c1 g1, far2 c2 g1, far2 c3 g2, far2 c4 g2⟩
            clear hK K
            try simp only [Act.put, List.setIfInBounds_toArray, List.set_cons_zero, List.set_cons_succ]
            refine wpAnyH_ready (rs := [7]) (by kernel_rfl) (by simp) ?_
            refine AllReadyH.cons (o := { dst := none, op := Op.store 24 (Operand.tmp 8) (Operand.tmp 22), type := 0, pos := "law.go:29", after := #[{ on := 5, ground := Ground.data }, { on := 3, ground := Ground.data }, { on := 6, ground := Ground.chain }, { on := 0, ground := Ground.phase }, { on := 1, ground := Ground.phase }, { on := 2, ground := Ground.phase }, { on := 3, ground := Ground.phase }, { on := 4, ground := Ground.phase }, { on := 5, ground := Ground.phase }, { on := 6, ground := Ground.phase }], guard := none }) rfl (fun K hK => ?_) AllReadyH.nil
            go_simp
            refine hK.out _ _ ?_ (fun hHeld => ?_)
            · exact ⟨far2 (far2 c1 g1) g3, far2 (far2 c2 g1) g3, far2 (far2 c3 g2) g4, far2 (far2 c4 g2) g4⟩
            clear hK K
            try simp only [Act.put, List.setIfInBounds_toArray, List.set_cons_zero, List.set_cons_succ]
            refine wpAnyH_done (by kernel_rfl) ?_ _
            refine NoPanic.normal ?_
            go_wp2_with fail
            go_meet
            exact ⟨_, _, _, _, _, _, rfl, rfl, HT.out⟩
        · go_simp
          refine hK.out _ _ ?_ (fun hHeld => ?_)
          · first | (refine ⟨?_, ?_, ?_, ?_⟩ <;> first | assumption | (simp [*, World.cell?_alloc_some, World.cell?_setCell_far]; done))
          clear hK K
          have h' : Below w2.heap.size w2 (w2.alloc (.cells #[.slice none 0 0, .slice none 0 0] 24)) := below_alloc _ _
          have HLn := LabAt.new w2 (.slice none 0 0) (.slice none 0 0)
          obtain ⟨w3, hw⟩ : ∃ x, x = w2.alloc (.cells #[.slice none 0 0, .slice none 0 0] 24) := ⟨_, rfl⟩
          rw [← hw] at h' HLn hHeld ⊢
          clear hw
          obtain ⟨p4, hp⟩ : ∃ x, x = w2.heap.size := ⟨_, rfl⟩
          rw [← hp] at HLn ⊢
          have HG4 := hid (show W.heap.size ≤ p4 from by rw [hp]; exact HB.out.size)
          have HNE := hid (show p4 ≠ p5 from by have := HL5.out.lt; omega)
          clear hp
          have HBn := hid (HB.out.trans (h'.mono HB.out.size))
          clear HB
          have HB := HBn
          clear HBn c1 c2 c3 c4
          obtain ⟨c1, c2⟩ := HA1.out.below HB.out
          obtain ⟨c3, c4⟩ := HA2.out.below HB.out
          have HO1n := hid (And.intro (HO1.out.1.below h') (HO1.out.2.below h'))
          clear HO1
          have HO1 := HO1n
          clear HO1n
          have HL5n := hid (HL5.out.below h' HL5.out.lt)
          clear HL5
          have HL5 := HL5n
          clear HL5n
          have HL4 := hid HLn
          clear HLn h'
          try simp only [Act.put, List.setIfInBounds_toArray, List.set_cons_zero, List.set_cons_succ]
          refine wpAnyH_ready (rs := [3]) (by kernel_rfl) (by simp) ?_
          refine AllReadyH.cons (o := { dst := some 22, op := Op.call { callee := Callee.value (Operand.func 8), args := #[Operand.tmp 21], argTypes := #[24] }, type := 24, pos := "law.go:29", after := #[{ on := 2, ground := Ground.data }, { on := 1, ground := Ground.chain }], guard := none }) rfl (fun K hK => ?_) AllReadyH.nil
          · go_simp
            refine (Z2.out _ HB.out).mono ?_
            rintro e w4 ⟨v2, y2, rfl, hO, hP, h'⟩
            have HOn2 := hid (And.intro (owns_le hO HB.out.size) (owns_le hP HB.out.size))
            clear hO hP
            have HBn := hid (HB.out.trans (h'.mono HB.out.size))
            clear HB
            have HB := HBn
            clear HBn c1 c2 c3 c4
            obtain ⟨c1, c2⟩ := HA1.out.below HB.out
            obtain ⟨c3, c4⟩ := HA2.out.below HB.out
            have HO1n := hid (And.intro (HO1.out.1.below h') (HO1.out.2.below h'))
            clear HO1
            have HO1 := HO1n
            clear HO1n
            have HL4n := hid (HL4.out.below h' HL4.out.lt)
            clear HL4
            have HL4 := HL4n
            clear HL4n
            have HL5n := hid (HL5.out.below h' HL5.out.lt)
            clear HL5
            have HL5 := HL5n
            clear HL5n
            have HO2 := HOn2
            clear HOn2 h'
            try go_wp2_with fail
            refine hK.out _ _ ?_ (fun hHeld => ?_)
            · first | (refine ⟨?_, ?_, ?_, ?_⟩ <;> first | assumption | (simp [*, World.cell?_alloc_some, World.cell?_setCell_far]; done))
            clear hK K
            try simp only [Act.put, List.setIfInBounds_toArray, List.set_cons_zero, List.set_cons_succ]
            obtain ⟨e1, e2, e3, e4⟩ := HL4.out.cells
            obtain ⟨e5, e6, e7, e8⟩ := ((HL5.out.far (o := 0) (x := v1) (Ne.symm HNE.out)).far (o := 1) (x := y1) (Ne.symm HNE.out)).cells
            have g1 : p4 ≠ w.heap.size := by have := HG4.out; omega
            have g2 : p4 ≠ w.heap.size + 1 := by have := HG4.out; omega
            have g3 : p5 ≠ w.heap.size := by have := HG5.out; omega
            have g4 : p5 ≠ w.heap.size + 1 := by have := HG5.out; omega
            have HT := hid (two_labs HB.out HL4.out HL5.out HNE.out HG4.out HG5.out HO1.out.1 HO1.out.2 HO2.out.1 HO2.out.2)
            obtain ⟨am1, nm1, cm1, hm1⟩ := owns_slice HO1.out.1
            obtain ⟨am2, nm2, cm2, hm2⟩ := owns_slice HO1.out.2
            obtain ⟨am3, nm3, cm3, hm3⟩ := owns_slice HO2.out.1
            obtain ⟨am4, nm4, cm4, hm4⟩ := owns_slice HO2.out.2
            subst hm1
            subst hm2
            subst hm3
            subst hm4
            clear HL4 HL5 HO1 HO2 HG4 HG5 HNE HB
            refine wpAnyH_ready (rs := [6]) (by kernel_rfl) (by simp) ?_
            refine AllReadyH.cons (o := { dst := none, op := Op.store 24 (Operand.tmp 7) (Operand.tmp 20), type := 0, pos := "law.go:29", after := #[{ on := 4, ground := Ground.data }, { on := 1, ground := Ground.data }, { on := 3, ground := Ground.chain }, { on := 0, ground := Ground.phase }, { on := 1, ground := Ground.phase }, { on := 2, ground := Ground.textOnly Departure.lateStores }, { on := 3, ground := Ground.textOnly Departure.lateStoresUnsure }, { on := 4, ground := Ground.phase }, { on := 5, ground := Ground.phase }], guard := none }) rfl (fun K hK => ?_) AllReadyH.nil
            go_simp
            refine hK.out _ _ ?_ (fun hHeld => ?_)
            · exact ⟨far2 c1 g1, far2 c2 g1, far2 c3 g2, far2 c4 g2⟩
            clear hK K
            try simp only [Act.put, List.setIfInBounds_toArray, List.set_cons_zero, List.set_cons_succ]
            refine wpAnyH_ready (rs := [7]) (by kernel_rfl) (by simp) ?_
            refine AllReadyH.cons (o := { dst := none, op := Op.store 24 (Operand.tmp 8) (Operand.tmp 22), type := 0, pos := "law.go:29", after := #[{ on := 5, ground := Ground.data }, { on := 3, ground := Ground.data }, { on := 6, ground := Ground.chain }, { on := 0, ground := Ground.phase }, { on := 1, ground := Ground.phase }, { on := 2, ground := Ground.phase }, { on := 3, ground := Ground.phase }, { on := 4, ground := Ground.phase }, { on := 5, ground := Ground.phase }, { on := 6, ground := Ground.phase }], guard := none }) rfl (fun K hK => ?_) AllReadyH.nil
            go_simp
            refine hK.out _ _ ?_ (fun hHeld => ?_)
            · exact ⟨far2 (far2 c1 g1) g3, far2 (far2 c2 g1) g3, far2 (far2 c3 g2) g4, far2 (far2 c4 g2) g4⟩
            clear hK K
            try simp only [Act.put, List.setIfInBounds_toArray, List.set_cons_zero, List.set_cons_succ]
            refine wpAnyH_done (by kernel_rfl) ?_ _
            refine NoPanic.normal ?_
            go_wp2_with fail
            go_meet
            exact ⟨_, _, _, _, _, _, rfl, rfl, HT.out⟩
      · go_simp
        refine hK.out _ _ ?_ (fun hHeld => ?_)
        · first | (refine ⟨?_, ?_, ?_, ?_⟩ <;> first | assumption | (simp [*, World.cell?_alloc_some, World.cell?_setCell_far]; done))
        clear hK K
        have h' : Below w1.heap.size w1 (w1.alloc (.cells #[.slice none 0 0, .slice none 0 0] 24)) := below_alloc _ _
        have HLn := LabAt.new w1 (.slice none 0 0) (.slice none 0 0)
        obtain ⟨w2, hw⟩ : ∃ x, x = w1.alloc (.cells #[.slice none 0 0, .slice none 0 0] 24) := ⟨_, rfl⟩
        rw [← hw] at h' HLn hHeld ⊢
        clear hw
        obtain ⟨p4, hp⟩ : ∃ x, x = w1.heap.size := ⟨_, rfl⟩
        rw [← hp] at HLn ⊢
        have HG4 := hid (show W.heap.size ≤ p4 from by rw [hp]; exact HB.out.size)
        have HNE := hid (show p4 ≠ p5 from by have := HL5.out.lt; omega)
        clear hp
        have HBn := hid (HB.out.trans (h'.mono HB.out.size))
        clear HB
        have HB := HBn
        clear HBn c1 c2 c3 c4
        obtain ⟨c1, c2⟩ := HA1.out.below HB.out
        obtain ⟨c3, c4⟩ := HA2.out.below HB.out
        have HL5n := hid (HL5.out.below h' HL5.out.lt)
        clear HL5
        have HL5 := HL5n
        clear HL5n
        have HL4 := hid HLn
        clear HLn h'
        try simp only [Act.put, List.setIfInBounds_toArray, List.set_cons_zero, List.set_cons_succ]
        refine wpAnyH_ready (rs := [1]) (by kernel_rfl) (by simp) ?_
        refine AllReadyH.cons (o := { dst := some 20, op := Op.call { callee := Callee.value (Operand.func 8), args := #[Operand.tmp 19], argTypes := #[24] }, type := 24, pos := "law.go:29", after := #[{ on := 0, ground := Ground.data }], guard := none }) rfl (fun K hK => ?_) AllReadyH.nil
        · go_simp
          refine (Z1.out _ HB.out).mono ?_
          rintro e w3 ⟨v1, y1, rfl, hO, hP, h'⟩
          have HOn1 := hid (And.intro (owns_le hO HB.out.size) (owns_le hP HB.out.size))
          clear hO hP
          have HBn := hid (HB.out.trans (h'.mono HB.out.size))
          clear HB
          have HB := HBn
          clear HBn c1 c2 c3 c4
          obtain ⟨c1, c2⟩ := HA1.out.below HB.out
          obtain ⟨c3, c4⟩ := HA2.out.below HB.out
          have HL4n := hid (HL4.out.below h' HL4.out.lt)
          clear HL4
          have HL4 := HL4n
          clear HL4n
          have HL5n := hid (HL5.out.below h' HL5.out.lt)
          clear HL5
          have HL5 := HL5n
          clear HL5n
          have HO1 := HOn1
          clear HOn1 h'
          try go_wp2_with fail
          refine hK.out _ _ ?_ (fun hHeld => ?_)
          · first | (refine ⟨?_, ?_, ?_, ?_⟩ <;> first | assumption | (simp [*, World.cell?_alloc_some, World.cell?_setCell_far]; done))
          clear hK K
          try simp only [Act.put, List.setIfInBounds_toArray, List.set_cons_zero, List.set_cons_succ]
          refine wpAnyH_ready (rs := [3]) (by kernel_rfl) (by simp) ?_
          refine AllReadyH.cons (o := { dst := some 22, op := Op.call { callee := Callee.value (Operand.func 8), args := #[Operand.tmp 21], argTypes := #[24] }, type := 24, pos := "law.go:29", after := #[{ on := 2, ground := Ground.data }, { on := 1, ground := Ground.chain }], guard := none }) rfl (fun K hK => ?_) AllReadyH.nil
          · go_simp
            refine (Z2.out _ HB.out).mono ?_
            rintro e w4 ⟨v2, y2, rfl, hO, hP, h'⟩
            have HOn2 := hid (And.intro (owns_le hO HB.out.size) (owns_le hP HB.out.size))
            clear hO hP
            have HBn := hid (HB.out.trans (h'.mono HB.out.size))
            clear HB
            have HB := HBn
            clear HBn c1 c2 c3 c4
            obtain ⟨c1, c2⟩ := HA1.out.below HB.out
            obtain ⟨c3, c4⟩ := HA2.out.below HB.out
            have HO1n := hid (And.intro (HO1.out.1.below h') (HO1.out.2.below h'))
            clear HO1
            have HO1 := HO1n
            clear HO1n
            have HL4n := hid (HL4.out.below h' HL4.out.lt)
            clear HL4
            have HL4 := HL4n
            clear HL4n
            have HL5n := hid (HL5.out.below h' HL5.out.lt)
            clear HL5
            have HL5 := HL5n
            clear HL5n
            have HO2 := HOn2
            clear HOn2 h'
            try go_wp2_with fail
            refine hK.out _ _ ?_ (fun hHeld => ?_)
            · first | (refine ⟨?_, ?_, ?_, ?_⟩ <;> first | assumption | (simp [*, World.cell?_alloc_some, World.cell?_setCell_far]; done))
            clear hK K
            try simp only [Act.put, List.setIfInBounds_toArray, List.set_cons_zero, List.set_cons_succ]
            obtain ⟨e1, e2, e3, e4⟩ := HL4.out.cells
            obtain ⟨e5, e6, e7, e8⟩ := ((HL5.out.far (o := 0) (x := v1) (Ne.symm HNE.out)).far (o := 1) (x := y1) (Ne.symm HNE.out)).cells
            have g1 : p4 ≠ w.heap.size := by have := HG4.out; omega
            have g2 : p4 ≠ w.heap.size + 1 := by have := HG4.out; omega
            have g3 : p5 ≠ w.heap.size := by have := HG5.out; omega
            have g4 : p5 ≠ w.heap.size + 1 := by have := HG5.out; omega
            have HT := hid (two_labs HB.out HL4.out HL5.out HNE.out HG4.out HG5.out HO1.out.1 HO1.out.2 HO2.out.1 HO2.out.2)
            obtain ⟨am1, nm1, cm1, hm1⟩ := owns_slice HO1.out.1
            obtain ⟨am2, nm2, cm2, hm2⟩ := owns_slice HO1.out.2
            obtain ⟨am3, nm3, cm3, hm3⟩ := owns_slice HO2.out.1
            obtain ⟨am4, nm4, cm4, hm4⟩ := owns_slice HO2.out.2
            subst hm1
            subst hm2
            subst hm3
            subst hm4
            clear HL4 HL5 HO1 HO2 HG4 HG5 HNE HB
            refine wpAnyH_ready (rs := [6]) (by kernel_rfl) (by simp) ?_
            refine AllReadyH.cons (o := { dst := none, op := Op.store 24 (Operand.tmp 7) (Operand.tmp 20), type := 0, pos := "law.go:29", after := #[{ on := 4, ground := Ground.data }, { on := 1, ground := Ground.data }, { on := 3, ground := Ground.chain }, { on := 0, ground := Ground.phase }, { on := 1, ground := Ground.phase }, { on := 2, ground := Ground.textOnly Departure.lateStores }, { on := 3, ground := Ground.textOnly Departure.lateStoresUnsure }, { on := 4, ground := Ground.phase }, { on := 5, ground := Ground.phase }], guard := none }) rfl (fun K hK => ?_) AllReadyH.nil
            go_simp
            refine hK.out _ _ ?_ (fun hHeld => ?_)
            · exact ⟨far2 c1 g1, far2 c2 g1, far2 c3 g2, far2 c4 g2⟩
            clear hK K
            try simp only [Act.put, List.setIfInBounds_toArray, List.set_cons_zero, List.set_cons_succ]
            refine wpAnyH_ready (rs := [7]) (by kernel_rfl) (by simp) ?_
            refine AllReadyH.cons (o := { dst := none, op := Op.store 24 (Operand.tmp 8) (Operand.tmp 22), type := 0, pos := "law.go:29", after := #[{ on := 5, ground := Ground.data }, { on := 3, ground := Ground.data }, { on := 6, ground := Ground.chain }, { on := 0, ground := Ground.phase }, { on := 1, ground := Ground.phase }, { on := 2, ground := Ground.phase }, { on := 3, ground := Ground.phase }, { on := 4, ground := Ground.phase }, { on := 5, ground := Ground.phase }, { on := 6, ground := Ground.phase }], guard := none }) rfl (fun K hK => ?_) AllReadyH.nil
            go_simp
            refine hK.out _ _ ?_ (fun hHeld => ?_)
            · exact ⟨far2 (far2 c1 g1) g3, far2 (far2 c2 g1) g3, far2 (far2 c3 g2) g4, far2 (far2 c4 g2) g4⟩
            clear hK K
            try simp only [Act.put, List.setIfInBounds_toArray, List.set_cons_zero, List.set_cons_succ]
            refine wpAnyH_done (by kernel_rfl) ?_ _
            refine NoPanic.normal ?_
            go_wp2_with fail
            go_meet
            exact ⟨_, _, _, _, _, _, rfl, rfl, HT.out⟩
  case rest =>
    obtain ⟨p, q, v1, y1, v2, y2, rfl, rfl, hT⟩ := hcut
    have sC : SeesL wc (.agg #[v1, y1]) s i := ⟨v1, y1, rfl, hT.os.sees, hT.oi.sees, by omega, by omega⟩
    have sD : SeesL wc (.agg #[v2, y2]) t j := ⟨v2, y2, rfl, hT.ot.sees, hT.oj.sees, by omega, by omega⟩
    have sA := HD1.out.below hT.bel
    have sB := HD2.out.below hT.bel
    have sO := HD3.out.below hT.bel
    have F1 := hid (fun w1 (h : Below wc.heap.size wc w1) => flows_any _ _ o s i t j own w1 (sC.below h) (sD.below h) (sO.below h) hl)
    have F2 := hid (fun w1 (h : Below wc.heap.size wc w1) => refFlows_any _ _ o s i t j own w1 (sA.below h) (sB.below h) (sO.below h) hl)
    have F3 := hid (fun w1 (h : Below wc.heap.size wc w1) => lsame_any _ _ s i t j w1 (sC.below h) (sD.below h))
    have F4 := hid (fun w1 (h : Below wc.heap.size wc w1) => refSame_any _ _ s i t j w1 (sA.below h) (sB.below h))
    have F5 := hid (fun w1 (h : Below wc.heap.size wc w1) => check_l _ s i w1 (sC.below h))
    have F6 := hid (fun w1 (h : Below wc.heap.size wc w1) => refCheck_any _ s i w1 (sA.below h))
    have F8 := hid (fun w1 (h : Below wc.heap.size wc w1) => alike_any _ _ s i s i w1 (sC.below h) (sA.below h))
    have F9 := hid (fun w1 (h : Below wc.heap.size wc w1) => alike_any _ _ t j t j w1 (sD.below h) (sB.below h))
    have eA : alikeB s i s i = true := by simp [alikeB]
    have eB : alikeB t j t j = true := by simp [alikeB]
    rw [eA] at F8
    rw [eB] at F9
    obtain ⟨E1, hE1⟩ : ∃ E, E = flowsE s i t j own := ⟨_, rfl⟩
    obtain ⟨XS, hXS⟩ : ∃ X, X = flowsL s i t j own := ⟨_, rfl⟩
    obtain ⟨B3, hB3⟩ : ∃ B, B = sameB s i t j := ⟨_, rfl⟩
    obtain ⟨E3, hE3⟩ : ∃ E, E = errOf (mayB s i && mayB t j) := ⟨_, rfl⟩
    obtain ⟨E5, hE5⟩ : ∃ E, E = errOf (mayB s i) := ⟨_, rfl⟩
    rw [← hE1, ← hXS] at F1 F2
    rw [← hB3, ← hE3] at F3 F4
    rw [← hE5] at F5 F6
    have hXl : XS.length ≤ 4611686018427387904 := by
      rw [hXS]
      have := length_lacksL s i t j
      unfold flowsL
      split
      · split
        · split
          · omega
          · simp
        · simp
      · simp
    have HA1c := hid (HA1.out.below hT.bel)
    have HA2c := hid (HA2.out.below hT.bel)
    have HCc := hid hT.lab1
    have HDc := hid hT.lab2
    have HZc := hid (HZ.out.trans (hT.bel.mono HZ.out.size))
    clear hT sC sD sA sB sO hE1 hXS hB3 hE3 hE5 eA eB HD1 HD2 HD3 HA1 HA2 Z1 Z2 HB c1 c2 c3 c4 HZ hszW hsz n1 n2 n3 n4
    have HC := hid (Below.refl wc.heap.size wc)
    obtain ⟨c1, c2⟩ := HA1c.out.below HC.out
    obtain ⟨c3, c4⟩ := HA2c.out.below HC.out
    obtain ⟨k1, k2, k3, k4⟩ := (HCc.out.below HC.out HCc.out.lt).cells
    obtain ⟨k5, k6, k7, k8⟩ := (HDc.out.below HC.out HDc.out.lt).cells
    go_wp2_with fail
    refine (F1.out _ HC.out).mono ?_
    rintro e w2 ⟨u9, rfl, hO9, h'⟩
    have HO9 := hid hO9
    clear hO9 F1
    have HCn := hid (HC.out.trans (h'.mono HC.out.size))
    clear HC h' c1 c2 c3 c4 k1 k2 k3 k4 k5 k6 k7 k8
    have HC := HCn
    clear HCn
    obtain ⟨c1, c2⟩ := HA1c.out.below HC.out
    obtain ⟨c3, c4⟩ := HA2c.out.below HC.out
    obtain ⟨k1, k2, k3, k4⟩ := (HCc.out.below HC.out HCc.out.lt).cells
    obtain ⟨k5, k6, k7, k8⟩ := (HDc.out.below HC.out HDc.out.lt).cells
    go_wp2_with fail
    refine (F2.out _ HC.out).mono ?_
    rintro e w3 ⟨u11, rfl, hO11, h'⟩
    have HO11 := hid hO11
    clear hO11 F2
    have HO9n := hid (HO9.out.below h')
    clear HO9
    have HO9 := HO9n
    clear HO9n
    have HCn := hid (HC.out.trans (h'.mono HC.out.size))
    clear HC h' c1 c2 c3 c4 k1 k2 k3 k4 k5 k6 k7 k8
    have HC := HCn
    clear HCn
    obtain ⟨c1, c2⟩ := HA1c.out.below HC.out
    obtain ⟨c3, c4⟩ := HA2c.out.below HC.out
    obtain ⟨k1, k2, k3, k4⟩ := (HCc.out.below HC.out HCc.out.lt).cells
    obtain ⟨k5, k6, k7, k8⟩ := (HDc.out.below HC.out HDc.out.lt).cells
    go_wp2_with fail
    refine (F3.out _ HC.out).mono ?_
    rintro e w4 ⟨rfl, h'⟩
    clear F3
    have HO9n := hid (HO9.out.below h')
    clear HO9
    have HO9 := HO9n
    clear HO9n
    have HO11n := hid (HO11.out.below h')
    clear HO11
    have HO11 := HO11n
    clear HO11n
    have HCn := hid (HC.out.trans (h'.mono HC.out.size))
    clear HC h' c1 c2 c3 c4 k1 k2 k3 k4 k5 k6 k7 k8
    have HC := HCn
    clear HCn
    obtain ⟨c1, c2⟩ := HA1c.out.below HC.out
    obtain ⟨c3, c4⟩ := HA2c.out.below HC.out
    obtain ⟨k1, k2, k3, k4⟩ := (HCc.out.below HC.out HCc.out.lt).cells
    obtain ⟨k5, k6, k7, k8⟩ := (HDc.out.below HC.out HDc.out.lt).cells
    go_wp2_with fail
    refine (F4.out _ HC.out).mono ?_
    rintro e w5 ⟨rfl, h'⟩
    clear F4
    have HO9n := hid (HO9.out.below h')
    clear HO9
    have HO9 := HO9n
    clear HO9n
    have HO11n := hid (HO11.out.below h')
    clear HO11
    have HO11 := HO11n
    clear HO11n
    have HCn := hid (HC.out.trans (h'.mono HC.out.size))
    clear HC h' c1 c2 c3 c4 k1 k2 k3 k4 k5 k6 k7 k8
    have HC := HCn
    clear HCn
    obtain ⟨c1, c2⟩ := HA1c.out.below HC.out
    obtain ⟨c3, c4⟩ := HA2c.out.below HC.out
    obtain ⟨k1, k2, k3, k4⟩ := (HCc.out.below HC.out HCc.out.lt).cells
    obtain ⟨k5, k6, k7, k8⟩ := (HDc.out.below HC.out HDc.out.lt).cells
    go_wp2_with fail
    have HCn := hid (Below.drew HC.out)
    clear HC
    have HC := HCn
    clear HCn
    have hd' : Below w5.heap.size w5 w5.drew := Below.drew (Below.refl _ _)
    have h' := hd'
    clear hd'
    have HO9n := hid (HO9.out.below h')
    clear HO9
    have HO9 := HO9n
    clear HO9n
    have HO11n := hid (HO11.out.below h')
    clear HO11
    have HO11 := HO11n
    clear HO11n
    clear h'
    go_region_held3 (fun w' => w'.cell? ⟨p, 0, none⟩ = some v1 ∧ w'.cell? ⟨p, 1, none⟩ = some y1 ∧ w'.cell? ⟨w.heap.size, 0, none⟩ = some u1 ∧ w'.cell? ⟨w.heap.size, 1, none⟩ = some x1)
      (first | (refine ⟨?_, ?_, ?_, ?_⟩ <;> first | assumption | go_keep))
      (first
        | (go_at_call 13; refine (F5.out _ HC.out).mono ?_; rintro e w6 ⟨rfl, h'⟩; clear F5
           have HO9n := hid (HO9.out.below h')
           clear HO9
           have HO9 := HO9n
           clear HO9n
           have HO11n := hid (HO11.out.below h')
           clear HO11
           have HO11 := HO11n
           clear HO11n
           have HCn := hid (HC.out.trans (h'.mono HC.out.size))
           clear HC h' c1 c2 c3 c4 k1 k2 k3 k4 k5 k6 k7 k8
           have HC := HCn
           clear HCn
           obtain ⟨c1, c2⟩ := HA1c.out.below HC.out
           obtain ⟨c3, c4⟩ := HA2c.out.below HC.out
           obtain ⟨k1, k2, k3, k4⟩ := (HCc.out.below HC.out HCc.out.lt).cells
           obtain ⟨k5, k6, k7, k8⟩ := (HDc.out.below HC.out HDc.out.lt).cells
          )
        | (go_at_call 14; refine (F6.out _ HC.out).mono ?_; rintro e w7 ⟨rfl, h'⟩; clear F6
           have HO9n := hid (HO9.out.below h')
           clear HO9
           have HO9 := HO9n
           clear HO9n
           have HO11n := hid (HO11.out.below h')
           clear HO11
           have HO11 := HO11n
           clear HO11n
           have HCn := hid (HC.out.trans (h'.mono HC.out.size))
           clear HC h' c1 c2 c3 c4 k1 k2 k3 k4 k5 k6 k7 k8
           have HC := HCn
           clear HCn
           obtain ⟨c1, c2⟩ := HA1c.out.below HC.out
           obtain ⟨c3, c4⟩ := HA2c.out.below HC.out
           obtain ⟨k1, k2, k3, k4⟩ := (HCc.out.below HC.out HCc.out.lt).cells
           obtain ⟨k5, k6, k7, k8⟩ := (HDc.out.below HC.out HDc.out.lt).cells
          )
        | (go_at_call 15; refine (same_any u9 u11 XS XS _ HO9.out.sees HO11.out.sees hXl hXl).mono ?_; rintro e w8 ⟨he, h'⟩; rw [decide_eq_true (rfl : XS = XS)] at he; subst he
           have HO9n := hid (HO9.out.below h')
           clear HO9
           have HO9 := HO9n
           clear HO9n
           have HCn := hid (HC.out.trans (h'.mono HC.out.size))
           clear HC h' c1 c2 c3 c4 k1 k2 k3 k4 k5 k6 k7 k8
           have HC := HCn
           clear HCn
           obtain ⟨c1, c2⟩ := HA1c.out.below HC.out
           obtain ⟨c3, c4⟩ := HA2c.out.below HC.out
           obtain ⟨k1, k2, k3, k4⟩ := (HCc.out.below HC.out HCc.out.lt).cells
           obtain ⟨k5, k6, k7, k8⟩ := (HDc.out.below HC.out HDc.out.lt).cells
          ))
    obtain ⟨b9, off9, ao9, cap9, hs9, _⟩ := HO9.out.sees
    subst hs9
    obtain ⟨n9, hn9⟩ : ∃ n, n = XS.length := ⟨_, rfl⟩
    rw [← hn9] at HO9 hXl ⊢
    have HN9 := hid hn9
    clear hn9 c1 c2 c3 c4 k1 k2 k3 k4 k5 k6 k7 k8
    go_wp2_with fail
    go_loopw [18] (fun i wq => ∃ (m : Nat) (es : List Int), m ≤ n9 ∧ i = .int .i64 m ∧ es.length = n9 ∧ Owns wq wc.heap.size (.slice ao9 n9 cap9) es ∧ Below wc.heap.size wc wq) (fun i _ => n9 - (intOf i).toNat)
    case atStart => exact ⟨0, XS, Nat.zero_le _, rfl, HN9.out.symm, HO9.out, HC.out⟩
    case round =>
      clear HO9 HC
      obtain ⟨m, es, hm, rfl, hel, hown, hbel⟩ := hrel
      by_cases hml : m < n9
      · obtain ⟨g, gc, hgv, hgb, _, hfz, hgc⟩ := owns_block hown (by omega)
        rw [hel] at hgv
        cases hgv
        obtain ⟨z0, hz0⟩ : ∃ z0, z0 = es.getD m 0 := ⟨_, rfl⟩
        have hcm := hgc m (by omega)
        rw [← hz0] at hcm
        have hfm := hfz m
        have hR := owns_put (k := m) (-7) hown hel
        have HR := hid (And.intro hR (hbel.setCell (p := ⟨g, m, none⟩) hgb (.int .i64 (-7))))
        clear hR hown hbel hgc hfz hz0
        go_wp2
        go_roundw
        case rel => exact ⟨m + 1, es.set m (-7), by omega, by go_num, by rw [List.length_set, hel], HR.out.1, HR.out.2⟩
        case measure => simp [intOf]; omega
      · have HC := hid hbel
        clear hown hbel
        obtain ⟨c1, c2⟩ := HA1c.out.below HC.out
        obtain ⟨c3, c4⟩ := HA2c.out.below HC.out
        obtain ⟨k1, k2, k3, k4⟩ := (HCc.out.below HC.out HCc.out.lt).cells
        obtain ⟨k5, k6, k7, k8⟩ := (HDc.out.below HC.out HDc.out.lt).cells
        go_wp2_with fail
        refine (F8.out _ HC.out).mono ?_
        rintro e w8 ⟨rfl, h'⟩
        clear F8
        have HCn := hid (HC.out.trans (h'.mono HC.out.size))
        clear HC h' c1 c2 c3 c4 k1 k2 k3 k4 k5 k6 k7 k8
        have HC := HCn
        clear HCn
        obtain ⟨c1, c2⟩ := HA1c.out.below HC.out
        obtain ⟨c3, c4⟩ := HA2c.out.below HC.out
        obtain ⟨k1, k2, k3, k4⟩ := (HCc.out.below HC.out HCc.out.lt).cells
        obtain ⟨k5, k6, k7, k8⟩ := (HDc.out.below HC.out HDc.out.lt).cells
        go_wp2_with fail
        refine (F9.out _ HC.out).mono ?_
        rintro e w9 ⟨rfl, h'⟩
        clear F9
        have HCn := hid (HC.out.trans (h'.mono HC.out.size))
        clear HC h' c1 c2 c3 c4 k1 k2 k3 k4 k5 k6 k7 k8
        have HC := HCn
        clear HCn
        obtain ⟨c1, c2⟩ := HA1c.out.below HC.out
        obtain ⟨c3, c4⟩ := HA2c.out.below HC.out
        obtain ⟨k1, k2, k3, k4⟩ := (HCc.out.below HC.out HCc.out.lt).cells
        obtain ⟨k5, k6, k7, k8⟩ := (HDc.out.below HC.out HDc.out.lt).cells
        go_wp2_with fail
        refine (awake_any _).mono ?_
        rintro e w10 ⟨rfl, h'⟩
        have hfin := HC.out.trans (h'.mono HC.out.size)
        have HFIN := hid (HZc.out.trans (hfin.mono HZc.out.size))
        clear h' hfin
        go_wp2
        go_ret
        exact ⟨rfl, HFIN.out⟩

end Go.Proofs.Ytjgohajlabdloaa
