/-
  The contracts of label's bound, Join and Meet.
-/
import Derived.Test.YtjgohajlabdloaaMixB
import Derived.Deep.DeepCutAuto
import Derived.Deep.CutBlock
namespace Go.Proofs.Ytjgohajlabdloaa
open Go.RowKit
set_option linter.unusedVariables false
set_option linter.unusedSimpArgs false

/-- A label of the call's own lies at p, made behind W. -/
structure OneLab (W wx : World) (p : Nat) (v1 v2 : Value) (s i : List Int) : Prop where
  bel : Below W.heap.size W wx
  lab : LabAt wx p v1 v2
  low : W.heap.size ≤ p
  os : Owns wx W.heap.size v1 s
  oi : Owns wx W.heap.size v2 i

theorem one_lab {W w : World} {p : Nat} {a b v1 v2 : Value} {s i : List Int} (hB : Below W.heap.size W w) (h1 : LabAt w p a b) (l1 : W.heap.size ≤ p) (os : Owns w W.heap.size v1 s) (oi : Owns w W.heap.size v2 i) :
    OneLab W ((w.setCell ⟨p, 0, none⟩ v1).setCell ⟨p, 1, none⟩ v2) p v1 v2 s i :=
  ⟨(hB.setCell l1 _).setCell l1 _, h1.store0.store1, l1, owns_far (owns_far os (owns_lab_ne os h1)) (owns_lab_ne os h1), owns_far (owns_far oi (owns_lab_ne oi h1)) (owns_lab_ne oi h1)⟩

set_option maxRecDepth 20000 in
set_option maxHeartbeats 8000000 in
theorem boundJ_may (a b : Value) (s i t j : List Int) (w : World) (hA : SeesL w a s i) (hB : SeesL w b t j) (hm : (mayB s i && mayB t j) = true) :
    Calls Try.prog 37 #[a, b, .func (.func 29) #[] #[], .func (.func 38) #[] #[]] w fun e w' => ∃ v1 v2, e = .returned (.tuple #[.agg #[v1, v2], .int .i64 (mixE true (sd (s ++ t)) (meetL i j))]) ∧
      Owns w' w.heap.size v1 (mixL true (sd (s ++ t)) (meetL i j) (sd (s ++ t))) ∧ Owns w' w.heap.size v2 (mixL true (sd (s ++ t)) (meetL i j) (meetL i j)) ∧ Below w.heap.size w w' := by
  have hlen := may2 hm
  obtain ⟨u1, x1, rfl, a1, a2, a3, a4⟩ := hA
  obtain ⟨u2, x2, rfl, b1, b2, b3, b4⟩ := hB
  obtain ⟨W, hW⟩ : ∃ W, W = ((w.alloc (.cells #[u1, x1] 24)).alloc (.cells #[u2, x2] 24)).alloc (.cells #[.slice none 0 0, .slice none 0 0] 24) := ⟨_, rfl⟩
  have hZ : Below w.heap.size w W := by rw [hW]; exact ((below_alloc w _).alloc (by simp) _).alloc (by simp; omega) _
  have HA1 := hid (show Boxed W w.heap.size u1 x1 by rw [hW]; exact ((Boxed.new _ _ _).box _).box _)
  have HA2 := hid (show Boxed W (w.heap.size + 1) u2 x2 by rw [hW]; exact (Boxed.new2 _ _ _ _).box _)
  have HR := hid (show LabAt W (w.heap.size + 1 + 1) (.slice none 0 0) (.slice none 0 0) by rw [hW]; exact LabAt.new3 _ _ _ _ _)
  have sA : SeesL W (.agg #[u1, x1]) s i := SeesL.below ⟨u1, x1, rfl, a1, a2, a3, a4⟩ hZ
  have sB : SeesL W (.agg #[u2, x2]) t j := SeesL.below ⟨u2, x2, rfl, b1, b2, b3, b4⟩ hZ
  have M1 := hid (fun w1 (h : Below W.heap.size W w1) => checkBoth_any _ _ s i t j w1 (sA.below h) (sB.below h))
  have T1 := hid (a1.below hZ)
  have T2 := hid (a2.below hZ)
  have T3 := hid (b1.below hZ)
  have T4 := hid (b2.below hZ)
  have hszW : W.heap.size = w.heap.size + 3 := by rw [hW]; simp
  have HZ := hid hZ
  have HW := hid hW
  have HB := hid (Below.refl W.heap.size W)
  clear a1 a2 b1 b2 sA sB hZ hW
  obtain ⟨c1, c2⟩ := HA1.out
  obtain ⟨c3, c4⟩ := HA2.out
  rw [hm, show errOf true = 0 from rfl] at M1
  clear hm
  have K1 := hid (fun w1 (h : Below W.heap.size W w1) => join_any u1 u2 s t w1 (T1.out.below h) (T3.out.below h) (by omega))
  have K2 := hid (fun w1 (h : Below W.heap.size W w1) => meet_any x1 x2 i j w1 (T2.out.below h) (T4.out.below h) (by omega))
  obtain ⟨PP, hPP⟩ : ∃ X, X = (sd (s ++ t)) := ⟨_, rfl⟩
  obtain ⟨QQ, hQQ⟩ : ∃ X, X = (meetL i j) := ⟨_, rfl⟩
  rw [← hPP] at K1 ⊢
  rw [← hQQ] at K2 ⊢
  clear hPP hQQ T1 T2 T3 T4 hlen
  go_enter Try.func37, Try.ntmps37
  go_wp2_with fail
  rw [← HW.out]
  clear HW
  refine (M1.out _ HB.out).mono ?_
  rintro e wq ⟨rfl, h'⟩
  clear M1 c1 c2 c3 c4
  have HBn := hid (HB.out.trans (h'.mono HB.out.size))
  clear HB h'
  have HB := HBn
  clear HBn
  obtain ⟨c1, c2⟩ := HA1.out.below HB.out
  obtain ⟨c3, c4⟩ := HA2.out.below HB.out
  go_wp2_with fail
  go_cut [11] from 19 to 31 (fun q11 wx => ∃ p v1 v2, q11 = .pointer (some ⟨p, 0, none⟩) ∧ OneLab W wx p v1 v2 PP QQ)
  case first =>
    refine wp_region_noPanic ?_
    refine wp_region_held_drew (S := (fun w' => w'.cell? ⟨w.heap.size, 0, none⟩ = some u1 ∧ w'.cell? ⟨w.heap.size, 1, none⟩ = some x1 ∧ w'.cell? ⟨w.heap.size + 1, 0, none⟩ = some u2 ∧ w'.cell? ⟨w.heap.size + 1, 1, none⟩ = some x2)) (by kernel_rfl) ?_ (fun hHeld => ?_)
    · exact ⟨c1, c2, c3, c4⟩
    have HBn := hid (Below.drew HB.out)
    clear HB
    have HB := HBn
    clear HBn
    obtain ⟨w0, hw⟩ : ∃ x, x = wq.drew := ⟨_, rfl⟩
    rw [← hw] at HB hHeld ⊢
    clear hw c1 c2 c3 c4
    obtain ⟨c1, c2⟩ := HA1.out.below HB.out
    obtain ⟨c3, c4⟩ := HA2.out.below HB.out
    refine wpAnyH_take (i := 0) (oi := { dst := some 19, op := Op.move (Operand.tmp 2), type := 40, pos := "label.go:138", after := #[], guard := none }) (v := (.func (.func 29) #[] #[])) rfl (by kernel_rfl) (by kernel_rfl) (by kernel_rfl) (fun _ _ _ h => h) (Or.inl ⟨by rfl, ?_⟩) (by assumption) ?_
    · intro w hSw
      try dsimp only at hSw
      go_simp
    try simp only [Act.put, List.setIfInBounds_toArray, List.set_cons_zero, List.set_cons_succ]
    refine wpAnyH_take (i := 1) (oi := { dst := some 20, op := Op.fieldAddr 24 (Operand.tmp 4) 0, type := 0, pos := "label.go:138", after := #[], guard := none }) (v := (.pointer (some ⟨w.heap.size, 0, none⟩))) rfl (by kernel_rfl) (by kernel_rfl) (by kernel_rfl) (fun _ _ _ h => h) (Or.inl ⟨by rfl, ?_⟩) (by assumption) ?_
    · intro w hSw
      try dsimp only at hSw
      go_simp
    try simp only [Act.put, List.setIfInBounds_toArray, List.set_cons_zero, List.set_cons_succ]
    refine wpAnyH_take (i := 2) (oi := { dst := some 21, op := Op.load 22 (Operand.tmp 20), type := 22, pos := "label.go:138", after := #[{ on := 1, ground := Ground.data }], guard := none }) (v := u1) rfl (by kernel_rfl) (by kernel_rfl) (by kernel_rfl) (fun _ _ _ h => h) (Or.inl ⟨by rfl, ?_⟩) (by assumption) ?_
    · intro w hSw
      try dsimp only at hSw
      go_simp
    try simp only [Act.put, List.setIfInBounds_toArray, List.set_cons_zero, List.set_cons_succ]
    refine wpAnyH_take (i := 3) (oi := { dst := some 22, op := Op.fieldAddr 24 (Operand.tmp 5) 0, type := 0, pos := "label.go:138", after := #[], guard := none }) (v := (.pointer (some ⟨w.heap.size + 1, 0, none⟩))) rfl (by kernel_rfl) (by kernel_rfl) (by kernel_rfl) (fun _ _ _ h => h) (Or.inl ⟨by rfl, ?_⟩) (by assumption) ?_
    · intro w hSw
      try dsimp only at hSw
      go_simp
    try simp only [Act.put, List.setIfInBounds_toArray, List.set_cons_zero, List.set_cons_succ]
    refine wpAnyH_take (i := 4) (oi := { dst := some 23, op := Op.load 22 (Operand.tmp 22), type := 22, pos := "label.go:138", after := #[{ on := 3, ground := Ground.data }], guard := none }) (v := u2) rfl (by kernel_rfl) (by kernel_rfl) (by kernel_rfl) (fun _ _ _ h => h) (Or.inl ⟨by rfl, ?_⟩) (by assumption) ?_
    · intro w hSw
      try dsimp only at hSw
      go_simp
    try simp only [Act.put, List.setIfInBounds_toArray, List.set_cons_zero, List.set_cons_succ]
    refine wpAnyH_take (i := 6) (oi := { dst := some 25, op := Op.move (Operand.tmp 3), type := 40, pos := "label.go:138", after := #[], guard := none }) (v := (.func (.func 38) #[] #[])) rfl (by kernel_rfl) (by kernel_rfl) (by kernel_rfl) (fun _ _ _ h => h) (Or.inl ⟨by rfl, ?_⟩) (by assumption) ?_
    · intro w hSw
      try dsimp only at hSw
      go_simp
    try simp only [Act.put, List.setIfInBounds_toArray, List.set_cons_zero, List.set_cons_succ]
    refine wpAnyH_take (i := 7) (oi := { dst := some 26, op := Op.fieldAddr 24 (Operand.tmp 4) 1, type := 0, pos := "label.go:138", after := #[], guard := none }) (v := (.pointer (some ⟨w.heap.size, 1, none⟩))) rfl (by kernel_rfl) (by kernel_rfl) (by kernel_rfl) (fun _ _ _ h => h) (Or.inl ⟨by rfl, ?_⟩) (by assumption) ?_
    · intro w hSw
      try dsimp only at hSw
      go_simp
    try simp only [Act.put, List.setIfInBounds_toArray, List.set_cons_zero, List.set_cons_succ]
    refine wpAnyH_take (i := 8) (oi := { dst := some 27, op := Op.load 22 (Operand.tmp 26), type := 22, pos := "label.go:138", after := #[{ on := 7, ground := Ground.data }], guard := none }) (v := x1) rfl (by kernel_rfl) (by kernel_rfl) (by kernel_rfl) (fun _ _ _ h => h) (Or.inl ⟨by rfl, ?_⟩) (by assumption) ?_
    · intro w hSw
      try dsimp only at hSw
      go_simp
    try simp only [Act.put, List.setIfInBounds_toArray, List.set_cons_zero, List.set_cons_succ]
    refine wpAnyH_take (i := 9) (oi := { dst := some 28, op := Op.fieldAddr 24 (Operand.tmp 5) 1, type := 0, pos := "label.go:138", after := #[], guard := none }) (v := (.pointer (some ⟨w.heap.size + 1, 1, none⟩))) rfl (by kernel_rfl) (by kernel_rfl) (by kernel_rfl) (fun _ _ _ h => h) (Or.inl ⟨by rfl, ?_⟩) (by assumption) ?_
    · intro w hSw
      try dsimp only at hSw
      go_simp
    try simp only [Act.put, List.setIfInBounds_toArray, List.set_cons_zero, List.set_cons_succ]
    refine wpAnyH_take (i := 10) (oi := { dst := some 29, op := Op.load 22 (Operand.tmp 28), type := 22, pos := "label.go:138", after := #[{ on := 9, ground := Ground.data }], guard := none }) (v := x2) rfl (by kernel_rfl) (by kernel_rfl) (by kernel_rfl) (fun _ _ _ h => h) (Or.inl ⟨by rfl, ?_⟩) (by assumption) ?_
    · intro w hSw
      try dsimp only at hSw
      go_simp
    try simp only [Act.put, List.setIfInBounds_toArray, List.set_cons_zero, List.set_cons_succ]
    refine wpAnyH_ready (rs := [5, 13]) (by kernel_rfl) (by simp) ?_
    refine AllReadyH.cons (o := { dst := some 24, op := Op.call { callee := Callee.value (Operand.tmp 19), args := #[Operand.tmp 21, Operand.tmp 23], argTypes := #[22, 22] }, type := 22, pos := "label.go:138", after := #[{ on := 0, ground := Ground.data }, { on := 2, ground := Ground.data }, { on := 4, ground := Ground.data }], guard := none }) rfl (fun K hK => ?_) (AllReadyH.cons (o := { dst := some 11, op := Op.alloc 24, type := 0, pos := "label.go:138", after := #[], guard := none }) rfl (fun K hK => ?_) AllReadyH.nil)
    · go_simp
      refine (K1.out _ HB.out).mono ?_
      rintro e w1 ⟨v1, rfl, hO, h'⟩
      have HOn := hid (owns_le hO HB.out.size)
      clear hO
      have HBn := hid (HB.out.trans (h'.mono HB.out.size))
      clear HB
      have HB := HBn
      clear HBn c1 c2 c3 c4
      obtain ⟨c1, c2⟩ := HA1.out.below HB.out
      obtain ⟨c3, c4⟩ := HA2.out.below HB.out
      have HO1 := HOn
      clear HOn h'
      obtain ⟨ao1, n1, cp1, hv⟩ := owns_sl HO1.out
      subst hv
      try go_wp2_with fail
      refine hK.out _ _ ?_ (fun hHeld => ?_)
      · exact ⟨c1, c2, c3, c4⟩
      clear hK K
      try simp only [Act.put, List.setIfInBounds_toArray, List.set_cons_zero, List.set_cons_succ]
      refine wpAnyH_ready (rs := [11, 13]) (by kernel_rfl) (by simp) ?_
      refine AllReadyH.cons (o := { dst := some 30, op := Op.call { callee := Callee.value (Operand.tmp 25), args := #[Operand.tmp 27, Operand.tmp 29], argTypes := #[22, 22] }, type := 22, pos := "label.go:138", after := #[{ on := 6, ground := Ground.data }, { on := 8, ground := Ground.data }, { on := 10, ground := Ground.data }, { on := 5, ground := Ground.chain }], guard := none }) rfl (fun K hK => ?_) (AllReadyH.cons (o := { dst := some 11, op := Op.alloc 24, type := 0, pos := "label.go:138", after := #[], guard := none }) rfl (fun K hK => ?_) AllReadyH.nil)
      · go_simp
        refine (K2.out _ HB.out).mono ?_
        rintro e w2 ⟨v2, rfl, hO, h'⟩
        have HOn := hid (owns_le hO HB.out.size)
        clear hO
        have HBn := hid (HB.out.trans (h'.mono HB.out.size))
        clear HB
        have HB := HBn
        clear HBn c1 c2 c3 c4
        obtain ⟨c1, c2⟩ := HA1.out.below HB.out
        obtain ⟨c3, c4⟩ := HA2.out.below HB.out
        have HO1n := hid (HO1.out.below h')
        clear HO1
        have HO1 := HO1n
        clear HO1n
        have HO2 := HOn
        clear HOn h'
        obtain ⟨ao2, n2, cp2, hv⟩ := owns_sl HO2.out
        subst hv
        try go_wp2_with fail
        refine hK.out _ _ ?_ (fun hHeld => ?_)
        · exact ⟨c1, c2, c3, c4⟩
        clear hK K
        try simp only [Act.put, List.setIfInBounds_toArray, List.set_cons_zero, List.set_cons_succ]
        refine wpAnyH_take (i := 12) (oi := { dst := some 31, op := Op.build 24 #[(0, Operand.tmp 24), (1, Operand.tmp 30)], type := 24, pos := "label.go:138", after := #[{ on := 5, ground := Ground.data }, { on := 11, ground := Ground.data }], guard := none }) (v := (.agg #[.slice ao1 n1 cp1, .slice ao2 n2 cp2])) rfl (by kernel_rfl) (by kernel_rfl) (by kernel_rfl) (fun _ _ _ h => h) (Or.inl ⟨by rfl, ?_⟩) (by assumption) ?_
        · intro w hSw
          try dsimp only at hSw
          go_simp
        try simp only [Act.put, List.setIfInBounds_toArray, List.set_cons_zero, List.set_cons_succ]
        refine wpAnyH_ready (rs := [13]) (by kernel_rfl) (by simp) ?_
        refine AllReadyH.cons (o := { dst := some 11, op := Op.alloc 24, type := 0, pos := "label.go:138", after := #[], guard := none }) rfl (fun K hK => ?_) AllReadyH.nil
        · go_simp
          refine hK.out _ _ ?_ (fun hHeld => ?_)
          · first | (refine ⟨?_, ?_, ?_, ?_⟩ <;> first | assumption | (simp [*, World.cell?_alloc_some]; done))
          clear hK K
          have h' : Below w2.heap.size w2 (w2.alloc (.cells #[.slice none 0 0, .slice none 0 0] 24)) := below_alloc _ _
          have HLm := LabAt.new w2 (.slice none 0 0) (.slice none 0 0)
          obtain ⟨w3, hw⟩ : ∃ x, x = w2.alloc (.cells #[.slice none 0 0, .slice none 0 0] 24) := ⟨_, rfl⟩
          rw [← hw] at h' HLm hHeld ⊢
          clear hw
          obtain ⟨p4, hp⟩ : ∃ x, x = w2.heap.size := ⟨_, rfl⟩
          rw [← hp] at HLm ⊢
          have HG := hid (show W.heap.size ≤ p4 from by rw [hp]; exact HB.out.size)
          clear hp
          have HBn := hid (HB.out.trans (h'.mono HB.out.size))
          clear HB
          have HB := HBn
          clear HBn c1 c2 c3 c4
          obtain ⟨c1, c2⟩ := HA1.out.below HB.out
          obtain ⟨c3, c4⟩ := HA2.out.below HB.out
          have HO1n := hid (HO1.out.below h')
          clear HO1
          have HO1 := HO1n
          clear HO1n
          have HO2n := hid (HO2.out.below h')
          clear HO2
          have HO2 := HO2n
          clear HO2n
          have HL := hid HLm
          clear HLm h'
          try simp only [Act.put, List.setIfInBounds_toArray, List.set_cons_zero, List.set_cons_succ]
          obtain ⟨e1, e2, e3, e4⟩ := HL.out.cells
          have g1 : p4 ≠ w.heap.size := by have := HG.out; omega
          have g2 : p4 ≠ w.heap.size + 1 := by have := HG.out; omega
          have HT := hid (one_lab HB.out HL.out HG.out HO1.out HO2.out)
          clear HL HO1 HO2 HG HB
          refine wpAnyH_ready (rs := [14]) (by kernel_rfl) (by simp) ?_
          refine AllReadyH.cons (o := { dst := none, op := Op.store 24 (Operand.tmp 11) (Operand.tmp 31), type := 0, pos := "label.go:138", after := #[{ on := 13, ground := Ground.data }, { on := 12, ground := Ground.data }, { on := 11, ground := Ground.chain }, { on := 0, ground := Ground.phase }, { on := 1, ground := Ground.phase }, { on := 2, ground := Ground.phase }, { on := 3, ground := Ground.phase }, { on := 4, ground := Ground.phase }, { on := 5, ground := Ground.phase }, { on := 6, ground := Ground.phase }, { on := 7, ground := Ground.phase }, { on := 8, ground := Ground.phase }, { on := 9, ground := Ground.phase }, { on := 10, ground := Ground.phase }, { on := 11, ground := Ground.phase }, { on := 12, ground := Ground.phase }, { on := 13, ground := Ground.phase }], guard := none }) rfl (fun K hK => ?_) AllReadyH.nil
          go_simp
          refine hK.out _ _ ?_ (fun hHeld => ?_)
          · exact ⟨far2 c1 g1, far2 c2 g1, far2 c3 g2, far2 c4 g2⟩
          clear hK K
          try simp only [Act.put, List.setIfInBounds_toArray, List.set_cons_zero, List.set_cons_succ]
          refine wpAnyH_done (by kernel_rfl) ?_ _
          refine NoPanic.normal ?_
          go_wp2_with fail
          go_meet
          exact ⟨_, _, _, rfl, HT.out⟩
      · go_simp
        refine hK.out _ _ ?_ (fun hHeld => ?_)
        · first | (refine ⟨?_, ?_, ?_, ?_⟩ <;> first | assumption | (simp [*, World.cell?_alloc_some]; done))
        clear hK K
        have h' : Below w1.heap.size w1 (w1.alloc (.cells #[.slice none 0 0, .slice none 0 0] 24)) := below_alloc _ _
        have HLm := LabAt.new w1 (.slice none 0 0) (.slice none 0 0)
        obtain ⟨w2, hw⟩ : ∃ x, x = w1.alloc (.cells #[.slice none 0 0, .slice none 0 0] 24) := ⟨_, rfl⟩
        rw [← hw] at h' HLm hHeld ⊢
        clear hw
        obtain ⟨p4, hp⟩ : ∃ x, x = w1.heap.size := ⟨_, rfl⟩
        rw [← hp] at HLm ⊢
        have HG := hid (show W.heap.size ≤ p4 from by rw [hp]; exact HB.out.size)
        clear hp
        have HBn := hid (HB.out.trans (h'.mono HB.out.size))
        clear HB
        have HB := HBn
        clear HBn c1 c2 c3 c4
        obtain ⟨c1, c2⟩ := HA1.out.below HB.out
        obtain ⟨c3, c4⟩ := HA2.out.below HB.out
        have HO1n := hid (HO1.out.below h')
        clear HO1
        have HO1 := HO1n
        clear HO1n
        have HL := hid HLm
        clear HLm h'
        try simp only [Act.put, List.setIfInBounds_toArray, List.set_cons_zero, List.set_cons_succ]
        refine wpAnyH_ready (rs := [11]) (by kernel_rfl) (by simp) ?_
        refine AllReadyH.cons (o := { dst := some 30, op := Op.call { callee := Callee.value (Operand.tmp 25), args := #[Operand.tmp 27, Operand.tmp 29], argTypes := #[22, 22] }, type := 22, pos := "label.go:138", after := #[{ on := 6, ground := Ground.data }, { on := 8, ground := Ground.data }, { on := 10, ground := Ground.data }, { on := 5, ground := Ground.chain }], guard := none }) rfl (fun K hK => ?_) AllReadyH.nil
        · go_simp
          refine (K2.out _ HB.out).mono ?_
          rintro e w3 ⟨v2, rfl, hO, h'⟩
          have HOn := hid (owns_le hO HB.out.size)
          clear hO
          have HBn := hid (HB.out.trans (h'.mono HB.out.size))
          clear HB
          have HB := HBn
          clear HBn c1 c2 c3 c4
          obtain ⟨c1, c2⟩ := HA1.out.below HB.out
          obtain ⟨c3, c4⟩ := HA2.out.below HB.out
          have HO1n := hid (HO1.out.below h')
          clear HO1
          have HO1 := HO1n
          clear HO1n
          have HLn := hid (HL.out.below h' HL.out.lt)
          clear HL
          have HL := HLn
          clear HLn
          have HO2 := HOn
          clear HOn h'
          obtain ⟨ao2, n2, cp2, hv⟩ := owns_sl HO2.out
          subst hv
          try go_wp2_with fail
          refine hK.out _ _ ?_ (fun hHeld => ?_)
          · exact ⟨c1, c2, c3, c4⟩
          clear hK K
          try simp only [Act.put, List.setIfInBounds_toArray, List.set_cons_zero, List.set_cons_succ]
          refine wpAnyH_take (i := 12) (oi := { dst := some 31, op := Op.build 24 #[(0, Operand.tmp 24), (1, Operand.tmp 30)], type := 24, pos := "label.go:138", after := #[{ on := 5, ground := Ground.data }, { on := 11, ground := Ground.data }], guard := none }) (v := (.agg #[.slice ao1 n1 cp1, .slice ao2 n2 cp2])) rfl (by kernel_rfl) (by kernel_rfl) (by kernel_rfl) (fun _ _ _ h => h) (Or.inl ⟨by rfl, ?_⟩) (by assumption) ?_
          · intro w hSw
            try dsimp only at hSw
            go_simp
          try simp only [Act.put, List.setIfInBounds_toArray, List.set_cons_zero, List.set_cons_succ]
          obtain ⟨e1, e2, e3, e4⟩ := HL.out.cells
          have g1 : p4 ≠ w.heap.size := by have := HG.out; omega
          have g2 : p4 ≠ w.heap.size + 1 := by have := HG.out; omega
          have HT := hid (one_lab HB.out HL.out HG.out HO1.out HO2.out)
          clear HL HO1 HO2 HG HB
          refine wpAnyH_ready (rs := [14]) (by kernel_rfl) (by simp) ?_
          refine AllReadyH.cons (o := { dst := none, op := Op.store 24 (Operand.tmp 11) (Operand.tmp 31), type := 0, pos := "label.go:138", after := #[{ on := 13, ground := Ground.data }, { on := 12, ground := Ground.data }, { on := 11, ground := Ground.chain }, { on := 0, ground := Ground.phase }, { on := 1, ground := Ground.phase }, { on := 2, ground := Ground.phase }, { on := 3, ground := Ground.phase }, { on := 4, ground := Ground.phase }, { on := 5, ground := Ground.phase }, { on := 6, ground := Ground.phase }, { on := 7, ground := Ground.phase }, { on := 8, ground := Ground.phase }, { on := 9, ground := Ground.phase }, { on := 10, ground := Ground.phase }, { on := 11, ground := Ground.phase }, { on := 12, ground := Ground.phase }, { on := 13, ground := Ground.phase }], guard := none }) rfl (fun K hK => ?_) AllReadyH.nil
          go_simp
          refine hK.out _ _ ?_ (fun hHeld => ?_)
          · exact ⟨far2 c1 g1, far2 c2 g1, far2 c3 g2, far2 c4 g2⟩
          clear hK K
          try simp only [Act.put, List.setIfInBounds_toArray, List.set_cons_zero, List.set_cons_succ]
          refine wpAnyH_done (by kernel_rfl) ?_ _
          refine NoPanic.normal ?_
          go_wp2_with fail
          go_meet
          exact ⟨_, _, _, rfl, HT.out⟩
    · go_simp
      refine hK.out _ _ ?_ (fun hHeld => ?_)
      · first | (refine ⟨?_, ?_, ?_, ?_⟩ <;> first | assumption | (simp [*, World.cell?_alloc_some]; done))
      clear hK K
      have h' : Below w0.heap.size w0 (w0.alloc (.cells #[.slice none 0 0, .slice none 0 0] 24)) := below_alloc _ _
      have HLm := LabAt.new w0 (.slice none 0 0) (.slice none 0 0)
      obtain ⟨w1, hw⟩ : ∃ x, x = w0.alloc (.cells #[.slice none 0 0, .slice none 0 0] 24) := ⟨_, rfl⟩
      rw [← hw] at h' HLm hHeld ⊢
      clear hw
      obtain ⟨p4, hp⟩ : ∃ x, x = w0.heap.size := ⟨_, rfl⟩
      rw [← hp] at HLm ⊢
      have HG := hid (show W.heap.size ≤ p4 from by rw [hp]; exact HB.out.size)
      clear hp
      have HBn := hid (HB.out.trans (h'.mono HB.out.size))
      clear HB
      have HB := HBn
      clear HBn c1 c2 c3 c4
      obtain ⟨c1, c2⟩ := HA1.out.below HB.out
      obtain ⟨c3, c4⟩ := HA2.out.below HB.out
      have HL := hid HLm
      clear HLm h'
      try simp only [Act.put, List.setIfInBounds_toArray, List.set_cons_zero, List.set_cons_succ]
      refine wpAnyH_ready (rs := [5]) (by kernel_rfl) (by simp) ?_
      refine AllReadyH.cons (o := { dst := some 24, op := Op.call { callee := Callee.value (Operand.tmp 19), args := #[Operand.tmp 21, Operand.tmp 23], argTypes := #[22, 22] }, type := 22, pos := "label.go:138", after := #[{ on := 0, ground := Ground.data }, { on := 2, ground := Ground.data }, { on := 4, ground := Ground.data }], guard := none }) rfl (fun K hK => ?_) AllReadyH.nil
      · go_simp
        refine (K1.out _ HB.out).mono ?_
        rintro e w2 ⟨v1, rfl, hO, h'⟩
        have HOn := hid (owns_le hO HB.out.size)
        clear hO
        have HBn := hid (HB.out.trans (h'.mono HB.out.size))
        clear HB
        have HB := HBn
        clear HBn c1 c2 c3 c4
        obtain ⟨c1, c2⟩ := HA1.out.below HB.out
        obtain ⟨c3, c4⟩ := HA2.out.below HB.out
        have HLn := hid (HL.out.below h' HL.out.lt)
        clear HL
        have HL := HLn
        clear HLn
        have HO1 := HOn
        clear HOn h'
        obtain ⟨ao1, n1, cp1, hv⟩ := owns_sl HO1.out
        subst hv
        try go_wp2_with fail
        refine hK.out _ _ ?_ (fun hHeld => ?_)
        · exact ⟨c1, c2, c3, c4⟩
        clear hK K
        try simp only [Act.put, List.setIfInBounds_toArray, List.set_cons_zero, List.set_cons_succ]
        refine wpAnyH_ready (rs := [11]) (by kernel_rfl) (by simp) ?_
        refine AllReadyH.cons (o := { dst := some 30, op := Op.call { callee := Callee.value (Operand.tmp 25), args := #[Operand.tmp 27, Operand.tmp 29], argTypes := #[22, 22] }, type := 22, pos := "label.go:138", after := #[{ on := 6, ground := Ground.data }, { on := 8, ground := Ground.data }, { on := 10, ground := Ground.data }, { on := 5, ground := Ground.chain }], guard := none }) rfl (fun K hK => ?_) AllReadyH.nil
        · go_simp
          refine (K2.out _ HB.out).mono ?_
          rintro e w3 ⟨v2, rfl, hO, h'⟩
          have HOn := hid (owns_le hO HB.out.size)
          clear hO
          have HBn := hid (HB.out.trans (h'.mono HB.out.size))
          clear HB
          have HB := HBn
          clear HBn c1 c2 c3 c4
          obtain ⟨c1, c2⟩ := HA1.out.below HB.out
          obtain ⟨c3, c4⟩ := HA2.out.below HB.out
          have HO1n := hid (HO1.out.below h')
          clear HO1
          have HO1 := HO1n
          clear HO1n
          have HLn := hid (HL.out.below h' HL.out.lt)
          clear HL
          have HL := HLn
          clear HLn
          have HO2 := HOn
          clear HOn h'
          obtain ⟨ao2, n2, cp2, hv⟩ := owns_sl HO2.out
          subst hv
          try go_wp2_with fail
          refine hK.out _ _ ?_ (fun hHeld => ?_)
          · exact ⟨c1, c2, c3, c4⟩
          clear hK K
          try simp only [Act.put, List.setIfInBounds_toArray, List.set_cons_zero, List.set_cons_succ]
          refine wpAnyH_take (i := 12) (oi := { dst := some 31, op := Op.build 24 #[(0, Operand.tmp 24), (1, Operand.tmp 30)], type := 24, pos := "label.go:138", after := #[{ on := 5, ground := Ground.data }, { on := 11, ground := Ground.data }], guard := none }) (v := (.agg #[.slice ao1 n1 cp1, .slice ao2 n2 cp2])) rfl (by kernel_rfl) (by kernel_rfl) (by kernel_rfl) (fun _ _ _ h => h) (Or.inl ⟨by rfl, ?_⟩) (by assumption) ?_
          · intro w hSw
            try dsimp only at hSw
            go_simp
          try simp only [Act.put, List.setIfInBounds_toArray, List.set_cons_zero, List.set_cons_succ]
          obtain ⟨e1, e2, e3, e4⟩ := HL.out.cells
          have g1 : p4 ≠ w.heap.size := by have := HG.out; omega
          have g2 : p4 ≠ w.heap.size + 1 := by have := HG.out; omega
          have HT := hid (one_lab HB.out HL.out HG.out HO1.out HO2.out)
          clear HL HO1 HO2 HG HB
          refine wpAnyH_ready (rs := [14]) (by kernel_rfl) (by simp) ?_
          refine AllReadyH.cons (o := { dst := none, op := Op.store 24 (Operand.tmp 11) (Operand.tmp 31), type := 0, pos := "label.go:138", after := #[{ on := 13, ground := Ground.data }, { on := 12, ground := Ground.data }, { on := 11, ground := Ground.chain }, { on := 0, ground := Ground.phase }, { on := 1, ground := Ground.phase }, { on := 2, ground := Ground.phase }, { on := 3, ground := Ground.phase }, { on := 4, ground := Ground.phase }, { on := 5, ground := Ground.phase }, { on := 6, ground := Ground.phase }, { on := 7, ground := Ground.phase }, { on := 8, ground := Ground.phase }, { on := 9, ground := Ground.phase }, { on := 10, ground := Ground.phase }, { on := 11, ground := Ground.phase }, { on := 12, ground := Ground.phase }, { on := 13, ground := Ground.phase }], guard := none }) rfl (fun K hK => ?_) AllReadyH.nil
          go_simp
          refine hK.out _ _ ?_ (fun hHeld => ?_)
          · exact ⟨far2 c1 g1, far2 c2 g1, far2 c3 g2, far2 c4 g2⟩
          clear hK K
          try simp only [Act.put, List.setIfInBounds_toArray, List.set_cons_zero, List.set_cons_succ]
          refine wpAnyH_done (by kernel_rfl) ?_ _
          refine NoPanic.normal ?_
          go_wp2_with fail
          go_meet
          exact ⟨_, _, _, rfl, HT.out⟩
  case rest =>
    obtain ⟨p, v1, v2, rfl, hT⟩ := hcut
    clear K1 K2 c1 c2 c3 c4 HB
    obtain ⟨b1, o1, ao1, cp1, hv1, _⟩ := hT.os.sees
    obtain ⟨b2, o2, ao2, cp2, hv2, _⟩ := hT.oi.sees
    subst hv1
    subst hv2
    obtain ⟨k1, k2, k3, k4⟩ := hT.lab.cells
    have hRR := HR.out.below hT.bel HR.out.lt
    obtain ⟨r1, r2, r3, r4⟩ := hRR.cells
    have HT := hid hT
    have hb0 := hid (HZ.out.trans (hT.bel.mono HZ.out.size))
    clear hT
    by_cases hfit : PP.length ≤ 64 ∧ QQ.length ≤ 64
    · have E0 := hid (show mixE true PP QQ = 0 ∧ mixL true PP QQ PP = PP ∧ mixL true PP QQ QQ = QQ by simp [mixE, mixL, hfit])
      have g1 : ¬ (64 : Int) < (PP.length : Int) := by omega
      have g2 : ¬ (64 : Int) < (QQ.length : Int) := by omega
      obtain ⟨z1, z2, _, _⟩ := (LabAt.store1 (v' := .slice ao2 QQ.length cp2) (LabAt.store0 (u' := .slice ao1 PP.length cp1) hRR)).cells
      have HX := hid (And.intro (owns_le (base' := w.heap.size) (owns_far (j := 1) (u := .slice ao2 QQ.length cp2) (owns_far (j := 0) (u := .slice ao1 PP.length cp1) HT.out.os (owns_lab_ne HT.out.os hRR)) (owns_lab_ne HT.out.os hRR)) (by omega)) (And.intro (owns_le (base' := w.heap.size) (owns_far (j := 1) (u := .slice ao2 QQ.length cp2) (owns_far (j := 0) (u := .slice ao1 PP.length cp1) HT.out.oi (owns_lab_ne HT.out.oi hRR)) (owns_lab_ne HT.out.oi hRR)) (by omega)) ((hb0.out.setCell (p := ⟨w.heap.size + 1 + 1, 0, none⟩) (by simp; omega) (.slice ao1 PP.length cp1)).setCell (p := ⟨w.heap.size + 1 + 1, 1, none⟩) (by simp; omega) (.slice ao2 QQ.length cp2))))
      clear hRR hfit
      go_wp2
      refine bodyPost_ret (v := .tuple #[.agg #[.slice ao1 PP.length cp1, .slice ao2 QQ.length cp2], .int .i64 0]) (by simp [results, Try.results37, go_sem, z1, z2]) rfl ?_
      rw [E0.out.1, E0.out.2.1, E0.out.2.2]
      exact ⟨_, _, rfl, HX.out.1, HX.out.2.1, HX.out.2.2⟩
    · have E0 := hid (show mixE true PP QQ = 2 ∧ mixL true PP QQ PP = [] ∧ mixL true PP QQ QQ = [] by simp [mixE, mixL, hfit])
      obtain ⟨z1, z2, _, _⟩ := (LabAt.store1 (v' := .slice none 0 0) (LabAt.store0 (u' := .slice none 0 0) hRR)).cells
      have HX := hid ((hb0.out.setCell (p := ⟨w.heap.size + 1 + 1, 0, none⟩) (by simp; omega) (.slice none 0 0)).setCell (p := ⟨w.heap.size + 1 + 1, 1, none⟩) (by simp; omega) (.slice none 0 0))
      clear hRR
      by_cases hp : (64 : Int) < (PP.length : Int)
      · clear hfit
        go_wp2
        refine bodyPost_ret (v := .tuple #[.agg #[.slice none 0 0, .slice none 0 0], .int .i64 2]) (by simp [results, Try.results37, go_sem, z1, z2]) rfl ?_
        rw [E0.out.1, E0.out.2.1, E0.out.2.2]
        exact ⟨_, _, rfl, owns_nil _ _, owns_nil _ _, HX.out⟩
      · have hq : (64 : Int) < (QQ.length : Int) := by omega
        clear hfit
        go_wp2
        refine bodyPost_ret (v := .tuple #[.agg #[.slice none 0 0, .slice none 0 0], .int .i64 2]) (by simp [results, Try.results37, go_sem, z1, z2]) rfl ?_
        rw [E0.out.1, E0.out.2.1, E0.out.2.2]
        exact ⟨_, _, rfl, owns_nil _ _, owns_nil _ _, HX.out⟩

end Go.Proofs.Ytjgohajlabdloaa
