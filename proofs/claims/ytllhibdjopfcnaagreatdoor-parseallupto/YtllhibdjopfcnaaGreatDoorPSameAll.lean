/-
  Whether two lists of requests are the same: the document's.
-/
import Derived.Test.YtllhibdjopfcnaaGreatDoorPSame
namespace Go.Proofs.YtllhibdjopfcnaaGreatDoor
open Go.RowKit
set_option linter.unusedVariables false

/-- A request lies in a row. -/
def RowAt (W : World) (b o : Nat) (e : RqE) : Prop := ∀ i, i < 8 → W.cell? ⟨b, o + i, none⟩ = e.row[i]?
theorem RowAt.cells {W : World} {b o : Nat} {e : RqE} (h : RowAt W b o e) : W.cell? ⟨b, o, none⟩ = some (.string ⟨e.q.head.1.toArray⟩) ∧ W.cell? ⟨b, o + 1, none⟩ = some (.string ⟨e.q.head.2.1.toArray⟩) ∧ W.cell? ⟨b, o + 2, none⟩ = some (.int .i64 e.q.head.2.2.1) ∧ W.cell? ⟨b, o + 3, none⟩ = some (.slice e.af e.q.head.2.2.2.length e.cf) ∧ W.cell? ⟨b, o + 4, none⟩ = some (.string ⟨e.q.path.toArray⟩) ∧ W.cell? ⟨b, o + 5, none⟩ = some (.slice e.aq e.q.query.length e.cq) ∧ W.cell? ⟨b, o + 6, none⟩ = some (.string ⟨e.q.body.toArray⟩) ∧ W.cell? ⟨b, o + 7, none⟩ = some (.bool e.q.close) := by
  refine ⟨h 0 (by decide), h 1 (by decide), h 2 (by decide), h 3 (by decide), h 4 (by decide), h 5 (by decide), h 6 (by decide), h 7 (by decide)⟩
theorem RowAt.below {W W' : World} {b o : Nat} {e : RqE} (h : RowAt W b o e) (hb : Below W.heap.size W W') : RowAt W' b o e := by
  intro i hi
  have h1 := h i hi
  have hi' : i < e.row.length := by rw [row_len]; exact hi
  rw [List.getElem?_eq_getElem hi'] at h1 ⊢
  exact (hb.cell (World.block_lt_of_cell? W _ h1)).trans h1
set_option maxRecDepth 20000 in
set_option maxHeartbeats 8000000 in
theorem rsameAll_any (v1 v2 : Value) (l1 l2 : List RqE) (w : World) (h1 : SeesQ w v1 l1) (h2 : SeesQ w v2 l2) (hb : l1.length ≤ 1000000000) (hf : ∀ e ∈ l1, e.q.head.2.2.2.length ≤ 140737488355328 ∧ e.q.query.length ≤ 140737488355328) :
    Calls Tryz.prog 18 #[v1, v2] w fun e w' => ∃ r, e = .returned (.bool r) ∧ (r = true ↔ l1.map RqE.q = l2.map RqE.q) ∧ Below w.heap.size w w' := by
  obtain ⟨b1, ao1, c1, rfl, hc1, ha1, hcell1, hp1⟩ := h1
  obtain ⟨b2, ao2, c2, rfl, hc2, ha2, hcell2, hp2⟩ := h2
  by_cases hlen : l1.length = l2.length
  · have fl : ((l1.length : Int) != (l2.length : Int)) = false := by rw [bne_eq_false_iff_eq]; omega
    have HA1 := hid ha1
    have HA2 := hid ha2
    have HC1 := hid hcell1
    have HC2 := hid hcell2
    have HP1 := hid hp1
    have HP2 := hid hp2
    have HLEN := hid hlen
    obtain ⟨n1, hn1⟩ : ∃ n, n = l1.length := ⟨_, rfl⟩
    obtain ⟨n2, hn2⟩ : ∃ n, n = l2.length := ⟨_, rfl⟩
    rw [← hn1] at hc1 fl hb ⊢
    rw [← hn2] at hc2 fl ⊢
    have HN1 := hid hn1
    have HN2 := hid hn2
    clear ha1 ha2 hcell1 hcell2 hp1 hp2 hlen hn1 hn2
    go_enter Tryz.func18, Tryz.ntmps18
    go_wp2_with fail
    go_loopw [5] (fun i wr => ∃ (k : Nat), k ≤ n1 ∧ i = .int .i64 (k : Int) ∧ (l1.take k).map RqE.q = (l2.take k).map RqE.q ∧ Below w.heap.size w wr) (fun i _ => n1 - (intOf i).toNat)
    case atStart => exact ⟨0, Nat.zero_le _, rfl, rfl, Below.refl _ _⟩
    case round =>
      obtain ⟨k, hk, rfl, hT, hB⟩ := hrel
      by_cases hlt : k < n1
      · have hl1 : k < l1.length := by rw [← HN1.out]; exact hlt
        have hl2 : k < l2.length := by rw [← HLEN.out]; exact hl1
        have hlt2 : k < n2 := by rw [HN2.out]; exact hl2
        have g1 : (k : Int) < (n1 : Int) := by omega
        have g2 : (k : Int) < (n2 : Int) := by omega
        have e1a := HA1.out (by intro h; rw [h] at hl1; simp at hl1)
        have e2a := HA2.out (by intro h; rw [h] at hl2; simp at hl2)
        subst e1a
        subst e2a
        obtain ⟨e1, he1⟩ : ∃ e, e = l1[k] := ⟨_, rfl⟩
        obtain ⟨e2, he2⟩ : ∃ e, e = l2[k] := ⟨_, rfl⟩
        have hm1 : e1 ∈ l1 := by rw [he1]; exact List.getElem_mem _
        have hm2 : e2 ∈ l2 := by rw [he2]; exact List.getElem_mem _
        have hr1 : RowAt wr b1 (k * 8) e1 := by
          have h : RowAt w b1 (k * 8) e1 := fun i hi => by rw [he1]; exact HC1.out k i hl1 hi
          exact h.below hB
        have hr2 : RowAt wr b2 (k * 8) e2 := by
          have h : RowAt w b2 (k * 8) e2 := fun i hi => by rw [he2]; exact HC2.out k i hl2 hi
          exact h.below hB
        have hSm := rsame_any e1 e2 wr.drew ⟨((HP1.out e1 hm1).1.below hB).below (Below.drew (Below.refl _ _)), ((HP1.out e1 hm1).2.below hB).below (Below.drew (Below.refl _ _))⟩ ⟨((HP2.out e2 hm2).1.below hB).below (Below.drew (Below.refl _ _)), ((HP2.out e2 hm2).2.below hB).below (Below.drew (Below.refl _ _))⟩ (hf e1 hm1).1 (hf e1 hm1).2
        obtain ⟨SQ, hSQ⟩ : ∃ S, S = sameRq e1.q e2.q := ⟨_, rfl⟩
        rw [← hSQ] at hSm
        have HSQ := hid hSQ
        have HB := hid hB
        have HT := hid hT
        have HE1 := hid he1
        have HE2 := hid he2
        have HL1 := hid hl1
        have HL2 := hid hl2
        have hsb := hB.size
        clear hB hT hm1 hm2 hSQ he1 he2
        go_wp2_with fail
        refine wp_region_noPanic ?_
        refine wp_region_held_drew (S := (fun W => Below wr.heap.size wr W ∧ RowAt W b1 (k * 8) e1 ∧ RowAt W b2 (k * 8) e2)) (by kernel_rfl) ?_ (fun hHeld => ?_)
        · exact ⟨Below.drew (Below.refl _ _), hr1, hr2⟩
        refine wpAnyH_take (i := 0) (oi := { dst := some 17, op := Op.move (Operand.tmp 0), type := 45, pos := "ref.go:213", after := #[], guard := none }) (v := (.slice (some ⟨b1, 0, none⟩) n1 c1)) rfl (by kernel_rfl) (by kernel_rfl) (by kernel_rfl) (fun _ _ _ h => h) (Or.inl ⟨by rfl, ?_⟩) (by assumption) ?_
        · intro w hSw
          try dsimp only at hSw
          go_simp
        try simp only [Act.put, List.setIfInBounds_toArray, List.set_cons_zero, List.set_cons_succ]
        refine wpAnyH_take (i := 1) (oi := { dst := some 18, op := Op.move (Operand.tmp 5), type := 3, pos := "ref.go:213", after := #[], guard := none }) (v := (.int .i64 (k : Int))) rfl (by kernel_rfl) (by kernel_rfl) (by kernel_rfl) (fun _ _ _ h => h) (Or.inl ⟨by rfl, ?_⟩) (by assumption) ?_
        · intro w hSw
          try dsimp only at hSw
          go_simp
        try simp only [Act.put, List.setIfInBounds_toArray, List.set_cons_zero, List.set_cons_succ]
        refine wpAnyH_take (i := 2) (oi := { dst := some 19, op := Op.indexAddr 45 (Operand.tmp 17) (Operand.tmp 18), type := 0, pos := "ref.go:213", after := #[{ on := 0, ground := Ground.data }, { on := 1, ground := Ground.data }], guard := none }) (v := (.pointer (some ⟨b1, k * 8, none⟩))) rfl (by kernel_rfl) (by kernel_rfl) (by kernel_rfl) (fun _ _ _ h => h) (Or.inl ⟨by rfl, ?_⟩) (by assumption) ?_
        · intro w hSw
          try dsimp only at hSw
          go_simp
        try simp only [Act.put, List.setIfInBounds_toArray, List.set_cons_zero, List.set_cons_succ]
        refine wpAnyH_take (i := 3) (oi := { dst := some 20, op := Op.load 36 (Operand.tmp 19), type := 36, pos := "ref.go:213", after := #[{ on := 2, ground := Ground.data }], guard := none }) (v := (.agg #[.string ⟨e1.q.head.1.toArray⟩, .string ⟨e1.q.head.2.1.toArray⟩, .int .i64 e1.q.head.2.2.1, .slice e1.af e1.q.head.2.2.2.length e1.cf, .string ⟨e1.q.path.toArray⟩, .slice e1.aq e1.q.query.length e1.cq, .string ⟨e1.q.body.toArray⟩, .bool e1.q.close])) rfl (by kernel_rfl) (by kernel_rfl) (by kernel_rfl) (fun _ _ _ h => h) (Or.inl ⟨by rfl, ?_⟩) (by assumption) ?_
        · intro w hSw
          try dsimp only at hSw
          obtain ⟨_, hA, hB⟩ := hSw
          obtain ⟨z0, z1, z2, z3, z4, z5, z6, z7⟩ := RowAt.cells hA
          go_simp
        try simp only [Act.put, List.setIfInBounds_toArray, List.set_cons_zero, List.set_cons_succ]
        refine wpAnyH_take (i := 4) (oi := { dst := some 21, op := Op.move (Operand.tmp 1), type := 45, pos := "ref.go:213", after := #[], guard := none }) (v := (.slice (some ⟨b2, 0, none⟩) n2 c2)) rfl (by kernel_rfl) (by kernel_rfl) (by kernel_rfl) (fun _ _ _ h => h) (Or.inl ⟨by rfl, ?_⟩) (by assumption) ?_
        · intro w hSw
          try dsimp only at hSw
          go_simp
        try simp only [Act.put, List.setIfInBounds_toArray, List.set_cons_zero, List.set_cons_succ]
        refine wpAnyH_take (i := 5) (oi := { dst := some 22, op := Op.move (Operand.tmp 5), type := 3, pos := "ref.go:213", after := #[], guard := none }) (v := (.int .i64 (k : Int))) rfl (by kernel_rfl) (by kernel_rfl) (by kernel_rfl) (fun _ _ _ h => h) (Or.inl ⟨by rfl, ?_⟩) (by assumption) ?_
        · intro w hSw
          try dsimp only at hSw
          go_simp
        try simp only [Act.put, List.setIfInBounds_toArray, List.set_cons_zero, List.set_cons_succ]
        refine wpAnyH_take (i := 6) (oi := { dst := some 23, op := Op.indexAddr 45 (Operand.tmp 21) (Operand.tmp 22), type := 0, pos := "ref.go:213", after := #[{ on := 4, ground := Ground.data }, { on := 5, ground := Ground.data }], guard := none }) (v := (.pointer (some ⟨b2, k * 8, none⟩))) rfl (by kernel_rfl) (by kernel_rfl) (by kernel_rfl) (fun _ _ _ h => h) (Or.inl ⟨by rfl, ?_⟩) (by assumption) ?_
        · intro w hSw
          try dsimp only at hSw
          go_simp
        try simp only [Act.put, List.setIfInBounds_toArray, List.set_cons_zero, List.set_cons_succ]
        refine wpAnyH_take (i := 7) (oi := { dst := some 24, op := Op.load 36 (Operand.tmp 23), type := 36, pos := "ref.go:213", after := #[{ on := 6, ground := Ground.data }], guard := none }) (v := (.agg #[.string ⟨e2.q.head.1.toArray⟩, .string ⟨e2.q.head.2.1.toArray⟩, .int .i64 e2.q.head.2.2.1, .slice e2.af e2.q.head.2.2.2.length e2.cf, .string ⟨e2.q.path.toArray⟩, .slice e2.aq e2.q.query.length e2.cq, .string ⟨e2.q.body.toArray⟩, .bool e2.q.close])) rfl (by kernel_rfl) (by kernel_rfl) (by kernel_rfl) (fun _ _ _ h => h) (Or.inl ⟨by rfl, ?_⟩) (by assumption) ?_
        · intro w hSw
          try dsimp only at hSw
          obtain ⟨_, hA, hB⟩ := hSw
          obtain ⟨z0, z1, z2, z3, z4, z5, z6, z7⟩ := RowAt.cells hB
          go_simp
        try simp only [Act.put, List.setIfInBounds_toArray, List.set_cons_zero, List.set_cons_succ]
        refine wpAnyH_ready (rs := [8]) (by kernel_rfl) (by simp) ?_
        refine AllReadyH.cons (o := { dst := some 25, op := Op.call { callee := Callee.value (Operand.func 11), args := #[Operand.tmp 20, Operand.tmp 24], argTypes := #[36, 36] }, type := 4, pos := "ref.go:213", after := #[{ on := 3, ground := Ground.data }, { on := 7, ground := Ground.data }], guard := none }) rfl (fun K hK => ?_) AllReadyH.nil
        go_simp
        refine hSm.mono ?_
        rintro e w2 ⟨rfl, hBx⟩
        have hB2 : Below wr.heap.size wr w2 := (Below.drew (Below.refl wr.heap.size wr)).trans hBx
        have hr1b := hr1.below hB2
        have hr2b := hr2.below hB2
        clear hBx hSm
        go_simp
        refine hK.out _ _ ?_ (fun hHeld => ?_)
        · exact ⟨hB2, hr1b, hr2b⟩
        clear hK K
        try simp only [Act.put, List.setIfInBounds_toArray, List.set_cons_zero, List.set_cons_succ]
        refine wpAnyH_take (i := 9) (oi := { dst := some 26, op := Op.unOp UnOp.not 4 (Operand.tmp 25), type := 4, pos := "ref.go:213", after := #[{ on := 8, ground := Ground.data }], guard := none }) (v := (.bool (!SQ))) rfl (by kernel_rfl) (by kernel_rfl) (by kernel_rfl) (fun _ _ _ h => h) (Or.inl ⟨by rfl, ?_⟩) (by assumption) ?_
        · intro w hSw
          try dsimp only at hSw
          go_simp
        try simp only [Act.put, List.setIfInBounds_toArray, List.set_cons_zero, List.set_cons_succ]
        refine wpAnyH_done (by kernel_rfl) ?_ _
        refine NoPanic.normal ?_
        have HB3 := hid (HB.out.trans (hB2.mono hsb))
        clear hB2 hr1 hr2 hr1b hr2b hHeld
        cases SQ with
        | true =>
          have HN : Hid ((l1.take (k + 1)).map RqE.q = (l2.take (k + 1)).map RqE.q) := by
            unfold Hid
            have h := sameRq_iff.1 HSQ.out.symm
            have x1 := HL1.out
            have x2 := HL2.out
            rw [List.take_succ_eq_append_getElem x1, List.take_succ_eq_append_getElem x2, List.map_append, List.map_append, HT.out, List.map_singleton, List.map_singleton, ← HE1.out, ← HE2.out, h]
          go_wp2
          go_roundw
          case rel => exact ⟨k + 1, by omega, by go_num, HN.out, HB3.out⟩
          case measure => simp [intOf]; omega
        | false =>
          have HN : Hid (¬ l1.map RqE.q = l2.map RqE.q) := by
            unfold Hid
            intro h
            have x1 := HL1.out
            have x2 := HL2.out
            have y := congrArg (fun l => l[k]?) h
            simp only [List.getElem?_map, List.getElem?_eq_getElem x1, List.getElem?_eq_getElem x2, Option.map_some] at y
            injection y with y
            rw [← HE1.out, ← HE2.out] at y
            have := sameRq_iff.2 y
            rw [← HSQ.out] at this
            cases this
          go_wp2
          go_ret
          exact ⟨_, rfl, ⟨fun h => (by cases h), fun h => absurd h HN.out⟩, HB3.out⟩
      · have g1 : ¬ (k : Int) < (n1 : Int) := by omega
        have HN : Hid (l1.map RqE.q = l2.map RqE.q) := by
          unfold Hid
          have x1 := HN1.out
          have x2 := HLEN.out
          rw [List.take_of_length_le (by omega), List.take_of_length_le (by omega)] at hT
          exact hT
        have HB := hid hB
        clear hB hT
        go_wp2
        go_ret
        exact Or.inr ⟨rfl, HN.out, HB.out⟩
  · have fl : ((l1.length : Int) != (l2.length : Int)) = true := by rw [bne_iff_ne]; omega
    have HN : Hid (¬ l1.map RqE.q = l2.map RqE.q) := by
      unfold Hid
      intro h
      have := congrArg List.length h
      rw [List.length_map, List.length_map] at this
      exact hlen this
    clear hlen
    go_enter Tryz.func18, Tryz.ntmps18
    go_wp2
    go_ret
    exact ⟨_, rfl, ⟨fun h => (by cases h), fun h => absurd h HN.out⟩, Below.refl _ _⟩
end Go.Proofs.YtllhibdjopfcnaaGreatDoor
