/-
  Chunks of the code; texts in new memory.
-/
import Derived.Test.YtllhibdjopfcnaaGreatDoorZPRead
namespace Go.Proofs.YtllhibdjopfcnaaGreatDoor
open Go.RowKit
set_option linter.unusedVariables false

theorem freshP_any (l : List UInt8) (w : World) :
    Calls Tryz.prog 24 #[.string ⟨l.toArray⟩] w fun e w' => e = .returned (.string ⟨l.toArray⟩) ∧ Below w.heap.size w w' := by
  have h1 := run_bytes_of_string (P := Tryz.prog) w 9 75 5 ⟨l.toArray⟩ Tryz.underlying9 Tryz.underlying75 Tryz.underlying5
  obtain ⟨C, hC⟩ : ∃ C, C = grownCap w (⟨l.toArray⟩ : ByteArray).size 0 5 := ⟨_, rfl⟩
  rw [← hC] at h1
  obtain ⟨R, hR⟩ : ∃ R, R = bytesRow ⟨l.toArray⟩ C := ⟨_, rfl⟩
  rw [← hR] at h1
  obtain ⟨w1, hw1⟩ : ∃ w1, w1 = w.drew.alloc (.cells R 5 (R.size, R.size + 1)) := ⟨_, rfl⟩
  rw [← hw1, size_list] at h1
  have h2 := run_convert_bytes_back (P := Tryz.prog) w1 75 9 5 ⟨w.heap.size, 0, none⟩ C l Tryz.underlying75 Tryz.underlying5 Tryz.underlying9 (fun j hj => by
    rw [addr_add, Nat.zero_add, hw1]
    have := World.cell?_alloc_mark w.drew R 5 (R.size, R.size + 1) j
    rw [show w.drew.heap.size = w.heap.size from rfl] at this
    rw [this, hR, bytesRow_at _ _ _ (by simpa using hj)]
    simp)
  have HB : Hid (Below w.heap.size w w1) := by
    unfold Hid
    rw [hw1]
    exact (Below.drew (Below.refl _ _)).alloc (Nat.le_refl _) _
  clear hC hR hw1
  go_enter Tryz.func24, Tryz.ntmps24
  go_wp2
  go_ret
  exact ⟨rfl, HB.out⟩

/-- What Chunks answers: the body, where it ends, whether more is wanted, the status. -/
def chkT (k : Nat) : Tell (List UInt8) → List UInt8 × Nat × Bool × Int
  | (.error none) => ([], 0, true, 0)
  | (.error (some s)) => ([], 0, false, s)
  | (.ok (b, n)) => (b, k + n, false, 0)
def chkV (q : List UInt8 × Nat × Bool × Int) : Value := .tuple #[.string ⟨q.1.toArray⟩, .int .i64 (q.2.1 : Int), .bool q.2.2.1, .int .i64 q.2.2.2]
def chkL (L : List UInt8) (at' : Int) : List UInt8 × Nat × Bool × Int := if at' < 0 ∨ (L.length : Int) < at' then ([], 0, false, 400) else chkT at'.toNat (chunksL (L.length + 1) [] (L.drop at'.toNat))

set_option maxRecDepth 20000 in
set_option maxHeartbeats 4000000 in
theorem chunksN_any (L : List UInt8) (k : Nat) (w : World) (hs : L.length ≤ 140737488355328) (hk : k ≤ L.length) :
    Calls Tryz.prog 32 #[.string ⟨L.toArray⟩, .int .i64 (k : Int)] w fun e w' => e = .returned (chkV (chkT k (chunksL (L.length + 1) [] (L.drop k)))) ∧ Below w.heap.size w w' := by
  obtain ⟨s, hse⟩ : ∃ s : ByteArray, s = ⟨L.toArray⟩ := ⟨_, rfl⟩
  have hsz : s.size = L.length := by rw [hse, size_list]
  have hR0 : RdAt (w.alloc (.cells #[.string s, .int .i64 (k : Int), .slice none 0 0] 88)) w.heap.size s k (.slice none 0 0) := heap_alloc_new w _
  have HB0 := hid (below_alloc w (.cells #[.string s, .int .i64 (k : Int), .slice none 0 0] 88))
  obtain ⟨w1, hw1⟩ : ∃ w1, w1 = w.alloc (.cells #[.string s, .int .i64 (k : Int), .slice none 0 0] 88) := ⟨_, rfl⟩
  have hsz1 : w1.heap.size = w.heap.size + 1 := by rw [hw1]; simp
  rw [← hw1] at hR0 HB0
  have hRd := read_any w.heap.size k L s (.slice none 0 0) w1 hse hs hR0 (OwnsB.nil _ _) hk
  obtain ⟨T, hT⟩ : ∃ T, T = chunksL (L.length + 1) [] (L.drop k) := ⟨_, rfl⟩
  rw [← hT] at hRd ⊢
  obtain ⟨B1, hB1⟩ : ∃ B1, B1 = w1.heap.size := ⟨_, rfl⟩
  rw [← hB1] at hRd
  have f1 : ¬ (k : Int) < 0 := by omega
  have f2 : decide ((s.size : Int) < (k : Int)) = false := by simp; omega
  have f3 : decide (s.size < k) = false := by simp; omega
  have f4 : decide ((k : Int) < 0) = false := by simp
  rw [← hse]
  have HW1 := hid hw1
  have hpB : w.heap.size < B1 := by omega
  have HT := hid hT
  clear hse hsz hw1 hT hR0 f1
  have HSZ := hid (show w1.heap.size = w.heap.size + 1 from hsz1)
  have HB1 := hid hB1
  clear hsz1 hB1
  go_enter Tryz.func32, Tryz.ntmps32
  go_wp2_with fail
  rw [← HW1.out]
  refine hRd.mono ?_
  clear hRd
  rintro e w2 ⟨st, rfl, hE, hK⟩
  have HB2 : Hid (Below w.heap.size w w2) := hid (HB0.out.trans (hK.below (by omega)))
  clear hK HB0 HW1
  rcases T with (_ | t) | ⟨b, n⟩
  · skip
    have hst : st = -1 := hE
    subst hst
    clear hE
    go_wp2
    (try simp only [Exit.inBlock, Exit.then])
    refine bodyPost_ret (results_tmp4 rfl _ _ _) rfl ?_
    exact ⟨rfl, HB2.out⟩
  · skip
    have hst : st = t := hE
    subst hst
    clear hE
    rcases chunksL_bad _ _ _ _ HT.out.symm with rfl | rfl
    · go_wp2
      (try simp only [Exit.inBlock, Exit.then])
      refine bodyPost_ret (results_tmp4 rfl _ _ _) rfl ?_
      exact ⟨rfl, HB2.out⟩
    · go_wp2
      (try simp only [Exit.inBlock, Exit.then])
      refine bodyPost_ret (results_tmp4 rfl _ _ _) rfl ?_
      exact ⟨rfl, HB2.out⟩
  · skip
    obtain ⟨rfl, v, hR2, hO2⟩ := hE
    obtain ⟨p, hp⟩ : ∃ p, p = w.heap.size := ⟨_, rfl⟩
    rw [← hp] at hR2
    obtain ⟨q, hq⟩ : ∃ q, q = k + n := ⟨_, rfl⟩
    rw [← hq] at hR2
    have HR2 := hid hR2
    have HO2 := hid hO2
    have HQ := hid hq
    clear hR2 hO2 hq
    go_wp2_with fail
    rw [← hp]
    clear hp
    refine wp_region_noPanic ?_
    refine wp_region_held_drew (S := (fun W => OwnsB W B1 v b ∧ RdAt W p s q v)) (by kernel_rfl) ?_ (fun hHeld => ?_)
    · exact ⟨HO2.out.below (Below.drew (Below.refl _ _)), HR2.out.below (Below.drew (Below.refl w2.heap.size w2)) HR2.out.lt⟩
    refine wpAnyH_take (i := 0) (oi := { dst := some 24, op := Op.fieldAddr 88 (Operand.tmp 8) 2, type := 0, pos := "parse.go:129", after := #[], guard := none }) (v := (.pointer (some ⟨p, 2, none⟩))) rfl (by kernel_rfl) (by kernel_rfl) (by kernel_rfl) (fun _ _ _ h => h) (Or.inl ⟨by rfl, ?_⟩) (by assumption) ?_
    · intro w hSw
      try dsimp only at hSw
      go_simp
    try simp only [Act.put, List.setIfInBounds_toArray, List.set_cons_zero, List.set_cons_succ]
    refine wpAnyH_take (i := 1) (oi := { dst := some 25, op := Op.load 75 (Operand.tmp 24), type := 75, pos := "parse.go:129", after := #[{ on := 0, ground := Ground.data }], guard := none }) (v := v) rfl (by kernel_rfl) (by kernel_rfl) (by kernel_rfl) (fun _ _ _ h => h) (Or.inl ⟨by rfl, ?_⟩) (by assumption) ?_
    · intro w hSw
      try dsimp only at hSw
      obtain ⟨hSo, hSr⟩ := hSw
      obtain ⟨z0, z1, z2, _, _, _⟩ := hSr.cells
      have hcv := hSo.conv
      go_simp
    try simp only [Act.put, List.setIfInBounds_toArray, List.set_cons_zero, List.set_cons_succ]
    refine wpAnyH_take (i := 2) (oi := { dst := some 26, op := Op.convert 75 9 (Operand.tmp 25), type := 9, pos := "parse.go:129", after := #[{ on := 1, ground := Ground.data }], guard := none }) (v := (.string ⟨b.toArray⟩)) rfl (by kernel_rfl) (by kernel_rfl) (by kernel_rfl) (fun _ _ _ h => h) (Or.inl ⟨by rfl, ?_⟩) (by assumption) ?_
    · intro w hSw
      try dsimp only at hSw
      obtain ⟨hSo, hSr⟩ := hSw
      obtain ⟨z0, z1, z2, _, _, _⟩ := hSr.cells
      have hcv := hSo.conv
      go_simp
    try simp only [Act.put, List.setIfInBounds_toArray, List.set_cons_zero, List.set_cons_succ]
    refine wpAnyH_take (i := 3) (oi := { dst := some 27, op := Op.fieldAddr 88 (Operand.tmp 8) 1, type := 0, pos := "parse.go:129", after := #[{ on := 5, ground := Ground.gcOnly Departure.lateStores }], guard := none }) (v := (.pointer (some ⟨p, 1, none⟩))) rfl (by kernel_rfl) (by kernel_rfl) (by kernel_rfl) (fun _ _ _ h => h) (Or.inl ⟨by rfl, ?_⟩) (by assumption) ?_
    · intro w hSw
      try dsimp only at hSw
      go_simp
    try simp only [Act.put, List.setIfInBounds_toArray, List.set_cons_zero, List.set_cons_succ]
    refine wpAnyH_take (i := 4) (oi := { dst := some 28, op := Op.load 3 (Operand.tmp 27), type := 3, pos := "parse.go:129", after := #[{ on := 3, ground := Ground.data }, { on := 5, ground := Ground.gcOnly Departure.lateStores }], guard := none }) (v := (.int .i64 (q : Int))) rfl (by kernel_rfl) (by kernel_rfl) (by kernel_rfl) (fun _ _ _ h => h) (Or.inl ⟨by rfl, ?_⟩) (by assumption) ?_
    · intro w hSw
      try dsimp only at hSw
      obtain ⟨hSo, hSr⟩ := hSw
      obtain ⟨z0, z1, z2, _, _, _⟩ := hSr.cells
      have hcv := hSo.conv
      go_simp
    try simp only [Act.put, List.setIfInBounds_toArray, List.set_cons_zero, List.set_cons_succ]
    refine wpAnyH_take (i := 5) (oi := { dst := some 4, op := Op.assign (Operand.tmp 26), type := 9, pos := "parse.go:129", after := #[{ on := 2, ground := Ground.data }, { on := 0, ground := Ground.phase }, { on := 1, ground := Ground.phase }, { on := 2, ground := Ground.phase }, { on := 3, ground := Ground.textOnly Departure.lateStores }, { on := 4, ground := Ground.textOnly Departure.lateStores }], guard := none }) (v := (.string ⟨b.toArray⟩)) rfl (by kernel_rfl) (by kernel_rfl) (by kernel_rfl) (fun _ _ _ h => h) (Or.inl ⟨by rfl, ?_⟩) (by assumption) ?_
    · intro w hSw
      try dsimp only at hSw
      go_simp
    try simp only [Act.put, List.setIfInBounds_toArray, List.set_cons_zero, List.set_cons_succ]
    refine wpAnyH_take (i := 6) (oi := { dst := some 5, op := Op.assign (Operand.tmp 28), type := 3, pos := "parse.go:129", after := #[{ on := 4, ground := Ground.data }, { on := 5, ground := Ground.chain }, { on := 0, ground := Ground.phase }, { on := 1, ground := Ground.phase }, { on := 2, ground := Ground.phase }, { on := 3, ground := Ground.phase }, { on := 4, ground := Ground.phase }, { on := 5, ground := Ground.phase }], guard := none }) (v := (.int .i64 (q : Int))) rfl (by kernel_rfl) (by kernel_rfl) (by kernel_rfl) (fun _ _ _ h => h) (Or.inl ⟨by rfl, ?_⟩) (by assumption) ?_
    · intro w hSw
      try dsimp only at hSw
      go_simp
    try simp only [Act.put, List.setIfInBounds_toArray, List.set_cons_zero, List.set_cons_succ]
    refine wpAnyH_take (i := 7) (oi := { dst := some 6, op := Op.assign (Operand.const (Value.bool false)), type := 4, pos := "parse.go:129", after := #[{ on := 6, ground := Ground.chain }, { on := 0, ground := Ground.phase }, { on := 1, ground := Ground.phase }, { on := 2, ground := Ground.phase }, { on := 3, ground := Ground.phase }, { on := 4, ground := Ground.phase }, { on := 5, ground := Ground.phase }, { on := 6, ground := Ground.phase }], guard := none }) (v := (.bool false)) rfl (by kernel_rfl) (by kernel_rfl) (by kernel_rfl) (fun _ _ _ h => h) (Or.inl ⟨by rfl, ?_⟩) (by assumption) ?_
    · intro w hSw
      try dsimp only at hSw
      go_simp
    try simp only [Act.put, List.setIfInBounds_toArray, List.set_cons_zero, List.set_cons_succ]
    refine wpAnyH_take (i := 8) (oi := { dst := some 7, op := Op.assign (Operand.const (Value.int IntKind.i64 0)), type := 3, pos := "parse.go:129", after := #[{ on := 7, ground := Ground.chain }, { on := 0, ground := Ground.phase }, { on := 1, ground := Ground.phase }, { on := 2, ground := Ground.phase }, { on := 3, ground := Ground.phase }, { on := 4, ground := Ground.phase }, { on := 5, ground := Ground.phase }, { on := 6, ground := Ground.phase }, { on := 7, ground := Ground.phase }], guard := none }) (v := (.int .i64 0)) rfl (by kernel_rfl) (by kernel_rfl) (by kernel_rfl) (fun _ _ _ h => h) (Or.inl ⟨by rfl, ?_⟩) (by assumption) ?_
    · intro w hSw
      try dsimp only at hSw
      go_simp
    try simp only [Act.put, List.setIfInBounds_toArray, List.set_cons_zero, List.set_cons_succ]
    refine wpAnyH_done (by kernel_rfl) ?_ _
    refine NoPanic.normal ?_
    go_wp2
    (try simp only [Exit.inBlock, Exit.then])
    refine bodyPost_ret (results_tmp4 rfl _ _ _) rfl ?_
    refine ⟨?_, ?_⟩
    · rw [chkT, ← HQ.out]; rfl
    · exact Below.trans HB2.out (Below.drew (Below.refl _ _))
end Go.Proofs.YtllhibdjopfcnaaGreatDoor
