/-
  The document's mailboxes: Send where nothing is sent.
-/
import Derived.Test.YtahibklmcooanaaORTake
namespace Go.Proofs.Ytahibklmcooanaa
open Go.RowKit
set_option linter.unusedVariables false
set_option linter.unusedSimpArgs false

/-- The world when the document's Send begins. -/
def sW (w : World) (room : Int) (vL : Value) (who : Int) (vs vi vo : Value) : World :=
  ((w.alloc (.cells #[.int .i64 room, vL] 29)).alloc (.cells #[.int .i64 who, vs, vi, vo] 39)).alloc (.cells #[.int .i64 0, .slice none 0 0] 29)
structure SAt (w X : World) (room : Int) (vL : Value) (who : Int) (vs vi vo : Value) : Prop where
  b0 : X.heap[w.heap.size]? = some (.cells #[.int .i64 room, vL] 29 (0, 0))
  b1 : X.heap[w.heap.size + 1]? = some (.cells #[.int .i64 who, vs, vi, vo] 39 (0, 0))
  b2 : X.heap[w.heap.size + 1 + 1]? = some (.cells #[.int .i64 0, .slice none 0 0] 29 (0, 0))
  bel : Below w.heap.size w X
section
variable {w X Y : World} {room : Int} {vL : Value} {who : Int} {vs vi vo : Value}
theorem SAt.new (w : World) (room : Int) (vL : Value) (who : Int) (vs vi vo : Value) : SAt w (sW w room vL who vs vi vo) room vL who vs vi vo := by
  unfold sW
  refine ⟨?_, ?_, ?_, ((below_alloc w _).alloc (by simp) _).alloc (by simp; omega) _⟩
  · rw [Below.heap_alloc _ _ _ (by simp; omega), Below.heap_alloc _ _ _ (by simp)]; exact heap_alloc_new w _
  · have := heap_alloc_new (w.alloc (.cells #[.int .i64 room, vL] 29)) (.cells #[.int .i64 who, vs, vi, vo] 39)
    rw [Below.heap_alloc _ _ _ (by simp)]
    simpa using this
  · have := heap_alloc_new ((w.alloc (.cells #[.int .i64 room, vL] 29)).alloc (.cells #[.int .i64 who, vs, vi, vo] 39)) (.cells #[.int .i64 0, .slice none 0 0] 29)
    simpa using this
theorem SAt.lt (h : SAt w X room vL who vs vi vo) : w.heap.size + 2 < X.heap.size := (Array.getElem?_eq_some_iff.1 h.b2).1
theorem SAt.below (h : SAt w X room vL who vs vi vo) (hb : Below X.heap.size X Y) : SAt w Y room vL who vs vi vo := by
  have := h.lt
  exact ⟨(hb.block _ (by omega)).trans h.b0, (hb.block _ (by omega)).trans h.b1, (hb.block _ (by omega)).trans h.b2, h.bel.trans (hb.mono h.bel.size)⟩
theorem SAt.cells (h : SAt w X room vL who vs vi vo) : X.cell? ⟨w.heap.size, 0, none⟩ = some (.int .i64 room) ∧ X.cell? ⟨w.heap.size, 1, none⟩ = some vL ∧ X.cell? ⟨w.heap.size + 1 + 1, 0, none⟩ = some (.int .i64 0) ∧ X.cell? ⟨w.heap.size + 1 + 1, 1, none⟩ = some (.slice none 0 0) := by
  have h0 := h.b0
  have h2 := h.b2
  refine ⟨by simp [World.cell?, h0], by simp [World.cell?, h0], by simp [World.cell?, h2], by simp [World.cell?, h2]⟩
theorem SAt.su (h : SAt w X room vL who vs vi vo) : SuBox X (w.heap.size + 1) who vs vi vo := by
  have h1 := h.b1
  exact ⟨by simp [World.cell?, h1], by simp [World.cell?, h1], by simp [World.cell?, h1], by simp [World.cell?, h1]⟩
theorem SAt.warm (h : SAt w X room vL who vs vi vo) (j : Nat) : X.frozen? ⟨w.heap.size + 1 + 1, j, none⟩ = false ∧ X.frozen? ⟨w.heap.size, j, none⟩ = false := by
  have h0 := h.b0
  have h2 := h.b2
  exact ⟨by simp [World.frozen?, h2], by simp [World.frozen?, h0]⟩
/-- The result is laid. -/
theorem SAt.fin (h : SAt w X room vL who vs vi vo) (r : Int) (v : Value) : ((X.setCell ⟨w.heap.size + 1 + 1, 0, none⟩ (.int .i64 r)).setCell ⟨w.heap.size + 1 + 1, 1, none⟩ v).cell? ⟨w.heap.size + 1 + 1, 0, none⟩ = some (.int .i64 r) ∧ ((X.setCell ⟨w.heap.size + 1 + 1, 0, none⟩ (.int .i64 r)).setCell ⟨w.heap.size + 1 + 1, 1, none⟩ v).cell? ⟨w.heap.size + 1 + 1, 1, none⟩ = some v ∧ Below w.heap.size w ((X.setCell ⟨w.heap.size + 1 + 1, 0, none⟩ (.int .i64 r)).setCell ⟨w.heap.size + 1 + 1, 1, none⟩ v) := by
  obtain ⟨c0, c1, c2, c3⟩ := h.cells
  obtain ⟨a0, a1⟩ := Mq.set2 (u := .int .i64 r) (v := v) c2 c3
  exact ⟨a0, a1, (h.bel.setCell (by simp; omega) _).setCell (by simp; omega) _⟩
end

set_option maxRecDepth 20000 in
set_option maxHeartbeats 4000000 in
theorem rsend_args (room : Int) (vL : Value) (n : Nat) (who to : Int) (vs vi vo : Value) (x : ByteArray) (op : Bool) (F : Nat → Prop) (d : Nat → List Msg) (w : World) (hD : LSees F w vL n d) (h : usr n who = false ∨ usr n to = false) :
    Calls Try.prog 24 #[poV room vL, suV who vs vi vo, .int .i64 to, .string x, .bool op] w fun e w' => e = .returned (.tuple #[poV room vL, .slice none 0 0, .int .i64 1]) ∧ Below w.heap.size w w' := by
  obtain ⟨b, off, cap, hv, hc, hn1, hf, hcell⟩ := hD
  subst hv
  have hS := SAt.new w room (.slice (some ⟨b, off, none⟩) n cap) who vs vi vo
  obtain ⟨W, hW⟩ : ∃ W, W = sW w room (.slice (some ⟨b, off, none⟩) n cap) who vs vi vo := ⟨_, rfl⟩
  rw [← hW] at hS
  unfold sW at hW
  have HST := hid hS
  obtain ⟨c0, c1, c2, c3⟩ := hS.cells
  obtain ⟨x0, x1, x2, x3⟩ := hS.su
  have HW := hid hW
  clear hW hS hcell
  unfold poV suV
  have hcase : who < 0 ∨ (¬ who < 0 ∧ (n : Int) ≤ who) ∨ (¬ who < 0 ∧ ¬ (n : Int) ≤ who ∧ to < 0) ∨ (¬ who < 0 ∧ ¬ (n : Int) ≤ who ∧ ¬ to < 0 ∧ (n : Int) ≤ to) := by
    unfold usr at h
    simp at h
    omega
  clear h
  rcases hcase with h1 | ⟨h1, h2⟩ | ⟨h1, h2, h3⟩ | ⟨h1, h2, h3, h4⟩
  · go_enter Try.func24, Try.ntmps24
    iterate 12 (first | go_values | go_skip | go_guarded | go_step | go_upon | go_back | go_simp)
    rw [← HW.out]
    clear HW
    obtain ⟨a0, a1, a2⟩ := HST.out.fin room (.slice (some ⟨b, off, none⟩) n cap)
    have g0 := (HST.out.warm 0).1
    have g1 := (HST.out.warm 1).1
    have HB := hid a2
    clear a2
    go_wp2
    refine bodyPost_ret (v := .tuple #[.agg #[.int .i64 room, .slice (some ⟨b, off, none⟩) n cap], .slice none 0 0, .int .i64 1]) (by simp [results, Try.results24, go_sem, a0, a1]) rfl ?_
    exact ⟨rfl, HB.out⟩
  · go_enter Try.func24, Try.ntmps24
    iterate 12 (first | go_values | go_skip | go_guarded | go_step | go_upon | go_back | go_simp)
    rw [← HW.out]
    clear HW
    obtain ⟨a0, a1, a2⟩ := HST.out.fin room (.slice (some ⟨b, off, none⟩) n cap)
    have g0 := (HST.out.warm 0).1
    have g1 := (HST.out.warm 1).1
    have HB := hid a2
    clear a2
    go_wp2
    refine bodyPost_ret (v := .tuple #[.agg #[.int .i64 room, .slice (some ⟨b, off, none⟩) n cap], .slice none 0 0, .int .i64 1]) (by simp [results, Try.results24, go_sem, a0, a1]) rfl ?_
    exact ⟨rfl, HB.out⟩
  · go_enter Try.func24, Try.ntmps24
    iterate 12 (first | go_values | go_skip | go_guarded | go_step | go_upon | go_back | go_simp)
    rw [← HW.out]
    clear HW
    obtain ⟨a0, a1, a2⟩ := HST.out.fin room (.slice (some ⟨b, off, none⟩) n cap)
    have g0 := (HST.out.warm 0).1
    have g1 := (HST.out.warm 1).1
    have HB := hid a2
    clear a2
    go_wp2
    refine bodyPost_ret (v := .tuple #[.agg #[.int .i64 room, .slice (some ⟨b, off, none⟩) n cap], .slice none 0 0, .int .i64 1]) (by simp [results, Try.results24, go_sem, a0, a1]) rfl ?_
    exact ⟨rfl, HB.out⟩
  · go_enter Try.func24, Try.ntmps24
    iterate 12 (first | go_values | go_skip | go_guarded | go_step | go_upon | go_back | go_simp)
    rw [← HW.out]
    clear HW
    obtain ⟨a0, a1, a2⟩ := HST.out.fin room (.slice (some ⟨b, off, none⟩) n cap)
    have g0 := (HST.out.warm 0).1
    have g1 := (HST.out.warm 1).1
    have HB := hid a2
    clear a2
    go_wp2
    refine bodyPost_ret (v := .tuple #[.agg #[.int .i64 room, .slice (some ⟨b, off, none⟩) n cap], .slice none 0 0, .int .i64 1]) (by simp [results, Try.results24, go_sem, a0, a1]) rfl ?_
    exact ⟨rfl, HB.out⟩
set_option maxRecDepth 20000 in
set_option maxHeartbeats 4000000 in
theorem rsend_cats (room : Int) (vL : Value) (n : Nat) (who to : Int) (vs vi vo : Value) (s i own : List Int) (x : ByteArray) (op : Bool) (F : Nat → Prop) (d : Nat → List Msg) (w : World) (hD : LSees F w vL n d) (hSu : SuAt w vs vi vo s i own) (hu1 : usr n who = true) (hu2 : usr n to = true) (hcats : catsB own = false) :
    Calls Try.prog 24 #[poV room vL, suV who vs vi vo, .int .i64 to, .string x, .bool op] w fun e w' => e = .returned (.tuple #[poV room vL, .slice none 0 0, .int .i64 1]) ∧ Below w.heap.size w w' := by
  obtain ⟨b, off, cap, hv, hc, hn1, hf, hcell⟩ := hD
  subst hv
  have hS := SAt.new w room (.slice (some ⟨b, off, none⟩) n cap) who vs vi vo
  obtain ⟨W, hW⟩ : ∃ W, W = sW w room (.slice (some ⟨b, off, none⟩) n cap) who vs vi vo := ⟨_, rfl⟩
  rw [← hW] at hS
  unfold sW at hW
  have HST := hid hS
  obtain ⟨c0, c1, c2, c3⟩ := hS.cells
  obtain ⟨x0, x1, x2, x3⟩ := hS.su
  have HW := hid hW
  clear hW hS hcell
  unfold poV suV
  obtain ⟨wn, hwn, rfl⟩ := usr_iff.1 hu1
  obtain ⟨tn, htn, rfl⟩ := usr_iff.1 hu2
  have h1 : ¬ (wn : Int) < 0 := by omega
  have h2 : ¬ (n : Int) ≤ wn := by omega
  have h3 : ¬ (tn : Int) < 0 := by omega
  have h4 : ¬ (n : Int) ≤ tn := by omega
  have h2' : ¬ n ≤ wn := by omega
  have h4' : ¬ n ≤ tn := by omega
  have hSW := hSu.below HST.out.bel
  have hCa := cats_any vo own W hSW.so hSW.lo
  rw [hcats] at hCa
  have HCa := hid hCa
  clear hSu hSW hCa hu1 hu2 hcats
  go_enter Try.func24, Try.ntmps24
  iterate 12 (first | go_values | go_skip | go_guarded | go_step | go_upon | go_back | go_simp)
  rw [← HW.out]
  clear HW
  go_wp2_with fail
  refine HCa.out.mono ?_
  clear HCa x0 x1 x2 x3 c0 c1 c2 c3
  rintro e w1 ⟨rfl, hB1⟩
  have HST1 := hid (HST.out.below hB1)
  clear HST
  have HST := HST1
  obtain ⟨c0, c1, c2, c3⟩ := HST.out.cells
  clear hB1 HST1
  obtain ⟨a0, a1, a2⟩ := HST.out.fin room (.slice (some ⟨b, off, none⟩) n cap)
  have g0 := (HST.out.warm 0).1
  have g1 := (HST.out.warm 1).1
  have HB := hid a2
  clear a2
  go_wp2
  refine bodyPost_ret (v := .tuple #[.agg #[.int .i64 room, .slice (some ⟨b, off, none⟩) n cap], .slice none 0 0, .int .i64 1]) (by simp [results, Try.results24, go_sem, a0, a1]) rfl ?_
  exact ⟨rfl, HB.out⟩
set_option maxRecDepth 20000 in
set_option maxHeartbeats 4000000 in
theorem rsend_may (room : Int) (vL : Value) (n : Nat) (who to : Int) (vs vi vo : Value) (s i own : List Int) (x : ByteArray) (op : Bool) (F : Nat → Prop) (d : Nat → List Msg) (w : World) (hD : LSees F w vL n d) (hSu : SuAt w vs vi vo s i own) (hu1 : usr n who = true) (hu2 : usr n to = true) (hcats : catsB own = true) (hmay : mayB s i = false) :
    Calls Try.prog 24 #[poV room vL, suV who vs vi vo, .int .i64 to, .string x, .bool op] w fun e w' => e = .returned (.tuple #[poV room vL, .slice none 0 0, .int .i64 20]) ∧ Below w.heap.size w w' := by
  obtain ⟨b, off, cap, hv, hc, hn1, hf, hcell⟩ := hD
  subst hv
  have hS := SAt.new w room (.slice (some ⟨b, off, none⟩) n cap) who vs vi vo
  obtain ⟨W, hW⟩ : ∃ W, W = sW w room (.slice (some ⟨b, off, none⟩) n cap) who vs vi vo := ⟨_, rfl⟩
  rw [← hW] at hS
  unfold sW at hW
  have HST := hid hS
  obtain ⟨c0, c1, c2, c3⟩ := hS.cells
  obtain ⟨x0, x1, x2, x3⟩ := hS.su
  have HW := hid hW
  clear hW hS hcell
  unfold poV suV
  obtain ⟨wn, hwn, rfl⟩ := usr_iff.1 hu1
  obtain ⟨tn, htn, rfl⟩ := usr_iff.1 hu2
  have h1 : ¬ (wn : Int) < 0 := by omega
  have h2 : ¬ (n : Int) ≤ wn := by omega
  have h3 : ¬ (tn : Int) < 0 := by omega
  have h4 : ¬ (n : Int) ≤ tn := by omega
  have h2' : ¬ n ≤ wn := by omega
  have h4' : ¬ n ≤ tn := by omega
  have hSW := hSu.below HST.out.bel
  have hCa := cats_any vo own W hSW.so hSW.lo
  rw [hcats] at hCa
  have HCa := hid hCa
  have HMy := hid (fun w1 (hb : Below W.heap.size W w1) => (show Calls Try.prog 39 #[.agg #[vs, vi]] w1 fun e w' => e = .returned (.bool false) ∧ Below w1.heap.size w1 w' from by
    have h := may_any (.agg #[vs, vi]) s i w1 ⟨_, _, rfl, hSW.ss.below hb, hSW.si.below hb, hSW.ls, hSW.li⟩
    rw [hmay] at h
    exact h))
  clear hmay
  clear hSu hSW hCa hu1 hu2 hcats
  go_enter Try.func24, Try.ntmps24
  iterate 12 (first | go_values | go_skip | go_guarded | go_step | go_upon | go_back | go_simp)
  rw [← HW.out]
  clear HW
  go_wp2_with fail
  refine HCa.out.mono ?_
  clear HCa x0 x1 x2 x3 c0 c1 c2 c3
  rintro e w1 ⟨rfl, hB1⟩
  have HST1 := hid (HST.out.below hB1)
  have HMa := hid (HMy.out w1 hB1)
  obtain ⟨x0, x1, x2, x3⟩ := HST1.out.su
  clear hB1 HMy HST
  go_wp2_with fail
  refine HMa.out.mono ?_
  clear HMa x0 x1 x2 x3
  rintro e w2 ⟨rfl, hB2⟩
  have HST := hid (HST1.out.below hB2)
  obtain ⟨c0, c1, c2, c3⟩ := HST.out.cells
  clear hB2 HST1
  obtain ⟨a0, a1, a2⟩ := HST.out.fin room (.slice (some ⟨b, off, none⟩) n cap)
  have g0 := (HST.out.warm 0).1
  have g1 := (HST.out.warm 1).1
  have HB := hid a2
  clear a2
  go_wp2
  refine bodyPost_ret (v := .tuple #[.agg #[.int .i64 room, .slice (some ⟨b, off, none⟩) n cap], .slice none 0 0, .int .i64 20]) (by simp [results, Try.results24, go_sem, a0, a1]) rfl ?_
  exact ⟨rfl, HB.out⟩
set_option maxRecDepth 20000 in
set_option maxHeartbeats 4000000 in
theorem rsend_long (room : Int) (vL : Value) (n : Nat) (who to : Int) (vs vi vo : Value) (s i own : List Int) (x : ByteArray) (op : Bool) (F : Nat → Prop) (d : Nat → List Msg) (w : World) (hD : LSees F w vL n d) (hSu : SuAt w vs vi vo s i own) (hu1 : usr n who = true) (hu2 : usr n to = true) (hcats : catsB own = true) (hmay : mayB s i = true) (hx : ¬ x.size ≤ 1024) :
    Calls Try.prog 24 #[poV room vL, suV who vs vi vo, .int .i64 to, .string x, .bool op] w fun e w' => e = .returned (.tuple #[poV room vL, .slice none 0 0, .int .i64 4]) ∧ Below w.heap.size w w' := by
  obtain ⟨b, off, cap, hv, hc, hn1, hf, hcell⟩ := hD
  subst hv
  have hS := SAt.new w room (.slice (some ⟨b, off, none⟩) n cap) who vs vi vo
  obtain ⟨W, hW⟩ : ∃ W, W = sW w room (.slice (some ⟨b, off, none⟩) n cap) who vs vi vo := ⟨_, rfl⟩
  rw [← hW] at hS
  unfold sW at hW
  have HST := hid hS
  obtain ⟨c0, c1, c2, c3⟩ := hS.cells
  obtain ⟨x0, x1, x2, x3⟩ := hS.su
  have HW := hid hW
  clear hW hS hcell
  unfold poV suV
  obtain ⟨wn, hwn, rfl⟩ := usr_iff.1 hu1
  obtain ⟨tn, htn, rfl⟩ := usr_iff.1 hu2
  have h1 : ¬ (wn : Int) < 0 := by omega
  have h2 : ¬ (n : Int) ≤ wn := by omega
  have h3 : ¬ (tn : Int) < 0 := by omega
  have h4 : ¬ (n : Int) ≤ tn := by omega
  have h2' : ¬ n ≤ wn := by omega
  have h4' : ¬ n ≤ tn := by omega
  have hSW := hSu.below HST.out.bel
  have hCa := cats_any vo own W hSW.so hSW.lo
  rw [hcats] at hCa
  have HCa := hid hCa
  have HMy := hid (fun w1 (hb : Below W.heap.size W w1) => (show Calls Try.prog 39 #[.agg #[vs, vi]] w1 fun e w' => e = .returned (.bool true) ∧ Below w1.heap.size w1 w' from by
    have h := may_any (.agg #[vs, vi]) s i w1 ⟨_, _, rfl, hSW.ss.below hb, hSW.si.below hb, hSW.ls, hSW.li⟩
    rw [hmay] at h
    exact h))
  clear hmay
  have hx' : (1024 : Int) < x.size := by omega
  clear hSu hSW hCa hu1 hu2 hcats
  go_enter Try.func24, Try.ntmps24
  iterate 12 (first | go_values | go_skip | go_guarded | go_step | go_upon | go_back | go_simp)
  rw [← HW.out]
  clear HW
  go_wp2_with fail
  refine HCa.out.mono ?_
  clear HCa x0 x1 x2 x3 c0 c1 c2 c3
  rintro e w1 ⟨rfl, hB1⟩
  have HST1 := hid (HST.out.below hB1)
  have HMa := hid (HMy.out w1 hB1)
  obtain ⟨x0, x1, x2, x3⟩ := HST1.out.su
  clear hB1 HMy HST
  go_wp2_with fail
  refine HMa.out.mono ?_
  clear HMa x0 x1 x2 x3
  rintro e w2 ⟨rfl, hB2⟩
  have HST := hid (HST1.out.below hB2)
  obtain ⟨c0, c1, c2, c3⟩ := HST.out.cells
  clear hB2 HST1
  obtain ⟨a0, a1, a2⟩ := HST.out.fin room (.slice (some ⟨b, off, none⟩) n cap)
  have g0 := (HST.out.warm 0).1
  have g1 := (HST.out.warm 1).1
  have HB := hid a2
  clear a2
  go_wp2
  refine bodyPost_ret (v := .tuple #[.agg #[.int .i64 room, .slice (some ⟨b, off, none⟩) n cap], .slice none 0 0, .int .i64 4]) (by simp [results, Try.results24, go_sem, a0, a1]) rfl ?_
  exact ⟨rfl, HB.out⟩
end Go.Proofs.Ytahibklmcooanaa
