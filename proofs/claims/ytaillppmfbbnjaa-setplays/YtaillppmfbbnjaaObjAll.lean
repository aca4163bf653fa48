/-
  The contracts of a set's Add, Del, Has, Len, List and Copy, whatever it holds.
-/
import Derived.Test.YtaillppmfbbnjaaInsert
import Derived.Test.YtaillppmfbbnjaaAwake
namespace Go.Proofs.Ytaillppmfbbnjaa
open Go.RowKit
set_option linter.unusedVariables false

theorem cut_count (x : Int) : ∀ xs : List Int, xs.Pairwise (· < ·) → xs.take (xs.countP (· < x)) = xs.filter (· < x) ∧ xs.drop (xs.countP (· < x)) = xs.filter (fun y => !decide (y < x))
  | [], _ => by simp
  | a :: t, h => by
    have hh := List.pairwise_cons.1 h
    by_cases hax : a < x
    · obtain ⟨i1, i2⟩ := cut_count x t hh.2
      rw [List.countP_cons_of_pos (by simpa using hax), List.take_succ_cons, List.drop_succ_cons, i1, i2]
      simp [hax]
    · have h0 : (a :: t).countP (· < x) = 0 := by
        rw [List.countP_eq_zero]
        intro y hy
        rcases List.mem_cons.1 hy with rfl | hy
        · simpa using hax
        · have := hh.1 y hy
          simp
          omega
      rw [h0, List.take_zero, List.drop_zero]
      constructor
      · symm
        rw [List.filter_eq_nil_iff]
        exact List.countP_eq_zero.1 h0
      · symm
        rw [List.filter_eq_self]
        intro y hy
        have := List.countP_eq_zero.1 h0 y hy
        simpa using this

theorem insAt_sd {xs : List Int} {x : Int} (h : xs.Pairwise (· < ·)) (hx : x ∉ xs) : insAt xs (xs.countP (· < x)) x = sd (xs ++ [x]) := by
  obtain ⟨e1, e2⟩ := cut_count x xs h
  unfold insAt
  rw [e1, e2]
  refine (sd_of ?_ fun z => ?_).symm
  · rw [List.pairwise_append]
    refine ⟨h.filter _, ?_, ?_⟩
    · rw [List.pairwise_cons]
      refine ⟨fun y hy => ?_, h.filter _⟩
      simp at hy
      have : y ≠ x := fun e => hx (e ▸ hy.1)
      omega
    · intro a ha b hb
      simp at ha
      rcases List.mem_cons.1 hb with rfl | hb
      · exact ha.2
      · simp at hb
        omega
  · simp only [List.mem_append, List.mem_cons, List.mem_filter, List.not_mem_nil, or_false, decide_eq_true_eq, Bool.not_eq_true', decide_eq_false_iff_not]
    constructor
    · rintro (h1 | h1 | h1)
      · exact Or.inl h1.1
      · exact Or.inr h1
      · exact Or.inl h1.1
    · rintro (h1 | h1)
      · by_cases hz : z < x
        · exact Or.inl ⟨h1, hz⟩
        · exact Or.inr (Or.inr ⟨h1, hz⟩)
      · exact Or.inr (Or.inl h1)

theorem delAt_less {xs : List Int} {x : Int} (h : xs.Pairwise (· < ·)) (hx : x ∈ xs) : xs.countP (· < x) < xs.length ∧ delAt xs (xs.countP (· < x)) = lessL xs [x] := by
  obtain ⟨e1, e2⟩ := cut_count x xs h
  have hd : x ∈ xs.drop (xs.countP (· < x)) := by rw [e2]; simp [hx]
  have hlt : xs.countP (· < x) < xs.length := by
    refine Decidable.byContradiction fun hn => ?_
    rw [List.drop_eq_nil_of_le (by omega)] at hd
    simp at hd
  refine ⟨hlt, ?_⟩
  obtain ⟨i, hi⟩ : ∃ i, i = xs.countP (· < x) := ⟨_, rfl⟩
  rw [← hi] at e1 e2 hd hlt ⊢
  have hdc := List.drop_eq_getElem_cons hlt
  have hr : (xs.drop i).Pairwise (· < ·) := by rw [e2]; exact h.filter _
  rw [hdc, List.pairwise_cons] at hr
  have hxi : xs[i] = x := by
    rw [hdc] at hd
    rcases List.mem_cons.1 hd with e | e
    · exact e.symm
    · have h1 := hr.1 x e
      have h2 : xs[i] ∈ xs.drop i := by rw [hdc]; exact List.mem_cons_self
      rw [e2] at h2
      simp at h2
      omega
  have hall : xs = xs.take i ++ x :: xs.drop (i + 1) := by
    rw [← hxi, ← hdc, List.take_append_drop]
  have hp := h
  rw [hall, List.pairwise_append, List.pairwise_cons] at hp
  unfold delAt
  refine ordI.uniq ?_ (lessL_rises _ _) (fun z => ?_)
  · rw [List.pairwise_append]
    exact ⟨hp.1, hp.2.1.2, fun a ha b hb => hp.2.2 a ha b (List.mem_cons_of_mem _ hb)⟩
  · rw [mem_lessL, List.mem_singleton, List.mem_append]
    constructor
    · intro hz
      refine ⟨?_, ?_⟩
      · rcases hz with hz | hz
        · exact List.mem_of_mem_take hz
        · exact List.mem_of_mem_drop hz
      · intro e
        subst e
        rcases hz with hz | hz
        · have := hp.2.2 z hz z List.mem_cons_self
          omega
        · have := hp.2.1.1 z hz
          omega
    · rintro ⟨hz, hne⟩
      rw [hall, List.mem_append, List.mem_cons] at hz
      rcases hz with hz | hz | hz
      · exact Or.inl hz
      · exact absurd hz hne
      · exact Or.inr hz

theorem bsearch_any (v : Value) (xs : List Int) (x : Int) (w : World) (hS : Sees w v xs) (hr : xs.Pairwise (· < ·)) (hb : xs.length < 4611686018427387904) :
    Calls Try.prog 47 #[v, .int .i64 x] w fun e w' => e = .returned (.tuple #[.int .i64 (xs.countP (· < x) : Nat), .bool (decide (x ∈ xs))]) ∧ ∃ q, w' = w.drewN q := by
  obtain ⟨b, off, ao, cap, rfl, hcap, _, hao, hcell⟩ := hS
  by_cases hne : xs = []
  · subst hne
    refine (Try.slices_BinarySearch_int_empty _ _ _ _).mono ?_
    rintro e w1 ⟨rfl, rfl⟩
    exact ⟨by simp, 0, rfl⟩
  · obtain rfl := hao hne
    have hc := Try.slices_BinarySearch_int b off xs.length cap xs x w (Nat.le_refl _) hb hcell (by rw [List.take_of_length_le (Nat.le_refl _)]; exact rises_le hr)
    rw [List.take_of_length_le (Nat.le_refl _)] at hc
    refine hc.mono ?_
    rintro e w1 ⟨rfl, q, rfl⟩
    exact ⟨by simp, q, rfl⟩

/-- At p lies a set with a room, its list lv, which holds xs. -/
structure SetAt (w : World) (p : Nat) (room : Int) (lv : Value) (xs : List Int) : Prop where
  lies : Lies w p room lv
  own : Owns w 0 lv xs
  rises : xs.Pairwise (· < ·)
  le : (xs.length : Int) ≤ room
  r1 : 1 ≤ room
  r64 : room ≤ 64

/-- What a call on the set at p has turned: its struct, its row, and new blocks. -/
structure Turned (w w' : World) (p : Nat) (ob : Option Nat) : Prop where
  os : w'.os = w.os
  tape : w'.tape = w.tape
  output : w'.output = w.output
  size : w.heap.size ≤ w'.heap.size
  block : ∀ k, k < w.heap.size → k ≠ p → some k ≠ ob → w'.heap[k]? = w.heap[k]?

theorem SetAt.ne {w : World} {p : Nat} {room : Int} {lv : Value} {xs : List Int} (h : SetAt w p room lv xs) : lv.ownBlock ≠ some p := by
  intro e
  rcases h.own.2 with ⟨hlv, _⟩ | ⟨g, cap, cur, hlv, _, hg, _⟩
  · rw [hlv] at e
    simp [Value.ownBlock] at e
  · rw [hlv] at e
    simp [Value.ownBlock] at e
    subst e
    have := h.lies
    unfold Lies at this
    rw [hg] at this
    simp at this

theorem SetAt.below {w w' : World} {p : Nat} {room : Int} {lv : Value} {xs : List Int} (h : SetAt w p room lv xs) (hb : Below w.heap.size w w') : SetAt w' p room lv xs :=
  ⟨h.lies.below hb, h.own.below hb, h.rises, h.le, h.r1, h.r64⟩

theorem SetAt.shape {w : World} {p : Nat} {room : Int} {lv : Value} {xs : List Int} (h : SetAt w p room lv xs) : ∃ ao c, lv = .slice ao xs.length c := by
  obtain ⟨b, off, ao, cap, hv, _⟩ := h.own.sees
  exact ⟨ao, cap, hv⟩

/-- The set's list is changed and stored back. -/
theorem put_list {w W w2 : World} {p : Nat} {room : Int} {lv v' : Value} {ys : List Int} (hL : Lies w p room lv) (hne : lv.ownBlock ≠ some p) (hB : Below w.heap.size w W) (hG : W.grownBy w2 lv.ownBlock)
    (hO : Owns w2 0 v' ys) (hF : v'.ownBlock = lv.ownBlock ∨ ∀ j, v'.ownBlock = some j → W.heap.size ≤ j) :
    Lies w2 p room lv ∧ Lies (w2.setCell ⟨p, 2, none⟩ v') p room v' ∧ Owns (w2.setCell ⟨p, 2, none⟩ v') 0 v' ys ∧ Turned w (w2.setCell ⟨p, 2, none⟩ v') p lv.ownBlock ∧ (v'.ownBlock = lv.ownBlock ∨ ∀ j, v'.ownBlock = some j → w.heap.size ≤ j) := by
  have hpl := hL.lt
  have hs := hB.size
  have hL2 : Lies w2 p room lv := by
    unfold Lies
    rw [hG.block p (by omega) (fun e => hne e.symm), hB.block p hpl]
    exact hL
  have hgp : w2.grownBy (w2.setCell ⟨p, 2, none⟩ v') (some p) := ⟨rfl, rfl, rfl, by simp, fun k _ hk => heap_setCell_other w2 ⟨p, 2, none⟩ k v' (fun e => hk (by simp [e]))⟩
  have hne' : v'.ownBlock ≠ some p := by
    rcases hF with e | e
    · rw [e]; exact hne
    · intro h
      have := e p h
      omega
  refine ⟨hL2, hL2.store, World.ownsRow.kept hO hgp (Or.inr hne'), ⟨?_, ?_, ?_, ?_, ?_⟩, ?_⟩
  · exact hgp.os.trans (hG.os.trans hB.os)
  · exact hgp.tape.trans (hG.tape.trans hB.tape)
  · exact hgp.output.trans (hG.output.trans hB.output)
  · exact Nat.le_trans hs (Nat.le_trans hG.size hgp.size)
  · intro k hk hkp hko
    have h1 := hG.size
    exact (hgp.block k (by omega) (fun e => hkp (Option.some.inj e))).trans ((hG.block k (by omega) hko).trans (hB.block k hk))
  · rcases hF with e | e
    · exact Or.inl e
    · exact Or.inr fun j hj => Nat.le_trans hs (e j hj)

set_option maxHeartbeats 1000000 in
theorem add_put (p : Nat) (room x : Int) (lv : Value) (xs : List Int) (w : World) (hS : SetAt w p room lv xs) (hx : x ∉ xs) (hlt : (xs.length : Int) < room) :
    Calls Try.prog 31 #[.pointer (some ⟨p, 0, none⟩), .int .i64 x] w fun e w' => e = .returned (.int .i64 0) ∧ ∃ lv', SetAt w' p room lv' (sd (xs ++ [x])) ∧ Turned w w' p lv.ownBlock ∧ (lv'.ownBlock = lv.ownBlock ∨ ∀ j, lv'.ownBlock = some j → w.heap.size ≤ j) := by
  obtain ⟨c0, c1, c2, c3⟩ := hS.lies.cells
  have hpl := hS.lies.lt
  have hr64 := hS.r64
  have hcnt : xs.countP (· < x) ≤ xs.length := List.countP_le_length
  obtain ⟨i, hi⟩ : ∃ i, i = xs.countP (· < x) := ⟨_, rfl⟩
  have hbs := bsearch_any lv xs x w hS.own.sees hS.rises (by omega)
  rw [← hi] at hbs hcnt
  have HI := hid hi
  have HS := hid hS
  obtain ⟨ao, c, hlv⟩ := hS.shape
  have HX := hid hx
  rw [decide_eq_false hx] at hbs
  clear hi hS hx
  subst hlv
  go_enter Try.func31, Try.ntmps31
  go_wp2_with fail
  refine (given_yes p _ c0).mono ?_
  rintro e w1 ⟨rfl, hw1⟩
  subst hw1
  go_wp2_with fail
  refine hbs.mono ?_
  clear hbs
  rintro e w2 ⟨rfl, q, rfl⟩
  go_wp2_with fail
  go_quiet (fail)
  go_wp2_with fail
  have hB : Below w1.heap.size w1 ((w1.drewN (q + nq)).alloc (.cells #[.int .i64 x] 3)) := (below_drewN (Below.refl _ _) _).alloc (by simp) _
  have hIns := insert_any (.slice ao xs.length c) xs x i w1.heap.size ((w1.drewN (q + nq)).alloc (.cells #[.int .i64 x] 3)) (HS.out.own.below hB) hcnt (by omega) (heap_alloc_new (w1.drewN (q + nq)) _)
    (fun e => by have := (HS.out.own.lt _ e).2; omega)
  refine hIns.mono ?_
  clear hIns
  rintro e w2 ⟨v', rfl, hO2, hG2, hF2⟩
  have hP := put_list HS.out.lies HS.out.ne hB hG2 hO2 hF2
  rw [HI.out, insAt_sd HS.out.rises HX.out] at hP
  obtain ⟨d0, d1, d2, d3⟩ := hP.1.cells
  have hfin : SetAt (w2.setCell ⟨p, 2, none⟩ v') p room v' (sd (xs ++ [x])) := by
    refine ⟨hP.2.1, hP.2.2.1, sd_rises _, ?_, HS.out.r1, HS.out.r64⟩
    have := length_sd_le (xs ++ [x])
    rw [List.length_append, List.length_singleton] at this
    omega
  have H2 := hid (And.intro hfin hP.2.2.2)
  obtain ⟨ao2, c2', hv⟩ := hfin.shape
  obtain ⟨nn, hnn⟩ : ∃ nn, nn = (sd (xs ++ [x])).length := ⟨_, rfl⟩
  rw [← hnn] at hv
  subst hv
  clear hfin hP hO2 hG2 hF2 d0 d1 HS hnn HI HX hB c0 c1 c2 c3
  go_wp2
  go_ret
  exact ⟨rfl, _, H2.out.1, H2.out.2.1, H2.out.2.2⟩

set_option maxHeartbeats 1000000 in
theorem add_same (p : Nat) (room x : Int) (lv : Value) (xs : List Int) (w : World) (hS : SetAt w p room lv xs) (hx : x ∈ xs) :
    Calls Try.prog 31 #[.pointer (some ⟨p, 0, none⟩), .int .i64 x] w fun e w' => e = .returned (.int .i64 0) ∧ Below w.heap.size w w' := by
  obtain ⟨c0, c1, c2, c3⟩ := hS.lies.cells
  have hr64 := hS.r64
  have hle := hS.le
  have hbs := bsearch_any lv xs x w hS.own.sees hS.rises (by omega)
  obtain ⟨ao, c, hlv⟩ := hS.shape
  rw [decide_eq_true hx] at hbs
  obtain ⟨i, hi⟩ : ∃ i, i = xs.countP (· < x) := ⟨_, rfl⟩
  rw [← hi] at hbs
  clear hS hx hi
  subst hlv
  go_enter Try.func31, Try.ntmps31
  go_wp2_with fail
  refine (given_yes p _ c0).mono ?_
  rintro e w1 ⟨rfl, hw1⟩
  subst hw1
  go_wp2_with fail
  refine hbs.mono ?_
  clear hbs
  rintro e w2 ⟨rfl, q, rfl⟩
  go_wp2
  go_ret
  exact ⟨rfl, below_drewN (Below.refl _ _) _⟩

set_option maxHeartbeats 1000000 in
theorem add_over (p : Nat) (room x : Int) (lv : Value) (xs : List Int) (w : World) (hS : SetAt w p room lv xs) (hx : x ∉ xs) (hfull : (xs.length : Int) = room) :
    Calls Try.prog 31 #[.pointer (some ⟨p, 0, none⟩), .int .i64 x] w fun e w' => e = .returned (.int .i64 2) ∧ Below w.heap.size w w' := by
  obtain ⟨c0, c1, c2, c3⟩ := hS.lies.cells
  have hr64 := hS.r64
  have hbs := bsearch_any lv xs x w hS.own.sees hS.rises (by omega)
  obtain ⟨ao, c, hlv⟩ := hS.shape
  rw [decide_eq_false hx] at hbs
  obtain ⟨i, hi⟩ : ∃ i, i = xs.countP (· < x) := ⟨_, rfl⟩
  rw [← hi] at hbs
  have hge : room ≤ (xs.length : Int) := by omega
  clear hS hx hi hfull
  subst hlv
  go_enter Try.func31, Try.ntmps31
  go_wp2_with fail
  refine (given_yes p _ c0).mono ?_
  rintro e w1 ⟨rfl, hw1⟩
  subst hw1
  go_wp2_with fail
  refine hbs.mono ?_
  clear hbs
  rintro e w2 ⟨rfl, q, rfl⟩
  go_wp2_with fail
  go_quiet (fail)
  go_wp2
  go_ret
  exact ⟨rfl, below_drewN (below_drewN (Below.refl _ _) _) _⟩

set_option maxHeartbeats 1000000 in
theorem del_not (p : Nat) (room x : Int) (lv : Value) (xs : List Int) (w : World) (hS : SetAt w p room lv xs) (hx : x ∉ xs) :
    Calls Try.prog 32 #[.pointer (some ⟨p, 0, none⟩), .int .i64 x] w fun e w' => e = .returned (.int .i64 3) ∧ Below w.heap.size w w' := by
  obtain ⟨c0, c1, c2, c3⟩ := hS.lies.cells
  have hr64 := hS.r64
  have hle := hS.le
  have hbs := bsearch_any lv xs x w hS.own.sees hS.rises (by omega)
  obtain ⟨ao, c, hlv⟩ := hS.shape
  rw [decide_eq_false hx] at hbs
  obtain ⟨i, hi⟩ : ∃ i, i = xs.countP (· < x) := ⟨_, rfl⟩
  rw [← hi] at hbs
  clear hS hx hi
  subst hlv
  go_enter Try.func32, Try.ntmps32
  go_wp2_with fail
  refine (given_yes p _ c0).mono ?_
  rintro e w1 ⟨rfl, hw1⟩
  subst hw1
  go_wp2_with fail
  refine hbs.mono ?_
  clear hbs
  rintro e w2 ⟨rfl, q, rfl⟩
  go_wp2
  go_ret
  exact ⟨rfl, below_drewN (Below.refl _ _) _⟩

set_option maxHeartbeats 1000000 in
theorem del_put (p : Nat) (room x : Int) (lv : Value) (xs : List Int) (w : World) (hS : SetAt w p room lv xs) (hx : x ∈ xs) :
    Calls Try.prog 32 #[.pointer (some ⟨p, 0, none⟩), .int .i64 x] w fun e w' => e = .returned (.int .i64 0) ∧ ∃ lv', SetAt w' p room lv' (lessL xs [x]) ∧ Turned w w' p lv.ownBlock ∧ (lv'.ownBlock = lv.ownBlock ∨ ∀ j, lv'.ownBlock = some j → w.heap.size ≤ j) := by
  obtain ⟨c0, c1, c2, c3⟩ := hS.lies.cells
  have hpl := hS.lies.lt
  have hr64 := hS.r64
  have hle := hS.le
  obtain ⟨hcl, hdel⟩ := delAt_less hS.rises hx
  obtain ⟨i, hi⟩ : ∃ i, i = xs.countP (· < x) := ⟨_, rfl⟩
  have hbs := bsearch_any lv xs x w hS.own.sees hS.rises (by omega)
  rw [← hi] at hbs hcl hdel
  have HD := hid hdel
  have HS := hid hS
  obtain ⟨ao, c, hlv⟩ := hS.shape
  rw [decide_eq_true hx] at hbs
  clear hi hS hx hdel
  subst hlv
  go_enter Try.func32, Try.ntmps32
  go_wp2_with fail
  refine (given_yes p _ c0).mono ?_
  rintro e w1 ⟨rfl, hw1⟩
  subst hw1
  go_wp2_with fail
  refine hbs.mono ?_
  clear hbs
  rintro e w2 ⟨rfl, q, rfl⟩
  go_wp2_with fail
  have hB : Below w1.heap.size w1 (w1.drewN q) := below_drewN (Below.refl _ _) _
  have hDel := delete_any (.slice ao xs.length c) xs i (w1.drewN q) (HS.out.own.below hB) hcl
  refine hDel.mono ?_
  clear hDel
  rintro e w2 ⟨v', rfl, hO2, hG2, hF2⟩
  have hP := put_list HS.out.lies HS.out.ne hB hG2 hO2 (Or.inl hF2)
  rw [HD.out] at hP
  obtain ⟨d0, d1, d2, d3⟩ := hP.1.cells
  have hfin : SetAt (w2.setCell ⟨p, 2, none⟩ v') p room v' (lessL xs [x]) := by
    refine ⟨hP.2.1, hP.2.2.1, lessL_rises _ _, ?_, HS.out.r1, HS.out.r64⟩
    have := length_lessL xs [x]
    omega
  have H2 := hid (And.intro hfin hP.2.2.2)
  obtain ⟨ao2, c2', hv⟩ := hfin.shape
  obtain ⟨nn, hnn⟩ : ∃ nn, nn = (lessL xs [x]).length := ⟨_, rfl⟩
  rw [← hnn] at hv
  subst hv
  clear hfin hP hO2 hG2 hF2 d0 d1 HS hnn HD hB c0 c1 c2 c3
  go_wp2
  go_ret
  exact ⟨rfl, _, H2.out.1, H2.out.2.1, H2.out.2.2⟩

set_option maxHeartbeats 1000000 in
theorem hasO_any (p : Nat) (room x : Int) (lv : Value) (xs : List Int) (w : World) (hS : SetAt w p room lv xs) :
    Calls Try.prog 36 #[.pointer (some ⟨p, 0, none⟩), .int .i64 x] w fun e w' => e = .returned (.bool (decide (x ∈ xs))) ∧ Below w.heap.size w w' := by
  obtain ⟨c0, c1, c2, c3⟩ := hS.lies.cells
  have hr64 := hS.r64
  have hle := hS.le
  have ham := among_any lv xs x w hS.own.sees hS.rises (by omega)
  obtain ⟨ao, c, hlv⟩ := hS.shape
  obtain ⟨b, hb⟩ : ∃ b, b = decide (x ∈ xs) := ⟨_, rfl⟩
  rw [← hb] at ham ⊢
  clear hS hb
  subst hlv
  go_enter Try.func36, Try.ntmps36
  go_wp2_with fail
  refine (given_yes p _ c0).mono ?_
  rintro e w1 ⟨rfl, hw1⟩
  subst hw1
  go_wp2_with fail
  refine ham.mono ?_
  clear ham
  rintro e w2 ⟨rfl, hB⟩
  go_wp2
  go_ret
  exact ⟨rfl, hB⟩

set_option maxHeartbeats 1000000 in
theorem lenO_any (p : Nat) (room : Int) (lv : Value) (xs : List Int) (w : World) (hS : SetAt w p room lv xs) :
    Calls Try.prog 35 #[.pointer (some ⟨p, 0, none⟩)] w fun e w' => e = .returned (.int .i64 xs.length) ∧ w' = w := by
  obtain ⟨c0, c1, c2, c3⟩ := hS.lies.cells
  obtain ⟨ao, c, hlv⟩ := hS.shape
  clear hS
  subst hlv
  go_enter Try.func35, Try.ntmps35
  go_wp2_with fail
  refine (given_yes p _ c0).mono ?_
  rintro e w1 ⟨rfl, hw1⟩
  subst hw1
  go_wp2
  go_ret
  exact ⟨rfl, rfl⟩

set_option maxHeartbeats 1000000 in
theorem listO_any (p : Nat) (room : Int) (lv : Value) (xs : List Int) (w : World) (hS : SetAt w p room lv xs) :
    Calls Try.prog 34 #[.pointer (some ⟨p, 0, none⟩)] w fun e w' => ∃ v', e = .returned v' ∧ Owns w' w.heap.size v' xs ∧ Below w.heap.size w w' := by
  obtain ⟨c0, c1, c2, c3⟩ := hS.lies.cells
  have hr64 := hS.r64
  have hle := hS.le
  have hfr := fresh_any lv xs w hS.own.sees (by omega)
  obtain ⟨ao, c, hlv⟩ := hS.shape
  clear hS
  subst hlv
  go_enter Try.func34, Try.ntmps34
  go_wp2_with fail
  refine (given_yes p _ c0).mono ?_
  rintro e w1 ⟨rfl, hw1⟩
  subst hw1
  go_wp2_with fail
  refine hfr.mono ?_
  clear hfr
  rintro e w2 ⟨v', rfl, hO, hB⟩
  go_wp2
  go_ret
  exact ⟨v', rfl, hO, hB⟩

end Go.Proofs.Ytaillppmfbbnjaa
