/-
  slices.Insert and slices.Delete of one number in a slice that a set owns: in the words of owned rows.
-/
import Derived.Test.YtaillppmfbbnjaaRefMore
namespace Go.Proofs.Ytaillppmfbbnjaa
open Go.RowKit Go.Sort
set_option linter.unusedVariables false

/-- Cells written into a row: what it holds then. -/
theorem heap_setCells {g : Nat} {e : TypeId} : ∀ (vs : List Value) (o : Nat) (w : World) (cur : Array Value), w.heap[g]? = some (.cells cur e (0, 0)) → o + vs.length ≤ cur.size →
    ∃ cur', (w.setCells g o vs).heap[g]? = some (.cells cur' e (0, 0)) ∧ cur'.toList = cur.toList.take o ++ vs ++ cur.toList.drop (o + vs.length)
  | [], o, w, cur, h, hs => ⟨cur, h, by simp⟩
  | v :: r, o, w, cur, h, hs => by
    simp only [List.length_cons] at hs
    obtain ⟨cur', h1, h2⟩ := heap_setCells r (o + 1) (w.setCell ⟨g, o, none⟩ v) (cur.setIfInBounds o v) (heap_setCell_same w g o cur e v h) (by simp; omega)
    refine ⟨cur', h1, ?_⟩
    rw [h2, Array.toList_setIfInBounds]
    have ho : o < cur.toList.length := by simp; omega
    have hmin : min o cur.size = o := by simp at ho; omega
    have e1 : (cur.toList.set o v).take (o + 1) = cur.toList.take o ++ [v] := by
      rw [List.take_set, List.take_succ_eq_append_getElem ho, List.set_append_right _ _ (by simp; omega)]
      simp [hmin]
    have e2 : (cur.toList.set o v).drop (o + 1 + r.length) = cur.toList.drop (o + (r.length + 1)) := by
      rw [List.drop_set, if_pos (by omega)]
      congr 1
      omega
    rw [e1, e2]
    simp

theorem setCells_grown {g : Nat} : ∀ (vs : List Value) (o : Nat) (w : World), w.grownBy (w.setCells g o vs) (some g)
  | [], o, w => grownBy_refl _ _
  | v :: r, o, w => grownBy_trans (b := w.setCell ⟨g, o, none⟩ v) ⟨rfl, rfl, rfl, by simp, fun k _ hk => heap_setCell_other w ⟨g, o, none⟩ k v (fun e => hk (by simp [e]))⟩ (setCells_grown r (o + 1) (w.setCell ⟨g, o, none⟩ v))

theorem grownBy_drew {a b : World} {r : Option Nat} (h : a.grownBy b r) : a.grownBy b.drew r := ⟨h.os, h.tape, h.output, h.size, h.block⟩

theorem take_snocs {n : Nat} {l : List Value} {vs : List Value} (hl : l.length = n) (rest : List Value) : (l ++ rest).take n = l := by
  rw [List.take_append, List.take_of_length_le (by omega)]
  simp [hl]

theorem owns_of_cells {w : World} {base g cap : Nat} {cur : Array Value} {ys : List Int} (hg : w.heap[g]? = some (.cells cur 3 (0, 0))) (hb : base ≤ g) (hcap : cap ≤ maxLen) (hs : cur.toList.length = cap) (hle : ys.length ≤ cap)
    (ht : cur.toList.take ys.length = ys.map (Value.int .i64)) : Owns w base (.slice (some ⟨g, 0, none⟩) ys.length cap) ys :=
  ⟨by simp, Or.inr ⟨g, cap, cur, rfl, hb, hg, hle, hcap, by rw [Nat.mul_one, ← hs]; simp, by rw [Nat.mul_one]; exact ht⟩⟩

/-- A row with one more in the middle. -/
theorem splice_take {cs : List Value} {cur1 cur2 L : List Value} {x : Value} {i : Nat} (hi : i ≤ cs.length) (h1 : cur1.take (i + 1) = cur1.take (i + 1)) (hc : L.take i = cs.take i) (hL : cs.length + 1 ≤ L.length)
    (e1 : cur1 = L.take (i + 1) ++ cs.drop i ++ L.drop (cs.length + 1)) (e2 : cur2 = cur1.take i ++ [x] ++ cur1.drop (i + 1)) : cur2.length = L.length ∧ cur2.take (cs.length + 1) = cs.take i ++ x :: cs.drop i := by
  have l1 : (L.take (i + 1)).length = i + 1 := by rw [List.length_take]; omega
  have t1 : cur1.take i = cs.take i := by
    rw [e1, List.append_assoc, List.take_append_of_le_length (by omega), List.take_take, Nat.min_eq_left (by omega), hc]
  have d1 : cur1.drop (i + 1) = cs.drop i ++ L.drop (cs.length + 1) := by
    rw [e1, List.append_assoc, List.drop_left' l1]
  have e3 : cur2 = (cs.take i ++ x :: cs.drop i) ++ L.drop (cs.length + 1) := by
    rw [e2, t1, d1]
    simp
  have l3 : (cs.take i ++ x :: cs.drop i).length = cs.length + 1 := by simp; omega
  refine ⟨?_, ?_⟩
  · rw [e3, List.length_append, l3, List.length_drop]
    omega
  · rw [e3, ← l3, List.take_left]

/-- x stands in at place i. -/
def insAt (xs : List Int) (i : Nat) (x : Int) : List Int := xs.take i ++ x :: xs.drop i

theorem insAt_len (xs : List Int) (i : Nat) (x : Int) (hi : i ≤ xs.length) : (insAt xs i x).length = xs.length + 1 := by
  simp [insAt]; omega

theorem insert_any (lv : Value) (xs : List Int) (x : Int) (i vb : Nat) (w : World) (hO : Owns w 0 lv xs) (hi : i ≤ xs.length) (hlen : xs.length < 64)
    (hv : w.heap[vb]? = some (.cells #[.int .i64 x] 3 (0, 0))) (hne : lv.ownBlock ≠ some vb) :
    Calls Try.prog 48 #[lv, .int .i64 i, .slice (some ⟨vb, 0, none⟩) 1 1] w fun e w' => ∃ v', e = .returned v' ∧ Owns w' 0 v' (insAt xs i x) ∧ w.grownBy w' lv.ownBlock ∧ (v'.ownBlock = lv.ownBlock ∨ ∀ j, v'.ownBlock = some j → w.heap.size ≤ j) := by
  have hvc : w.cell? ⟨vb, 0, none⟩ = some (.int .i64 x) := by simp [World.cell?, hv]
  have hvs : ∀ j v, [Value.int .i64 x][j]? = some v → w.cell? ⟨vb, 0 + j, none⟩ = some v := by
    intro j v hj
    match j, hj with
    | 0, hj => simp at hj; subst hj; simpa using hvc
  have h1v : ∀ v ∈ [Value.int .i64 x], v.oneCell' = true := fun v hv => by simp at hv; subst hv; rfl
  have h1c : ∀ v ∈ xs.map (Value.int .i64), v.oneCell' = true := ints_oneCell .i64 xs
  have hwide : ∀ {w' : World}, w.grownBy w' none → w.grownBy w' lv.ownBlock := fun hg => ⟨hg.os, hg.tape, hg.output, hg.size, fun k hk _ => hg.block k hk (by simp)⟩
  have e3 : Try.laysNm221_ren.t 3 = 3 := rfl
  have hil := insAt_len xs i x hi
  have endGrow : ∀ (ao : Option Addr) (cap : Nat), lv = .slice ao xs.length cap → i = xs.length → xs.length ≤ cap → cap < xs.length + 1 → (ao = none → xs.length = 0) → (∀ a, ao = some a → ∀ j v, (xs.map (Value.int .i64))[j]? = some v → w.cell? (a.add j) = some v) →
      Calls Try.prog 48 #[lv, .int .i64 i, .slice (some ⟨vb, 0, none⟩) 1 1] w fun e w' => ∃ v', e = .returned v' ∧ Owns w' 0 v' (insAt xs i x) ∧ w.grownBy w' lv.ownBlock ∧ (v'.ownBlock = lv.ownBlock ∨ ∀ j, v'.ownBlock = some j → w.heap.size ≤ j) := by
    intro ao cap hlv hin hnc hfull hnil hcs
    have h := Any2.slices_Insert_int_end_grow Try.laysNm221 ao xs.length cap vb 0 1 1 (xs.map (Value.int .i64)) [.int .i64 x] w (by decide) hnc hfull (by omega) (by simp) rfl hnil hcs hvs h1v
    rw [hlv, hin]
    refine h.mono ?_
    rintro e w' ⟨rfl, rfl⟩
    have hge := grownCap_ge w (xs.length + 1) cap 3
    have hcm : grownCap w (xs.length + 1) cap 3 ≤ maxLen := grownCap_le_maxLen w (xs.length + 1) cap 3 (by simp only [maxLen]; omega)
    have hO' : Owns (w.drew.alloc (.cells ((xs.map (Value.int .i64) ++ [Value.int .i64 x]).toArray ++ Builtin.zeroCells (Value.int .i64 0).cells (grownCap w (xs.length + 1) cap 3 - (xs.length + 1))) 3)) w.heap.size (.slice (some ⟨w.heap.size, 0, none⟩) (xs.length + 1) (grownCap w (xs.length + 1) cap 3)) (xs ++ [x]) := by
      refine ⟨by simp, Or.inr ⟨w.heap.size, _, _, by simp, Nat.le_refl _, heap_alloc_new w.drew _, by simpa using hge, hcm, ?_, ?_⟩⟩
      · simp only [Array.size_append, List.size_toArray, size_zeroCells, Value.cells, List.length_append, List.length_map, List.length_singleton]
        show xs.length + 1 + _ * 1 = _
        omega
      · have hl : (xs.map (Value.int .i64) ++ [Value.int .i64 x]).length = (xs ++ [x]).length * 1 := by simp
        rw [Array.toList_append, ← hl, List.take_left]
        simp
    refine ⟨_, rfl, ?_, ?_, Or.inr ?_⟩
    · have e : insAt xs xs.length x = xs ++ [x] := by simp [insAt]
      rw [e]
      exact owns_le hO' (Nat.zero_le _)
    · rw [← hlv]
      exact hwide (grownBy_trans (grownBy_drew (grownBy_refl _ _)) (World.grownBy_alloc _ _ _))
    · intro j hj
      exact (hO'.lt j hj).1
  rcases hO.2 with ⟨hlv, hn⟩ | ⟨g, cap, cur, hlv, hbg, hg, hnc, hcm, hcs, htake⟩
  · exact endGrow none 0 (by rw [hlv, hn]) (by omega) (by omega) (by omega) (fun _ => hn) (fun a ha => by cases ha)
  · rw [Nat.mul_one] at hcs htake
    have hcells : ∀ j v, (xs.map (Value.int .i64))[j]? = some v → w.cell? ⟨g, 0 + j, none⟩ = some v := by
      intro j v hj
      have := hO.cells (g := g) (by rw [hlv]; rfl) j v hj
      rwa [addr_add] at this
    by_cases hroom : xs.length + 1 ≤ cap
    · have hob : lv.ownBlock = some g := by rw [hlv]; rfl
      have hsp : ∀ j, j < cap → (w.cell? ⟨g, 0 + j, none⟩).isSome = true := by
        intro j hj
        simp [World.cell?, hg]
        omega
      have hfz : ∀ j, w.frozen? ⟨g, 0 + j, none⟩ = false := by
        intro j
        simp [World.frozen?, hg]
      have hml : (insAt xs i x).map (Value.int .i64) = (xs.map (Value.int .i64)).take i ++ Value.int .i64 x :: (xs.map (Value.int .i64)).drop i := by
        simp [insAt]
      have hclen : (xs.map (Value.int .i64)).length = xs.length := by simp
      by_cases hin : i = xs.length
      · subst hin
        have h := Any2.slices_Insert_int_end_room Try.laysNm221 g 0 xs.length cap vb 0 1 1 [.int .i64 x] w (by decide) hroom (by simp only [maxLen] at hcm; omega) rfl (fun j hj => by have := hsp (xs.length + j) (by omega); rwa [← Nat.add_assoc] at this) (fun j hj => by have := hfz (xs.length + j); rwa [← Nat.add_assoc] at this) hvs h1v
        rw [hlv]
        refine h.mono ?_
        rintro e w' ⟨rfl, rfl⟩
        obtain ⟨cur', g1, g2⟩ := heap_setCells (g := g) [Value.int .i64 x] (0 + xs.length) w cur hg (by simp; omega)
        refine ⟨.slice (some ⟨g, 0, none⟩) (insAt xs xs.length x).length cap, by rw [hil], owns_of_cells g1 (Nat.zero_le _) hcm ?_ (by omega) ?_, setCells_grown _ _ _, Or.inl rfl⟩
        · rw [g2]
          simp
          omega
        · rw [g2, hil, hml, Nat.zero_add, htake]
          have q1 : (xs.map (Value.int .i64)).take xs.length = xs.map (Value.int .i64) := List.take_of_length_le (by simp)
          have q2 : (xs.map (Value.int .i64)).drop xs.length = [] := List.drop_eq_nil_of_le (by simp)
          rw [q1, q2]
          exact List.take_left' (by simp)
      · have h := Any2.slices_Insert_int_shift Try.laysNm221 g 0 xs.length cap i vb 0 1 1 (xs.map (Value.int .i64)) [.int .i64 x] w (by omega) (by decide) hroom (by simp only [maxLen] at hcm; omega) (fun e => hne (by rw [hob, e])) (by simp) rfl hcells (fun j hj => hsp j (by omega)) (fun j hj => hfz j) hvs h1c h1v
          3 3 1 cur.size (by simp [World.shape?, hv]) (by simp [World.shape?, hg]) (by omega) (by simp [World.frozen?, hv]) (by simp [World.frozen?, hv])
        rw [hlv]
        refine h.mono ?_
        rintro e w' ⟨rfl, rfl⟩
        obtain ⟨cur1, g1, g2⟩ := heap_setCells (g := g) ((xs.map (Value.int .i64)).drop i) (0 + (i + 1)) w.drew cur hg (by simp; omega)
        have hl1 : cur1.size = cap := by
          rw [← Array.length_toList, g2]
          simp
          omega
        obtain ⟨cur2, g3, g4⟩ := heap_setCells (g := g) [Value.int .i64 x] (0 + i) _ cur1 g1 (by simp; omega)
        have hsp2 := splice_take (cs := xs.map (Value.int .i64)) (cur1 := cur1.toList) (cur2 := cur2.toList) (L := cur.toList) (x := Value.int .i64 x) (i := i) (by simp; omega) rfl (by rw [← htake, List.take_take, Nat.min_eq_left hi]) (by simp; omega)
          (by rw [g2]; simp; congr 1; omega) (by rw [g4]; simp)
        refine ⟨.slice (some ⟨g, 0, none⟩) (insAt xs i x).length cap, by rw [hil], owns_of_cells g3 (Nat.zero_le _) hcm (by rw [hsp2.1]; simpa using hcs) (by omega) ?_, grownBy_trans (grownBy_trans (grownBy_drew (grownBy_refl _ _)) (setCells_grown _ _ _)) (setCells_grown _ _ _), Or.inl rfl⟩
        rw [hil, hml, ← hclen]
        exact hsp2.2
    · by_cases hin : i = xs.length
      · exact endGrow (some ⟨g, 0, none⟩) cap hlv hin hnc (by omega) (fun h => by cases h) (fun a ha j v hj => by cases ha; rw [addr_add]; exact hcells j v hj)
      · have h := Any2.slices_Insert_int_grow Try.laysNm221 g 0 xs.length cap i vb 0 1 1 (xs.map (Value.int .i64)) [.int .i64 x] w (by omega) (by decide) hnc (by omega) (by omega) (by simp) rfl hcells hvs h1c h1v
        rw [hlv]
        refine h.mono ?_
        rintro e w' ⟨rfl, rfl⟩
        have hge := grownCap_ge w (xs.length + 1) cap 3
        have hcm2 : grownCap w (xs.length + 1) cap 3 ≤ maxLen := grownCap_le_maxLen w (xs.length + 1) cap 3 (by simp only [maxLen]; omega)
        have hml : (insAt xs i x).map (Value.int .i64) = (xs.map (Value.int .i64)).take i ++ Value.int .i64 x :: (xs.map (Value.int .i64)).drop i := by
          simp [insAt]
        have e3 : Try.laysNm221_ren.t 3 = 3 := rfl
        obtain ⟨A, hA⟩ : ∃ A : Array Value, A = ((xs.map (Value.int .i64)).take i).toArray ++ Builtin.zeroCells (Value.int .i64 0).cells (xs.length + 1 - i) ++ Builtin.zeroCells (Value.int .i64 0).cells (grownCap w (xs.length + 1) cap 3 - (xs.length + 1)) := ⟨_, rfl⟩
        have hcl : ((xs.map (Value.int .i64)).take i).length = i := by simp; omega
        have hAs : A.toList.length = grownCap w (xs.length + 1) cap 3 := by
          have hz : ∀ n, (Builtin.zeroCells (Value.int .i64 0).cells n).size = n := fun n => by rw [size_zeroCells]; simp [Value.cells]
          rw [hA, Array.length_toList, Array.size_append, Array.size_append, hz, hz, List.size_toArray, hcl]
          omega
        have hAt : A.toList.take i = (xs.map (Value.int .i64)).take i := by
          rw [hA, Array.toList_append, Array.toList_append, List.append_assoc]
          exact List.take_left' hcl
        rw [e3, ← hA]
        obtain ⟨cur1, g1, g2⟩ := heap_setCells (g := w.heap.size) [Value.int .i64 x] i ((w.alloc (.cells A 3)).drew) A (heap_alloc_new w _) (by rw [← Array.length_toList, hAs]; simp; omega)
        rw [hAt] at g2
        have l1 : ((xs.map (Value.int .i64)).take i ++ [Value.int .i64 x]).length = i + 1 := by simp; omega
        have hl1 : cur1.toList.length = grownCap w (xs.length + 1) cap 3 := by
          rw [g2, List.length_append, l1, List.length_drop, hAs]
          simp
          omega
        obtain ⟨cur2, g3, g4⟩ := heap_setCells (g := w.heap.size) ((xs.map (Value.int .i64)).drop i) (i + 1) (((w.alloc (.cells A 3)).drew.setCells w.heap.size i [Value.int .i64 x]).drew) cur1 g1 (by rw [← Array.length_toList, hl1]; simp; omega)
        have t1 : cur1.toList.take (i + 1) = (xs.map (Value.int .i64)).take i ++ [Value.int .i64 x] := by
          rw [g2]
          exact List.take_left' l1
        rw [t1] at g4
        have l2 : ((xs.map (Value.int .i64)).take i ++ [Value.int .i64 x] ++ (xs.map (Value.int .i64)).drop i).length = xs.length + 1 := by simp; omega
        have hl2 : cur2.toList.length = grownCap w (xs.length + 1) cap 3 := by
          rw [g4, List.length_append, l2, List.length_drop, hl1]
          simp
          omega
        have hO2 := owns_of_cells (base := w.heap.size) (ys := insAt xs i x) g3 (Nat.le_refl _) hcm2 hl2 (by omega) (by
          rw [g4, hil, hml]
          rw [List.take_left' l2]
          simp)
        refine ⟨.slice (some ⟨w.heap.size, 0, none⟩) (insAt xs i x).length (grownCap w (xs.length + 1) cap 3), by rw [hil], owns_le hO2 (Nat.zero_le _), ?_, Or.inr fun j hj => (hO2.lt j hj).1⟩
        rw [← hlv]
        have hg0 : w.grownBy ((w.alloc (.cells A 3)).drew) none := grownBy_drew (World.grownBy_alloc _ _ _)
        have hg1 := grownBy_mono hg0 (setCells_grown (g := w.heap.size) [Value.int .i64 x] i _) (Or.inr fun j hj => by cases hj; exact Nat.le_refl _)
        exact hwide (grownBy_mono (grownBy_drew hg1) (setCells_grown (g := w.heap.size) ((xs.map (Value.int .i64)).drop i) (i + 1) _) (Or.inr fun j hj => by cases hj; exact Nat.le_refl _))

/-- The number at place i goes. -/
def delAt (xs : List Int) (i : Nat) : List Int := xs.take i ++ xs.drop (i + 1)

theorem delete_any (lv : Value) (xs : List Int) (i : Nat) (w : World) (hO : Owns w 0 lv xs) (hi : i < xs.length) :
    Calls Try.prog 49 #[lv, .int .i64 i, .int .i64 (i + 1)] w fun e w' => ∃ v', e = .returned v' ∧ Owns w' 0 v' (delAt xs i) ∧ w.grownBy w' lv.ownBlock ∧ v'.ownBlock = lv.ownBlock := by
  rcases hO.2 with ⟨hlv, hn⟩ | ⟨g, cap, cur, hlv, hbg, hg, hnc, hcm, hcs, htake⟩
  · omega
  · have h := Try.slices_Delete_int g 0 cap i (i + 1) xs w (holds_of_blockI hg (by simpa using htake)) hnc (by simp only [maxLen] at hcm; omega) (by omega) (by omega)
    rw [hlv]
    have ec : ((i + 1 : Nat) : Int) = (i : Int) + 1 := by omega
    rw [ec] at h
    refine h.mono ?_
    rintro e w' ⟨rfl, q, rfl⟩
    have hlen : (delAt xs i).length = xs.length - (i + 1 - i) := by simp [delAt]; omega
    have h1 := ownsRow_sortedI (n := q) (os := #[]) (ss := xs) (ts := xs.take i ++ xs.drop (i + 1) ++ List.replicate (i + 1 - i) 0) (by simp; omega) (Nat.zero_le g) hg hnc hcm hcs
    rw [grow_empty] at h1
    have h2 := owns_cut h1 (xs.length - (i + 1 - i)) (by omega)
    have h3 := grownBy_sortedI (w := w) (g := g) (n := q) (os := #[]) (xs.take i ++ xs.drop (i + 1) ++ List.replicate (i + 1 - i) 0).toArray
    rw [grow_empty] at h3
    refine ⟨_, rfl, ?_, h3, rfl⟩
    unfold Owns
    rw [hlen]
    have e : (List.map (Value.int .i64) (xs.take i ++ xs.drop (i + 1) ++ List.replicate (i + 1 - i) 0)).take (xs.length - (i + 1 - i)) = (delAt xs i).map (Value.int .i64) := by
      rw [List.map_append]
      exact List.take_left' (by simp; omega)
    rw [e] at h2
    exact h2

end Go.Proofs.Ytaillppmfbbnjaa
