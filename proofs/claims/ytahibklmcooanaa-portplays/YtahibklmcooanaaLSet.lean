/-
  The contracts of package set's functions on lists of numbers: fresh, settle, Of, Join, among, pick, Meet, Less, Within, Has.
-/
import Derived.Test.YtahibklmcooanaaLRef
import Derived.Test.YtahibklmcooanaaLSets
import Derived.Test.YtahibklmcooanaaShelf
import Derived.Sort.OwnSortedInts
namespace Go.Proofs.Ytahibklmcooanaa
open Go.RowKit Go.Sort
set_option linter.unusedVariables false

theorem owns_cut {w : World} {base g n cap : Nat} {e : TypeId} {vs : List Value} (h : w.ownsRow base e 1 (.slice (some ⟨g, 0, none⟩) n cap) n vs) (k : Nat) (hk : k ≤ n) :
    w.ownsRow base e 1 (.slice (some ⟨g, 0, none⟩) k cap) k (vs.take k) := by
  rcases h.2 with ⟨h0, _⟩ | ⟨g', cap', cur, hv, hb, hg, h1, h2, h3, h4⟩
  · cases h0
  · cases hv
    have hl := h.1
    refine ⟨by simp; omega, Or.inr ⟨g, cap, cur, rfl, hb, hg, by omega, h2, h3, ?_⟩⟩
    rw [Nat.mul_one] at h4 ⊢
    rw [← h4, List.take_take, Nat.min_eq_left hk]

theorem owns_le {w : World} {base base' : Nat} {v : Value} {xs : List Int} (h : Owns w base v xs) (hb : base' ≤ base) : Owns w base' v xs := by
  refine ⟨h.1, ?_⟩
  rcases h.2 with hn | ⟨g, cap, cur, rfl, hbase, hg, rest⟩
  · exact Or.inl hn
  · exact Or.inr ⟨g, cap, cur, rfl, by omega, hg, rest⟩

set_option maxHeartbeats 400000 in
theorem fresh_any (v : Value) (xs : List Int) (w : World) (hS : Sees w v xs) (hb : xs.length * 8 ≤ 140737488355328) :
    Calls Try.prog 56 #[v] w fun e w' => ∃ v', e = .returned v' ∧ Owns w' w.heap.size v' xs ∧ Below w.heap.size w w' := by
  go_enter Try.func56, Try.ntmps56
  go_wp2_with (at_builtin; refine wpList_app rfl _ _ rfl w.heap.size (.slice none 0 0) [] rfl (World.ownsRow_nil _ _ _ _) v xs rfl hS (by simpa using hb) (Nat.le_refl _) ?_; intro v' w' h1 h2)
  go_ret
  exact ⟨_, rfl, by simpa using h1, (Below.refl _ _).grown h2 (Nat.le_refl _) (fun k hk => by simp [Value.ownBlock] at hk)⟩

theorem grownBy_trans {a b c : World} {row : Option Nat} (h : a.grownBy b row) (k : b.grownBy c row) : a.grownBy c row :=
  ⟨k.os.trans h.os, k.tape.trans h.tape, k.output.trans h.output, Nat.le_trans h.size k.size, fun i hi hr => (k.block i (Nat.lt_of_lt_of_le hi h.size) hr).trans (h.block i hi hr)⟩
theorem grownBy_refl (a : World) (row : Option Nat) : a.grownBy a row := ⟨rfl, rfl, rfl, Nat.le_refl _, fun _ _ _ => rfl⟩

set_option maxHeartbeats 400000 in
theorem settle_any (v : Value) (xs : List Int) (base : Nat) (w : World) (hO : Owns w base v xs) (hb : xs.length < 4611686018427387904) :
    Calls Try.prog 55 #[v] w fun e w' => ∃ v', e = .returned v' ∧ Owns w' base v' (sd xs) ∧ w.grownBy w' v.ownBlock ∧ v'.ownBlock = v.ownBlock := by
  rcases hO.2 with ⟨rfl, hn⟩ | ⟨g, cap, cur, rfl, hbase, hg, h1, h2, h3, h4⟩
  · have hx : xs = [] := List.eq_nil_of_length_eq_zero hn
    subst hx
    go_enter Try.func55, Try.ntmps55
    go_wp2_with fail
    refine (Try.slices_Sort_int_none _ _ _).mono ?_
    rintro e w' ⟨rfl, rfl⟩
    go_wp2_with fail
    refine (Try.slices_Compact_int_empty _ _ _).mono ?_
    rintro e w' ⟨rfl, rfl⟩
    go_wp2
    go_ret
    exact ⟨.slice none 0 0, rfl, by rw [sd_nil]; exact World.ownsRow_nil _ _ _ _, grownBy_refl _ _, rfl⟩
  · have hgl : g < w.heap.size := (Array.getElem?_eq_some_iff.1 hg).1
    have hH : Holds (Value.int .i64) w g 0 xs.toArray := holds_of_blockI hg (by simpa using h4)
    have hc1 := Try.slices_Sort_int g 0 cap xs w hH hgl hb
    have hS1 : ∀ n os, (grow (putRow (Value.int .i64) (Sort.ahead w n) g 0 (xs.mergeSort fun x y => decide (x ≤ y)).toArray) os).ownsRow base 3 1 (.slice (some ⟨g, 0, none⟩) xs.length cap) xs.length ((xs.mergeSort fun x y => decide (x ≤ y)).map (Value.int .i64)) :=
      fun n os => ownsRow_sortedI (List.length_mergeSort _) hbase hg h1 h2 h3
    have hG1 : ∀ n os, w.grownBy (grow (putRow (Value.int .i64) (Sort.ahead w n) g 0 (xs.mergeSort fun x y => decide (x ≤ y)).toArray) os) (some g) := fun n os => grownBy_sortedI _
    clear hH hO hg h4 h3
    have HS1 := hid hS1
    have HG1 := hid hG1
    clear hS1 hG1
    go_enter Try.func55, Try.ntmps55
    go_wp2_with fail
    refine hc1.mono ?_
    clear hc1
    rintro e w1 ⟨rfl, n, os, hw1⟩
    have hS1 := HS1.out n os
    have hG1 := HG1.out n os
    rw [← hw1] at hS1 hG1
    clear hw1 HS1 HG1
    obtain ⟨ys, hys⟩ : ∃ ys, ys = xs.mergeSort fun x y => decide (x ≤ y) := ⟨_, rfl⟩
    have hyl : ys.length = xs.length := by rw [hys]; exact List.length_mergeSort _
    rw [← hys] at hS1
    have hsd : sd xs = Lib.compact ys := by rw [hys]; rfl
    rcases hS1.2 with ⟨h0, _⟩ | ⟨g', cap', cur1, hv, hbase1, hg1, k1, k2, k3, k4⟩
    · cases h0
    cases hv
    have hc2 := Try.slices_Compact_int g 0 cap ys w1 (holds_of_blockI hg1 (by rw [hyl]; simpa using k4)) (by omega) (by omega)
    have hle := length_compact_le ys
    have hS2 : ∀ q, (putRow (Value.int .i64) (Sort.ahead w1 q) g 0 (Lib.compact ys ++ List.replicate (ys.length - (Lib.compact ys).length) 0).toArray).ownsRow base 3 1 (.slice (some ⟨g, 0, none⟩) (Lib.compact ys).length cap) (Lib.compact ys).length ((Lib.compact ys).map (Value.int .i64)) := by
      intro q
      have h := ownsRow_sortedI (n := q) (os := #[]) (ss := ys) (ts := Lib.compact ys ++ List.replicate (ys.length - (Lib.compact ys).length) 0) (by simp; omega) hbase1 hg1 (by omega) k2 k3
      rw [grow_empty] at h
      have h' := owns_cut h (Lib.compact ys).length hle
      simpa using h'
    have hG2 : ∀ q, w1.grownBy (putRow (Value.int .i64) (Sort.ahead w1 q) g 0 (Lib.compact ys ++ List.replicate (ys.length - (Lib.compact ys).length) 0).toArray) (some g) := by
      intro q
      have h := grownBy_sortedI (w := w1) (g := g) (n := q) (os := #[]) (Lib.compact ys ++ List.replicate (ys.length - (Lib.compact ys).length) 0).toArray
      rwa [grow_empty] at h
    rw [hyl] at hc2
    simp only [hyl] at hS2 hG2
    have HS2 := hid hS2
    have HG2 := hid hG2
    have HSD := hid hsd
    clear hS2 hG2 hS1 hsd hys hg1 k1 k2 k3 k4 hyl
    go_wp2_with fail
    refine hc2.mono ?_
    clear hc2
    rintro e w2 ⟨rfl, q, hw2⟩
    have hS3 := HS2.out q
    have hG3 := HG2.out q
    rw [← hw2] at hS3 hG3
    clear hw2 HS2 HG2
    go_wp2
    go_ret
    exact ⟨.slice (some ⟨g, 0, none⟩) (Lib.compact ys).length cap, rfl, by rw [HSD.out]; exact hS3, grownBy_trans hG1 hG3, rfl⟩

set_option maxHeartbeats 400000 in
theorem of_any (v : Value) (xs : List Int) (w : World) (hS : Sees w v xs) (hb : xs.length * 8 ≤ 140737488355328) :
    Calls Try.prog 60 #[v] w fun e w' => ∃ v', e = .returned v' ∧ Owns w' w.heap.size v' (sd xs) ∧ Below w.heap.size w w' := by
  go_enter Try.func60, Try.ntmps60
  go_wp2_with fail
  refine (fresh_any v xs _ hS hb).mono ?_
  rintro e w1 ⟨v1, rfl, hO, hB⟩
  go_wp2_with fail
  refine (settle_any v1 xs _ _ hO (by omega)).mono ?_
  rintro e w2 ⟨v2, rfl, hO2, hG, hbk⟩
  go_wp2
  go_ret
  exact ⟨v2, rfl, hO2, hB.grown hG hB.size (fun k hk => (hO.lt k hk).1)⟩

set_option maxHeartbeats 400000 in
theorem join_any (v u : Value) (xs ys : List Int) (w : World) (hS : Sees w v xs) (hT : Sees w u ys) (hb : (xs.length + ys.length) * 8 ≤ 140737488355328) :
    Calls Try.prog 51 #[v, u] w fun e w' => ∃ v', e = .returned v' ∧ Owns w' w.heap.size v' (sd (xs ++ ys)) ∧ Below w.heap.size w w' := by
  go_enter Try.func51, Try.ntmps51
  go_wp2_with fail
  refine (fresh_any v xs _ hS (by omega)).mono ?_
  rintro e w1 ⟨v1, rfl, hO, hB⟩
  have hT1 := hT.below hB
  have hsz := hB.size
  go_wp2_with (first | (at_builtin; refine wpList_app rfl _ _ rfl w.heap.size v1 xs rfl hO u ys rfl hT1 hb hsz ?_; intro v2 w2 hO2 hG2) | fail)
  refine (settle_any v2 (xs ++ ys) _ _ hO2 (by rw [List.length_append]; omega)).mono ?_
  rintro e w3 ⟨v3, rfl, hO3, hG3, hbk⟩
  go_wp2
  go_ret
  have hB2 : Below w.heap.size w w2 := hB.grown hG2 hB.size (fun k hk => (hO.lt k hk).1)
  exact ⟨v3, rfl, hO3, hB2.grown hG3 hB2.size (fun k hk => (hO2.lt k hk).1)⟩

theorem rises_le {xs : List Int} (h : xs.Pairwise (· < ·)) : xs.Pairwise (· ≤ ·) :=
  List.pairwise_iff_getElem.2 (fun i j hi hj hij => by have := List.pairwise_iff_getElem.1 h i j hi hj hij; omega)

set_option maxHeartbeats 400000 in
theorem among_any (v : Value) (xs : List Int) (x : Int) (w : World) (hS : Sees w v xs) (hr : xs.Pairwise (· < ·)) (hb : xs.length < 4611686018427387904) :
    Calls Try.prog 61 #[v, .int .i64 x] w fun e w' => e = .returned (.bool (decide (x ∈ xs))) ∧ Below w.heap.size w w' := by
  obtain ⟨b, off, ao, cap, rfl, hcap, _, hao, hcell⟩ := hS
  by_cases hne : xs = []
  · subst hne
    go_enter Try.func61, Try.ntmps61
    go_wp2_with fail
    refine (Try.slices_BinarySearch_int_empty _ _ _ _).mono ?_
    rintro e w1 ⟨rfl, rfl⟩
    go_wp2
    go_ret
    exact ⟨by simp, Below.refl _ _⟩
  · obtain rfl := hao hne
    have hc := Try.slices_BinarySearch_int b off xs.length cap xs x w (Nat.le_refl _) hb hcell (by rw [List.take_of_length_le (Nat.le_refl _)]; exact rises_le hr)
    rw [List.take_of_length_le (Nat.le_refl _)] at hc
    clear hcell hr hne hao
    go_enter Try.func61, Try.ntmps61
    go_wp2_with fail
    refine hc.mono ?_
    clear hc
    rintro e w1 ⟨rfl, q, rfl⟩
    go_wp2
    go_ret
    exact ⟨by simp, below_drewN (Below.refl _ _) _⟩

theorem filter_take_succ {ys : List Int} {k : Nat} {y : Int} (p : Int → Bool) (hk : k < ys.length) (hy : y = ys.getD k 0) : (ys.take (k + 1)).filter p = (ys.take k).filter p ++ (if p y then [y] else []) := by
  have e : y = ys[k] := by rw [hy]; simp [List.getD, hk]
  rw [List.take_succ_eq_append_getElem hk, List.filter_append, e]
  by_cases h : p ys[k] <;> simp [h]

set_option maxHeartbeats 1000000 in
theorem pick_any (v u : Value) (inn : Bool) (xs ys : List Int) (w : World) (hS : Sees w v xs) (hT : Sees w u ys) (hb : (xs.length + ys.length) * 8 ≤ 140737488355328) :
    Calls Try.prog 57 #[v, u, .bool inn] w fun e w' => ∃ v', e = .returned v' ∧ Owns w' w.heap.size v' ((sd xs).filter fun x => decide (x ∈ ys) == inn) ∧ Below w.heap.size w w' := by
  go_enter Try.func57, Try.ntmps57
  go_wp2_with fail
  refine (of_any u ys _ hT (by omega)).mono ?_
  rintro e w1 ⟨v1, rfl, hO1, hB1⟩
  have hS1 := hS.below hB1
  have hsz1 := hB1.size
  go_wp2_with fail
  refine (of_any v xs _ hS1 (by omega)).mono ?_
  rintro e w2 ⟨v2, rfl, hO2, hB2⟩
  have hO1' := hO1.below hB2
  have hl1 := length_sd_le xs
  have hl2 := length_sd_le ys
  have hr := sd_rises ys
  have hsz2 := hB2.size
  obtain ⟨ps, has⟩ : ∃ ps, ps = sd xs := ⟨_, rfl⟩
  obtain ⟨qs, hbs⟩ : ∃ qs, qs = sd ys := ⟨_, rfl⟩
  rw [← has] at hO2 hl1
  rw [← hbs] at hO1' hl2 hr
  have HA := hid has
  have HB := hid hbs
  obtain ⟨b2, off2, ao2, cap2, rfl, hcap2, _, hao2, hcell2⟩ := hO2.sees
  have hsee1 := hO1'.sees
  have HO2 := hid hO2
  have HC := hid hcell2
  clear has hbs hO1 hO1' hS1 hS hT hO2 hcell2
  cases inn
  · go_wp2
    go_loopw [8, 16] (fun o i wr => ∃ k : Nat, k ≤ ps.length ∧ i = .int .i64 k ∧ Owns wr w2.heap.size o ((ps.take k).filter fun x => decide (x ∈ qs) == false) ∧ Below w2.heap.size w2 wr) (fun _ i _ => ps.length - (intOf i).toNat)
    case atStart => exact ⟨0, Nat.zero_le _, rfl, World.ownsRow_nil _ _ _ _, Below.refl _ _⟩
    case round =>
      obtain ⟨k, hk, rfl, hown, hbel⟩ := hrel
      have hszr := hbel.size
      by_cases hlt : k < ps.length
      · have hne : ps ≠ [] := by intro h; rw [h] at hlt; simp at hlt
        obtain rfl := hao2 hne
        obtain ⟨y, hy⟩ : ∃ y, y = ps.getD k 0 := ⟨_, rfl⟩
        have hc := (hbel.cell (World.block_lt_of_cell? w2 _ (HC.out k hlt))).trans (HC.out k hlt)
        rw [← hy] at hc
        have hfs := filter_take_succ (fun x => decide (x ∈ qs) == false) hlt hy
        have hfl := List.length_filter_le (fun x => decide (x ∈ qs) == false) (ps.take k)
        rw [List.length_take] at hfl
        have HF := hid hfs
        have hseer := hsee1.below hbel
        clear hy hfs hne hao2
        by_cases hq : y ∈ qs
        · go_wp2_with fail
          refine (among_any _ qs y _ hseer hr (by omega)).mono ?_
          rintro e w3 ⟨rfl, hb3⟩
          have hown3 := hown.below hb3
          have hsz3 := hb3.size
          have R : Owns w3 w2.heap.size u8 ((ps.take (k + 1)).filter fun x => decide (x ∈ qs) == false) ∧ Below w2.heap.size w2 w3 := by
            refine ⟨by rw [HF.out, if_neg (by simp [hq]), List.append_nil]; exact hown3, hbel.trans (hb3.mono hszr)⟩
          clear hown3 hown hb3 hc hseer
          go_wp2
          go_roundw
          case rel => exact ⟨k + 1, by omega, by go_num, R.1, R.2⟩
          case measure => simp [intOf]; omega
        · go_wp2_with fail
          refine (among_any _ qs y _ hseer hr (by omega)).mono ?_
          rintro e w3 ⟨rfl, hb3⟩
          have hown3 := hown.below hb3
          have hsz3 := hb3.size
          go_wp2_with (first | (at_builtin; refine wpList_app rfl _ _ rfl w2.heap.size _ _ rfl (Owns.below hown3 ((Below.refl _ _).alloc (Nat.le_refl _) _)) _ [y] rfl (sees_one _ _) (by simp only [List.length_singleton]; omega) (by simp; omega) ?_; intro v4 w4 hO4 hG4) | fail)
          have R : Owns w4 w2.heap.size v4 ((ps.take (k + 1)).filter fun x => decide (x ∈ qs) == false) ∧ Below w2.heap.size w2 w4 := by
            refine ⟨by rw [HF.out, if_pos (by simp [hq])]; exact hO4, ?_⟩
            exact (((hbel.trans (hb3.mono hszr)).alloc (by omega) _)).grown hG4 (by simp; omega) (fun j hj => (hown3.lt j hj).1)
          clear hO4 hG4 hown3 hown hb3 hc hseer
          go_wp2
          go_roundw
          case rel => exact ⟨k + 1, by omega, by go_num, R.1, R.2⟩
          case measure => simp [intOf]; omega
      · have hke : k = ps.length := by omega
        have hall : (ps.take k).filter (fun x => decide (x ∈ qs) == false) = (sd xs).filter fun x => decide (x ∈ ys) == false := by
          rw [List.take_of_length_le (by omega), HA.out]
          congr 1
          funext x
          rw [HB.out]
          simp [mem_sd]
        have HALL := hid hall
        clear hall hke
        go_wp2
        go_ret
        exact ⟨_, rfl, by rw [← HALL.out]; exact owns_le hown (by omega), (hB1.trans (hB2.mono hsz1)).trans (hbel.mono (by omega))⟩
  · go_wp2
    go_loopw [8, 16] (fun o i wr => ∃ k : Nat, k ≤ ps.length ∧ i = .int .i64 k ∧ Owns wr w2.heap.size o ((ps.take k).filter fun x => decide (x ∈ qs) == true) ∧ Below w2.heap.size w2 wr) (fun _ i _ => ps.length - (intOf i).toNat)
    case atStart => exact ⟨0, Nat.zero_le _, rfl, World.ownsRow_nil _ _ _ _, Below.refl _ _⟩
    case round =>
      obtain ⟨k, hk, rfl, hown, hbel⟩ := hrel
      have hszr := hbel.size
      by_cases hlt : k < ps.length
      · have hne : ps ≠ [] := by intro h; rw [h] at hlt; simp at hlt
        obtain rfl := hao2 hne
        obtain ⟨y, hy⟩ : ∃ y, y = ps.getD k 0 := ⟨_, rfl⟩
        have hc := (hbel.cell (World.block_lt_of_cell? w2 _ (HC.out k hlt))).trans (HC.out k hlt)
        rw [← hy] at hc
        have hfs := filter_take_succ (fun x => decide (x ∈ qs) == true) hlt hy
        have hfl := List.length_filter_le (fun x => decide (x ∈ qs) == true) (ps.take k)
        rw [List.length_take] at hfl
        have HF := hid hfs
        have hseer := hsee1.below hbel
        clear hy hfs hne hao2
        by_cases hq : y ∈ qs
        · go_wp2_with fail
          refine (among_any _ qs y _ hseer hr (by omega)).mono ?_
          rintro e w3 ⟨rfl, hb3⟩
          have hown3 := hown.below hb3
          have hsz3 := hb3.size
          go_wp2_with (first | (at_builtin; refine wpList_app rfl _ _ rfl w2.heap.size _ _ rfl (Owns.below hown3 ((Below.refl _ _).alloc (Nat.le_refl _) _)) _ [y] rfl (sees_one _ _) (by simp only [List.length_singleton]; omega) (by simp; omega) ?_; intro v4 w4 hO4 hG4) | fail)
          have R : Owns w4 w2.heap.size v4 ((ps.take (k + 1)).filter fun x => decide (x ∈ qs) == true) ∧ Below w2.heap.size w2 w4 := by
            refine ⟨by rw [HF.out, if_pos (by simp [hq])]; exact hO4, ?_⟩
            exact (((hbel.trans (hb3.mono hszr)).alloc (by omega) _)).grown hG4 (by simp; omega) (fun j hj => (hown3.lt j hj).1)
          clear hO4 hG4 hown3 hown hb3 hc hseer
          go_wp2
          go_roundw
          case rel => exact ⟨k + 1, by omega, by go_num, R.1, R.2⟩
          case measure => simp [intOf]; omega
        · go_wp2_with fail
          refine (among_any _ qs y _ hseer hr (by omega)).mono ?_
          rintro e w3 ⟨rfl, hb3⟩
          have hown3 := hown.below hb3
          have hsz3 := hb3.size
          have R : Owns w3 w2.heap.size u8 ((ps.take (k + 1)).filter fun x => decide (x ∈ qs) == true) ∧ Below w2.heap.size w2 w3 := by
            refine ⟨by rw [HF.out, if_neg (by simp [hq]), List.append_nil]; exact hown3, hbel.trans (hb3.mono hszr)⟩
          clear hown3 hown hb3 hc hseer
          go_wp2
          go_roundw
          case rel => exact ⟨k + 1, by omega, by go_num, R.1, R.2⟩
          case measure => simp [intOf]; omega
      · have hke : k = ps.length := by omega
        have hall : (ps.take k).filter (fun x => decide (x ∈ qs) == true) = (sd xs).filter fun x => decide (x ∈ ys) == true := by
          rw [List.take_of_length_le (by omega), HA.out]
          congr 1
          funext x
          rw [HB.out]
          simp [mem_sd]
        have HALL := hid hall
        clear hall hke
        go_wp2
        go_ret
        exact ⟨_, rfl, by rw [← HALL.out]; exact owns_le hown (by omega), (hB1.trans (hB2.mono hsz1)).trans (hbel.mono (by omega))⟩

end Go.Proofs.Ytahibklmcooanaa
