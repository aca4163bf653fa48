/-
  The contracts of package set's functions on lists of numbers: fresh, settle, Of, Join, among, pick, Meet, Less, Within, Has.
-/
import Derived.Test.YtplljpodejpbgaaGreatDoorLRef
import Derived.Test.YtplljpodejpbgaaGreatDoorLSets
import Derived.Test.YtplljpodejpbgaaGreatDoorShelf
import Derived.Test.YtplljpodejpbgaaGreatDoorShelfB
import Derived.Sort.OwnSortedInts
namespace Go.Proofs.YtplljpodejpbgaaGreatDoor
open Go.RowKit Go.Sort
set_option linter.unusedVariables false

theorem owns_cut {w : World} {base g n cap : Nat} {e : TypeId} {vs : List Value} (h : w.ownsRow base e 1 (.slice (some ⟨g, 0, none⟩) n cap) n vs) (k : Nat) (hk : k ≤ n) :
    w.ownsRow base e 1 (.slice (some ⟨g, 0, none⟩) k cap) k (vs.take k) := by
  rcases h.2 with ⟨h0, _⟩ | ⟨g', cap', cur, hv, hb, hg, h1, h2, h3, h4⟩
  · cases h0
  · cases hv
    have hl := h.1
    refine ⟨by simp; omega, Or.inr ⟨g, cap, cur, rfl, hb, hg, by omega, h2, h3, ?_⟩⟩
    rw [Nat.mul_one] at h4 ⊢
    rw [← h4, List.take_take, Nat.min_eq_left hk]

theorem owns_le {w : World} {base base' : Nat} {v : Value} {xs : List Int} (h : Owns w base v xs) (hb : base' ≤ base) : Owns w base' v xs := by
  refine ⟨h.1, ?_⟩
  rcases h.2 with hn | ⟨g, cap, cur, rfl, hbase, hg, rest⟩
  · exact Or.inl hn
  · exact Or.inr ⟨g, cap, cur, rfl, by omega, hg, rest⟩

set_option maxHeartbeats 400000 in
theorem fresh_any (v : Value) (xs : List Int) (w : World) (hS : Sees w v xs) (hb : xs.length * 8 ≤ 140737488355328) :
    Calls Tryz.prog 86 #[v] w fun e w' => ∃ v', e = .returned v' ∧ Owns w' w.heap.size v' xs ∧ Below w.heap.size w w' := by
  go_enter Tryz.func86, Tryz.ntmps86
  go_wp2_with (at_builtin; refine wpList_app rfl _ _ rfl w.heap.size (.slice none 0 0) [] rfl (World.ownsRow_nil _ _ _ _) v xs rfl hS (by simpa using hb) (Nat.le_refl _) ?_; intro v' w' h1 h2)
  go_ret
  exact ⟨_, rfl, by simpa using h1, (Below.refl _ _).grown h2 (Nat.le_refl _) (fun k hk => by simp [Value.ownBlock] at hk)⟩

theorem grownBy_trans {a b c : World} {row : Option Nat} (h : a.grownBy b row) (k : b.grownBy c row) : a.grownBy c row :=
  ⟨k.os.trans h.os, k.tape.trans h.tape, k.output.trans h.output, Nat.le_trans h.size k.size, fun i hi hr => (k.block i (Nat.lt_of_lt_of_le hi h.size) hr).trans (h.block i hi hr)⟩
theorem grownBy_refl (a : World) (row : Option Nat) : a.grownBy a row := ⟨rfl, rfl, rfl, Nat.le_refl _, fun _ _ _ => rfl⟩

set_option maxHeartbeats 400000 in
theorem settle_any (v : Value) (xs : List Int) (base : Nat) (w : World) (hO : Owns w base v xs) (hb : xs.length < 4611686018427387904) :
    Calls Tryz.prog 85 #[v] w fun e w' => ∃ v', e = .returned v' ∧ Owns w' base v' (sd xs) ∧ w.grownBy w' v.ownBlock ∧ v'.ownBlock = v.ownBlock := by
  rcases hO.2 with ⟨rfl, hn⟩ | ⟨g, cap, cur, rfl, hbase, hg, h1, h2, h3, h4⟩
  · have hx : xs = [] := List.eq_nil_of_length_eq_zero hn
    subst hx
    go_enter Tryz.func85, Tryz.ntmps85
    go_wp2_with fail
    refine (Tryz.slices_Sort_int_none _ _ _).mono ?_
    rintro e w' ⟨rfl, rfl⟩
    go_wp2_with fail
    refine (Tryz.slices_Compact_int_empty _ _ _).mono ?_
    rintro e w' ⟨rfl, rfl⟩
    go_wp2
    go_ret
    exact ⟨.slice none 0 0, rfl, by rw [sd_nil]; exact World.ownsRow_nil _ _ _ _, grownBy_refl _ _, rfl⟩
  · have hgl : g < w.heap.size := (Array.getElem?_eq_some_iff.1 hg).1
    have hH : Holds (Value.int .i64) w g 0 xs.toArray := holds_of_blockI hg (by simpa using h4)
    have hc1 := Tryz.slices_Sort_int g 0 cap xs w hH hgl hb
    have hS1 : ∀ n os, (grow (putRow (Value.int .i64) (Sort.ahead w n) g 0 (xs.mergeSort fun x y => decide (x ≤ y)).toArray) os).ownsRow base 3 1 (.slice (some ⟨g, 0, none⟩) xs.length cap) xs.length ((xs.mergeSort fun x y => decide (x ≤ y)).map (Value.int .i64)) :=
      fun n os => ownsRow_sortedI (List.length_mergeSort _) hbase hg h1 h2 h3
    have hG1 : ∀ n os, w.grownBy (grow (putRow (Value.int .i64) (Sort.ahead w n) g 0 (xs.mergeSort fun x y => decide (x ≤ y)).toArray) os) (some g) := fun n os => grownBy_sortedI _
    clear hH hO hg h4 h3
    have HS1 := hid hS1
    have HG1 := hid hG1
    clear hS1 hG1
    go_enter Tryz.func85, Tryz.ntmps85
    go_wp2_with fail
    refine hc1.mono ?_
    clear hc1
    rintro e w1 ⟨rfl, n, os, hw1⟩
    have hS1 := HS1.out n os
    have hG1 := HG1.out n os
    rw [← hw1] at hS1 hG1
    clear hw1 HS1 HG1
    obtain ⟨ys, hys⟩ : ∃ ys, ys = xs.mergeSort fun x y => decide (x ≤ y) := ⟨_, rfl⟩
    have hyl : ys.length = xs.length := by rw [hys]; exact List.length_mergeSort _
    rw [← hys] at hS1
    have hsd : sd xs = Lib.compact ys := by rw [hys]; rfl
    rcases hS1.2 with ⟨h0, _⟩ | ⟨g', cap', cur1, hv, hbase1, hg1, k1, k2, k3, k4⟩
    · cases h0
    cases hv
    have hc2 := Tryz.slices_Compact_int g 0 cap ys w1 (holds_of_blockI hg1 (by rw [hyl]; simpa using k4)) (by omega) (by omega)
    have hle := length_compact_le ys
    have hS2 : ∀ q, (putRow (Value.int .i64) (Sort.ahead w1 q) g 0 (Lib.compact ys ++ List.replicate (ys.length - (Lib.compact ys).length) 0).toArray).ownsRow base 3 1 (.slice (some ⟨g, 0, none⟩) (Lib.compact ys).length cap) (Lib.compact ys).length ((Lib.compact ys).map (Value.int .i64)) := by
      intro q
      have h := ownsRow_sortedI (n := q) (os := #[]) (ss := ys) (ts := Lib.compact ys ++ List.replicate (ys.length - (Lib.compact ys).length) 0) (by simp; omega) hbase1 hg1 (by omega) k2 k3
      rw [grow_empty] at h
      have h' := owns_cut h (Lib.compact ys).length hle
      simpa using h'
    have hG2 : ∀ q, w1.grownBy (putRow (Value.int .i64) (Sort.ahead w1 q) g 0 (Lib.compact ys ++ List.replicate (ys.length - (Lib.compact ys).length) 0).toArray) (some g) := by
      intro q
      have h := grownBy_sortedI (w := w1) (g := g) (n := q) (os := #[]) (Lib.compact ys ++ List.replicate (ys.length - (Lib.compact ys).length) 0).toArray
      rwa [grow_empty] at h
    rw [hyl] at hc2
    simp only [hyl] at hS2 hG2
    have HS2 := hid hS2
    have HG2 := hid hG2
    have HSD := hid hsd
    clear hS2 hG2 hS1 hsd hys hg1 k1 k2 k3 k4 hyl
    go_wp2_with fail
    refine hc2.mono ?_
    clear hc2
    rintro e w2 ⟨rfl, q, hw2⟩
    have hS3 := HS2.out q
    have hG3 := HG2.out q
    rw [← hw2] at hS3 hG3
    clear hw2 HS2 HG2
    go_wp2
    go_ret
    exact ⟨.slice (some ⟨g, 0, none⟩) (Lib.compact ys).length cap, rfl, by rw [HSD.out]; exact hS3, grownBy_trans hG1 hG3, rfl⟩

set_option maxHeartbeats 400000 in
theorem join_any (v u : Value) (xs ys : List Int) (w : World) (hS : Sees w v xs) (hT : Sees w u ys) (hb : (xs.length + ys.length) * 8 ≤ 140737488355328) :
    Calls Tryz.prog 63 #[v, u] w fun e w' => ∃ v', e = .returned v' ∧ Owns w' w.heap.size v' (sd (xs ++ ys)) ∧ Below w.heap.size w w' := by
  go_enter Tryz.func63, Tryz.ntmps63
  go_wp2_with fail
  refine (fresh_any v xs _ hS (by omega)).mono ?_
  rintro e w1 ⟨v1, rfl, hO, hB⟩
  have hT1 := hT.below hB
  have hsz := hB.size
  go_wp2_with (first | (at_builtin; refine wpList_app rfl _ _ rfl w.heap.size v1 xs rfl hO u ys rfl hT1 hb hsz ?_; intro v2 w2 hO2 hG2) | fail)
  refine (settle_any v2 (xs ++ ys) _ _ hO2 (by rw [List.length_append]; omega)).mono ?_
  rintro e w3 ⟨v3, rfl, hO3, hG3, hbk⟩
  go_wp2
  go_ret
  have hB2 : Below w.heap.size w w2 := hB.grown hG2 hB.size (fun k hk => (hO.lt k hk).1)
  exact ⟨v3, rfl, hO3, hB2.grown hG3 hB2.size (fun k hk => (hO2.lt k hk).1)⟩

end Go.Proofs.YtplljpodejpbgaaGreatDoor
