/-
  Print of the code.
-/
import Derived.Test.YtomjclkijakcpaaDoorEncP
import Derived.Test.YtomjclkijakcpaaDoorForm
namespace Go.Proofs.YtomjclkijakcpaaDoor
open Go.RowKit
set_option linter.unusedVariables false

theorem bulk_take : ∀ (l : List PairL) (k : Nat), bulkL (l.take k) ≤ bulkL l
  | [], k => by simp
  | p :: r, 0 => by simp [bulkL]
  | p :: r, k + 1 => by
    have := bulk_take r k
    simp only [bulkL, List.take_succ_cons, List.map_cons, List.sum_cons] at this ⊢
    omega
theorem bulk_get : ∀ (l : List PairL) (k : Nat) (h : k < l.length), l[k].1.length + l[k].2.length + 2 ≤ bulkL l
  | [], k, h => by simp at h
  | p :: r, 0, h => by simp [bulkL]
  | p :: r, k + 1, h => by
    have := bulk_get r k (by simpa using h)
    simp only [bulkL, List.getElem_cons_succ, List.map_cons, List.sum_cons] at this ⊢
    omega
theorem bulk_len (l : List PairL) : 2 * l.length ≤ bulkL l := by
  induction l with
  | nil => simp
  | cons p r ih => simp only [bulkL, List.map_cons, List.sum_cons, List.length_cons] at ih ⊢; omega
theorem print_take {l : List PairL} {k : Nat} (h : k < l.length) : printL (l.take (k + 1)) = (if k = 0 then [] else printL (l.take k) ++ [38]) ++ (enc l[k].1 ++ [61] ++ enc l[k].2) := by
  rw [List.take_succ_eq_append_getElem h, printL_snoc]
  by_cases h0 : k = 0
  · subst h0
    simp [one]
  · have : l.take k ≠ [] := by
      intro e
      have := congrArg List.length e
      rw [List.length_take, List.length_nil] at this
      omega
    rw [if_neg this, if_neg h0]
    simp [one]
theorem ownsB_lt2 {w : World} {B : Nat} {v : Value} {l : List UInt8} (h : OwnsB w B v l) : ∀ k, v.ownBlock = some k → k < w.heap.size := fun k hk => (World.ownsRow.lt h k hk).2
theorem sees_at (w : World) (y : Int) (n c : Nat) (hc : c = w.heap.size) (h : y = (n : Int)) : SeesN .u8 (w.alloc (.cells #[.int .u8 y] 5)) (.slice (some ⟨c, 0, none⟩) 1 1) [n] := by
  subst hc
  exact sees_b1 w y n h
theorem print_pre (l : List PairL) (k : Nat) : (printL (l.take k)).length ≤ 3 * bulkL l := by
  have h1 := printL_len (l.take k)
  have h2 := bulk_take l k
  omega

/-- A pair and a row of the call's own beside it. -/
structure Beside (w : World) (B q : Nat) (v : Value) (xs a b : List UInt8) : Prop where
  row : OwnsB w B v xs
  pair : PairAt w q (.string ⟨a.toArray⟩) (.string ⟨b.toArray⟩)
  far : ∀ j, v.ownBlock = some j → j ≠ q
  le : B ≤ w.heap.size
theorem Beside.grow {w w' : World} {B q : Nat} {v v' : Value} {xs xs' a b : List UInt8} (h : Beside w B q v xs a b) (hO : OwnsB w' B v' xs') (hG : w.grownBy w' v.ownBlock) (hL : Lies w v.ownBlock v') : Beside w' B q v' xs' a b := by
  have hq := h.pair.lt
  refine ⟨hO, ?_, fun j hj => ?_, Nat.le_trans h.le hG.size⟩
  · unfold PairAt
    rw [hG.block q hq (fun e => h.far q e.symm rfl)]
    exact h.pair
  · rcases hL j hj with e | e
    · exact h.far j e
    · omega
theorem lies_one {w w2 : World} {v : Value} {g n cap : Nat} (hA : w.grownBy w2 v.ownBlock) (hW : v.ownBlock = some g ∨ g = w2.heap.size) : Lies w v.ownBlock (.slice (some ⟨g, 0, none⟩) n cap) := by
  intro j hj
  have : g = j := by simpa [Value.ownBlock] using hj
  subst this
  rcases hW with h | h
  · exact Or.inl h
  · have := hA.size
    exact Or.inr (by omega)

set_option maxRecDepth 20000 in
set_option maxHeartbeats 2000000 in
theorem print_any (v : Value) (l : List PairL) (w : World) (hS : SeesP w v l) (hbk : bulkL l ≤ 1048576) :
    Calls Tryd.prog 9 #[v] w fun e w' => e = .returned (.string ⟨(printL l).toArray⟩) ∧ Below w.heap.size w w' := by
  obtain ⟨b, off, ao, cap, rfl, hcap, _, hao, hcell⟩ := hS
  have hln := bulk_len l
  have HC := hid hcell
  clear hcell
  obtain ⟨B, hBe⟩ : ∃ B, B = w.heap.size := ⟨_, rfl⟩
  have hB0 : B = w.heap.size := hBe
  rw [← hBe]
  have HBE := hid hB0
  clear hBe hB0
  go_enter Tryd.func9, Tryd.ntmps9
  go_wp2_with fail
  go_loopw [3, 8] (fun u i wr => ∃ (k : Nat) (xs : List UInt8), k ≤ l.length ∧ i = .int .i64 (k : Int) ∧ xs = printL (l.take k) ∧ OwnsB wr B u xs ∧ Below B w wr) (fun _ i _ => l.length - (intOf i).toNat)
  case atStart => exact ⟨0, [], Nat.zero_le _, rfl, rfl, OwnsB.nil _ _, Below.refl _ _⟩
  case round =>
    obtain ⟨k, xs, hk, rfl, hxs, hO, hB⟩ := hrel
    have hsw : B ≤ wr.heap.size := by have := hB.size; have := HBE.out; omega
    by_cases hlt : k < l.length
    · have hlt' : (k : Int) < (l.length : Int) := by omega
      obtain rfl := hao (by intro h; rw [h] at hlt; simp at hlt)
      obtain ⟨d1, d2⟩ := HC.out k hlt
      have hb1 := World.block_lt_of_cell? w _ d1
      have hb2 := World.block_lt_of_cell? w _ d2
      rw [← hB.cell (by rw [HBE.out]; exact hb1)] at d1
      rw [← hB.cell (by rw [HBE.out]; exact hb2)] at d2
      unfold strV at d1 d2
      have hpt := print_take hlt
      rw [← hxs] at hpt
      have hxl : xs.length ≤ 3 * bulkL l := by rw [hxs]; exact print_pre l k
      have hg := bulk_get l k hlt
      obtain ⟨p, hp⟩ : ∃ p, p = l[k] := ⟨_, rfl⟩
      rw [← hp] at d1 d2 hpt hg
      have HPT := hid hpt
      have HO := hid hO
      have HB := hid hB
      clear hp hpt hO hB hb1 hb2
      have hz0 : k = 0 → xs = [] := by
        intro h
        rw [hxs, h]
        rfl
      clear hxs
      obtain ⟨q, hq⟩ : ∃ q, q = wr.heap.size := ⟨_, rfl⟩
      have hqB : B ≤ q := by omega
      have HPW := hid (show PairAt (wr.alloc (.cells #[.string ⟨p.1.toArray⟩, .string ⟨p.2.toArray⟩] 31)) q (.string ⟨p.1.toArray⟩) (.string ⟨p.2.toArray⟩) by rw [hq]; exact PairAt.new wr _ _)
      have HOW := hid (show OwnsB (wr.alloc (.cells #[.string ⟨p.1.toArray⟩, .string ⟨p.2.toArray⟩] 31)) B u3 xs from HO.out.below (below_alloc wr _))
      have HBW := hid (show Below B w (wr.alloc (.cells #[.string ⟨p.1.toArray⟩, .string ⟨p.2.toArray⟩] 31)) from HB.out.trans ((below_alloc wr _).mono hsw))
      have hzW : ((wr.alloc (.cells #[.string ⟨p.1.toArray⟩, .string ⟨p.2.toArray⟩] 31))).heap.size = q + 1 := by rw [hq]; simp
      have Hq := hid hq
      have HOu := HO
      clear HO HB hq
      have hen := enc_len p.1
      by_cases h0 : k = 0
      · have h0' : ¬ (0 : Int) < (k : Int) := by omega
        rw [if_pos h0, List.nil_append] at HPT
        obtain rfl := hz0 h0
        have HS : Hid (Beside (wr.alloc (.cells #[.string ⟨p.1.toArray⟩, .string ⟨p.2.toArray⟩] 31)) B q u3 [] p.1 p.2) := hid ⟨HOW.out, HPW.out, fun j hj e => by have := ownsB_lt2 HOu.out j hj; have := Hq.out; omega, by omega⟩
        have HBS := HBW
        clear hz0 HOW HPW HBW HOu h0 hzW
        have hA1 := appendEncodedP_any ⟨p.1.toArray⟩ u3 [] (wr.alloc (.cells #[.string ⟨p.1.toArray⟩, .string ⟨p.2.toArray⟩] 31)) B HS.out.row HS.out.le (by rw [size_list]; omega)
        obtain ⟨y1, _, _, _⟩ := HS.out.pair.cells
        rw [Hq.out] at y1
        go_wp2_with fail
        refine hA1.mono ?_
        clear hA1 y1
        rintro e w3 ⟨v3, rfl, hO3, hG3, hL3⟩
        have HS3 := hid (HS.out.grow hO3 hG3 hL3)
        have HB3 := hid (below_grownBy HBS.out hG3 (OwnsB.block HS.out.row) HS.out.le)
        clear HS HBS hO3 hG3 hL3
        go_wp2_with (first
          | (at_builtin
             refine wpList_appL rfl _ _ rfl B v3 _ rfl (OwnsB.below HS3.out.row (below_alloc w3 _)) _ [61] rfl (by simp) (sees_b1 _ _ _ rfl) (by simp; omega) (by have := HS3.out.le; simp; omega) ?_
             intro g4 cap4 w4 hO4 hG4 hW4 hL4
             obtain ⟨v4, hv4⟩ : ∃ x, x = Value.slice (some ⟨g4, 0, none⟩) ((([] ++ enc p.1).map UInt8.toNat).length + [61].length) cap4 := ⟨_, rfl⟩
             have hG4' : w3.grownBy w4 v3.ownBlock := grownBy_mono (World.grownBy_alloc w3 (.cells #[.int .u8 61] 5) _) hG4 (Or.inl rfl)
             have HS4 : Hid (Beside w4 B q v4 (([] ++ enc p.1) ++ [61]) p.1 p.2) := by
               refine hid (HS3.out.grow ?_ hG4' ?_)
               · rw [hv4]; unfold OwnsB; simpa using hO4
               · rw [hv4]; exact lies_one (World.grownBy_alloc w3 (.cells #[.int .u8 61] 5) _) hW4
             have HB4 := hid (below_grownBy HB3.out hG4' (OwnsB.block HS3.out.row) HS3.out.le)
             rw [← hv4]
             obtain ⟨_, y2, _, _⟩ := HS4.out.pair.cells
             rw [Hq.out] at y2
             clear hO4 hG4 hG4' hW4 hL4 hv4 HS3 HB3)
          | fail)
        have hA2 := appendEncodedP_any ⟨p.2.toArray⟩ v4 (([] ++ enc p.1) ++ [61]) w4 B HS4.out.row HS4.out.le (by rw [size_list]; simp only [List.length_append, List.length_singleton]; omega)
        refine hA2.mono ?_
        clear hA2 y2
        rintro e w5 ⟨v5, rfl, hO5, hG5, hL5⟩
        have HB5 := hid (below_grownBy HB4.out hG5 (OwnsB.block HS4.out.row) HS4.out.le)
        have HO5 := hid hO5
        clear HS4 HB4 hO5 hG5 hL5
        go_wp2
        go_roundw
        case rel => exact ⟨k + 1, _, by omega, by go_num, rfl, by rw [HPT.out]; simpa using HO5.out, HB5.out⟩
        case measure => simp [intOf]; omega
      · have h0' : (0 : Int) < (k : Int) := by omega
        rw [if_neg h0] at HPT
        have HSW : Hid (Beside (wr.alloc (.cells #[.string ⟨p.1.toArray⟩, .string ⟨p.2.toArray⟩] 31)) B q u3 xs p.1 p.2) := hid ⟨HOW.out, HPW.out, fun j hj e => by have := ownsB_lt2 HOu.out j hj; have := Hq.out; omega, by omega⟩
        clear hz0 HOW HPW HOu hzW
        go_wp2_with (first
          | (at_builtin
             refine wpList_appL rfl _ _ rfl B u3 (xs.map UInt8.toNat) rfl (OwnsB.below HSW.out.row (below_alloc (wr.alloc (.cells #[.string ⟨p.1.toArray⟩, .string ⟨p.2.toArray⟩] 31)) _)) _ [38] rfl (by simp) (sees_at _ 38 38 _ (by simp) rfl) (by simp; omega) (by have := HSW.out.le; simp; omega) ?_
             intro g2 cap2 w2 hO2 hG2 hW2 hL2
             obtain ⟨v2, hv2⟩ : ∃ x, x = Value.slice (some ⟨g2, 0, none⟩) ((xs.map UInt8.toNat).length + [38].length) cap2 := ⟨_, rfl⟩
             have hG2' : ((wr.alloc (.cells #[.string ⟨p.1.toArray⟩, .string ⟨p.2.toArray⟩] 31))).grownBy w2 u3.ownBlock := grownBy_mono (World.grownBy_alloc (wr.alloc (.cells #[.string ⟨p.1.toArray⟩, .string ⟨p.2.toArray⟩] 31)) (.cells #[.int .u8 38] 5) _) hG2 (Or.inl rfl)
             have HS : Hid (Beside w2 B q v2 (xs ++ [38]) p.1 p.2) := by
               refine hid (HSW.out.grow ?_ hG2' ?_)
               · rw [hv2]; unfold OwnsB; simpa using hO2
               · rw [hv2]; exact lies_one (World.grownBy_alloc (wr.alloc (.cells #[.string ⟨p.1.toArray⟩, .string ⟨p.2.toArray⟩] 31)) (.cells #[.int .u8 38] 5) _) hW2
             have HBS := hid (below_grownBy HBW.out hG2' (OwnsB.block HSW.out.row) HSW.out.le)
             rw [← hv2]
             obtain ⟨y0, _, _, _⟩ := HS.out.pair.cells
             rw [Hq.out] at y0
             clear hO2 hG2 hG2' hW2 hL2 hv2 HSW HBW)
          | fail)
        have hA1 := appendEncodedP_any ⟨p.1.toArray⟩ v2 (xs ++ [38]) w2 B HS.out.row HS.out.le (by rw [size_list]; simp only [List.length_append, List.length_singleton]; omega)
        refine hA1.mono ?_
        clear hA1 y0
        rintro e w3 ⟨v3, rfl, hO3, hG3, hL3⟩
        have HS3 := hid (HS.out.grow hO3 hG3 hL3)
        have HB3 := hid (below_grownBy HBS.out hG3 (OwnsB.block HS.out.row) HS.out.le)
        clear HS HBS hO3 hG3 hL3
        go_wp2_with (first
          | (at_builtin
             refine wpList_appL rfl _ _ rfl B v3 _ rfl (OwnsB.below HS3.out.row (below_alloc w3 _)) _ [61] rfl (by simp) (sees_b1 _ _ _ rfl) (by simp; omega) (by have := HS3.out.le; simp; omega) ?_
             intro g4 cap4 w4 hO4 hG4 hW4 hL4
             obtain ⟨v4, hv4⟩ : ∃ x, x = Value.slice (some ⟨g4, 0, none⟩) ((((xs ++ [38]) ++ enc p.1).map UInt8.toNat).length + [61].length) cap4 := ⟨_, rfl⟩
             have hG4' : w3.grownBy w4 v3.ownBlock := grownBy_mono (World.grownBy_alloc w3 (.cells #[.int .u8 61] 5) _) hG4 (Or.inl rfl)
             have HS4 : Hid (Beside w4 B q v4 (((xs ++ [38]) ++ enc p.1) ++ [61]) p.1 p.2) := by
               refine hid (HS3.out.grow ?_ hG4' ?_)
               · rw [hv4]; unfold OwnsB; simpa using hO4
               · rw [hv4]; exact lies_one (World.grownBy_alloc w3 (.cells #[.int .u8 61] 5) _) hW4
             have HB4 := hid (below_grownBy HB3.out hG4' (OwnsB.block HS3.out.row) HS3.out.le)
             rw [← hv4]
             obtain ⟨_, y2, _, _⟩ := HS4.out.pair.cells
             rw [Hq.out] at y2
             clear hO4 hG4 hG4' hW4 hL4 hv4 HS3 HB3)
          | fail)
        have hA2 := appendEncodedP_any ⟨p.2.toArray⟩ v4 (((xs ++ [38]) ++ enc p.1) ++ [61]) w4 B HS4.out.row HS4.out.le (by rw [size_list]; simp only [List.length_append, List.length_singleton]; omega)
        refine hA2.mono ?_
        clear hA2 y2
        rintro e w5 ⟨v5, rfl, hO5, hG5, hL5⟩
        have HB5 := hid (below_grownBy HB4.out hG5 (OwnsB.block HS4.out.row) HS4.out.le)
        have HO5 := hid hO5
        clear HS4 HB4 hO5 hG5 hL5
        go_wp2
        go_roundw
        case rel => exact ⟨k + 1, _, by omega, by go_num, rfl, by rw [HPT.out]; simpa using HO5.out, HB5.out⟩
        case measure => simp [intOf]; omega
    · have hlt' : ¬ (k : Int) < (l.length : Int) := by omega
      rw [List.take_of_length_le (by omega)] at hxs
      have hc := hO.conv
      obtain ⟨ao3, cap3, rfl⟩ := hO.shape
      rw [hxs] at hc ⊢
      obtain ⟨M, hM⟩ : ∃ M, M = (printL l).length := ⟨_, rfl⟩
      rw [← hM] at hc ⊢
      have HB := hid hB
      clear hxs hO hB hM
      go_wp2
      go_ret
      exact ⟨rfl, HB.out⟩

end Go.Proofs.YtomjclkijakcpaaDoor
