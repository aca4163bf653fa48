/-
  slices.Insert of one element into a row ([]*tree.node[int]).
-/
import Derived.Test.YtkjmilcocnjjoaaTRow
namespace Go.Proofs.Ytkjmilcocnjjoaa.I.P
open Go.RowKit Tm Go.Lib
set_option linter.unusedVariables false

theorem info : (Try.prog.info? 59).map (fun i => (i.zero, i.size, i.bytes)) = some (some (.pointer none), 1, 8) := by kernel_rfl
theorem size : (Try.prog.info? 59).map (·.size) = some 1 := by kernel_rfl

set_option maxHeartbeats 4000000 in
set_option maxRecDepth 100000 in
theorem ins_any (v : Value) (n i vb : Nat) (xs vs : List Value) (w : World) (hrow : w.ownsRow 0 59 1 v n xs) (hi : i ≤ n) (hn : n ≤ 4096) (hvb : w.heap[vb]? = some (.cells vs.toArray 59 (0, 0))) (hvl : vs.length = 1)
    (hx1 : ∀ u ∈ xs, u.oneCell' = true) (hv1 : ∀ u ∈ vs, u.oneCell' = true) (hne : v.ownBlock ≠ some vb) :
    Calls Try.prog 54 #[v, .int .i64 i, .slice (some ⟨vb, 0, none⟩) 1 1] w fun e w' =>
      ∃ v', e = .returned v' ∧ w'.ownsRow 0 59 1 v' (n + 1) (xs.take (i * 1) ++ vs ++ xs.drop (i * 1)) ∧ w.grownBy w' v.ownBlock ∧ (v'.ownBlock = v.ownBlock ∨ v'.ownBlock = some w.heap.size) := by
  obtain ⟨i0, hi0, hz0, hzs, hzb⟩ := info_parts info
  have hnews : ∀ j u, vs[j]? = some u → w.cell? ((⟨vb, 0, none⟩ : Addr).add j) = some u := World.news_of_block hvb
  by_cases hin : i = n
  · subst hin
    have hx : xs.take (i * 1) ++ vs ++ xs.drop (i * 1) = xs ++ vs := by
      rw [List.take_of_length_le (by rw [hrow.1]; exact Nat.le_refl _), List.drop_eq_nil_of_le (by rw [hrow.1]; exact Nat.le_refl _), List.append_nil]
    rw [hx]
    clear hx hi
    have HR := hid hrow
    have HE := hid hne
    obtain ⟨ao, cap, rfl, hcap, hmx⟩ := ownsRow_shape hrow
    have HX := hid hmx
    clear hrow hne hmx hcap
    go_enter Try.func54, Try.ntmps54
    cases ao with
    | none =>
      go_wp2_with (at_builtin; refine wpList_append_lies _ rfl _ _ 67 rfl 0 59 i0 _ 1 8 Try.underlying67 hi0 hz0 hzs hzb rfl (by decide) _ _ _ rfl HR.out ⟨vb, 0, none⟩ 1 1 vs rfl (by simp [hvl]) hnews hv1 (by decide) (by simp only [maxLen]; omega) (by omega) (Nat.zero_le _) _ rfl ?_; intro g cap' w' h1 h2 h3 h4)
      go_ret
      refine ⟨_, rfl, h1, h2, ?_⟩
      rcases h3 with h3 | h3
      · exact .inl h3.symm
      · exact .inr (by rw [h3]; rfl)
    | some ad =>
      obtain ⟨ab, aoff, asp⟩ := ad
      go_wp2_with (at_builtin; refine wpList_append_lies _ rfl _ _ 67 rfl 0 59 i0 _ 1 8 Try.underlying67 hi0 hz0 hzs hzb rfl (by decide) _ _ _ rfl HR.out ⟨vb, 0, none⟩ 1 1 vs rfl (by simp [hvl]) hnews hv1 (by decide) (by simp only [maxLen]; omega) (by omega) (Nat.zero_le _) _ rfl ?_; intro g cap' w' h1 h2 h3 h4)
      all_goals
        (go_ret
         refine ⟨_, rfl, h1, h2, ?_⟩
         rcases h3 with h3 | h3
         · exact .inl h3.symm
         · exact .inr (by rw [h3]; rfl))
  · have hlt : i < n := by omega
    rcases hrow.2 with ⟨_, h0⟩ | ⟨g, cap, cur, rfl, hb, hg, hcap, hcm, hcs, htake⟩
    · omega
    · have hgb : g ≠ vb := fun e => hne (by rw [e]; rfl)
      have hz2 : ¬ ((i : Int) = (n : Int)) := by omega
      have hc63 : cap ≤ 9223372036854775807 := by simp only [maxLen] at hcm; omega
      by_cases hroom : n + 1 ≤ cap
      · -- IN PLACE
        have hov : ∀ o lb cb, (callFunc 72 #[.slice (some ⟨vb, 0, none⟩) 1 1, .slice (some ⟨g, o, none⟩) lb cb]).run Try.prog w = .ok (.value (.bool false)) w := fun o lb cb => by
          rw [run_callFunc_extern Try.func72 (by kernel_rfl) (by kernel_rfl) (by kernel_rfl) (e := Extern.SlicesOverlaps.overlaps #[67, 67] #[4]) (by kernel_rfl),
            Lib.run_overlaps_apart w 67 4 59 Try.underlying67 1 (Try.sizeOf59) ⟨vb, 0, none⟩ ⟨g, o, none⟩ 1 1 lb cb (fun e => hgb e.symm) 59 59 vs.toArray.size cur.size (by simp [World.shape?, hvb]) (by simp [World.shape?, hg]) (by omega) (by simp [World.frozen?, hvb]) (by simp [World.frozen?, hvb])]
          rfl
        obtain ⟨sp, hsp, hwide⟩ := ownsRow_widen hrow hroom
        have hdl : (xs.drop (i * 1)).length = (n - i) * 1 := by rw [List.length_drop, hrow.1]; omega
        obtain ⟨w1, hr1, ho1, hg1⟩ : ∃ w1, (∀ ty dc sc, (Builtin.copy_ #[67, 67] ty #[.slice (some ⟨g, (i + 1) * 1, none⟩) (n - i) dc, .slice (some ⟨g, i * 1, none⟩) (n + 1 - i) sc]).run Try.prog w.drew = .ok (goInt ((n - i : Nat))) w1) ∧
            w1.ownsRow 0 59 1 (.slice (some ⟨g, 0, none⟩) (n + 1) cap) (n + 1) ((xs ++ sp).take ((i + 1) * 1) ++ xs.drop (i * 1) ++ (xs ++ sp).drop ((i + 1 + (n - i)) * 1)) ∧ w.drew.grownBy w1 (some g) := by
          exact run_copyR (P := Try.prog) w.drew 67 67 59 1 g (n + 1) cap (i + 1) (n - i) (xs ++ sp) (xs.drop (i * 1)) ⟨g, i * 1, none⟩ (n + 1 - i) (n - i) Try.underlying67 size hwide.drew (by simp only [Nat.min_def]; split <;> omega) hdl
            (fun j u hj => by
              have := hrow.cells (g := g) rfl (i * 1 + j) u (by rwa [List.getElem?_drop] at hj)
              rw [addr_add] at this ⊢
              rw [Nat.zero_add] at this
              exact this) (fun u hu => hx1 u (List.mem_of_mem_drop hu)) (by omega)
        have hvb1 : w1.heap[vb]? = some (.cells vs.toArray 59 (0, 0)) := by
          rw [hg1.block vb (Array.getElem?_eq_some_iff.1 hvb).1 (fun e => hgb (by cases e; rfl))]; exact hvb
        obtain ⟨L1, hL1⟩ : ∃ L1, L1 = (xs ++ sp).take ((i + 1) * 1) ++ xs.drop (i * 1) ++ (xs ++ sp).drop ((i + 1 + (n - i)) * 1) := ⟨_, rfl⟩
        rw [← hL1] at ho1
        obtain ⟨w2, hr2, ho2, hg2⟩ : ∃ w2, (∀ ty dc, (Builtin.copy_ #[67, 67] ty #[.slice (some ⟨g, i * 1, none⟩) (n + 1 - i) dc, .slice (some ⟨vb, 0, none⟩) 1 1]).run Try.prog w1 = .ok (goInt ((1 : Nat))) w2) ∧
            w2.ownsRow 0 59 1 (.slice (some ⟨g, 0, none⟩) (n + 1) cap) (n + 1) (L1.take (i * 1) ++ vs ++ L1.drop ((i + 1) * 1)) ∧ w1.grownBy w2 (some g) := by
          obtain ⟨w2, hr2, ho2, hg2⟩ := run_copyR (P := Try.prog) w1 67 67 59 1 g (n + 1) cap i 1 L1 vs ⟨vb, 0, none⟩ 1 (n + 1 - i) Try.underlying67 size ho1 (by simp only [Nat.min_def]; split <;> omega) (by simp [hvl])
            (World.news_of_block hvb1) hv1 (by omega)
          exact ⟨w2, fun ty dc => hr2 ty dc 1, ho2, hg2⟩
        have hfin : L1.take (i * 1) ++ vs ++ L1.drop ((i + 1) * 1) = xs.take (i * 1) ++ vs ++ xs.drop (i * 1) := by
          have hxl := hrow.1
          have e1 : L1 = (xs ++ sp).take ((i + 1) * 1) ++ xs.drop (i * 1) := by
            have e0 : (xs ++ sp).drop ((i + 1 + (n - i)) * 1) = [] := List.drop_eq_nil_of_le (by simp only [List.length_append, hxl, hsp]; omega)
            rw [hL1, e0, List.append_nil]
          have e2 : ((xs ++ sp).take ((i + 1) * 1)).length = (i + 1) * 1 := by simp only [List.length_take, List.length_append, hxl, hsp]; omega
          rw [e1, List.drop_left' e2, List.take_append_of_le_length (by rw [e2]; omega), List.take_take, Nat.min_eq_left (by omega), List.take_append_of_le_length (by rw [hxl]; omega)]
        rw [hfin] at ho2
        have HRES : Hid (w2.ownsRow 0 59 1 (.slice (some ⟨g, 0, none⟩) (n + 1) cap) (n + 1) (xs.take (i * 1) ++ vs ++ xs.drop (i * 1)) ∧ w.grownBy w2 (some g)) :=
          hid ⟨ho2, ⟨hg2.os.trans hg1.os, hg2.tape.trans hg1.tape, hg2.output.trans hg1.output, Nat.le_trans hg1.size hg2.size, fun k hk hne => (hg2.block k (Nat.lt_of_lt_of_le hk hg1.size) hne).trans (hg1.block k hk hne)⟩⟩
        have hw1 : IntKind.i64.wrap ((i : Int) + 1) = (i : Int) + 1 := by rw [IntKind.wrap_i64]; omega
        have hb1 : (0 : Int) ≤ (i : Int) + 1 := by omega
        have htn : ((i : Int) + 1).toNat = i + 1 := by omega
        have hb2 : ¬ (cap = i + 1) := by omega
        have hb3 : (i : Int) ≤ (n : Int) + 1 := by omega
        have hb4 : ¬ (cap = i) := by omega
        have hb5 : (i : Int) + 1 ≤ (n : Int) + 1 := by omega
        clear hfin hL1 ho1 ho2 hg1 hg2 hvb1 hwide hdl hsp hrow hne hb hg hcm hcs htake hx1 hv1 hvl hnews hvb hi0 hz0 hzs hzb hgb
        (try simp only [Nat.mul_one] at hr1 hr2)
        go_enter Try.func54, Try.ntmps54
        go_wp2_with (simp only [hov])
        go_region_law (refine step_copy_runI rfl _ _ 67 67 rfl _ _ (by simp [Act.eval, Act.put]) (by simp [Act.eval, Act.put]) (hr1 _ _ _) ?_)
        go_wp2_with (at_builtin; refine wpList_copy_runI _ rfl _ _ 67 67 rfl _ _ rfl rfl (hr2 _ _) ?_)
        go_ret
        exact ⟨_, rfl, HRES.out.1, HRES.out.2, .inl rfl⟩
      · -- A NEW ROW
        have hcn : cap = n := by omega
        obtain rfl := hcn
        have hkk : ((cap : Int) + 1 - (i : Int)) = ((cap + 1 - i : Nat) : Int) := by omega
        have hik : i + (cap + 1 - i) = cap + 1 := by omega
        obtain ⟨g', cap', w1, zs, hr0, hzl, ho1, hg1, hg'⟩ : ∃ g' cap' w1 zs, (Builtin.append_ #[67, 3] 67 #[.slice (some ⟨g, 0, none⟩) i cap, .int .i64 ((cap : Int) + 1 - (i : Int))]).run Try.prog w = .ok (.slice (some ⟨g', 0, none⟩) (cap + 1) cap') w1 ∧ zs.length = (cap + 1 - i) * 1 ∧
            w1.ownsRow 0 59 1 (.slice (some ⟨g', 0, none⟩) (cap + 1) cap') (cap + 1) (xs.take (i * 1) ++ zs) ∧ w.grownBy w1 none ∧ g' = w.heap.size := by
          have := run_appZ (P := Try.prog) w 67 3 67 59 i0 _ 1 8 .i64 .i64 Try.underlying67 Try.underlying3 hi0 hz0 hzs hzb rfl (by decide) g i cap (cap + 1 - i) (xs.take (i * 1)) (ownsRow_cut hrow i hi) (by omega) (by omega) (by omega) (by omega)
          rw [hik] at this
          rw [hkk]
          exact this
        have hcap' : cap + 1 ≤ cap' ∧ cap' ≤ 9223372036854775807 := by
          obtain ⟨_, c2, e, h1, h2⟩ := ownsRow_shape ho1
          cases e
          simp only [maxLen] at h2
          omega
        have hgl : g < w.heap.size := (Array.getElem?_eq_some_iff.1 hg).1
        have hvl2 : vb < w.heap.size := (Array.getElem?_eq_some_iff.1 hvb).1
        have hvb1 : w1.drew.heap[vb]? = some (.cells vs.toArray 59 (0, 0)) := by
          show w1.heap[vb]? = _
          rw [hg1.block vb hvl2 (fun e => by cases e)]; exact hvb
        have hrow1 : w1.ownsRow 0 59 1 (.slice (some ⟨g, 0, none⟩) cap cap) cap xs := hrow.kept hg1 (.inr (fun e => by cases e))
        obtain ⟨L1, hL1⟩ : ∃ L1, L1 = xs.take (i * 1) ++ zs := ⟨_, rfl⟩
        rw [← hL1] at ho1
        obtain ⟨w2, hr1, ho2, hg2⟩ : ∃ w2, (∀ ty dc sc, (Builtin.copy_ #[67, 67] ty #[.slice (some ⟨g', i * 1, none⟩) (cap + 1 - i) dc, .slice (some ⟨vb, 0, none⟩) 1 sc]).run Try.prog w1 = .ok (goInt ((1 : Nat))) w2) ∧
            w2.ownsRow 0 59 1 (.slice (some ⟨g', 0, none⟩) (cap + 1) cap') (cap + 1) (L1.take (i * 1) ++ vs ++ L1.drop ((i + 1) * 1)) ∧ w1.grownBy w2 (some g') :=
          run_copyR (P := Try.prog) w1 67 67 59 1 g' (cap + 1) cap' i 1 L1 vs ⟨vb, 0, none⟩ 1 (cap + 1 - i) Try.underlying67 size ho1 (by simp only [Nat.min_def]; split <;> omega) (by simp [hvl])
            (World.news_of_block hvb1) hv1 (by omega)
        have hrow2 : w2.ownsRow 0 59 1 (.slice (some ⟨g, 0, none⟩) cap cap) cap xs := hrow1.kept hg2 (.inr (fun e => by simp [Value.ownBlock] at e; omega))
        obtain ⟨L2, hL2⟩ : ∃ L2, L2 = L1.take (i * 1) ++ vs ++ L1.drop ((i + 1) * 1) := ⟨_, rfl⟩
        rw [← hL2] at ho2
        have hdl : (xs.drop (i * 1)).length = (cap - i) * 1 := by rw [List.length_drop, hrow.1]; omega
        obtain ⟨w3, hr2, ho3, hg3⟩ : ∃ w3, (∀ ty dc sc, (Builtin.copy_ #[67, 67] ty #[.slice (some ⟨g', (i + 1) * 1, none⟩) (cap - i) dc, .slice (some ⟨g, i * 1, none⟩) (cap - i) sc]).run Try.prog w2.drew = .ok (goInt ((cap - i : Nat))) w3) ∧
            w3.ownsRow 0 59 1 (.slice (some ⟨g', 0, none⟩) (cap + 1) cap') (cap + 1) (L2.take ((i + 1) * 1) ++ xs.drop (i * 1) ++ L2.drop ((i + 1 + (cap - i)) * 1)) ∧ w2.drew.grownBy w3 (some g') :=
          run_copyR (P := Try.prog) w2.drew 67 67 59 1 g' (cap + 1) cap' (i + 1) (cap - i) L2 (xs.drop (i * 1)) ⟨g, i * 1, none⟩ (cap - i) (cap - i) Try.underlying67 size ho2.drew (by simp) hdl
            (fun j u hj => by
              have := hrow2.cells (g := g) rfl (i * 1 + j) u (by rwa [List.getElem?_drop] at hj)
              rw [addr_add] at this ⊢
              rw [Nat.zero_add] at this
              exact this) (fun u hu => hx1 u (List.mem_of_mem_drop hu)) (by omega)
        have hfin : L2.take ((i + 1) * 1) ++ xs.drop (i * 1) ++ L2.drop ((i + 1 + (cap - i)) * 1) = xs.take (i * 1) ++ vs ++ xs.drop (i * 1) := by
          have hxl := hrow.1
          have t1 : (xs.take (i * 1)).length = i * 1 := by rw [List.length_take, hxl]; omega
          have e1 : L1.take (i * 1) = xs.take (i * 1) := by rw [hL1, List.take_left' t1]
          have l1 : L1.length = (cap + 1) * 1 := by rw [hL1, List.length_append, t1, hzl]; omega
          have e2 : L2.length = (cap + 1) * 1 := by rw [hL2, e1]; simp only [List.length_append, t1, hvl, List.length_drop, l1]; omega
          have e0 : L2.drop ((i + 1 + (cap - i)) * 1) = [] := List.drop_eq_nil_of_le (by rw [e2]; omega)
          have e3 : L2.take ((i + 1) * 1) = xs.take (i * 1) ++ vs := by
            rw [hL2, e1]
            exact List.take_left' (by rw [List.length_append, t1, hvl]; omega)
          rw [e0, e3, List.append_nil]
        rw [hfin] at ho3
        have HRES : Hid (w3.ownsRow 0 59 1 (.slice (some ⟨g', 0, none⟩) (cap + 1) cap') (cap + 1) (xs.take (i * 1) ++ vs ++ xs.drop (i * 1)) ∧ w.grownBy w3 (some g) ∧ g' = w.heap.size) :=
          hid ⟨ho3, ⟨(hg3.os.trans hg2.os).trans hg1.os, (hg3.tape.trans hg2.tape).trans hg1.tape, (hg3.output.trans hg2.output).trans hg1.output, Nat.le_trans (Nat.le_trans hg1.size hg2.size) hg3.size, fun k hk hne =>
            ((hg3.block k (Nat.lt_of_lt_of_le (Nat.lt_of_lt_of_le hk hg1.size) hg2.size) (fun e => by cases e; omega)).trans (hg2.block k (Nat.lt_of_lt_of_le hk hg1.size) (fun e => by cases e; omega))).trans (hg1.block k hk (fun e => by cases e))⟩, hg'⟩
        have hw1 : IntKind.i64.wrap ((i : Int) + 1) = (i : Int) + 1 := by rw [IntKind.wrap_i64]; omega
        have hb1 : (0 : Int) ≤ (i : Int) + 1 := by omega
        have htn : ((i : Int) + 1).toNat = i + 1 := by omega
        have hb2 : ¬ (cap' = i + 1) := by omega
        have hb3 : (i : Int) ≤ (cap : Int) + 1 := by omega
        have hb4 : ¬ (cap' = i) := by omega
        have hb5 : ¬ (cap = i) := by omega
        have hb6 : (cap : Int) < (cap : Int) + 1 := by omega
        have hb7 : cap' ≤ 9223372036854775807 := hcap'.2
        have hb8 : cap + 1 ≤ cap' := hcap'.1
        clear hcap' hfin hL1 hL2 ho1 ho2 ho3 hg1 hg2 hg3 hvb1 hrow1 hrow2 hdl hrow hne hb hg hcm hcs htake hx1 hv1 hvl hnews hvb hi0 hz0 hzs hzb hgb hzl hg' hgl hvl2 hkk hik hcap
        (try simp only [Nat.mul_one] at hr1 hr2)
        go_enter Try.func54, Try.ntmps54
        go_wp2_with (first
          | (at_builtin; refine Lib.wpList_append_run _ rfl _ _ _ _ rfl _ _ rfl rfl _ _ hr0 ?_)
          | (at_builtin; refine wpList_copy_runI _ rfl _ _ 67 67 rfl _ _ rfl rfl (hr1 _ _ _) ?_))
        go_region_law (refine step_copy_runI rfl _ _ 67 67 rfl _ _ (by simp [Act.eval, Act.put]) (by simp [Act.eval, Act.put]) (hr2 _ _ _) ?_)
        go_wp2
        go_ret
        exact ⟨_, rfl, HRES.out.1, HRES.out.2.1, .inr (by rw [HRES.out.2.2]; rfl)⟩

end Go.Proofs.Ytkjmilcocnjjoaa.I.P
