/-
  Decode: walk with its closures; Decode of the code.
-/
import Derived.Test.YtllhibdjopfcnaaGreatDoorDec
namespace Go.Proofs.YtllhibdjopfcnaaGreatDoor
open Go.RowKit
set_option linter.unusedVariables false

/-! ### The closure of Decode -/
/-- What the closure lays down for a byte. -/
def takeB (plus signed : Bool) (b : UInt8) : UInt8 := if signed = true then b else plusB plus b
theorem takeB_true (plus : Bool) (b : UInt8) : takeB plus true b = b := rfl
theorem takeB_false (plus : Bool) (b : UInt8) : takeB plus false b = plusB plus b := rfl

/-- What Decode and its closure share: whether a + is a blank, and the bytes so far. -/
structure DecS (w : World) (B p q : Nat) (plus : Bool) (out : List UInt8) : Prop where
  row : ∃ g cap, VarAt 75 w q (.slice (some ⟨g, 0, none⟩) out.length cap) ∧ OwnsB w B (.slice (some ⟨g, 0, none⟩) out.length cap) out ∧ g ≠ q ∧ g ≠ p ∧ g < w.heap.size
  plusv : VarAt 4 w p (.bool plus)
  hp : B ≤ p
  hq : B ≤ q
  hpq : p ≠ q
theorem DecS.drewN {w : World} {B p q : Nat} {plus : Bool} {out : List UInt8} (h : DecS w B p q plus out) (n : Nat) : DecS (w.drewN n) B p q plus out := by
  obtain ⟨⟨g, cap, h1, h2, h3, h4, h5⟩, h6, h7, h8, h9⟩ := h
  exact ⟨⟨g, cap, h1.drewN n, h2.below (below_drewN' _ _ _), h3, h4, h5⟩, h6.drewN n, h7, h8, h9⟩

/-- 'append(v, one byte)', v the call's own, and where it lies then. -/
theorem wpList_appL {w : World} {ops : Array Oper} {rest : List Oper} {o : Oper} {a : Act} {Q : Exit → Act → World → Prop} (hgd : o.guard = none) (s x : Operand)
    (ho : o.op = .call { callee := .builtin .append, args := #[s, x], argTypes := #[75, 75] }) (base : Nat) (v : Value) (xs : List Nat) (hs : a.eval s = v) (hown : OwnsN .u8 5 w base v xs)
    (u : Value) (ys : List Nat) (hx : a.eval x = u) (hne : ys ≠ []) (hsee : SeesN .u8 w u ys) (hb : (xs.length + ys.length) * 1 ≤ 140737488355328) (hbase : base ≤ w.heap.size)
    (h : ∀ g cap w', OwnsN .u8 5 w' base (.slice (some ⟨g, 0, none⟩) (xs.length + ys.length) cap) (xs ++ ys) → w.grownBy w' v.ownBlock → (v.ownBlock = some g ∨ g = w.heap.size) → g < w'.heap.size → wpList Tryz.prog ops Q rest (a.put o.dst (.slice (some ⟨g, 0, none⟩) (xs.length + ys.length) cap)) w') : wpList Tryz.prog ops Q (o :: rest) a w := by
  obtain ⟨i0, hi, hz0, hz1, hz2⟩ := info_parts Tryz.info5
  have hmx : xs.length + ys.length ≤ maxLen := by simp only [maxLen]; omega
  obtain ⟨b, off, ao, cap, rfl, hcap, hnil, hao, hcell⟩ := hsee
  obtain rfl := hao hne
  have hpl : 0 < ys.length := List.length_pos_iff.2 hne
  refine wpList_append_lies w hgd s x 75 ho base 5 i0 (.int .u8 0) 1 1 Tryz.underlying75 hi hz0 hz1 hz2 rfl (by decide) v _ _ hs hown ⟨b, off, none⟩ ys.length cap (cellsN .u8 ys) hx (by simp [cellsN_len]) (fun j y hj => by
      have hjl : j < ys.length := by
        have := (List.getElem?_eq_some_iff.1 hj).1
        simpa [cellsN_len] using this
      rw [addr_add, hcell j hjl]
      rw [cellsN_get .u8 ys j hjl] at hj
      exact hj) (cellsN_one .u8 ys) hpl hmx hb hbase _ rfl ?_
  intro g cap' w' h1 h2 h3 h4
  exact h g cap' w' (by simpa [OwnsN, cellsN_app] using h1) h2 h3 h4

theorem VarAt.far {t : TypeId} {w : World} {p q : Nat} {v : Value} (h : VarAt t w p v) (hpq : p ≠ q) (u : Value) : VarAt t (w.setCell ⟨q, 0, none⟩ u) p v := by
  unfold VarAt at *
  rw [Below.heap_setCell w ⟨q, 0, none⟩ u p hpq]
  exact h
theorem ownsRow_setCell_far {w : World} {base : Nat} {e : TypeId} {size : Nat} {g m n cap q : Nat} {xs : List Value} (h : w.ownsRow base e size (.slice (some ⟨g, 0, none⟩) m cap) n xs) (hq : q ≠ g) (u : Value) : (w.setCell ⟨q, 0, none⟩ u).ownsRow base e size (.slice (some ⟨g, 0, none⟩) m cap) n xs := by
  refine ⟨h.1, ?_⟩
  rcases h.2 with ⟨hn, _⟩ | ⟨g', cap', cur, hv, hbase, hg, rest⟩
  · cases hn
  · have : g = g' := by simpa [Value.ownBlock] using congrArg Value.ownBlock hv
    subst this
    exact Or.inr ⟨g, cap', cur, hv, hbase, by rw [Below.heap_setCell w ⟨q, 0, none⟩ u g (fun e => hq e.symm)]; exact hg, rest⟩

set_option maxHeartbeats 1000000 in
theorem take_any (b : UInt8) (signed plus : Bool) (B p q : Nat) (out : List UInt8) (w : World) (hS : DecS w B p q plus out) (ho : out.length + 1 ≤ 140737488355328) :
    Calls Tryz.prog 86 #[.int .u8 (b.toNat : Int), .bool signed, .pointer (some ⟨p, 0, none⟩), .pointer (some ⟨q, 0, none⟩)] w fun e w' => e = .returned (.tuple #[]) ∧ DecS w' B p q plus (out ++ [takeB plus signed b]) ∧ Below B w w' := by
  obtain ⟨⟨g, cap, hc, hO, hgq, hgp, hgl⟩, hp, hBp, hBq, hpq⟩ := hS
  obtain ⟨k1, k2⟩ := hp.cells
  obtain ⟨k3, k4⟩ := hc.cells
  have HC := hid hc
  have HO := hid hO
  have HP := hid hp
  have hlt := hc.lt
  have hplt := hp.lt
  clear hp hc hO
  have hb43 : b = 43 ∨ (((b.toNat : Int) == 43) = false ∧ b ≠ 43) := by
    by_cases h : b = 43
    · exact Or.inl h
    · refine Or.inr ⟨?_, h⟩
      rw [beq_eq_false_iff_ne]
      intro e
      exact h (by have := byte_eq (b := b) (n := 43) (by omega); simpa using this)
  obtain ⟨T, hT⟩ : ∃ T, T = takeB plus signed b := ⟨_, rfl⟩
  rw [← hT]
  have HT := hid hT
  clear hT
  go_enter Tryz.func86, Tryz.ntmps86
  cases plus
  · have HTb : Hid (b = T) := by
      unfold Hid
      rw [HT.out]
      cases signed <;> simp [takeB, plusB]
    clear hb43
    go_wp2_with (first
      | (at_builtin
         refine wpList_appL rfl _ _ rfl B (.slice (some ⟨g, 0, none⟩) out.length cap) (out.map UInt8.toNat) rfl (OwnsB.below HO.out (below_alloc w _)) _ [T.toNat] rfl (by simp) (sees_b1 _ _ _ (by rw [← HTb.out])) (by simp; omega) (by simp; omega) ?_
         intro g2 cap2 w2 h1 h2 h3 h4
         have hq : VarAt 75 w2 q (.slice (some ⟨g, 0, none⟩) out.length cap) := by
           have hq1 : VarAt 75 (w.alloc (.cells #[.int .u8 ((b.toNat : Int))] 5)) q (.slice (some ⟨g, 0, none⟩) out.length cap) := HC.out.below (below_alloc w _) hlt
           unfold VarAt at hq1 ⊢
           rw [h2.block q (by simp; omega) (fun h => hgq (by simpa [Value.ownBlock] using h.symm))]
           exact hq1
         have hp2 : VarAt 4 w2 p (.bool false) := by
           have hq1 : VarAt 4 (w.alloc (.cells #[.int .u8 ((b.toNat : Int))] 5)) p (.bool false) := HP.out.below (below_alloc w _) hplt
           unfold VarAt at hq1 ⊢
           rw [h2.block p (by simp; omega) (fun h => hgp (by simpa [Value.ownBlock] using h.symm))]
           exact hq1
         have HB : Hid (Below B w w2) := by
           refine hid (Below.grown ((below_alloc w (.cells #[.int .u8 ((b.toNat : Int))] 5)).mono (by omega)) h2 (by simp; omega) (fun k hk => ?_))
           exact OwnsB.block HO.out k hk
         have hg2 : g2 ≠ q ∧ g2 ≠ p := by
           rcases h3 with h3 | h3
           · have : g = g2 := by simpa [Value.ownBlock] using h3
             omega
           · have : g2 = w.heap.size + 1 := by simpa using h3
             omega
         rw [List.length_map] at h1 ⊢
         rw [show out.length + [T.toNat].length = out.length + 1 from rfl] at h1 ⊢
         have HO2 : Hid (OwnsB w2 B (.slice (some ⟨g2, 0, none⟩) (out.length + 1) cap2) (out ++ [T])) := by
           unfold Hid OwnsB
           simpa using h1
         have HQ := hid hq
         have HP2 := hid hp2
         have HG2 := hid hg2
         obtain ⟨k5, k6⟩ := hq.cells
         clear k3 k4 h1 h2 hq HO HC hp2 h3 hg2)
      | fail)
    have HO3 := hid (show OwnsB (w2.setCell ⟨q, 0, none⟩ (.slice (some ⟨g2, 0, none⟩) (out.length + 1) cap2)) B (.slice (some ⟨g2, 0, none⟩) (out.length + 1) cap2) (out ++ [T]) from ownsRow_setCell_far HO2.out (fun h => HG2.out.1 h.symm) _)
    have HV3 := hid (HQ.out.store (v' := .slice (some ⟨g2, 0, none⟩) (out.length + 1) cap2))
    have HP3 := hid (VarAt.far HP2.out (q := q) (fun h => hpq h) (.slice (some ⟨g2, 0, none⟩) (out.length + 1) cap2))
    have HB3 := hid (HB.out.setCell (p := ⟨q, 0, none⟩) (by simpa using hBq) (.slice (some ⟨g2, 0, none⟩) (out.length + 1) cap2))
    go_returns
    refine ⟨rfl, ⟨⟨g2, cap2, ?_, ?_, HG2.out.1, HG2.out.2, by simpa using h4⟩, HP3.out, hBp, hBq, hpq⟩, HB3.out⟩
    · simpa using HV3.out
    · simpa using HO3.out
  · rcases hb43 with h43 | ⟨h43, hne⟩
    · have h43' : ((b.toNat : Int) == 43) = true := by rw [h43]; rfl
      cases signed
      · have HTb : Hid (T = 32) := by
          unfold Hid
          rw [HT.out, h43]
          rfl
        clear h43
        go_wp2_with (first
          | (at_builtin
             refine wpList_appL rfl _ _ rfl B (.slice (some ⟨g, 0, none⟩) out.length cap) (out.map UInt8.toNat) rfl (OwnsB.below HO.out (below_alloc w _)) _ [T.toNat] rfl (by simp) (sees_b1 _ _ _ (by rw [HTb.out]; rfl)) (by simp; omega) (by simp; omega) ?_
             intro g2 cap2 w2 h1 h2 h3 h4
             have hq : VarAt 75 w2 q (.slice (some ⟨g, 0, none⟩) out.length cap) := by
               have hq1 : VarAt 75 (w.alloc (.cells #[.int .u8 (32)] 5)) q (.slice (some ⟨g, 0, none⟩) out.length cap) := HC.out.below (below_alloc w _) hlt
               unfold VarAt at hq1 ⊢
               rw [h2.block q (by simp; omega) (fun h => hgq (by simpa [Value.ownBlock] using h.symm))]
               exact hq1
             have hp2 : VarAt 4 w2 p (.bool true) := by
               have hq1 : VarAt 4 (w.alloc (.cells #[.int .u8 (32)] 5)) p (.bool true) := HP.out.below (below_alloc w _) hplt
               unfold VarAt at hq1 ⊢
               rw [h2.block p (by simp; omega) (fun h => hgp (by simpa [Value.ownBlock] using h.symm))]
               exact hq1
             have HB : Hid (Below B w w2) := by
               refine hid (Below.grown ((below_alloc w (.cells #[.int .u8 (32)] 5)).mono (by omega)) h2 (by simp; omega) (fun k hk => ?_))
               exact OwnsB.block HO.out k hk
             have hg2 : g2 ≠ q ∧ g2 ≠ p := by
               rcases h3 with h3 | h3
               · have : g = g2 := by simpa [Value.ownBlock] using h3
                 omega
               · have : g2 = w.heap.size + 1 := by simpa using h3
                 omega
             rw [List.length_map] at h1 ⊢
             rw [show out.length + [T.toNat].length = out.length + 1 from rfl] at h1 ⊢
             have HO2 : Hid (OwnsB w2 B (.slice (some ⟨g2, 0, none⟩) (out.length + 1) cap2) (out ++ [T])) := by
               unfold Hid OwnsB
               simpa using h1
             have HQ := hid hq
             have HP2 := hid hp2
             have HG2 := hid hg2
             obtain ⟨k5, k6⟩ := hq.cells
             clear k3 k4 h1 h2 hq HO HC hp2 h3 hg2)
          | fail)
        have HO3 := hid (show OwnsB (w2.setCell ⟨q, 0, none⟩ (.slice (some ⟨g2, 0, none⟩) (out.length + 1) cap2)) B (.slice (some ⟨g2, 0, none⟩) (out.length + 1) cap2) (out ++ [T]) from ownsRow_setCell_far HO2.out (fun h => HG2.out.1 h.symm) _)
        have HV3 := hid (HQ.out.store (v' := .slice (some ⟨g2, 0, none⟩) (out.length + 1) cap2))
        have HP3 := hid (VarAt.far HP2.out (q := q) (fun h => hpq h) (.slice (some ⟨g2, 0, none⟩) (out.length + 1) cap2))
        have HB3 := hid (HB.out.setCell (p := ⟨q, 0, none⟩) (by simpa using hBq) (.slice (some ⟨g2, 0, none⟩) (out.length + 1) cap2))
        go_returns
        refine ⟨rfl, ⟨⟨g2, cap2, ?_, ?_, HG2.out.1, HG2.out.2, by simpa using h4⟩, HP3.out, hBp, hBq, hpq⟩, HB3.out⟩
        · simpa using HV3.out
        · simpa using HO3.out
      · have HTb : Hid (b = T) := by
          unfold Hid
          rw [HT.out]
          rfl
        clear h43
        go_wp2_with (first
          | (at_builtin
             refine wpList_appL rfl _ _ rfl B (.slice (some ⟨g, 0, none⟩) out.length cap) (out.map UInt8.toNat) rfl (OwnsB.below HO.out (below_alloc w _)) _ [T.toNat] rfl (by simp) (sees_b1 _ _ _ (by rw [← HTb.out])) (by simp; omega) (by simp; omega) ?_
             intro g2 cap2 w2 h1 h2 h3 h4
             have hq : VarAt 75 w2 q (.slice (some ⟨g, 0, none⟩) out.length cap) := by
               have hq1 : VarAt 75 (w.alloc (.cells #[.int .u8 ((b.toNat : Int))] 5)) q (.slice (some ⟨g, 0, none⟩) out.length cap) := HC.out.below (below_alloc w _) hlt
               unfold VarAt at hq1 ⊢
               rw [h2.block q (by simp; omega) (fun h => hgq (by simpa [Value.ownBlock] using h.symm))]
               exact hq1
             have hp2 : VarAt 4 w2 p (.bool true) := by
               have hq1 : VarAt 4 (w.alloc (.cells #[.int .u8 ((b.toNat : Int))] 5)) p (.bool true) := HP.out.below (below_alloc w _) hplt
               unfold VarAt at hq1 ⊢
               rw [h2.block p (by simp; omega) (fun h => hgp (by simpa [Value.ownBlock] using h.symm))]
               exact hq1
             have HB : Hid (Below B w w2) := by
               refine hid (Below.grown ((below_alloc w (.cells #[.int .u8 ((b.toNat : Int))] 5)).mono (by omega)) h2 (by simp; omega) (fun k hk => ?_))
               exact OwnsB.block HO.out k hk
             have hg2 : g2 ≠ q ∧ g2 ≠ p := by
               rcases h3 with h3 | h3
               · have : g = g2 := by simpa [Value.ownBlock] using h3
                 omega
               · have : g2 = w.heap.size + 1 := by simpa using h3
                 omega
             rw [List.length_map] at h1 ⊢
             rw [show out.length + [T.toNat].length = out.length + 1 from rfl] at h1 ⊢
             have HO2 : Hid (OwnsB w2 B (.slice (some ⟨g2, 0, none⟩) (out.length + 1) cap2) (out ++ [T])) := by
               unfold Hid OwnsB
               simpa using h1
             have HQ := hid hq
             have HP2 := hid hp2
             have HG2 := hid hg2
             obtain ⟨k5, k6⟩ := hq.cells
             clear k3 k4 h1 h2 hq HO HC hp2 h3 hg2)
          | fail)
        have HO3 := hid (show OwnsB (w2.setCell ⟨q, 0, none⟩ (.slice (some ⟨g2, 0, none⟩) (out.length + 1) cap2)) B (.slice (some ⟨g2, 0, none⟩) (out.length + 1) cap2) (out ++ [T]) from ownsRow_setCell_far HO2.out (fun h => HG2.out.1 h.symm) _)
        have HV3 := hid (HQ.out.store (v' := .slice (some ⟨g2, 0, none⟩) (out.length + 1) cap2))
        have HP3 := hid (VarAt.far HP2.out (q := q) (fun h => hpq h) (.slice (some ⟨g2, 0, none⟩) (out.length + 1) cap2))
        have HB3 := hid (HB.out.setCell (p := ⟨q, 0, none⟩) (by simpa using hBq) (.slice (some ⟨g2, 0, none⟩) (out.length + 1) cap2))
        go_returns
        refine ⟨rfl, ⟨⟨g2, cap2, ?_, ?_, HG2.out.1, HG2.out.2, by simpa using h4⟩, HP3.out, hBp, hBq, hpq⟩, HB3.out⟩
        · simpa using HV3.out
        · simpa using HO3.out
    · have HTb : Hid (b = T) := by
        unfold Hid
        rw [HT.out]
        cases signed <;> simp [takeB, plusB, hne]
      clear hne
      go_wp2_with (first
        | (at_builtin
           refine wpList_appL rfl _ _ rfl B (.slice (some ⟨g, 0, none⟩) out.length cap) (out.map UInt8.toNat) rfl (OwnsB.below HO.out (below_alloc w _)) _ [T.toNat] rfl (by simp) (sees_b1 _ _ _ (by rw [← HTb.out])) (by simp; omega) (by simp; omega) ?_
           intro g2 cap2 w2 h1 h2 h3 h4
           have hq : VarAt 75 w2 q (.slice (some ⟨g, 0, none⟩) out.length cap) := by
             have hq1 : VarAt 75 (w.alloc (.cells #[.int .u8 ((b.toNat : Int))] 5)) q (.slice (some ⟨g, 0, none⟩) out.length cap) := HC.out.below (below_alloc w _) hlt
             unfold VarAt at hq1 ⊢
             rw [h2.block q (by simp; omega) (fun h => hgq (by simpa [Value.ownBlock] using h.symm))]
             exact hq1
           have hp2 : VarAt 4 w2 p (.bool true) := by
             have hq1 : VarAt 4 (w.alloc (.cells #[.int .u8 ((b.toNat : Int))] 5)) p (.bool true) := HP.out.below (below_alloc w _) hplt
             unfold VarAt at hq1 ⊢
             rw [h2.block p (by simp; omega) (fun h => hgp (by simpa [Value.ownBlock] using h.symm))]
             exact hq1
           have HB : Hid (Below B w w2) := by
             refine hid (Below.grown ((below_alloc w (.cells #[.int .u8 ((b.toNat : Int))] 5)).mono (by omega)) h2 (by simp; omega) (fun k hk => ?_))
             exact OwnsB.block HO.out k hk
           have hg2 : g2 ≠ q ∧ g2 ≠ p := by
             rcases h3 with h3 | h3
             · have : g = g2 := by simpa [Value.ownBlock] using h3
               omega
             · have : g2 = w.heap.size + 1 := by simpa using h3
               omega
           rw [List.length_map] at h1 ⊢
           rw [show out.length + [T.toNat].length = out.length + 1 from rfl] at h1 ⊢
           have HO2 : Hid (OwnsB w2 B (.slice (some ⟨g2, 0, none⟩) (out.length + 1) cap2) (out ++ [T])) := by
             unfold Hid OwnsB
             simpa using h1
           have HQ := hid hq
           have HP2 := hid hp2
           have HG2 := hid hg2
           obtain ⟨k5, k6⟩ := hq.cells
           clear k3 k4 h1 h2 hq HO HC hp2 h3 hg2)
        | fail)
      have HO3 := hid (show OwnsB (w2.setCell ⟨q, 0, none⟩ (.slice (some ⟨g2, 0, none⟩) (out.length + 1) cap2)) B (.slice (some ⟨g2, 0, none⟩) (out.length + 1) cap2) (out ++ [T]) from ownsRow_setCell_far HO2.out (fun h => HG2.out.1 h.symm) _)
      have HV3 := hid (HQ.out.store (v' := .slice (some ⟨g2, 0, none⟩) (out.length + 1) cap2))
      have HP3 := hid (VarAt.far HP2.out (q := q) (fun h => hpq h) (.slice (some ⟨g2, 0, none⟩) (out.length + 1) cap2))
      have HB3 := hid (HB.out.setCell (p := ⟨q, 0, none⟩) (by simpa using hBq) (.slice (some ⟨g2, 0, none⟩) (out.length + 1) cap2))
      go_returns
      refine ⟨rfl, ⟨⟨g2, cap2, ?_, ?_, HG2.out.1, HG2.out.2, by simpa using h4⟩, HP3.out, hBp, hBq, hpq⟩, HB3.out⟩
      · simpa using HV3.out
      · simpa using HO3.out

end Go.Proofs.YtllhibdjopfcnaaGreatDoor
