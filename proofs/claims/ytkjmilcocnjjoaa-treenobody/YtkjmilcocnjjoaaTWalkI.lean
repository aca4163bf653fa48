/-
  walk: the keys from one on are handed out, rising.
-/
import Derived.Test.YtkjmilcocnjjoaaTTreeI
import Derived.Test.YtkjmilcocnjjoaaTrMathD
import Derived.RangeFuncNested
import Derived.RangeFuncBound
import Derived.RangeFuncCalls
import Derived.RangeFuncLeaves
import Derived.Shelf.Abstract
import Derived.Shelf.RegionOpen
import Derived.OwnWalkIn
import Derived.TacticsInMore
import Derived.LoopNIn
import Derived.LoopIn
import Derived.Stop.RegionWithIn
namespace Go.Proofs.Ytkjmilcocnjjoaa.I
open Go.RowKit Go.Shelf Tm
set_option linter.unusedVariables false

attribute [local go_sem] Oper.semAt_some

theorem room_of_none {F : Fence} (hd : F.depth = none) (k : Nat) : F.room k := fun d h => by rw [hd] at h; cases h
theorem roundIn_any {F : Fence} (hd : F.depth = none) {m m' : Nat} {P : Program} {l : Nat} {f : FuncId} {tmps : Array Value} {assign body : Code} {w : World} {R : Ending → World → Prop}
    (h : RoundIn F m P l f tmps assign body w R) : RoundIn F m' P l f tmps assign body w R := ⟨h.1, fun c cs _ => h.2 c cs (room_of_none hd _)⟩
theorem yieldAt_any {F : Fence} (hd : F.depth = none) {m : Nat} (m' : Nat) {P : Program} {l : Nat} {args : Array Value} {W : World} {R : Ending → World → Prop} (h : YieldAt F m P l args W R) : YieldAt F m' P l args W R := by
  obtain ⟨fn, tmps, assign, body, hy, hR⟩ := h
  exact ⟨fn, tmps, assign, body, hy, roundIn_any hd hR⟩

theorem two_ways {A B : World → Prop} {e : Ending} {W : World} (h : (e = .returned (.bool true) ∧ A W) ∨ (e = .returned (.bool false) ∧ B W)) : ∃ bb : Bool, e = .returned (.bool bb) ∧ Hid ((bb = true → A W) ∧ (bb = false → B W)) := by
  rcases h with ⟨h1, h2⟩ | ⟨h1, h2⟩
  · exact ⟨true, h1, hid ⟨fun _ => h2, fun h => (by cases h)⟩⟩
  · exact ⟨false, h1, hid ⟨fun h => (by cases h), fun _ => h2⟩⟩

/-- A tree below a block. -/
def Low (n₀ : Nat) (W : World) (d : Nat) (t : LT d) : Prop := At W d t ∧ ∀ b, 0 < cnt b d t → b < n₀
theorem Low.below {n₀ : Nat} {W W' : World} {d : Nat} {t : LT d} (h : Low n₀ W d t) (hb : Below n₀ W W') : Low n₀ W' d t :=
  ⟨at_gr (F := fun b => n₀ ≤ b) ⟨hb.os, hb.tape, hb.output, hb.size, fun k _ hn => hb.block k (by omega)⟩ h.1 (fun b h1 h2 => by have := h.2 b h1; omega), h.2⟩

set_option maxRecDepth 100000 in
set_option maxHeartbeats 4000000 in
theorem walk_leaf (l n₀ N : Nat) (J Jx : List It → World → Prop) (hJ : ∀ s W W', J s W → W.grownBy W' none → J s W')
    (hY : ∀ m pre x W, J pre W → pre.length < N → YieldAt Fence.wide m Try.prog l #[.string x.1, encI x.2] W fun e W' =>
      (e = .returned (.bool true) ∧ J (pre ++ [x]) W' ∧ Below n₀ W W') ∨ (e = .returned (.bool false) ∧ Jx (pre ++ [x]) W'))
    (k : ByteArray) (p : Nat) (vi : Value) (is : List It) (n : Nat) (pre : List It) (W : World) (h : Low n₀ W 0 (lf p vi is)) (hs : srt keyLt is) (hl : is.length ≤ 200) (h0 : J pre W) (hN : pre.length + (geL keyLt k is).length ≤ N) (hn0 : n₀ ≤ W.heap.size) :
    CallsIn Fence.wide n Try.prog 47 #[.pointer (some ⟨p, 0, none⟩), .string k, .func (.yield l) #[] #[]] W fun e W' =>
      (e = .returned (.bool true) ∧ J (pre ++ geL keyLt k is) W' ∧ Below n₀ W W') ∨ (e = .returned (.bool false) ∧ ∃ q, q <+: geL keyLt k is ∧ Jx (pre ++ q) W') := by
  obtain ⟨a1, a2⟩ := at_lf.1 h.1
  have hf := find_any p vi is k W (node_cell0 a1) a2.sees hs (by omega)
  have hat := at_le (lt := keyLt) k is
  have HGE : Hid (geL keyLt k is = is.drop (atL keyLt k is)) := hid rfl
  generalize geL keyLt k is = GE at *
  generalize atL keyLt k is = at' at *
  generalize hasL keyLt k is = hb at *
  refine callsIn_of_wp Try.func47 rfl trivial ?_ rfl
  simp only [Try.ntmps47, List.size_toArray, List.length_cons, List.length_nil, Nat.reduceAdd, Nat.reduceSub, Array.replicate_succ, Array.replicate_zero, List.push_toArray, List.append_toArray, List.nil_append, List.cons_append]
  unfold ptr at hf
  have hdd : ∀ k : Nat, (Fence.wide.depth.isSome = true → 1 ≤ k) := fun k h => by simp [Fence.wide] at h
  have HA1 := hid a1
  have HA2 := hid a2
  have HLW := hid h
  have H0 := hid h0
  have HY := hid hY
  have HAT := hid hat
  have HN := hid hN
  have HJ := hid hJ
  have hpl := h.2 p (by rw [cnt_lf]; have := eqN_self p; omega)
  have hq0 := node_cell0 a1
  have hq1 := node_cell1 a1
  obtain ⟨ao, cap, hvi, hx1, hx2⟩ := ownsRow_shape a2
  clear a1 a2 h h0 hY hat hN hJ hs hx1 hx2
  rw [hvi] at hq0
  gi_wp2
  refine ⟨trivial, hdd _, ?_⟩
  refine (callsIn_wide.2 hf).mono ?_
  clear hf
  rintro e W1 ⟨rfl, hW1⟩
  have HB1 : Hid (Below n₀ W W1) := hid (hW1.mono hn0)
  have HJ1 : Hid (J pre W1) := hid (HJ.out _ _ _ H0.out ⟨hW1.os, hW1.tape, hW1.output, hW1.size, fun k hk _ => hW1.block k hk⟩)
  clear hW1
  gi_wp2
  gi_loopw [9] (fun i wr => ∃ j : Nat, i = .int .i64 (j : Int) ∧ at' ≤ j ∧ j ≤ is.length ∧ Hid (J (pre ++ (is.drop at').take (j - at')) wr ∧ Below n₀ W wr)) (fun i _ => is.length - (intOf i).toNat)
  case atStart =>
    exact ⟨at', rfl, Nat.le_refl _, HAT.out, hid ⟨by simpa using HJ1.out, HB1.out⟩⟩
  case round =>
    obtain ⟨j, rfl, hj1, hj2, hJB⟩ := hrel
    have c0 : wr.cell? ⟨p, 0, none⟩ = some (.slice ao is.length cap) := (hJB.out.2.cell (p := ⟨p, 0, none⟩) hpl).trans hq0
    have c1 : wr.cell? ⟨p, 1, none⟩ = some (.slice none 0 0) := (hJB.out.2.cell (p := ⟨p, 1, none⟩) hpl).trans hq1
    have hly := leaf_yes p 0 wr c1
    unfold ptr at hly
    by_cases hjl : j = is.length
    · subst hjl
      gi_wp2
      refine ⟨trivial, hdd _, ?_⟩
      refine (callsIn_wide.2 hly).mono ?_
      rintro e wr2 ⟨rfl, hwr2⟩
      subst hwr2
      gi_wp2
      refine ⟨trivial, ?_⟩
      gi_wp2
      go_ret
      refine .inl ⟨rfl, ?_, hJB.out.2⟩
      have := hJB.out.1
      rw [HGE.out]
      rwa [List.take_of_length_le (by simp)] at this
    · have hjlt : j < is.length := by omega
      have hjl2 : ¬ ((j : Int) = (is.length : Int)) := by omega
      obtain ⟨g, cap2, hv2, hc2, hg2, hfr2, hcell2⟩ := row_form HA2.out (by omega)
      rw [hvi] at hv2
      cases hv2
      have hgl := HLW.out.2 g (by rw [cnt_lf, hvi, rc_at, if_pos rfl]; omega)
      obtain ⟨k1, k2⟩ := hcell2 j hjlt
      have k1' := (hJB.out.2.cell (p := ⟨g, j * 2, none⟩) hgl).trans k1
      have k2' := (hJB.out.2.cell (p := ⟨g, j * 2 + 1, none⟩) hgl).trans k2
      obtain ⟨fn, tmps, assign, body, hy, hR⟩ := HY.out (n - 1) _ (is[j]) wr.drew (HJ.out _ _ _ hJB.out.1 ⟨rfl, rfl, rfl, Nat.le_refl _, fun _ _ _ => rfl⟩) (by have e := HN.out; rw [HGE.out] at e; simp at e ⊢; omega)
      generalize hx : is[j] = x at *
      have HX := hid hx
      clear hx hcell2 hfr2 k1 k2
      simp only [encI] at k2' hy
      gi_wp2
      refine ⟨trivial, hdd _, ?_⟩
      refine (callsIn_wide.2 hly).mono ?_
      rintro e wr2 ⟨rfl, hwr2⟩
      subst hwr2
      gi_wp2
      refine ⟨trivial, ?_⟩
      gi_wp2
      gi_region_with (refine ⟨hdd _, ?_⟩; refine hR.mono ?_; clear hR; rintro e W3 hres; obtain ⟨bb, rfl, hbb⟩ := two_ways (A := fun W' => J _ W' ∧ Below n₀ _ W') (B := fun W' => Jx _ W') hres; clear hres)
      all_goals
        cases bb with
        | true =>
          have hJ3 := hbb.out.1 rfl
          have HJ3 := hid hJ3
          clear hbb hJ3
          gi_wp2
          go_roundw
          case rel =>
            refine ⟨j + 1, by simp, by omega, by omega, hid ⟨?_, hJB.out.2.trans ((Below.drew (Below.refl _ _)).trans HJ3.out.2)⟩⟩
            have e := HJ3.out.1
            rw [List.append_assoc] at e
            have e2 : (is.drop at').take (j - at') ++ [x] = (is.drop at').take (j + 1 - at') := by
              rw [show j + 1 - at' = (j - at') + 1 by omega, List.take_succ_eq_append_getElem (by simp; omega)]
              congr 1
              simp only [List.getElem_drop]
              rw [← HX.out]
              congr 2
              omega
            rw [← e2]; exact e
          case measure => simp [intOf]; omega
        | false =>
          have hJ3 := hbb.out.2 rfl
          have HJ3 := hid hJ3
          clear hbb hJ3
          gi_wp2
          go_ret
          refine .inr ⟨rfl, (is.drop at').take (j - at') ++ [x], ?_, by rw [← List.append_assoc]; exact HJ3.out⟩
          rw [HGE.out]
          have e2 : (is.drop at').take (j - at') ++ [x] = (is.drop at').take (j + 1 - at') := by
            rw [show j + 1 - at' = (j - at') + 1 by omega, List.take_succ_eq_append_getElem (by simp; omega)]
            congr 1
            simp only [List.getElem_drop]
            rw [← HX.out]
            congr 2
            omega
          rw [e2]
          exact List.take_prefix _ _

end Go.Proofs.Ytkjmilcocnjjoaa.I
