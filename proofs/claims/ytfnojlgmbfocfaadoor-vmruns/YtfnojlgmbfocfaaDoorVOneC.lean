/-
  The document's single instruction: its ends.
-/
import Derived.Test.YtfnojlgmbfocfaaDoorVOneB
namespace Go.Proofs.YtfnojlgmbfocfaaDoor
open Go.RowKit
set_option linter.unusedVariables false
set_option linter.unusedSimpArgs false

theorem stepL_at {l : List InsL} {k : Nat} (hk : k < l.length) {i : InsL} (hi : l[k] = i) (st ca : List Int) (b : List Nat) :
    stepL l ⟨(k : Int), st, ca⟩ b = if fitsL i st.length = true then (match doL i ⟨(k : Int), st, ca⟩ b with | none => ((4, 0), ⟨(k : Int), st, ca⟩, b) | some r => (kindO i, r.1, r.2)) else ((4, 0), ⟨(k : Int), st, ca⟩, b) := by
  unfold stepL
  have : l[((⟨(k : Int), st, ca⟩ : StL).pc).toNat]? = some i := by
    show l[((k : Int)).toNat]? = some i
    rw [Int.toNat_natCast, List.getElem?_eq_getElem hk, hi]
  rw [this]
  rfl
theorem step_nofit {l : List InsL} {k : Nat} (hk : k < l.length) {i : InsL} (hi : l[k] = i) {st ca : List Int} {b : List Nat} (hf : fitsL i st.length = false) : stepL l ⟨(k : Int), st, ca⟩ b = ((4, 0), ⟨(k : Int), st, ca⟩, b) := by
  rw [stepL_at hk hi, hf]
  rfl
theorem step_fail {l : List InsL} {k : Nat} (hk : k < l.length) {i : InsL} (hi : l[k] = i) {st ca : List Int} {b : List Nat} (hd : doL i ⟨(k : Int), st, ca⟩ b = none) : stepL l ⟨(k : Int), st, ca⟩ b = ((4, 0), ⟨(k : Int), st, ca⟩, b) := by
  rw [stepL_at hk hi, hd]
  split <;> rfl
theorem step_done {l : List InsL} {k : Nat} (hk : k < l.length) {i : InsL} (hi : l[k] = i) {st ca : List Int} {b : List Nat} (hf : fitsL i st.length = true) {s' : StL} {b' : List Nat} (hd : doL i ⟨(k : Int), st, ca⟩ b = some (s', b')) : stepL l ⟨(k : Int), st, ca⟩ b = (kindO i, s', b') := by
  rw [stepL_at hk hi, hf, if_pos rfl, hd]

theorem own_far {X : World} {q z : Nat} {v : Value} {xs : List Int} (h : Owns X q v xs) (hq : z + 6 ≤ q) : ∀ bb off ao cap, v = .slice ao xs.length cap → ao = some ⟨bb, off, none⟩ → bb ≠ z + 1 + 1 ∧ bb ≠ z + 1 + 1 + 1 ∧ bb ≠ z + 1 + 1 + 1 + 1 := by
  intro bb off ao cap e ea
  subst ea
  subst e
  have := (h.lt bb (by simp [Value.ownBlock])).1
  omega
/-- The new state is told. -/
theorem one_new {w X : World} {q p : Nat} {pc0 : Int} {vs vk vb : Value} {op a pc : Int} {us uk ub : Value} {st ca : List Int} {b : List Nat} {R : (Int × Int) × StL × List Nat} (h : Mid w X q p pc0 vs vk vb op a pc us uk ub st ca)
    (hub : SeesN .u8 X ub b) (hfar : b ≠ [] → ∀ bb off ao cap, ub = .slice ao b.length cap → ao = some ⟨bb, off, none⟩ → bb ≠ w.heap.size + 1 + 1 ∧ bb ≠ w.heap.size + 1 + 1 + 1 ∧ bb ≠ w.heap.size + 1 + 1 + 1 + 1) (hnb : NewV w ub vb) (K T : Int) (hR : R = ((K, T), ⟨pc, st, ca⟩, b)) :
    OneR w vs vk vb R (.returned (.tuple #[.agg #[.int .i64 pc, us, uk], .agg #[ub], .agg #[.int .i64 K, .int .i64 T, .int .i64 0]])) (fill7 X w.heap.size (.int .i64 pc) us uk ub (.int .i64 K) (.int .i64 T) (.int .i64 0)).drew := by
  subst hR
  refine ⟨us, uk, ub, rfl, ?_, ?_, ?_, ?_, Or.inr (fun j hj => by have := (h.os.lt j hj).1; have := h.hq; omega), Or.inr (fun j hj => by have := (h.ok.lt j hj).1; have := h.hq; omega), hnb⟩
  · exact (sees_fill h.os.sees _ _ _ _ _ _ _ (own_far h.os h.hq)).below (Below.drew (Below.refl _ _))
  · exact (sees_fill h.ok.sees _ _ _ _ _ _ _ (own_far h.ok h.hq)).below (Below.drew (Below.refl _ _))
  · exact (seesN_fill hub _ _ _ _ _ _ _ hfar).below (Below.drew (Below.refl _ _))
  · exact Below.drew (fill7_below h.bel (Nat.le_refl _) _ _ _ _ _ _ _)
/-- The old state is told. -/
theorem one_old {w X : World} {pc : Int} {vs vk vb : Value} {st ca : List Int} {b : List Nat} {R : (Int × Int) × StL × List Nat} (hbel : Below w.heap.size w X) (hs : Sees w vs st) (hk : Sees w vk ca) (hb : SeesN .u8 w vb b) (K : Int) (hR : R = ((K, 0), ⟨pc, st, ca⟩, b)) :
    OneR w vs vk vb R (.returned (.tuple #[.agg #[.int .i64 pc, vs, vk], .agg #[vb], .agg #[.int .i64 K, .int .i64 0, .int .i64 0]])) (fill7 X w.heap.size (.int .i64 pc) vs vk vb (.int .i64 K) (.int .i64 0) (.int .i64 0)).drew := by
  subst hR
  have hB : Below w.heap.size w (fill7 X w.heap.size (.int .i64 pc) vs vk vb (.int .i64 K) (.int .i64 0) (.int .i64 0)).drew := Below.drew (fill7_below hbel (Nat.le_refl _) _ _ _ _ _ _ _)
  exact ⟨vs, vk, vb, rfl, hs.below hB, hk.below hB, hb.below hB, hB, Or.inl rfl, Or.inl rfl, Or.inl rfl⟩
/-- The state that is being made, behind the document's Copy. -/
theorem mid_new {w W w2 : World} {pc0 : Int} {vs vk vb us uk : Value} {op a : Int} {st ca : List Int} (hsix : Six W w.heap.size pc0 vs vk vb) (hbel : Below w.heap.size w W) (hsz : W.heap.size = w.heap.size + 6)
    (o1 : Owns w2 (W.alloc (.cells #[.int .i64 op, .int .i64 a] 57)).heap.size us st) (o2 : Owns w2 (W.alloc (.cells #[.int .i64 op, .int .i64 a] 57)).heap.size uk ca) (sd : ∀ j, us.ownBlock = some j → uk.ownBlock ≠ some j)
    (b1 : Below (W.alloc (.cells #[.int .i64 op, .int .i64 a] 57)).heap.size (W.alloc (.cells #[.int .i64 op, .int .i64 a] 57)) w2) :
    Mid w (w2.alloc (.cells #[.int .i64 pc0, us, uk] 25)) W.heap.size w2.heap.size pc0 vs vk vb op a pc0 us uk vb st ca := by
  have hs1 : (W.alloc (.cells #[.int .i64 op, .int .i64 a] 57)).heap.size = W.heap.size + 1 := by simp
  rw [hs1] at o1 o2 b1
  have hs2 := b1.size
  rw [hs1] at hs2
  have hb2 := below_alloc w2 (.cells #[.int .i64 pc0, us, uk] 25)
  have hbW : Below W.heap.size W w2 := (below_alloc W _).trans (b1.mono (Nat.le_succ _))
  have hb3 : Below W.heap.size W (w2.alloc (.cells #[.int .i64 pc0, us, uk] 25)) := hbW.trans (hb2.mono (by omega))
  have l1 := fun j hj => o1.lt j hj
  have l2 := fun j hj => o2.lt j hj
  refine ⟨hsix.below hb3 (by omega), ?_, heap_alloc_new w2 _, ownsRow_le (o1.below hb2) (Nat.le_succ _), ownsRow_le (o2.below hb2) (Nat.le_succ _), sd, fun e => ?_, fun e => ?_, fun e => ?_, fun e => ?_, by omega, by omega, hbel.trans (hb3.mono (by omega))⟩
  · rw [hb2.block _ (by omega), b1.block _ (by omega)]
    exact heap_alloc_new W _
  · have := (l1 _ e).2; omega
  · have := (l2 _ e).2; omega
  · have := (l1 _ e).1; omega
  · have := (l2 _ e).1; omega
theorem and255 (n : Nat) : n &&& 255 = n % 256 := Nat.and_two_pow_sub_one_eq_mod n 8
theorem byte_i (y : Int) : bits .and .i64 y 255 = (((y % 256).toNat : Nat) : Int) := by
  show IntKind.i64.wrap ((BitVec.ofInt 64 y &&& BitVec.ofInt 64 255).toNat : Int) = _
  have e63 : ((255 : Int) % 2 ^ 64).toNat = 255 := by decide
  rw [BitVec.toNat_and, ofInt_nat, ofInt_nat, e63, and255, wrap_i64_nat _ (by omega)]
  omega
theorem byte_u (m : Nat) (h : m < 256) : IntKind.u8.wrap (m : Int) = (m : Int) := by
  simp [IntKind.wrap, IntKind.bits, IntKind.signed]
  omega
end Go.Proofs.YtfnojlgmbfocfaaDoor
