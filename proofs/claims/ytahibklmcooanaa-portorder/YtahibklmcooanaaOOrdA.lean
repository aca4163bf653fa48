/-
  What the law PortOrder keeps beside mailboxes: three lists of texts.
-/
import Derived.Test.YtahibklmcooanaaOAwakeB
import Derived.Test.YtahibklmcooanaaOFrame
import Derived.Deep.AppendLies
import Derived.Deep.RegionHeld3
namespace Go.Proofs.Ytahibklmcooanaa
open Go.RowKit
set_option linter.unusedVariables false
set_option linter.unusedSimpArgs false

theorem ty_kept {w w' : World} {p bx : Nat} {room : Int} {ql : List (Nat × Nat)} {v : Nat → Rg} {m : Nat → List Msg} (h : PoAt w p bx room ql v m) (hG : Gr (mine ql v) w w') {k : Nat} {c : Array Value} {t : TypeId} {mk : Nat × Nat} (hk : w.heap[k]? = some (.cells c t mk)) (h1 : t ≠ 89) (h2 : t ≠ 55) : w'.heap[k]? = w.heap[k]? := by
  refine hG.block k (Array.getElem?_eq_some_iff.1 hk).1 (fun hm => ?_)
  obtain ⟨c', t', ht, h3⟩ := h.mine_ty hm
  rw [hk] at ht
  simp at ht
  rcases h3 with h3 | h3
  · exact h1 (by rw [ht.2.1, h3])
  · exact h2 (by rw [ht.2.1, h3])
/-- A call's own row of texts. -/
def OwnsT (w : World) (base : Nat) (v : Value) (xs : List ByteArray) : Prop := w.ownsRow base 9 1 v xs.length (xs.map Value.string)
theorem OwnsT.below {w w' : World} {base : Nat} {v : Value} {xs : List ByteArray} (h : OwnsT w base v xs) (hb : Below w.heap.size w w') : OwnsT w' base v xs := ownsRow_below h hb
theorem OwnsT.shape {w : World} {base : Nat} {v : Value} {xs : List ByteArray} (h : OwnsT w base v xs) : ∃ ao cap, v = .slice ao xs.length cap := by
  rcases h.2 with ⟨rfl, hn⟩ | ⟨g, cap, cur, rfl, _⟩
  · exact ⟨none, 0, by rw [hn]⟩
  · exact ⟨_, cap, rfl⟩
theorem OwnsT.at {w : World} {base : Nat} {v : Value} {xs : List ByteArray} (h : OwnsT w base v xs) (j : Nat) (hj : j < xs.length) : ∃ g c, v = .slice (some ⟨g, 0, none⟩) xs.length c ∧ w.cell? ⟨g, j, none⟩ = some (.string xs[j]) := by
  rcases h.2 with ⟨_, hn⟩ | ⟨g, cap, cur, rfl, hbase, hg, rest⟩
  · omega
  · refine ⟨g, cap, rfl, ?_⟩
    have := h.cells (g := g) rfl j (.string xs[j]) (by simp [hj])
    rwa [addr_add, Nat.zero_add] at this
theorem Try.info9 : (Try.prog.info? 9).map (fun i => (i.zero, i.size, i.bytes)) = some (some (.string ByteArray.empty), 1, 16) := by kernel_rfl
theorem run_appT (w : World) (ty : TypeId) (base : Nat) (v : Value) (xs : List ByteArray) (hown : OwnsT w base v xs) (b : Nat) (x : ByteArray) (hc : w.cell? ⟨b, 0, none⟩ = some (.string x)) (hb : xs.length ≤ 1000000) (hbase : base ≤ w.heap.size) :
    ∃ v' w', (Builtin.append_ #[51, 51] ty #[v, .slice (some ⟨b, 0, none⟩) 1 1]).run Try.prog w = .ok v' w' ∧ OwnsT w' base v' (xs ++ [x]) ∧ w.grownBy w' v.ownBlock ∧ (v'.ownBlock = v.ownBlock ∨ v'.ownBlock = some w.heap.size) := by
  obtain ⟨i0, hi, hz0, hz1, hz2⟩ := info_parts Try.info9
  obtain ⟨g, cap', w', hr, h1, h2, h3, _⟩ := run_append_lies (P := Try.prog) w 51 ty base 9 i0 (.string ByteArray.empty) 1 16 Try.underlying51 hi hz0 hz1 hz2 rfl (by decide) v _ _ hown ⟨b, 0, none⟩ 1 1 [.string x] rfl (fun j y hj => by
    have hj0 : j = 0 := by
      have := (List.getElem?_eq_some_iff.1 hj).1
      simpa using this
    subst hj0
    simp at hj
    subst hj
    rw [addr_add]
    exact hc) (by simp [Value.oneCell']) (by decide) (by simp only [maxLen]; omega) (by omega) hbase _ rfl
  refine ⟨_, w', hr, by simpa [OwnsT] using h1, h2, ?_⟩
  rcases h3 with h3 | h3
  · exact Or.inl (by simpa [Value.ownBlock] using h3.symm)
  · exact Or.inr (by simp [Value.ownBlock, h3])

/-- The law's three lists: the array's block, and the lists. -/
structure Want (w : World) (base b : Nat) (r : Nat → Value) (W : Nat → List ByteArray) : Prop where
  blk : w.heap[b]? = some (.cells #[r 0, r 1, r 2] 52 (0, 0))
  own : ∀ k, k < 3 → OwnsT w base (r k) (W k)
  apart : ∀ j k g, j < 3 → k < 3 → j ≠ k → (r j).ownBlock = some g → (r k).ownBlock ≠ some g
section
variable {w w' : World} {base b : Nat} {r : Nat → Value} {W : Nat → List ByteArray}
theorem Want.same (h : Want w base b r W) (h1 : w'.heap[b]? = w.heap[b]?) (h2 : ∀ k g, k < 3 → (r k).ownBlock = some g → w'.heap[g]? = w.heap[g]?) : Want w' base b r W :=
  ⟨by rw [h1]; exact h.blk, fun k hk => ownsRow_same (h.own k hk) (fun g hg => h2 k g hk hg), h.apart⟩
theorem Want.below (h : Want w base b r W) (hb : Below w.heap.size w w') : Want w' base b r W :=
  h.same (hb.block b (Array.getElem?_eq_some_iff.1 h.blk).1) (fun k g hk hg => hb.block g ((h.own k hk).lt g hg).2)
theorem Want.turn (h : Want w base b r W) {p bx : Nat} {room : Int} {ql : List (Nat × Nat)} {v : Nat → Rg} {m : Nat → List Msg} (hP : PoAt w p bx room ql v m) (hG : Gr (mine ql v) w w') : Want w' base b r W :=
  h.same (ty_kept hP hG h.blk (by decide) (by decide)) (fun k g hk hg => by
    obtain ⟨cur, hc⟩ := ownsRow_ty (h.own k hk) hg
    exact ty_kept hP hG hc (by decide) (by decide))
theorem Want.cell (h : Want w base b r W) (k : Nat) (hk : k < 3) : w.cell? ⟨b, k, none⟩ = some (r k) := by
  have h3 : k = 0 ∨ k = 1 ∨ k = 2 := by omega
  rcases h3 with rfl | rfl | rfl <;> simp [World.cell?, h.blk]
theorem Want.warm (h : Want w base b r W) (k : Nat) : w.frozen? ⟨b, k, none⟩ = false := by simp [World.frozen?, h.blk]
/-- One more text in one of the lists. -/
theorem Want.put (h : Want w base b r W) (k : Nat) (hk : k < 3) {v' : Value} {x : ByteArray} (hO : OwnsT w' base v' (W k ++ [x])) (hg : w.grownBy w' (r k).ownBlock) (hF : (v').ownBlock = (r k).ownBlock ∨ v'.ownBlock = some w.heap.size) :
    Want (w'.setCell ⟨b, k, none⟩ v') base b (fun j => if j = k then v' else r j) (fun j => if j = k then W k ++ [x] else W j) := by
  have hbl : b < w.heap.size := (Array.getElem?_eq_some_iff.1 h.blk).1
  have hne : ∀ j, j < 3 → (r j).ownBlock ≠ some b := fun j hj e => by
    obtain ⟨cur, hc⟩ := ownsRow_ty (h.own j hj) e
    exact ty_ne hc h.blk (by decide) rfl
  have hb' : w'.heap[b]? = some (.cells #[r 0, r 1, r 2] 52 (0, 0)) := by rw [hg.block b hbl (fun e => hne k hk e.symm)]; exact h.blk
  have hv : v'.ownBlock ≠ some b := by
    rcases hF with e | e
    · rw [e]; exact hne k hk
    · rw [e]; simp; omega
  refine ⟨?_, fun j hj => ?_, fun i j g hi hj hij hg1 => ?_⟩
  · have h3 : k = 0 ∨ k = 1 ∨ k = 2 := by omega
    rcases h3 with rfl | rfl | rfl <;> simp [World.setCell, Array.getElem?_modify, hb']
  · by_cases e : j = k
    · subst e
      simp only [if_true]
      exact ownsRow_same hO (fun g hg => heap_setCell_other w' ⟨b, j, none⟩ g v' (fun e => hv (by rw [hg]; simpa using e)))
    · simp only [e, if_false]
      refine ownsRow_same (h.own j hj) (fun g hgj => ?_)
      rw [heap_setCell_other w' ⟨b, k, none⟩ g v' (fun e => hne j hj (by rw [hgj]; simpa using e))]
      exact hg.block g ((h.own j hj).lt g hgj).2 (fun e2 => h.apart j k g hj hk e hgj e2.symm)
  · by_cases e : i = k
    · have e2 : j ≠ k := fun h => hij (by rw [e, h])
      simp only [e, if_true] at hg1
      simp only [e2, if_false]
      rcases hF with hF | hF
      · rw [hF] at hg1
        exact h.apart k j g hk hj (fun h => e2 h.symm) hg1
      · rw [hF] at hg1
        intro hg2
        have := ((h.own j hj).lt g hg2).2
        simp at hg1
        omega
    · simp only [e, if_false] at hg1
      by_cases e2 : j = k
      · simp only [e2, if_true]
        rcases hF with hF | hF
        · rw [hF]
          exact h.apart i k g hi hk e hg1
        · rw [hF]
          intro hg2
          have := ((h.own i hi).lt g hg1).2
          simp at hg2
          omega
      · simp only [e2, if_false]
        exact h.apart i j g hi hj hij hg1
end
/-- What a call on mailboxes leaves of what lies beside. -/
theorem PoAt.beside {w w' : World} {p bx : Nat} {room : Int} {ql : List (Nat × Nat)} {v : Nat → Rg} {m : Nat → List Msg} (h : PoAt w p bx room ql v m) {B : Nat} (hb : Below B w w') (hB : ∀ k, its p bx ql v k → k < B) : PoAt w' p bx room ql v m := h.gr fun k hk => hb.block k (hB k hk)
theorem want_its {w w' : World} {base b : Nat} {r : Nat → Value} {W : Nat → List ByteArray} {k : Nat} (h : Want w base b r W) (hk : k < 3) {p bx : Nat} {room : Int} {ql : List (Nat × Nat)} {v : Nat → Rg} {m : Nat → List Msg} (hP : PoAt w p bx room ql v m) {v' : Value} (hg : w.grownBy w' (r k).ownBlock) : PoAt (w'.setCell ⟨b, k, none⟩ v') p bx room ql v m := by
  have hbt : ∀ i, its p bx ql v i → i ≠ b ∧ (r k).ownBlock ≠ some i := by
    intro i hi
    have hty : ∃ c t mk, w.heap[i]? = some (.cells c t mk) ∧ t ≠ 52 ∧ t ≠ 9 := by
      rcases hi with rfl | rfl | ⟨j, hj, rfl⟩ | hm
      · exact ⟨_, _, _, hP.lies, by decide, by decide⟩
      · obtain ⟨cur, hc⟩ := ownsRow_ty hP.row rfl
        exact ⟨_, _, _, hc, by decide, by decide⟩
      · exact ⟨_, _, _, hP.lab j hj, by decide, by decide⟩
      · obtain ⟨c, t, ht, h2⟩ := hP.mine_ty hm
        refine ⟨c, t, _, ht, ?_, ?_⟩ <;> rcases h2 with rfl | rfl <;> decide
    obtain ⟨c, t, mk, h1, h2, h3⟩ := hty
    refine ⟨ty_ne h1 h.blk h2, fun e => ?_⟩
    obtain ⟨cur, hc⟩ := ownsRow_ty (h.own k hk) e
    exact ty_ne h1 hc h3 rfl
  refine hP.gr fun i hi => ?_
  obtain ⟨h1, h2⟩ := hbt i hi
  rw [heap_setCell_other w' ⟨b, k, none⟩ i v' (by simpa using h1)]
  exact hg.block i (hP.lt i hi) (fun e => h2 e.symm)
/-- The remainder by three, below none turned. -/
theorem rem3 (z : Int) : ∃ t : Nat, t < 3 ∧ ((0 ≤ z.tmod 3 ∧ z.tmod 3 = t) ∨ (z.tmod 3 < 0 ∧ z.tmod 3 = - (t : Int))) := by
  have h1 : -3 < z.tmod 3 := Int.lt_tmod_of_pos z (by decide)
  have h2 : z.tmod 3 < 3 := Int.tmod_lt_of_pos z (by decide)
  by_cases h : 0 ≤ z.tmod 3
  · exact ⟨(z.tmod 3).toNat, by omega, Or.inl ⟨h, by omega⟩⟩
  · exact ⟨(- z.tmod 3).toNat, by omega, Or.inr ⟨by omega, by omega⟩⟩
theorem pushed_map (m : List Msg) (x : Msg) (hm : (m.length : Int) ≤ 64) : (pushed 64 m x).map (·.2) = if m.length < 64 then m.map (·.2) ++ [x.2] else m.map (·.2) := by
  unfold pushed
  by_cases h : m.length < 64
  · rw [if_pos (by omega), if_pos h]
    simp
  · rw [if_neg (by omega), if_neg h]
end Go.Proofs.Ytahibklmcooanaa
