/-
  What the walks of this seat share: a slice that reads a list of numbers, and that such a reading lasts where old memory stays.
-/
import Derived.Test.YtebjkgibciiocaaProg
import Derived.WalkKit
import Derived.WalkSpells
import Derived.WalkLawsBesides
import Derived.BigQuiet
import Derived.Deep.QuietTactic
import Derived.Deep.DeepFit
import Derived.Laws.AppendOwnNone
import Derived.OwnWalk
import Derived.Handy
import Derived.LaidEqlPtr
import Derived.Deep.RegionHeld3
namespace Go.Proofs.Ytebjkgibciiocaa
open Go.RowKit
set_option linter.unusedVariables false

theorem hid {p : Prop} (h : p) : Hid p := h

/-- The slice v reads xs in the world w. -/
def Sees (w : World) (v : Value) (xs : List Int) : Prop :=
  ∃ b off ao cap, v = .slice ao xs.length cap ∧ xs.length ≤ cap ∧ (ao = none → cap = 0) ∧ (xs ≠ [] → ao = some ⟨b, off, none⟩) ∧ ∀ j, j < xs.length → w.cell? ⟨b, off + j, none⟩ = some (.int .i64 (xs.getD j 0))

theorem Sees.below {w w' : World} {v : Value} {xs : List Int} (h : Sees w v xs) (hb : Below w.heap.size w w') : Sees w' v xs := by
  obtain ⟨b, off, ao, cap, hv, hc, hn, ha, hcell⟩ := h
  exact ⟨b, off, ao, cap, hv, hc, hn, ha, fun j hj => (hb.cell (World.block_lt_of_cell? w _ (hcell j hj))).trans (hcell j hj)⟩

/-- The slice v is the call's own, made from block 'base' on, and holds xs. -/
def Owns (w : World) (base : Nat) (v : Value) (xs : List Int) : Prop := w.ownsRow base 3 1 v xs.length (xs.map (Value.int .i64))

theorem ownsRow_below {w w' : World} {base : Nat} {e : TypeId} {size : Nat} {v : Value} {n : Nat} {xs : List Value} (h : w.ownsRow base e size v n xs) (hb : Below w.heap.size w w') : w'.ownsRow base e size v n xs := by
  refine ⟨h.1, ?_⟩
  rcases h.2 with hn | ⟨g, cap, cur, rfl, hbase, hg, rest⟩
  · exact Or.inl hn
  · exact Or.inr ⟨g, cap, cur, rfl, hbase, by rw [hb.block g (Array.getElem?_eq_some_iff.1 hg).1]; exact hg, rest⟩

theorem Owns.below {w w' : World} {base : Nat} {v : Value} {xs : List Int} (h : Owns w base v xs) (hb : Below w.heap.size w w') : Owns w' base v xs := ownsRow_below h hb

theorem Owns.sees {w : World} {base : Nat} {v : Value} {xs : List Int} (h : Owns w base v xs) : Sees w v xs := by
  rcases h.2 with ⟨rfl, hn⟩ | ⟨g, cap, cur, rfl, hbase, hg, hcap, _, _, ht⟩
  · have : xs = [] := List.eq_nil_of_length_eq_zero hn
    subst this
    exact ⟨0, 0, none, 0, rfl, Nat.le_refl _, fun _ => rfl, fun h => absurd rfl h, fun j hj => by simp at hj⟩
  · refine ⟨g, 0, _, cap, rfl, hcap, (fun h => by cases h), fun _ => rfl, fun j hj => ?_⟩
    have hc := h.cells (g := g) rfl j (.int .i64 (xs.getD j 0)) (by simp [List.getD, hj])
    rw [Nat.zero_add]
    have hadd : (⟨g, 0, none⟩ : Addr).add j = ⟨g, j, none⟩ := by unfold Addr.add; split <;> simp_all
    rwa [hadd] at hc

theorem Try.info3 : (Try.prog.info? 3).map (fun i => (i.zero, i.size, i.bytes)) = some (some (.int .i64 0), 1, 8) := by kernel_rfl

theorem addr_add (b off j : Nat) : (⟨b, off, none⟩ : Addr).add j = ⟨b, off + j, none⟩ := by unfold Addr.add; split <;> simp_all

/-- 'append(v, u...)', v the call's own: it owns both. -/
theorem wpList_app {w : World} {ops : Array Oper} {rest : List Oper} {o : Oper} {a : Act} {Q : Exit → Act → World → Prop} (hgd : o.guard = none) (s x : Operand)
    (ho : o.op = .call { callee := .builtin .append, args := #[s, x], argTypes := #[22, 22] }) (base : Nat) (v : Value) (xs : List Int) (hs : a.eval s = v) (hown : Owns w base v xs)
    (u : Value) (ys : List Int) (hx : a.eval x = u) (hsee : Sees w u ys) (hb : (xs.length + ys.length) * 8 ≤ 140737488355328) (hbase : base ≤ w.heap.size)
    (h : ∀ v' w', Owns w' base v' (xs ++ ys) → w.grownBy w' v.ownBlock → wpList Try.prog ops Q rest (a.put o.dst v') w') : wpList Try.prog ops Q (o :: rest) a w := by
  obtain ⟨i0, hi, hz0, hz1, hz2⟩ := info_parts Try.info3
  obtain ⟨b, off, ao, cap, rfl, hcap, hnil, hao, hcell⟩ := hsee
  by_cases hy : ys = []
  · subst hy
    cases ao with
    | none =>
      obtain rfl := hnil rfl
      refine wpList_append_own_none hgd s x 22 ho base 3 i0 1 Try.underlying22 hi v _ _ hs hown hx ?_
      exact h v w (by simpa using hown) ⟨rfl, rfl, rfl, Nat.le_refl _, fun _ _ _ => rfl⟩
    | some ad =>
      refine wpList_append_own w hgd s x 22 ho base 3 i0 (.int .i64 0) 1 8 Try.underlying22 hi hz0 hz1 hz2 rfl (by decide) v _ _ hs hown ad 0 cap [] hx rfl (by simp) (by simp) (by simp only [maxLen]; simp at hb; omega) (by simpa using hb) hbase ?_
      intro v' w' h1 h2 _
      exact h v' w' (by simpa [Owns] using h1) h2
  · obtain rfl := hao hy
    refine wpList_append_own w hgd s x 22 ho base 3 i0 (.int .i64 0) 1 8 Try.underlying22 hi hz0 hz1 hz2 rfl (by decide) v _ _ hs hown ⟨b, off, none⟩ ys.length cap (ys.map (Value.int .i64)) hx (by simp) ?_ ?_ (by simp only [maxLen]; omega) hb hbase ?_
    · intro j y hj
      have hjl : j < ys.length := by
        have := (List.getElem?_eq_some_iff.1 hj).1
        simpa using this
      rw [addr_add, hcell j hjl]
      simp [hjl] at hj
      simp [List.getD, hjl, hj]
    · intro y hy'
      obtain ⟨z, _, rfl⟩ := List.mem_map.1 hy'
      rfl
    · intro v' w' h1 h2 _
      exact h v' w' (by simpa [Owns] using h1) h2

theorem sees_one (w : World) (x : Int) : Sees (w.alloc (.cells #[.int .i64 x] 3)) (.slice (some ⟨w.heap.size, 0, none⟩) 1 1) [x] := by
  refine ⟨w.heap.size, 0, _, 1, rfl, Nat.le_refl _, (fun h => by cases h), fun _ => rfl, fun j hj => ?_⟩
  have : j = 0 := by simp at hj; omega
  subst this
  simp

theorem owns_le {w : World} {base base' : Nat} {v : Value} {xs : List Int} (h : Owns w base v xs) (hb : base' ≤ base) : Owns w base' v xs := by
  refine ⟨h.1, ?_⟩
  rcases h.2 with hn | ⟨g, cap, cur, rfl, hbase, hg, rest⟩
  · exact Or.inl hn
  · exact Or.inr ⟨g, cap, cur, rfl, by omega, hg, rest⟩

theorem cell_one (w : World) (v : Value) : (w.alloc (.cells #[v] 3)).cell? ⟨w.heap.size, 0, none⟩ = some v := by simp

theorem grownBy_mono {a b c : World} {r r' : Option Nat} (h : a.grownBy b r) (k : b.grownBy c r') (hr : r' = r ∨ ∀ j, r' = some j → a.heap.size ≤ j) : a.grownBy c r := by
  refine ⟨k.os.trans h.os, k.tape.trans h.tape, k.output.trans h.output, Nat.le_trans h.size k.size, fun i hi hne => ?_⟩
  refine (k.block i (Nat.lt_of_lt_of_le hi h.size) (fun e => ?_)).trans (h.block i hi hne)
  rcases hr with rfl | hr
  · exact hne e
  · have := hr i e.symm
    omega

theorem owns_store {w : World} {base k : Nat} {g n cap : Nat} {ys : List Int} (y : Int) (h : Owns w base (.slice (some ⟨g, 0, none⟩) n cap) ys) (hn : ys.length = n) :
    Owns (w.setCell ⟨g, k, none⟩ (.int .i64 y)) base (.slice (some ⟨g, 0, none⟩) n cap) (ys.set k y) ∧ w.grownBy (w.setCell ⟨g, k, none⟩ (.int .i64 y)) (some g) := by
  subst hn
  have hs := World.ownsRow.stored h k (.int .i64 y)
  refine ⟨?_, hs.2⟩
  unfold Owns
  rw [List.length_set, List.map_set]
  exact hs.1

/-- 'append(v, y)', v the call's own: where it lies then. -/
theorem wpList_app1 {w : World} {ops : Array Oper} {rest : List Oper} {o : Oper} {a : Act} {Q : Exit → Act → World → Prop} (hgd : o.guard = none) (s x : Operand)
    (ho : o.op = .call { callee := .builtin .append, args := #[s, x], argTypes := #[22, 22] }) (base : Nat) (v : Value) (xs : List Int) (hs : a.eval s = v) (hown : Owns w base v xs)
    (vb : Nat) (y : Int) (hx : a.eval x = .slice (some ⟨vb, 0, none⟩) 1 1) (hc : w.cell? ⟨vb, 0, none⟩ = some (.int .i64 y)) (hb : (xs.length + 1) * 8 ≤ 140737488355328) (hbase : base ≤ w.heap.size)
    (h : ∀ v' w', Owns w' base v' (xs ++ [y]) → w.grownBy w' v.ownBlock → (v'.ownBlock = v.ownBlock ∨ ∀ j, v'.ownBlock = some j → w.heap.size ≤ j) → wpList Try.prog ops Q rest (a.put o.dst v') w') : wpList Try.prog ops Q (o :: rest) a w := by
  obtain ⟨i0, hi, hz0, hz1, hz2⟩ := info_parts Try.info3
  have hnews : ∀ j u, [Value.int .i64 y][j]? = some u → w.cell? ((⟨vb, 0, none⟩ : Addr).add j) = some u := by
    intro j u hj
    match j, hj with
    | 0, hj => simp at hj; subst hj; rw [addr_add]; simpa using hc
  have h1c : ∀ u ∈ [Value.int .i64 y], u.oneCell' = true := fun u hu => by simp at hu; subst hu; rfl
  have hwide : ∀ {w' : World}, w.grownBy w' none → w.grownBy w' v.ownBlock := fun hg => ⟨hg.os, hg.tape, hg.output, hg.size, fun k hk _ => hg.block k hk (by simp)⟩
  have grows : ∀ (ao : Option Addr) (cap : Nat), v = .slice ao xs.length cap → (ao = none → xs.length = 0 ∧ cap = 0) → (∀ b, ao = some b → ∀ j u, (xs.map (Value.int .i64))[j]? = some u → w.cell? (b.add j) = some u) → cap < xs.length + 1 → wpList Try.prog ops Q (o :: rest) a w := by
    intro ao cap hv hn hcs hfull
    refine wpList_append_grows w hgd s x 22 ho 3 i0 (.int .i64 0) 1 8 Try.underlying22 hi hz0 hz1 hz2 rfl (by decide) ao xs.length cap (xs.map (Value.int .i64)) (by rw [hs, hv]) hn (by simp) hcs ⟨vb, 0, none⟩ 1 1 [.int .i64 y] hx rfl hnews h1c hfull (by simp only [maxLen]; omega) hb ?_
    intro v' w' h2 h3
    have h4 : Owns w' w.heap.size v' (xs ++ [y]) := by simpa [Owns] using h2
    exact h v' w' (owns_le h4 hbase) (hwide h3) (Or.inr fun j hj => (h4.lt j hj).1)
  rcases hown.2 with ⟨hv, hn⟩ | ⟨g, cap, cur, hv, hbg, hg, hnc, hcm, hcs, htake⟩
  · exact grows none 0 (by rw [hv, hn]) (fun _ => ⟨hn, rfl⟩) (fun b hb => by cases hb) (by omega)
  · by_cases hroom : xs.length + 1 ≤ cap
    · have hown' := hown
      unfold Owns at hown'
      rw [hv] at hown'
      refine wpList_append_fits w hgd s x 22 ho base 3 i0 1 Try.underlying22 hi hz1 g xs.length cap _ (by rw [hs, hv]) hown' ⟨vb, 0, none⟩ 1 1 [.int .i64 y] hx rfl hnews h1c hroom ?_
      intro w' h2 h3
      refine h _ w' ?_ (by rw [hv]; exact h3) (Or.inl (by rw [hv]; rfl))
      simpa [Owns] using h2
    · exact grows (some ⟨g, 0, none⟩) cap hv (fun h => by cases h) (fun b hb j u hj => by cases hb; exact hown.cells (g := g) (by rw [hv]; rfl) j u hj) (by omega)

theorem ret_bool {a b : Bool} (h : a = b) : Ending.returned (.bool a) = .returned (.bool b) := by rw [h]

theorem take_eq_succ {xs ys : List Int} {k : Nat} {x y : Int} (hk : k < xs.length) (hk2 : k < ys.length) (hx : x = xs.getD k 0) (hy : y = ys.getD k 0) (h : xs.take k = ys.take k) (he : x = y) : xs.take (k + 1) = ys.take (k + 1) := by
  rw [List.take_succ_eq_append_getElem hk, List.take_succ_eq_append_getElem hk2, h]
  simp only [List.getD, List.getElem?_eq_getElem hk, List.getElem?_eq_getElem hk2, Option.getD_some] at hx hy
  rw [← hx, ← hy, he]

set_option maxHeartbeats 400000 in
theorem same_any (v u : Value) (xs ys : List Int) (w : World) (hS : Sees w v xs) (hT : Sees w u ys) (hlen : xs.length ≤ 4611686018427387904) (hlen2 : ys.length ≤ 4611686018427387904) :
    Calls Try.prog 16 #[v, u] w fun e w' => e = .returned (.bool (decide (xs = ys))) ∧ Below w.heap.size w w' := by
  obtain ⟨b, off, ao, cap, rfl, hcap, _, hao, hcell⟩ := hS
  obtain ⟨b2, off2, ao2, cap2, rfl, hcap2, _, hao2, hcell2⟩ := hT
  by_cases hll : xs.length = ys.length
  · have h0 : ((xs.length : Int) != (ys.length : Int)) = false := by rw [hll]; simp
    have HLL : Hid (xs.length = ys.length) := hll
    clear hll
    go_enter Try.func16, Try.ntmps16
    go_wp2
    go_loopw [5] (fun i wr => ∃ k n : Nat, k ≤ xs.length ∧ i = .int .i64 k ∧ xs.take k = ys.take k ∧ wr = w.drewN n) (fun i _ => xs.length - (intOf i).toNat)
    case atStart => exact ⟨0, 0, Nat.zero_le _, rfl, by simp, rfl⟩
    case round =>
      obtain ⟨k, n, hk, rfl, hnot, rfl⟩ := hrel
      by_cases hlt : k < xs.length
      · have hlt2 : k < ys.length := by have := HLL.out; omega
        have hne : xs ≠ [] := by intro h; rw [h] at hlt; simp at hlt
        have hne2 : ys ≠ [] := by intro h; rw [h] at hlt2; simp at hlt2
        obtain rfl := hao hne
        obtain rfl := hao2 hne2
        obtain ⟨x, hx⟩ : ∃ y, y = xs.getD k 0 := ⟨_, rfl⟩
        obtain ⟨y, hy⟩ : ∃ y, y = ys.getD k 0 := ⟨_, rfl⟩
        have hc := hcell k hlt
        have hc2 := hcell2 k hlt2
        rw [← hx] at hc
        rw [← hy] at hc2
        have HX : Hid (x = xs.getD k 0) := hx
        have HY : Hid (y = ys.getD k 0) := hy
        have HN : Hid (xs.take k = ys.take k) := hnot
        clear hx hy hcell hcell2 hnot hne hne2 hao hao2
        by_cases hyx : x = y
        · have h1 : (x != y) = false := by simpa using hyx
          have HE : Hid (x = y) := hyx
          clear hyx
          go_wp2
          go_quiet (fail)
          go_wp2
          go_roundw
          case rel => exact ⟨k + 1, _, by omega, by go_num, take_eq_succ hlt hlt2 HX.out HY.out HN.out HE.out, rfl⟩
          case measure => simp [intOf]; omega
        · have h1 : (x != y) = true := by simpa using hyx
          go_wp2
          go_quiet (fail)
          go_wp2
          go_ret
          refine ⟨ret_bool ?_, below_drewN (below_drewN (Below.refl _ _) _) _⟩
          have hn : xs ≠ ys := by
            intro h
            apply hyx
            rw [HX.out, HY.out, h]
          simp [hn]
      · go_wp2
        go_ret
        refine ⟨ret_bool ?_, below_drewN (Below.refl _ _) _⟩
        have hn : xs = ys := by
          have h2 := HLL.out
          rwa [List.take_of_length_le (by omega), List.take_of_length_le (by omega)] at hnot
        simp [hn]
  · have h0 : ((xs.length : Int) != (ys.length : Int)) = true := by simp; omega
    go_enter Try.func16, Try.ntmps16
    go_wp2
    go_ret
    exact ⟨ret_bool (by simp; intro h; exact hll (by rw [h])), Below.refl _ _⟩

end Go.Proofs.Ytebjkgibciiocaa
