/-
  The contracts of the document's own Join, Meet, Less and Within, and of 'spoil'.
-/
import Derived.Test.YtjgohajlabdloaaDoorRefOf
import Derived.Test.YtjgohajlabdloaaDoorSetB
namespace Go.Proofs.YtjgohajlabdloaaDoor
open Go.RowKit
set_option linter.unusedVariables false

/-- 'append(v, y)', v the call's own: where it lies then. -/
theorem wpList_app1 {w : World} {ops : Array Oper} {rest : List Oper} {o : Oper} {a : Act} {Q : Exit → Act → World → Prop} (hgd : o.guard = none) (s x : Operand)
    (ho : o.op = .call { callee := .builtin .append, args := #[s, x], argTypes := #[22, 22] }) (base : Nat) (v : Value) (xs : List Int) (hs : a.eval s = v) (hown : Owns w base v xs)
    (vb : Nat) (y : Int) (hx : a.eval x = .slice (some ⟨vb, 0, none⟩) 1 1) (hc : w.cell? ⟨vb, 0, none⟩ = some (.int .i64 y)) (hb : (xs.length + 1) * 8 ≤ 140737488355328) (hbase : base ≤ w.heap.size)
    (h : ∀ v' w', Owns w' base v' (xs ++ [y]) → w.grownBy w' v.ownBlock → (v'.ownBlock = v.ownBlock ∨ ∀ j, v'.ownBlock = some j → w.heap.size ≤ j) → wpList Tryd.prog ops Q rest (a.put o.dst v') w') : wpList Tryd.prog ops Q (o :: rest) a w := by
  obtain ⟨i0, hi, hz0, hz1, hz2⟩ := info_parts Tryd.info3
  have hnews : ∀ j u, [Value.int .i64 y][j]? = some u → w.cell? ((⟨vb, 0, none⟩ : Addr).add j) = some u := by
    intro j u hj
    match j, hj with
    | 0, hj => simp at hj; subst hj; rw [addr_add]; simpa using hc
  have h1c : ∀ u ∈ [Value.int .i64 y], u.oneCell' = true := fun u hu => by simp at hu; subst hu; rfl
  have hwide : ∀ {w' : World}, w.grownBy w' none → w.grownBy w' v.ownBlock := fun hg => ⟨hg.os, hg.tape, hg.output, hg.size, fun k hk _ => hg.block k hk (by simp)⟩
  have grows : ∀ (ao : Option Addr) (cap : Nat), v = .slice ao xs.length cap → (ao = none → xs.length = 0 ∧ cap = 0) → (∀ b, ao = some b → ∀ j u, (xs.map (Value.int .i64))[j]? = some u → w.cell? (b.add j) = some u) → cap < xs.length + 1 → wpList Tryd.prog ops Q (o :: rest) a w := by
    intro ao cap hv hn hcs hfull
    refine wpList_append_grows w hgd s x 22 ho 3 i0 (.int .i64 0) 1 8 Tryd.underlying22 hi hz0 hz1 hz2 rfl (by decide) ao xs.length cap (xs.map (Value.int .i64)) (by rw [hs, hv]) hn (by simp) hcs ⟨vb, 0, none⟩ 1 1 [.int .i64 y] hx rfl hnews h1c hfull (by simp only [maxLen]; omega) hb ?_
    intro v' w' h2 h3
    have h4 : Owns w' w.heap.size v' (xs ++ [y]) := by simpa [Owns] using h2
    exact h v' w' (owns_le h4 hbase) (hwide h3) (Or.inr fun j hj => (h4.lt j hj).1)
  rcases hown.2 with ⟨hv, hn⟩ | ⟨g, cap, cur, hv, hbg, hg, hnc, hcm, hcs, htake⟩
  · exact grows none 0 (by rw [hv, hn]) (fun _ => ⟨hn, rfl⟩) (fun b hb => by cases hb) (by omega)
  · by_cases hroom : xs.length + 1 ≤ cap
    · have hown' := hown
      unfold Owns at hown'
      rw [hv] at hown'
      refine wpList_append_fits w hgd s x 22 ho base 3 i0 1 Tryd.underlying22 hi hz1 g xs.length cap _ (by rw [hs, hv]) hown' ⟨vb, 0, none⟩ 1 1 [.int .i64 y] hx rfl hnews h1c hroom ?_
      intro w' h2 h3
      refine h _ w' ?_ (by rw [hv]; exact h3) (Or.inl (by rw [hv]; rfl))
      simpa [Owns] using h2
    · exact grows (some ⟨g, 0, none⟩) cap hv (fun h => by cases h) (fun b hb j u hj => by cases hb; exact hown.cells (g := g) (by rw [hv]; rfl) j u hj) (by omega)

theorem cell_one (w : World) (v : Value) : (w.alloc (.cells #[v] 3)).cell? ⟨w.heap.size, 0, none⟩ = some v := by simp

theorem grownBy_mono {a b c : World} {r r' : Option Nat} (h : a.grownBy b r) (k : b.grownBy c r') (hr : r' = r ∨ ∀ j, r' = some j → a.heap.size ≤ j) : a.grownBy c r := by
  refine ⟨k.os.trans h.os, k.tape.trans h.tape, k.output.trans h.output, Nat.le_trans h.size k.size, fun i hi hne => ?_⟩
  refine (k.block i (Nat.lt_of_lt_of_le hi h.size) (fun e => ?_)).trans (h.block i hi hne)
  rcases hr with rfl | hr
  · exact hne e
  · have := hr i e.symm
    omega

theorem owns_store {w : World} {base k : Nat} {g n cap : Nat} {ys : List Int} (y : Int) (h : Owns w base (.slice (some ⟨g, 0, none⟩) n cap) ys) (hn : ys.length = n) :
    Owns (w.setCell ⟨g, k, none⟩ (.int .i64 y)) base (.slice (some ⟨g, 0, none⟩) n cap) (ys.set k y) ∧ w.grownBy (w.setCell ⟨g, k, none⟩ (.int .i64 y)) (some g) := by
  subst hn
  have hs := World.ownsRow.stored h k (.int .i64 y)
  refine ⟨?_, hs.2⟩
  unfold Owns
  rw [List.length_set, List.map_set]
  exact hs.1

end Go.Proofs.YtjgohajlabdloaaDoor
