/-
  How the code reads a text.
-/
import Derived.Test.YtkidcoolcjmcfaaDoorCInst
namespace Go.Proofs.YtkidcoolcjmcfaaDoor
open Go.RowKit
set_option linter.unusedVariables false
set_option linter.unusedSimpArgs false
set_option maxRecDepth 100000

/-- The slice v reads n things of k cells each. -/
def SeesK (k : Nat) (w : World) (v : Value) (n : Nat) (cs : List Value) : Prop :=
  cs.length = n * k ∧ ∃ b off ao cap, v = .slice ao n cap ∧ n ≤ cap ∧ (ao = none → cap = 0) ∧ (0 < n → ao = some ⟨b, off, none⟩) ∧ ∀ j, j < cs.length → w.cell? ⟨b, off + j, none⟩ = some (cs.getD j undef)
theorem SeesK.below {k : Nat} {w w' : World} {v : Value} {n : Nat} {cs : List Value} (h : SeesK k w v n cs) (hb : Below w.heap.size w w') : SeesK k w' v n cs := by
  obtain ⟨hl, b, off, ao, cap, h1, h2, h3, h4, h5⟩ := h
  exact ⟨hl, b, off, ao, cap, h1, h2, h3, h4, fun j hj => (hb.cell (World.block_lt_of_cell? w _ (h5 j hj))).trans (h5 j hj)⟩
theorem SeesK.shape {k : Nat} {w : World} {v : Value} {n : Nat} {cs : List Value} (h : SeesK k w v n cs) : ∃ ao cap, v = .slice ao n cap := by
  obtain ⟨_, b, off, ao, cap, h1, _⟩ := h
  exact ⟨ao, cap, h1⟩
theorem sees_of_row {k : Nat} {w : World} {base : Nat} {e : TypeId} {v : Value} {n : Nat} {cs : List Value} (h : w.ownsRow base e k v n cs) : SeesK k w v n cs := by
  refine ⟨h.1, ?_⟩
  rcases h.2 with ⟨rfl, rfl⟩ | ⟨g, cap, cur, rfl, hbase, hg, hcap, _, hsz, ht⟩
  · exact ⟨0, 0, none, 0, rfl, Nat.le_refl _, fun _ => rfl, fun h => absurd h (by omega), fun j hj => by have := h.1; omega⟩
  · refine ⟨g, 0, _, cap, rfl, hcap, (fun h => by cases h), fun _ => rfl, fun j hj => ?_⟩
    have hj' : j < cur.size := by
      have := congrArg List.length ht
      simp at this
      omega
    have hc : cs.getD j undef = cur.getD j undef := by
      have hj2 : j < n * k := by have := h.1; omega
      rw [← ht]
      simp [List.getD, List.getElem?_take, hj2, Array.getElem?_toList]
    rw [hc]
    simp [World.cell?, hg, hj']
theorem row_shape {k : Nat} {w : World} {base : Nat} {e : TypeId} {v : Value} {n : Nat} {cs : List Value} (h : w.ownsRow base e k v n cs) : ∃ ao cap, v = .slice ao n cap := (sees_of_row h).shape
/-- 'append(v, u...)' of rows of things, v the call's own. -/
theorem wpList_appK {T e : TypeId} {z : Value} {by8 k : Nat} (hT : Tryd.prog.underlying T = some (.slice e)) (hinfo : (Tryd.prog.info? e).map (fun i => (i.zero, i.size, i.bytes)) = some (some z, k, by8)) (hz : z.cells.size = k) (hk : 0 < k)
    {w : World} {ops : Array Oper} {rest : List Oper} {o : Oper} {a : Act} {Q : Exit → Act → World → Prop} (hgd : o.guard = none) (s x : Operand)
    (ho : o.op = .call { callee := .builtin .append, args := #[s, x], argTypes := #[T, T] }) (base : Nat) (v : Value) (n : Nat) (xs : List Value) (hs : a.eval s = v) (hown : w.ownsRow base e k v n xs)
    (u : Value) (m : Nat) (ys : List Value) (hx : a.eval x = u) (hsee : SeesK k w u m ys) (h1 : ∀ y ∈ ys, y.oneCell' = true) (hb : (n + m) * by8 ≤ 140737488355328) (h63 : n + m ≤ maxLen) (hbase : base ≤ w.heap.size)
    (h : ∀ v' w', w'.ownsRow base e k v' (n + m) (xs ++ ys) → w.grownBy w' v.ownBlock → wpList Tryd.prog ops Q rest (a.put o.dst v') w') : wpList Tryd.prog ops Q (o :: rest) a w := by
  obtain ⟨i0, hi, hz0, hz1, hz2⟩ := info_parts hinfo
  obtain ⟨hl, b, off, ao, cap, rfl, hcap, hnil, hao, hcell⟩ := hsee
  by_cases hy : m = 0
  · subst hy
    have hy0 : ys = [] := List.eq_nil_of_length_eq_zero (by simpa using hl)
    subst hy0
    cases ao with
    | none =>
      obtain rfl := hnil rfl
      refine wpList_append_own_none hgd s x T ho base e i0 k hT hi v _ _ hs hown hx ?_
      exact h v w (by simpa using hown) ⟨rfl, rfl, rfl, Nat.le_refl _, fun _ _ _ => rfl⟩
    | some ad =>
      refine wpList_append_own w hgd s x T ho base e i0 z k by8 hT hi hz0 hz1 hz2 hz hk v _ _ hs hown ad 0 cap [] hx (by simp) (by simp) (by simp) h63 (by simpa using hb) hbase ?_
      intro v' w' h1 h2 _
      exact h v' w' (by simpa using h1) h2
  · obtain rfl := hao (by omega)
    refine wpList_append_own w hgd s x T ho base e i0 z k by8 hT hi hz0 hz1 hz2 hz hk v _ _ hs hown ⟨b, off, none⟩ m cap ys hx hl ?_ h1 h63 hb hbase ?_
    · intro j y hj
      have hjl : j < ys.length := (List.getElem?_eq_some_iff.1 hj).1
      rw [addr_add, hcell j hjl]
      simp [List.getD, hj]
    · intro v' w' h1 h2 _
      exact h v' w' h1 h2


theorem infoInt : (Tryd.prog.info? 3).map (fun i => (i.zero, i.size, i.bytes)) = some (some (.int .i64 0), 1, 8) := by kernel_rfl
theorem seesK_int (x : Int) (w : World) : SeesK 1 (w.alloc (.cells #[.int .i64 x] 3)) (.slice (some ⟨w.heap.size, 0, none⟩) 1 1) 1 [.int .i64 x] := by
  refine ⟨by simp, w.heap.size, 0, _, 1, rfl, Nat.le_refl _, (fun h => by cases h), fun _ => rfl, fun j hj => ?_⟩
  have : j = 0 := by simp at hj; omega
  subst this
  have h := heap_alloc_new w (.cells #[.int .i64 x] 3)
  simp only [World.cell?, h]
  rfl
theorem seesK_ins (x y : Int) (w : World) : SeesK 2 (w.alloc (.cells #[.int .i64 x, .int .i64 y] 38)) (.slice (some ⟨w.heap.size, 0, none⟩) 1 1) 1 [.int .i64 x, .int .i64 y] := by
  refine ⟨by simp, w.heap.size, 0, _, 1, rfl, Nat.le_refl _, (fun h => by cases h), fun _ => rfl, fun j hj => ?_⟩
  have h := heap_alloc_new w (.cells #[.int .i64 x, .int .i64 y] 38)
  have : j = 0 ∨ j = 1 := by simp at hj; omega
  rcases this with rfl | rfl <;> (simp only [World.cell?, h]; rfl)

/-! ### The text, line by line -/
def addA (acc : List (InsL × Nat)) : Except Nat (List (InsL × Nat)) → Except Nat (List (InsL × Nat))
  | .error q => .error q
  | .ok l => .ok (acc ++ l)
theorem lead_len (l : List UInt8) : l.length - (Lib.trimLeftS l [32, 9]).length = leadL l ∧ (Lib.trimLeftS l [32, 9]).length ≤ l.length := by
  have e : Lib.trimLeftS l [32, 9] = l.dropWhile blB := rfl
  rw [e]
  have h : (l.takeWhile blB).length + (l.dropWhile blB).length = l.length := by
    rw [← List.length_append, List.takeWhile_append_dropWhile]
  unfold leadL
  omega
theorem read_skip {p : Nat} {line : List UInt8} {r : List (List UInt8)} (h : wordsL line = []) : readL p (line :: r) = readL (p + line.length + 1) r := by
  rw [readL, if_pos h]
theorem read_bad {p : Nat} {line : List UInt8} {r : List (List UInt8)} (h : ¬ wordsL line = []) (hi : insL (wordsL line) = none) : readL p (line :: r) = .error (p + leadL line) := by
  rw [readL, if_neg h, hi]
theorem read_one {p : Nat} {line : List UInt8} {r : List (List UInt8)} {i : InsL} {acc : List (InsL × Nat)} (h : ¬ wordsL line = []) (hi : insL (wordsL line) = some i) : addA acc (readL p (line :: r)) = addA (acc ++ [(i, p + leadL line)]) (readL (p + line.length + 1) r) := by
  rw [readL, if_neg h, hi]
  cases readL (p + line.length + 1) r with
  | error q => rfl
  | ok l => simp [addA]
theorem cut_next (s : List UInt8) (p : Nat) (hp : p ≤ s.length) : (cutC 10 (s.drop p)).1.length ≤ s.length - p ∧ splitC 10 (s.drop p) = (cutC 10 (s.drop p)).1 :: (if (cutC 10 (s.drop p)).2.2 = true then splitC 10 (s.drop (p + (cutC 10 (s.drop p)).1.length + 1)) else []) ∧ ((cutC 10 (s.drop p)).2.2 = true → p + (cutC 10 (s.drop p)).1.length + 1 ≤ s.length) := by
  have h := splitC_cut 10 (s.drop p)
  rcases cutC_spec 10 (s.drop p) with ⟨_, e⟩ | ⟨a, b, e1, _, e2⟩
  · rw [e] at h ⊢
    exact ⟨by simp, by simpa using h, fun h => by simp at h⟩
  · rw [e2] at h ⊢
    have hl : (s.drop p).length = a.length + 1 + b.length := by rw [e1]; simp; omega
    rw [List.length_drop] at hl
    have hb : s.drop (p + a.length + 1) = b := by
      have : s.drop (p + a.length + 1) = (s.drop p).drop (a.length + 1) := by rw [List.drop_drop]; congr 1
      rw [this, e1, show a ++ 10 :: b = (a ++ [10]) ++ b by simp]
      exact List.drop_left' (by simp)
    refine ⟨by simp; omega, ?_, fun _ => by simp; omega⟩
    simp only [if_true]
    rw [hb]
    simpa using h
def plC (acc : List (InsL × Nat)) : List Value := acc.map fun (x : InsL × Nat) => .int .i64 (x.2 : Int)
def inC (acc : List (InsL × Nat)) : List Value := cellsI (acc.map (·.1))
theorem cellsI_app : ∀ (a b : List InsL), cellsI (a ++ b) = cellsI a ++ cellsI b
  | [], b => rfl
  | x :: a, b => by simp [cellsI, cellsI_app a b]
theorem inC_snoc (acc : List (InsL × Nat)) (i : InsL) (p : Nat) : inC acc ++ [.int .i64 i.1, .int .i64 i.2] = inC (acc ++ [(i, p)]) := by
  simp [inC, cellsI_app, cellsI]
theorem plC_snoc (acc : List (InsL × Nat)) (i : InsL) (p : Nat) : plC acc ++ [.int .i64 (p : Int)] = plC (acc ++ [(i, p)]) := by simp [plC]
theorem ownsRow_tyC {w : World} {base : Nat} {e : TypeId} {size : Nat} {v : Value} {n : Nat} {xs : List Value} {k : Nat} (h : w.ownsRow base e size v n xs) (hk : v.ownBlock = some k) : ∃ cur, w.heap[k]? = some (.cells cur e (0, 0)) := by
  rcases h.2 with ⟨hv, _⟩ | ⟨g, cap, cur, rfl, hbase, hg, rest⟩
  · rw [hv] at hk; simp [Value.ownBlock] at hk
  · simp [Value.ownBlock] at hk
    subst hk
    exact ⟨cur, hg⟩
/-- What the loop keeps. -/
structure PrS (w0 w : World) (s : List UInt8) (T : Except Nat (List (InsL × Nat))) (p : Nat) (more : Bool) (acc : List (InsL × Nat)) (v5 v6 : Value) : Prop where
  bel : Below w0.heap.size w0 w
  out : w.ownsRow w0.heap.size 38 2 v5 acc.length (inC acc)
  pl : w.ownsRow w0.heap.size 3 1 v6 acc.length (plC acc)
  tell : T = addA acc (readL p (if more = true then splitC 10 (s.drop p) else []))
  le : more = true → p ≤ s.length
  few : acc.length ≤ p
  big : p ≤ s.length + 1
theorem PrS.below {w0 w w' : World} {s : List UInt8} {T : Except Nat (List (InsL × Nat))} {p : Nat} {more : Bool} {acc : List (InsL × Nat)} {v5 v6 : Value} (h : PrS w0 w s T p more acc v5 v6) (hb : Below w.heap.size w w') : PrS w0 w' s T p more acc v5 v6 :=
  ⟨h.bel.trans (hb.mono h.bel.size), ownsRow_below h.out hb, ownsRow_below h.pl hb, h.tell, h.le, h.few, h.big⟩
theorem PrS.app {w0 w w7 w8 : World} {s line : List UInt8} {T : Except Nat (List (InsL × Nat))} {p n F : Nat} {more' : Bool} {acc : List (InsL × Nat)} {v5 v6 v5' v6' : Value} {i : InsL} {X1 X2 Y : Obj} (h : PrS w0 w s T p true acc v5 v6) (hn : acc.length = n)
    (h7 : w7.ownsRow w0.heap.size 38 2 v5' (n + 1) (inC acc ++ [.int .i64 i.1, .int .i64 i.2])) (g7 : ((w.alloc X1).alloc X2).grownBy w7 v5.ownBlock)
    (h8 : w8.ownsRow w0.heap.size 3 1 v6' (n + 1) (plC acc ++ [.int .i64 (F : Int)])) (g8 : (w7.alloc Y).grownBy w8 v6.ownBlock) (hF : F = p + leadL line)
    (hc : splitC 10 (s.drop p) = line :: (if more' = true then splitC 10 (s.drop (p + line.length + 1)) else [])) (hl : more' = true → p + line.length + 1 ≤ s.length) (hw : ¬ wordsL line = []) (hi : insL (wordsL line) = some i) (hb : line.length ≤ s.length - p) :
    PrS w0 w8 s T (p + line.length + 1) more' (acc ++ [(i, F)]) v5' v6' := by
  have z7 := g7.size
  have z8 := g8.size
  simp at z7 z8
  have lo := h.bel.size
  have low : ∀ k, k < w0.heap.size → w8.heap[k]? = w.heap[k]? := fun k hk => by
    rw [g8.block k (by simp; omega) (fun e => by have := (h.pl.lt k e.symm).1; omega), heap_alloc_old w7 _ (by omega), g7.block k (by simp; omega) (fun e => by have := (h.out.lt k e.symm).1; omega), heap_alloc_old (w.alloc X1) _ (by simp; omega), heap_alloc_old w _ (by omega)]
  refine ⟨⟨(g8.os.trans g7.os).trans h.bel.os, (g8.tape.trans g7.tape).trans h.bel.tape, (g8.output.trans g7.output).trans h.bel.output, by omega, fun k hk => (low k hk).trans (h.bel.block k hk)⟩, ?_, ?_, ?_, hl, by rw [List.length_append, hn]; have := h.few; simp; omega, by have := h.le rfl; omega⟩
  · rw [List.length_append, hn, show [(i, F)].length = 1 from rfl, ← inC_snoc]
    refine ownsRow_same h7 fun j hj => ?_
    have l7 := (h7.lt j hj).2
    rw [g8.block j (by simp; omega) (fun e => ?_), heap_alloc_old w7 _ l7]
    obtain ⟨c1, e1⟩ := ownsRow_tyC h7 hj
    obtain ⟨c2, e2⟩ := ownsRow_tyC h.pl e.symm
    have l2 := (h.pl.lt j e.symm).2
    by_cases hq : v5.ownBlock = some j
    · obtain ⟨c3, e3⟩ := ownsRow_tyC h.out hq
      rw [e3] at e2
      simp at e2
    · rw [g7.block j (by simp; omega) (fun e => hq e.symm), heap_alloc_old (w.alloc X1) _ (by simp; omega), heap_alloc_old w _ l2, e2] at e1
      simp at e1
  · rw [List.length_append, hn, show [(i, F)].length = 1 from rfl, ← plC_snoc]
    exact h8
  · have ht := h.tell
    simp only [if_true] at ht
    rw [hc, read_one hw hi, ← hF] at ht
    exact ht
end Go.Proofs.YtkidcoolcjmcfaaDoor
