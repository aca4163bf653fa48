/-
  Memory of the machine: rows of numbers, of instructions, the machine's block, the law's memory.
-/
import Derived.Test.YtfnojlgmbfocfaaDoorBase
import Derived.Test.YtfnojlgmbfocfaaDoorVMath
namespace Go.Proofs.YtfnojlgmbfocfaaDoor
open Go.RowKit
set_option linter.unusedVariables false

/-- The slice v reads xs in the world w. -/
def Sees (w : World) (v : Value) (xs : List Int) : Prop :=
  ∃ b off ao cap, v = .slice ao xs.length cap ∧ xs.length ≤ cap ∧ (ao = none → cap = 0) ∧ (xs ≠ [] → ao = some ⟨b, off, none⟩) ∧ ∀ j, j < xs.length → w.cell? ⟨b, off + j, none⟩ = some (.int .i64 (xs.getD j 0))
theorem Sees.below {w w' : World} {v : Value} {xs : List Int} (h : Sees w v xs) (hb : Below w.heap.size w w') : Sees w' v xs := by
  obtain ⟨b, off, ao, cap, hv, hc, hn, ha, hcell⟩ := h
  exact ⟨b, off, ao, cap, hv, hc, hn, ha, fun j hj => (hb.cell (World.block_lt_of_cell? w _ (hcell j hj))).trans (hcell j hj)⟩
theorem Sees.nil (w : World) : Sees w (.slice none 0 0) [] := ⟨0, 0, none, 0, rfl, Nat.le_refl _, fun _ => rfl, fun h => absurd rfl h, fun j hj => by simp at hj⟩
/-- The slice v is the call's own, made from block 'base' on, and holds xs. -/
def Owns (w : World) (base : Nat) (v : Value) (xs : List Int) : Prop := w.ownsRow base 3 1 v xs.length (xs.map (Value.int .i64))
theorem Owns.below {w w' : World} {base : Nat} {v : Value} {xs : List Int} (h : Owns w base v xs) (hb : Below w.heap.size w w') : Owns w' base v xs := ownsRow_below h hb
theorem Owns.nil (w : World) (base : Nat) : Owns w base (.slice none 0 0) [] := World.ownsRow_nil _ _ _ _
theorem Owns.sees {w : World} {base : Nat} {v : Value} {xs : List Int} (h : Owns w base v xs) : Sees w v xs := by
  rcases h.2 with ⟨rfl, hn⟩ | ⟨g, cap, cur, rfl, hbase, hg, hcap, _, _, ht⟩
  · have : xs = [] := List.eq_nil_of_length_eq_zero hn
    subst this
    exact Sees.nil w
  · refine ⟨g, 0, _, cap, rfl, hcap, (fun h => by cases h), fun _ => rfl, fun j hj => ?_⟩
    have hc := h.cells (g := g) rfl j (.int .i64 (xs.getD j 0)) (by simp [List.getD, hj])
    rw [Nat.zero_add]
    rwa [addr_add, Nat.zero_add] at hc
theorem Owns.shape {w : World} {base : Nat} {v : Value} {xs : List Int} (h : Owns w base v xs) : ∃ ao cap, v = .slice ao xs.length cap ∧ xs.length ≤ cap := by
  rcases h.2 with ⟨rfl, hn⟩ | ⟨g, cap, cur, rfl, _, _, hc, _⟩
  · exact ⟨none, 0, by rw [hn], by omega⟩
  · exact ⟨_, cap, rfl, hc⟩
/-- What lies in a block that stays as it is. -/
theorem ownsRow_same {w w' : World} {base : Nat} {e : TypeId} {size : Nat} {v : Value} {n : Nat} {xs : List Value} (h : w.ownsRow base e size v n xs) (hb : ∀ j, v.ownBlock = some j → w'.heap[j]? = w.heap[j]?) : w'.ownsRow base e size v n xs := by
  refine ⟨h.1, ?_⟩
  rcases h.2 with hn | ⟨g, cap, cur, rfl, hbase, hg, rest⟩
  · exact Or.inl hn
  · exact Or.inr ⟨g, cap, cur, rfl, hbase, by rw [hb g (by simp [Value.ownBlock])]; exact hg, rest⟩
theorem ownsRow_le {w : World} {base base' : Nat} {e : TypeId} {size : Nat} {v : Value} {n : Nat} {xs : List Value} (h : w.ownsRow base e size v n xs) (hb : base' ≤ base) : w.ownsRow base' e size v n xs := by
  refine ⟨h.1, ?_⟩
  rcases h.2 with hn | ⟨g, cap, cur, rfl, hbase, hg, rest⟩
  · exact Or.inl hn
  · exact Or.inr ⟨g, cap, cur, rfl, by omega, hg, rest⟩
theorem ownsRow_lt {w : World} {base : Nat} {e : TypeId} {size : Nat} {v : Value} {n : Nat} {xs : List Value} (h : w.ownsRow base e size v n xs) : ∀ j, v.ownBlock = some j → base ≤ j ∧ j < w.heap.size := h.lt
/-- A row cut short. -/
theorem Owns.cut {w : World} {base : Nat} {ao : Option Addr} {n cap : Nat} {xs : List Int} (h : Owns w base (.slice ao n cap) xs) (k : Nat) (hk : k ≤ xs.length) : Owns w base (.slice ao k cap) (xs.take k) := by
  have hl : (xs.take k).length = k := by rw [List.length_take]; omega
  unfold Owns at *
  rw [hl]
  refine ⟨by simp; omega, ?_⟩
  rcases h.2 with ⟨hv, hn⟩ | ⟨g, cap', cur, hv, hbase, hg, hcap, hm, hsz, ht⟩
  · cases hv
    have : k = 0 := by omega
    subst this
    exact Or.inl ⟨rfl, rfl⟩
  · cases hv
    refine Or.inr ⟨g, cap, cur, rfl, hbase, hg, by omega, hm, hsz, ?_⟩
    rw [List.map_take, ← ht, List.take_take]
    congr 1
    omega
theorem Tryd.info3 : (Tryd.prog.info? 3).map (fun i => (i.zero, i.size, i.bytes)) = some (some (.int .i64 0), 1, 8) := by kernel_rfl

/-- 'append(v, u...)' of numbers, v the call's own. -/
theorem run_app (w : World) (ty : TypeId) (base : Nat) (v : Value) (xs : List Int) (hown : Owns w base v xs) (u : Value) (ys : List Int) (hsee : Sees w u ys) (hb : (xs.length + ys.length) * 8 ≤ 140737488355328) (hbase : base ≤ w.heap.size) :
    ∃ v' w', (Builtin.append_ #[23, 23] ty #[v, u]).run Tryd.prog w = .ok v' w' ∧ Owns w' base v' (xs ++ ys) ∧ w.grownBy w' v.ownBlock ∧ (v'.ownBlock = v.ownBlock ∨ v'.ownBlock = some w.heap.size) := by
  obtain ⟨i0, hi, hz0, hz1, hz2⟩ := info_parts Tryd.info3
  obtain ⟨b, off, ao, cap, rfl, hcap, hnil, hao, hcell⟩ := hsee
  by_cases hy : ys = []
  · subst hy
    cases ao with
    | none =>
      obtain rfl := hnil rfl
      refine ⟨v, w, run_append_owned_none (P := Tryd.prog) (w := w) base 23 ty 3 i0 1 Tryd.underlying23 hi v _ _ hown, by simpa using hown, ⟨rfl, rfl, rfl, Nat.le_refl _, fun _ _ _ => rfl⟩, Or.inl rfl⟩
    | some ad =>
      rcases hown.2 with ⟨rfl, hn⟩ | ⟨g, cp, cur, hv, hbs, hg, hcp, _⟩
      · obtain ⟨v', w', hr, h1, h2, h3⟩ := run_append_own (P := Tryd.prog) w base 23 ty 3 i0 (.int .i64 0) 1 8 Tryd.underlying23 hi hz0 hz1 hz2 rfl (by decide) _ _ _ hown ad 0 cap [] rfl (by simp) (by simp) (by simp only [maxLen]; simp at hb; omega) (by simpa using hb) hbase
        exact ⟨v', w', hr, by simpa [Owns] using h1, h2, Or.inl (by rw [h3.2 ⟨rfl, rfl⟩])⟩
      · subst hv
        obtain ⟨w', hr, h1, h2⟩ := run_append_fits (P := Tryd.prog) (w := w) base 23 ty 3 i0 1 Tryd.underlying23 hi hz1 g _ cp _ hown ad 0 cap [] rfl (by simp) (by simp) (by omega)
        exact ⟨_, w', hr, by simpa [Owns] using h1, h2, Or.inl rfl⟩
  · obtain rfl := hao hy
    have hpl : 0 < ys.length := List.length_pos_iff.2 hy
    obtain ⟨g, cap', w', hr, h1, h2, h3, _⟩ := run_append_lies (P := Tryd.prog) w 23 ty base 3 i0 (.int .i64 0) 1 8 Tryd.underlying23 hi hz0 hz1 hz2 rfl (by decide) v _ _ hown ⟨b, off, none⟩ ys.length cap (ys.map (Value.int .i64)) (by simp) (fun j y hj => by
        have hjl : j < ys.length := by
          have := (List.getElem?_eq_some_iff.1 hj).1
          simpa using this
        rw [addr_add, hcell j hjl]
        simp [hjl] at hj
        simp [List.getD, hjl, hj]) (by
        intro y hy'
        obtain ⟨z, _, rfl⟩ := List.mem_map.1 hy'
        rfl) hpl (by simp only [maxLen]; omega) hb hbase _ rfl
    refine ⟨_, w', hr, by simpa [Owns] using h1, h2, ?_⟩
    rcases h3 with h3 | h3
    · exact Or.inl (by simpa [Value.ownBlock] using h3.symm)
    · exact Or.inr (by simp [Value.ownBlock, h3])
theorem step_append_run {ops : Array Oper} {o : Oper} {a : Act} {w : World} {K : Act → World → Prop} {Q : Exit → Act → World → Prop} {E : Prop}
    (hg : o.guard = none) (d x : Operand) (dT sT : TypeId) (hop : o.op = Op.call { callee := Callee.builtin Builtin.append, args := #[d, x], argTypes := #[dT, sT] })
    (v u : Value) (hd : a.eval d = v) (hx : a.eval x = u) {v' : Value} {w' : World} (hr : (Builtin.append_ #[dT, sT] o.type #[v, u]).run Tryd.prog w = .ok v' w') (hK : K (a.put o.dst v') w') :
    if Region.wanted o (yielded ops a.tmps) = true then Oper.wp Tryd.prog o a w K Q else E := by
  have hw : Region.wanted o (yielded ops a.tmps) = true := by simp [Region.wanted, hg]
  rw [if_pos hw]
  unfold Oper.wp
  simp [execOp, hop, resolve, invoke, builtin, hd, hx, hr, Result.andThen]
  exact hK
theorem wpList_append_run {w : World} {ops : Array Oper} {rest : List Oper} {o : Oper} {a : Act} {Q : Exit → Act → World → Prop} (hgd : o.guard = none) (s x : Operand) (dT sT : TypeId)
    (ho : o.op = .call { callee := .builtin .append, args := #[s, x], argTypes := #[dT, sT] }) (v u : Value) (hs : a.eval s = v) (hx : a.eval x = u) {v' : Value} {w' : World} (hr : (Builtin.append_ #[dT, sT] o.type #[v, u]).run Tryd.prog w = .ok v' w')
    (h : wpList Tryd.prog ops Q rest (a.put o.dst v') w') : wpList Tryd.prog ops Q (o :: rest) a w := by
  refine wpList_plain hgd fun K hK => ?_
  unfold Oper.wp
  simp [execOp, ho, resolve, invoke, builtin, hs, hx, hr, Result.andThen]
  exact hK _ _ h
theorem sees_one (w : World) (x : Int) : Sees (w.alloc (.cells #[.int .i64 x] 3)) (.slice (some ⟨w.heap.size, 0, none⟩) 1 1) [x] := by
  refine ⟨w.heap.size, 0, _, 1, rfl, Nat.le_refl _, (fun h => by cases h), fun _ => rfl, fun j hj => ?_⟩
  have : j = 0 := by simp at hj; omega
  subst this
  simp
theorem sees_two (w : World) (x y : Int) : Sees (w.alloc (.cells #[.int .i64 x, .int .i64 y] 3)) (.slice (some ⟨w.heap.size, 0, none⟩) 2 2) [x, y] := by
  refine ⟨w.heap.size, 0, _, 2, rfl, Nat.le_refl _, (fun h => by cases h), fun _ => rfl, fun j hj => ?_⟩
  have : j = 0 ∨ j = 1 := by simp at hj; omega
  rcases this with rfl | rfl <;> simp

/-! ### Instructions -/
def cellsI : List InsL → List Value
  | [] => []
  | p :: r => .int .i64 p.1 :: .int .i64 p.2 :: cellsI r
theorem cellsI_len (l : List InsL) : (cellsI l).length = l.length * 2 := by
  induction l with
  | nil => rfl
  | cons p r ih => simp [cellsI, ih]; omega
theorem cellsI_get : ∀ (l : List InsL) (j : Nat) (h : j < l.length), (cellsI l)[j * 2]? = some (.int .i64 l[j].1) ∧ (cellsI l)[j * 2 + 1]? = some (.int .i64 l[j].2)
  | [], j, h => by simp at h
  | p :: r, 0, h => by simp [cellsI]
  | p :: r, j + 1, h => by
    have ih := cellsI_get r j (by simpa using h)
    rw [show (j + 1) * 2 = j * 2 + 1 + 1 by omega]
    simpa [cellsI] using ih
theorem cellsI_one (l : List InsL) : ∀ v ∈ cellsI l, v.oneCell' = true := by
  induction l with
  | nil => intro v hv; cases hv
  | cons p r ih =>
    intro v hv
    simp only [cellsI, List.mem_cons] at hv
    rcases hv with rfl | rfl | hv
    · rfl
    · rfl
    · exact ih v hv
def SeesI (w : World) (v : Value) (l : List InsL) : Prop :=
  ∃ b off ao cap, v = .slice ao l.length cap ∧ l.length ≤ cap ∧ (ao = none → cap = 0) ∧ (l ≠ [] → ao = some ⟨b, off, none⟩) ∧ ∀ j, (h : j < l.length) → w.cell? ⟨b, off + j * 2, none⟩ = some (.int .i64 l[j].1) ∧ w.cell? ⟨b, off + j * 2 + 1, none⟩ = some (.int .i64 l[j].2)
theorem SeesI.below {w w' : World} {v : Value} {l : List InsL} (h : SeesI w v l) (hb : Below w.heap.size w w') : SeesI w' v l := by
  obtain ⟨b, off, ao, cap, hv, hc, hn, ha, hcell⟩ := h
  refine ⟨b, off, ao, cap, hv, hc, hn, ha, fun j hj => ?_⟩
  obtain ⟨h1, h2⟩ := hcell j hj
  exact ⟨(hb.cell (World.block_lt_of_cell? w _ h1)).trans h1, (hb.cell (World.block_lt_of_cell? w _ h2)).trans h2⟩
def OwnsI (w : World) (base : Nat) (v : Value) (l : List InsL) : Prop := w.ownsRow base 57 2 v l.length (cellsI l)
theorem OwnsI.sees {w : World} {base : Nat} {v : Value} {l : List InsL} (h : OwnsI w base v l) : SeesI w v l := by
  rcases h.2 with ⟨rfl, hn⟩ | ⟨g, cap, cur, rfl, hbase, hg, hcap, _, _, ht⟩
  · have : l = [] := List.eq_nil_of_length_eq_zero hn
    subst this
    exact ⟨0, 0, none, 0, rfl, Nat.le_refl _, fun _ => rfl, fun h => absurd rfl h, fun j hj => by simp at hj⟩
  · refine ⟨g, 0, _, cap, rfl, hcap, (fun h => by cases h), fun _ => rfl, fun j hj => ?_⟩
    obtain ⟨e1, e2⟩ := cellsI_get l j hj
    have h1 := h.cells (g := g) rfl _ _ e1
    have h2 := h.cells (g := g) rfl _ _ e2
    rw [addr_add] at h1 h2
    exact ⟨h1, h2⟩
theorem Tryd.infoI : (Tryd.prog.info? 57).map (fun i => (i.zero, i.size, i.bytes)) = some (some (.agg #[.int .i64 0, .int .i64 0]), 2, 16) := by kernel_rfl
/-- 'append(nil, u...)' of instructions. -/
theorem run_appI (w : World) (ty : TypeId) (u : Value) (l : List InsL) (hsee : SeesI w u l) (hb : l.length * 16 ≤ 140737488355328) :
    ∃ v' w', (Builtin.append_ #[22, 22] ty #[.slice none 0 0, u]).run Tryd.prog w = .ok v' w' ∧ OwnsI w' w.heap.size v' l ∧ Below w.heap.size w w' := by
  obtain ⟨i0, hi, hz0, hz1, hz2⟩ := info_parts Tryd.infoI
  have hown : w.ownsRow w.heap.size 57 2 (.slice none 0 0) 0 [] := World.ownsRow_nil _ _ _ _
  obtain ⟨b, off, ao, cap, rfl, hcap, hnil, hao, hcell⟩ := hsee
  by_cases hy : l = []
  · subst hy
    cases ao with
    | none =>
      obtain rfl := hnil rfl
      exact ⟨_, w, run_append_owned_none (P := Tryd.prog) (w := w) w.heap.size 22 ty 57 i0 2 Tryd.underlying22 hi _ _ _ hown, hown, Below.refl _ _⟩
    | some ad =>
      obtain ⟨v', w', hr, h1, h2, h3⟩ := run_append_own (P := Tryd.prog) w w.heap.size 22 ty 57 i0 _ 2 16 Tryd.underlying22 hi hz0 hz1 hz2 rfl (by decide) _ _ _ hown ad 0 cap [] rfl (by simp) (by simp) (by simp only [maxLen]; omega) (by simp) (Nat.le_refl _)
      exact ⟨v', w', hr, by simpa [OwnsI, cellsI] using h1, (Below.refl _ _).grown h2 (Nat.le_refl _) (fun k hk => by simp [Value.ownBlock] at hk)⟩
  · obtain rfl := hao hy
    have hpl : 0 < l.length := List.length_pos_iff.2 hy
    obtain ⟨g, cap', w', hr, h1, h2, h3, _⟩ := run_append_lies (P := Tryd.prog) w 22 ty w.heap.size 57 i0 _ 2 16 Tryd.underlying22 hi hz0 hz1 hz2 rfl (by decide) _ _ _ hown ⟨b, off, none⟩ l.length cap (cellsI l) (by rw [cellsI_len]) (fun j y hj => by
        have hjl : j < l.length * 2 := by
          have := (List.getElem?_eq_some_iff.1 hj).1
          rwa [cellsI_len] at this
        rw [addr_add]
        have hj2 : j / 2 < l.length := by omega
        obtain ⟨c1, c2⟩ := hcell (j / 2) hj2
        obtain ⟨e1, e2⟩ := cellsI_get l (j / 2) hj2
        have hm : j % 2 = 0 ∨ j % 2 = 1 := by omega
        rcases hm with hm | hm
        · rw [show j = j / 2 * 2 by omega, e1] at hj
          rw [show off + j = off + j / 2 * 2 by omega, c1]
          exact hj
        · rw [show j = j / 2 * 2 + 1 by omega, e2] at hj
          rw [show off + j = off + j / 2 * 2 + 1 by omega, c2]
          exact hj) (cellsI_one l) hpl (by simp only [maxLen]; omega) (by omega) (Nat.le_refl _) _ rfl
    exact ⟨_, w', hr, by simpa [OwnsI] using h1, (Below.refl _ _).grown h2 (Nat.le_refl _) (fun k hk => by simp [Value.ownBlock] at hk)⟩

/-! ### What stays -/
/-- Below B all stays but what lies at q and at r. -/
structure Kp (B q r : Nat) (w w' : World) : Prop where
  os : w'.os = w.os
  tape : w'.tape = w.tape
  output : w'.output = w.output
  size : w.heap.size ≤ w'.heap.size
  block : ∀ k, k < B → k ≠ q → k ≠ r → w'.heap[k]? = w.heap[k]?
theorem Kp.refl (B q r : Nat) (w : World) : Kp B q r w w := ⟨rfl, rfl, rfl, Nat.le_refl _, fun _ _ _ _ => rfl⟩
theorem Kp.trans {B q r : Nat} {a b c : World} (h : Kp B q r a b) (k : Kp B q r b c) : Kp B q r a c :=
  ⟨k.os.trans h.os, k.tape.trans h.tape, k.output.trans h.output, Nat.le_trans h.size k.size, fun i hi h1 h2 => (k.block i hi h1 h2).trans (h.block i hi h1 h2)⟩
theorem Kp.of {B q r : Nat} {w w' : World} (h : Below B w w') : Kp B q r w w' := ⟨h.os, h.tape, h.output, h.size, fun k hk _ _ => h.block k hk⟩
theorem Kp.mono {B B' q r : Nat} {w w' : World} (h : Kp B q r w w') (hB : B' ≤ B) : Kp B' q r w w' := ⟨h.os, h.tape, h.output, h.size, fun k hk => h.block k (by omega)⟩
theorem Kp.below {B B' q r : Nat} {w w' : World} (h : Kp B q r w w') (hB : B' ≤ B) (hq : B' ≤ q) (hr : B' ≤ r) : Below B' w w' := ⟨h.os, h.tape, h.output, h.size, fun k hk => h.block k (by omega) (by omega) (by omega)⟩
theorem Kp.set {B q r : Nat} {w : World} (p : Addr) (hp : p.block = q ∨ p.block = r ∨ B ≤ p.block) (u : Value) : Kp B q r w (w.setCell p u) :=
  ⟨rfl, rfl, rfl, by simp [World.setCell], fun k hk h1 h2 => Below.heap_setCell _ _ _ _ (by omega)⟩

/-! ### The machine -/
/-- At p lies a machine of these instructions that stands at s. -/
structure Mach (w : World) (B p : Nat) (m : Value) (vc vs vk : Value) (code : List InsL) (s : StL) : Prop where
  blk : w.heap[p]? = some (.cells #[vc, m, .int .i64 s.pc, vs, vk] 73 (0, 0))
  base : B ≤ p
  oc : OwnsI w B vc code
  os : Owns w B vs s.st
  ok : Owns w B vk s.ca
  pc : vc.ownBlock ≠ some p
  ps : vs.ownBlock ≠ some p
  pk : vk.ownBlock ≠ some p
  cs : ∀ j, vc.ownBlock = some j → vs.ownBlock ≠ some j
  ck : ∀ j, vc.ownBlock = some j → vk.ownBlock ≠ some j
  sk : ∀ j, vs.ownBlock = some j → vk.ownBlock ≠ some j
theorem Mach.lt {w : World} {B p : Nat} {m vc vs vk : Value} {code : List InsL} {s : StL} (h : Mach w B p m vc vs vk code s) : p < w.heap.size := (Array.getElem?_eq_some_iff.1 h.blk).1
theorem Mach.cells {w : World} {B p : Nat} {m vc vs vk : Value} {code : List InsL} {s : StL} (h : Mach w B p m vc vs vk code s) :
    w.cell? ⟨p, 0, none⟩ = some vc ∧ w.cell? ⟨p, 1, none⟩ = some m ∧ w.cell? ⟨p, 2, none⟩ = some (.int .i64 s.pc) ∧ w.cell? ⟨p, 3, none⟩ = some vs ∧ w.cell? ⟨p, 4, none⟩ = some vk ∧ w.frozen? ⟨p, 2, none⟩ = false ∧ w.frozen? ⟨p, 3, none⟩ = false ∧ w.frozen? ⟨p, 4, none⟩ = false := by
  have hb := h.blk
  refine ⟨?_, ?_, ?_, ?_, ?_, ?_, ?_, ?_⟩ <;> simp [World.cell?, World.frozen?, hb]
/-- Whatever leaves the blocks from B on as they are. -/
theorem Mach.same {w w' : World} {B p : Nat} {m vc vs vk : Value} {code : List InsL} {s : StL} (h : Mach w B p m vc vs vk code s) (hb : ∀ j, B ≤ j → j < w.heap.size → w'.heap[j]? = w.heap[j]?) : Mach w' B p m vc vs vk code s :=
  ⟨by rw [hb p h.base h.lt]; exact h.blk, h.base, ownsRow_same h.oc (fun j hj => hb j (h.oc.lt j hj).1 (h.oc.lt j hj).2), ownsRow_same h.os (fun j hj => hb j (h.os.lt j hj).1 (h.os.lt j hj).2), ownsRow_same h.ok (fun j hj => hb j (h.ok.lt j hj).1 (h.ok.lt j hj).2), h.pc, h.ps, h.pk, h.cs, h.ck, h.sk⟩
theorem Mach.below {w w' : World} {B p : Nat} {m vc vs vk : Value} {code : List InsL} {s : StL} (h : Mach w B p m vc vs vk code s) (hb : Below w.heap.size w w') : Mach w' B p m vc vs vk code s := h.same (fun j _ hj => hb.block j hj)
theorem heap_set2 {w : World} {p : Nat} {a b c d e x : Value} {t : TypeId} (h : w.heap[p]? = some (.cells #[a, b, c, d, e] t (0, 0))) : (w.setCell ⟨p, 2, none⟩ x).heap[p]? = some (.cells #[a, b, x, d, e] t (0, 0)) := by
  simp only [World.setCell, Array.getElem?_modify, h]
  simp
theorem heap_set3 {w : World} {p : Nat} {a b c d e x : Value} {t : TypeId} (h : w.heap[p]? = some (.cells #[a, b, c, d, e] t (0, 0))) : (w.setCell ⟨p, 3, none⟩ x).heap[p]? = some (.cells #[a, b, c, x, e] t (0, 0)) := by
  simp only [World.setCell, Array.getElem?_modify, h]
  simp
theorem heap_set4 {w : World} {p : Nat} {a b c d e x : Value} {t : TypeId} (h : w.heap[p]? = some (.cells #[a, b, c, d, e] t (0, 0))) : (w.setCell ⟨p, 4, none⟩ x).heap[p]? = some (.cells #[a, b, c, d, x] t (0, 0)) := by
  simp only [World.setCell, Array.getElem?_modify, h]
  simp
theorem far_set {w : World} {j p o : Nat} {x : Value} (h : j ≠ p) : (w.setCell ⟨p, o, none⟩ x).heap[j]? = w.heap[j]? := Below.heap_setCell w ⟨p, o, none⟩ x j h
/-- The next instruction's number is set. -/
theorem Mach.setPc {w : World} {B p : Nat} {m vc vs vk : Value} {code : List InsL} {s : StL} (h : Mach w B p m vc vs vk code s) (n : Int) : Mach (w.setCell ⟨p, 2, none⟩ (.int .i64 n)) B p m vc vs vk code ⟨n, s.st, s.ca⟩ :=
  ⟨heap_set2 h.blk, h.base, ownsRow_same h.oc (fun j hj => far_set (fun e => h.pc (by rw [hj, e]))), ownsRow_same h.os (fun j hj => far_set (fun e => h.ps (by rw [hj, e]))), ownsRow_same h.ok (fun j hj => far_set (fun e => h.pk (by rw [hj, e]))), h.pc, h.ps, h.pk, h.cs, h.ck, h.sk⟩
/-- Another row of numbers is the stack, behind a step that turned at most the stack's own block. -/
theorem Mach.setSt {w w' : World} {B p : Nat} {m vc vs vk vs' : Value} {code : List InsL} {s : StL} {l : List Int} (h : Mach w B p m vc vs vk code s) (hg : w.grownBy w' vs.ownBlock) (ho : Owns w' B vs' l) (hv : vs'.ownBlock = vs.ownBlock ∨ vs'.ownBlock = some w.heap.size) :
    Mach (w'.setCell ⟨p, 3, none⟩ vs') B p m vc vs' vk code ⟨s.pc, l, s.ca⟩ := by
  have hlt := h.lt
  have hne : vs'.ownBlock ≠ some p := by
    rcases hv with e | e
    · rw [e]; exact h.ps
    · rw [e]; intro e2; simp at e2; omega
  have hc := fun j hj => h.oc.lt j hj
  have hk := fun j hj => h.ok.lt j hj
  refine ⟨heap_set3 (by rw [hg.block p hlt (fun e => h.ps e.symm)]; exact h.blk), h.base, ownsRow_same h.oc (fun j hj => ?_), ownsRow_same ho (fun j hj => far_set (fun e => hne (by rw [hj, e]))), ownsRow_same h.ok (fun j hj => ?_), h.pc, hne, h.pk, fun j hj => ?_, h.ck, fun j hj => ?_⟩
  · rw [far_set (fun e => h.pc (by rw [hj, e]))]
    exact hg.block j (hc j hj).2 (fun e => h.cs j hj e.symm)
  · rw [far_set (fun e => h.pk (by rw [hj, e]))]
    exact hg.block j (hk j hj).2 (fun e => h.sk j e.symm hj)
  · rcases hv with e | e
    · rw [e]; exact h.cs j hj
    · rw [e]; intro e2; simp at e2; have := (hc j hj).2; omega
  · rcases hv with e | e
    · rw [e] at hj; exact h.sk j hj
    · rw [e] at hj; intro e2; simp at hj; have := (hk j e2).2; omega
theorem Mach.setCa {w w' : World} {B p : Nat} {m vc vs vk vk' : Value} {code : List InsL} {s : StL} {l : List Int} (h : Mach w B p m vc vs vk code s) (hg : w.grownBy w' vk.ownBlock) (ho : Owns w' B vk' l) (hv : vk'.ownBlock = vk.ownBlock ∨ vk'.ownBlock = some w.heap.size) :
    Mach (w'.setCell ⟨p, 4, none⟩ vk') B p m vc vs vk' code ⟨s.pc, s.st, l⟩ := by
  have hlt := h.lt
  have hne : vk'.ownBlock ≠ some p := by
    rcases hv with e | e
    · rw [e]; exact h.pk
    · rw [e]; intro e2; simp at e2; omega
  have hc := fun j hj => h.oc.lt j hj
  have hs := fun j hj => h.os.lt j hj
  refine ⟨heap_set4 (by rw [hg.block p hlt (fun e => h.pk e.symm)]; exact h.blk), h.base, ownsRow_same h.oc (fun j hj => ?_), ownsRow_same h.os (fun j hj => ?_), ownsRow_same ho (fun j hj => far_set (fun e => hne (by rw [hj, e]))), h.pc, h.ps, hne, h.cs, fun j hj => ?_, fun j hj => ?_⟩
  · rw [far_set (fun e => h.pc (by rw [hj, e]))]
    exact hg.block j (hc j hj).2 (fun e => h.ck j hj e.symm)
  · rw [far_set (fun e => h.ps (by rw [hj, e]))]
    exact hg.block j (hs j hj).2 (fun e => h.sk j hj e.symm)
  · rcases hv with e | e
    · rw [e]; exact h.ck j hj
    · rw [e]; intro e2; simp at e2; have := (hc j hj).2; omega
  · rcases hv with e | e
    · rw [e]; exact h.sk j hj
    · rw [e]; intro e2; simp at e2; have := (hs j hj).2; omega
theorem grownBy_refl (w : World) (r : Option Nat) : w.grownBy w r := ⟨rfl, rfl, rfl, Nat.le_refl _, fun _ _ _ => rfl⟩

/-! ### The law's memory -/
/-- At q lies a memory whose bytes lie at r. -/
structure MemAt (w : World) (q r : Nat) (b : List Nat) (ld st : Nat) (vb : Value) : Prop where
  blk : w.heap[q]? = some (.cells #[vb, .int .i64 (ld : Int), .int .i64 (st : Int)] 43 (0, 0))
  own : OwnsN .u8 5 w 0 vb b
  at_ : ∀ j, vb.ownBlock = some j → j = r ∧ r ≠ q
  lt256 : ∀ x ∈ b, x < 256
theorem MemAt.lt {w : World} {q r : Nat} {b : List Nat} {ld st : Nat} {vb : Value} (h : MemAt w q r b ld st vb) : q < w.heap.size := (Array.getElem?_eq_some_iff.1 h.blk).1
theorem MemAt.rlt {w : World} {q r : Nat} {b : List Nat} {ld st : Nat} {vb : Value} (h : MemAt w q r b ld st vb) : ∀ j, vb.ownBlock = some j → j < w.heap.size := fun j hj => (h.own.lt j hj).2
theorem MemAt.same {w w' : World} {q r : Nat} {b : List Nat} {ld st : Nat} {vb : Value} (h : MemAt w q r b ld st vb) (hq : w'.heap[q]? = w.heap[q]?) (hr : ∀ j, vb.ownBlock = some j → w'.heap[j]? = w.heap[j]?) : MemAt w' q r b ld st vb :=
  ⟨by rw [hq]; exact h.blk, ownsRow_same h.own hr, h.at_, h.lt256⟩
theorem MemAt.below {w w' : World} {q r : Nat} {b : List Nat} {ld st : Nat} {vb : Value} (h : MemAt w q r b ld st vb) (hb : Below w.heap.size w w') : MemAt w' q r b ld st vb := h.same (hb.block q h.lt) (fun j hj => hb.block j (h.rlt j hj))
theorem MemAt.cells {w : World} {q r : Nat} {b : List Nat} {ld st : Nat} {vb : Value} (h : MemAt w q r b ld st vb) :
    w.cell? ⟨q, 0, none⟩ = some vb ∧ w.cell? ⟨q, 1, none⟩ = some (.int .i64 (ld : Int)) ∧ w.cell? ⟨q, 2, none⟩ = some (.int .i64 (st : Int)) ∧ w.frozen? ⟨q, 1, none⟩ = false ∧ w.frozen? ⟨q, 2, none⟩ = false := by
  have hb := h.blk
  refine ⟨?_, ?_, ?_, ?_, ?_⟩ <;> simp [World.cell?, World.frozen?, hb]
theorem MemAt.setLd {w : World} {q r : Nat} {b : List Nat} {ld st : Nat} {vb : Value} (h : MemAt w q r b ld st vb) (n : Nat) : MemAt (w.setCell ⟨q, 1, none⟩ (.int .i64 (n : Int))) q r b n st vb := by
  refine ⟨?_, ownsRow_same h.own (fun j hj => far_set (fun e => (h.at_ j hj).2 (by rw [← (h.at_ j hj).1, e]))), h.at_, h.lt256⟩
  simp only [World.setCell, Array.getElem?_modify, h.blk]
  simp
theorem MemAt.setSt {w : World} {q r : Nat} {b : List Nat} {ld st : Nat} {vb : Value} (h : MemAt w q r b ld st vb) (n : Nat) : MemAt (w.setCell ⟨q, 2, none⟩ (.int .i64 (n : Int))) q r b ld n vb := by
  refine ⟨?_, ownsRow_same h.own (fun j hj => far_set (fun e => (h.at_ j hj).2 (by rw [← (h.at_ j hj).1, e]))), h.at_, h.lt256⟩
  simp only [World.setCell, Array.getElem?_modify, h.blk]
  simp
/-- Blocks from B on that are none of the machine's stay, and become none of it. -/
def Fr (B p : Nat) (vs vk : Value) (w : World) (vs' vk' : Value) (w' : World) : Prop :=
  ∀ z, B ≤ z → z < w.heap.size → z ≠ p → vs.ownBlock ≠ some z → vk.ownBlock ≠ some z → w'.heap[z]? = w.heap[z]? ∧ vs'.ownBlock ≠ some z ∧ vk'.ownBlock ≠ some z
theorem Fr.of {B p : Nat} {vs vk : Value} {w w' : World} (h : Below w.heap.size w w') : Fr B p vs vk w vs vk w' := fun z _ hz _ h1 h2 => ⟨h.block z hz, h1, h2⟩
theorem Fr.trans {B p : Nat} {v1 k1 v2 k2 v3 k3 : Value} {a b c : World} (h : Fr B p v1 k1 a v2 k2 b) (hs : a.heap.size ≤ b.heap.size) (k : Fr B p v2 k2 b v3 k3 c) : Fr B p v1 k1 a v3 k3 c := fun z hB hz hp h1 h2 => by
  obtain ⟨e1, e2, e3⟩ := h z hB hz hp h1 h2
  obtain ⟨d1, d2, d3⟩ := k z hB (by omega) hp e2 e3
  exact ⟨d1.trans e1, d2, d3⟩
/-- A step that leaves all from B on. -/
theorem Fr.kp {B p q r : Nat} {vs vk : Value} {w w' : World} (h : Kp w.heap.size q r w w') (hq : q < B) (hr : r < B) : Fr B p vs vk w vs vk w' := fun z hB hz _ h1 h2 => ⟨h.block z hz (by omega) (by omega), h1, h2⟩
/-- A machine and its memory. -/
structure MM (w : World) (B p q r : Nat) (m vc vs vk vb : Value) (code : List InsL) (s : StL) (b : List Nat) (ld st : Nat) : Prop where
  m : Mach w B p m vc vs vk code s
  h : MemAt w q r b ld st vb
  q : q < B
  r : r < B
theorem MM.below {w w' : World} {B p q r : Nat} {m vc vs vk vb : Value} {code : List InsL} {s : StL} {b : List Nat} {ld st : Nat} (h : MM w B p q r m vc vs vk vb code s b ld st) (hb : Below w.heap.size w w') : MM w' B p q r m vc vs vk vb code s b ld st := ⟨h.m.below hb, h.h.below hb, h.q, h.r⟩
theorem MM.le {w : World} {B p q r : Nat} {m vc vs vk vb : Value} {code : List InsL} {s : StL} {b : List Nat} {ld st : Nat} (h : MM w B p q r m vc vs vk vb code s b ld st) : B ≤ w.heap.size := by
  have := h.m.base; have := h.m.lt; omega
/-- The memory is asked: the machine stays. -/
theorem MM.asked {w w' : World} {B p q r : Nat} {m vc vs vk vb vb' : Value} {code : List InsL} {s : StL} {b b' : List Nat} {ld st ld' st' : Nat} (h : MM w B p q r m vc vs vk vb code s b ld st) (hm : MemAt w' q r b' ld' st' vb') (hk : Kp w.heap.size q r w w') : MM w' B p q r m vc vs vk vb' code s b' ld' st' :=
  ⟨h.m.same (fun j h1 h2 => hk.block j h2 (by have := h.q; omega) (by have := h.r; omega)), hm, h.q, h.r⟩
/-- The machine is turned: the memory stays. -/
theorem MM.turned {w w' : World} {B p q r : Nat} {m vc vs vk vb vc' vs' vk' : Value} {code : List InsL} {s s' : StL} {b : List Nat} {ld st : Nat} (h : MM w B p q r m vc vs vk vb code s b ld st) (hm : Mach w' B p m vc' vs' vk' code s') (hb : Below B w w') : MM w' B p q r m vc' vs' vk' vb code s' b ld st :=
  ⟨hm, h.h.same (hb.block q h.q) (fun j hj => hb.block j (by have := (h.h.at_ j hj).1; have := h.r; omega)), h.q, h.r⟩
end Go.Proofs.YtfnojlgmbfocfaaDoor
