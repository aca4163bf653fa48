/-
  Rows of requests: what they hold, what 'append' makes of them.
-/
import Derived.Test.YtllhibdjopfcnaaGreatDoorPFirst
namespace Go.Proofs.YtllhibdjopfcnaaGreatDoor
open Go.RowKit
set_option linter.unusedVariables false

/-- A request in memory: with the places of its fields and of its query. -/
structure RqE where
  q : ReqL
  af : Option Addr
  cf : Nat
  aq : Option Addr
  cq : Nat
def RqE.vf (e : RqE) : Value := .slice e.af e.q.head.2.2.2.length e.cf
def RqE.vq (e : RqE) : Value := .slice e.aq e.q.query.length e.cq
def RqE.row (e : RqE) : List Value := [.string ⟨e.q.head.1.toArray⟩, .string ⟨e.q.head.2.1.toArray⟩, .int .i64 e.q.head.2.2.1, e.vf, .string ⟨e.q.path.toArray⟩, e.vq, .string ⟨e.q.body.toArray⟩, .bool e.q.close]
def RqE.val (e : RqE) : Value := reqV e.q e.vf e.vq
def cellsR : List RqE → List Value
  | [] => []
  | e :: r => e.row ++ cellsR r
theorem row_len (e : RqE) : e.row.length = 8 := rfl
theorem cellsR_len (l : List RqE) : (cellsR l).length = l.length * 8 := by
  induction l with
  | nil => rfl
  | cons p r ih => simp [cellsR, ih, row_len]; omega
theorem cellsR_app (a b : List RqE) : cellsR (a ++ b) = cellsR a ++ cellsR b := by
  induction a with
  | nil => rfl
  | cons p r ih => simp [cellsR, ih]
theorem cellsR_get : ∀ (l : List RqE) (j i : Nat) (h : j < l.length), i < 8 → (cellsR l)[j * 8 + i]? = l[j].row[i]?
  | [], j, i, h, _ => by simp at h
  | p :: r, 0, i, h, hi => by
    rw [cellsR, Nat.zero_mul, Nat.zero_add, List.getElem?_append_left (by rw [row_len]; exact hi)]
    rfl
  | p :: r, j + 1, i, h, hi => by
    have ih := cellsR_get r j i (by simpa using h) hi
    rw [cellsR, List.getElem?_append_right (by rw [row_len]; omega), row_len, show (j + 1) * 8 + i - 8 = j * 8 + i by omega, ih]
    simp
theorem cellsR_one (l : List RqE) : ∀ v ∈ cellsR l, v.oneCell' = true := by
  induction l with
  | nil => intro v hv; cases hv
  | cons p r ih =>
    intro v hv
    rcases List.mem_append.1 hv with hv | hv
    · simp only [RqE.row, List.mem_cons, List.not_mem_nil, or_false] at hv
      rcases hv with rfl | rfl | rfl | rfl | rfl | rfl | rfl | rfl <;> rfl
    · exact ih v hv
/-- The slice v is the call's own row of requests. -/
structure OwnsQ (w : World) (base : Nat) (v : Value) (l : List RqE) : Prop where
  row : w.ownsRow base 36 8 v l.length (cellsR l)
  parts : ∀ e ∈ l, OwnsP w base e.vf e.q.head.2.2.2 ∧ OwnsP w base e.vq e.q.query
theorem OwnsQ.nil (w : World) (base : Nat) : OwnsQ w base (.slice none 0 0) [] := ⟨World.ownsRow_nil _ _ _ _, fun e he => by cases he⟩
theorem OwnsQ.below {w w' : World} {base : Nat} {v : Value} {l : List RqE} (h : OwnsQ w base v l) (hb : Below w.heap.size w w') : OwnsQ w' base v l :=
  ⟨ownsRow_below h.row hb, fun e he => ⟨OwnsP.below (h.parts e he).1 hb, OwnsP.below (h.parts e he).2 hb⟩⟩
theorem OwnsQ.shape {w : World} {base : Nat} {v : Value} {l : List RqE} (h : OwnsQ w base v l) : ∃ ao cap, v = .slice ao l.length cap := by
  rcases h.row.2 with ⟨rfl, hn⟩ | ⟨g, cap, cur, rfl, _⟩
  · exact ⟨none, 0, by rw [hn]⟩
  · exact ⟨_, cap, rfl⟩
theorem OwnsQ.block {w : World} {base : Nat} {v : Value} {l : List RqE} (h : OwnsQ w base v l) : ∀ j, v.ownBlock = some j → base ≤ j := by
  intro j hj
  rcases h.row.2 with ⟨rfl, hn⟩ | ⟨g, cap, cur, rfl, hb, _⟩
  · simp [Value.ownBlock] at hj
  · simp [Value.ownBlock] at hj
    omega
theorem OwnsQ.le {w : World} {base base' : Nat} {v : Value} {l : List RqE} (h : OwnsQ w base v l) (hb : base' ≤ base) : OwnsQ w base' v l := by
  refine ⟨⟨h.row.1, ?_⟩, fun e he => ⟨OwnsP.low (h.parts e he).1 hb, OwnsP.low (h.parts e he).2 hb⟩⟩
  rcases h.row.2 with hn | ⟨g, cap, cur, rfl, hbase, hg, rest⟩
  · exact Or.inl hn
  · exact Or.inr ⟨g, cap, cur, rfl, by omega, hg, rest⟩
/-- The slice v reads the requests l in the world w. -/
def SeesQ (w : World) (v : Value) (l : List RqE) : Prop :=
  ∃ b ao cap, v = .slice ao l.length cap ∧ l.length ≤ cap ∧ (l ≠ [] → ao = some ⟨b, 0, none⟩) ∧ (∀ j i, (h : j < l.length) → i < 8 → w.cell? ⟨b, j * 8 + i, none⟩ = l[j].row[i]?) ∧ ∀ e ∈ l, SeesP w e.vf e.q.head.2.2.2 ∧ SeesP w e.vq e.q.query
theorem OwnsQ.sees {w : World} {base : Nat} {v : Value} {l : List RqE} (h : OwnsQ w base v l) : SeesQ w v l := by
  have hp : ∀ e ∈ l, SeesP w e.vf e.q.head.2.2.2 ∧ SeesP w e.vq e.q.query := fun e he => ⟨OwnsP.sees (h.parts e he).1, OwnsP.sees (h.parts e he).2⟩
  rcases h.row.2 with ⟨rfl, hn⟩ | ⟨g, cap, cur, rfl, hbase, hg, hcap, _, _, ht⟩
  · have : l = [] := List.eq_nil_of_length_eq_zero hn
    subst this
    exact ⟨0, none, 0, rfl, Nat.le_refl _, fun h => absurd rfl h, (fun j i hj => by simp at hj), hp⟩
  · refine ⟨g, _, cap, rfl, hcap, fun _ => rfl, fun j i hj hi => ?_, hp⟩
    have e1 := cellsR_get l j i hj hi
    have hi' : i < l[j].row.length := by rw [row_len]; exact hi
    rw [List.getElem?_eq_getElem hi'] at e1 ⊢
    have h1 := h.row.cells (g := g) rfl _ _ e1
    rw [addr_add, Nat.zero_add] at h1
    exact h1
theorem SeesQ.below {w w' : World} {v : Value} {l : List RqE} (h : SeesQ w v l) (hb : Below w.heap.size w w') : SeesQ w' v l := by
  obtain ⟨b, ao, cap, hv, hc, ha, hcell, hp⟩ := h
  refine ⟨b, ao, cap, hv, hc, ha, fun j i hj hi => ?_, fun e he => ⟨(hp e he).1.below hb, (hp e he).2.below hb⟩⟩
  have h1 := hcell j i hj hi
  have hi' : i < l[j].row.length := by rw [row_len]; exact hi
  rw [List.getElem?_eq_getElem hi'] at h1 ⊢
  exact (hb.cell (World.block_lt_of_cell? w _ h1)).trans h1
theorem pair_not_req : (73 : TypeId) ≠ 36 := by decide
/-- Rows of pairs stand apart from a row of requests. -/
theorem apart_pq {w : World} {base base' : Nat} {u v : Value} {l : List PairL} {n : Nat} {xs : List Value} (h : OwnsP w base u l) (k : w.ownsRow base' 36 8 v n xs) : ∀ g, u.ownBlock = some g → v.ownBlock ≠ some g := by
  intro g hg e
  rcases h.2 with ⟨rfl, _⟩ | ⟨g1, c1, cur1, rfl, _, hg1, _⟩
  · simp [Value.ownBlock] at hg
  · rcases k.2 with ⟨rfl, _⟩ | ⟨g2, c2, cur2, rfl, _, hg2, _⟩
    · simp [Value.ownBlock] at e
    · simp [Value.ownBlock] at hg e
      subst hg
      subst e
      rw [hg1] at hg2
      injection hg2 with hg2
      injection hg2 with _ h2 _
      exact pair_not_req h2
theorem OwnsP.grown {w w' : World} {base : Nat} {u : Value} {l : List PairL} {r : Option Nat} (h : OwnsP w base u l) (hg : w.grownBy w' r) (ha : ∀ g, u.ownBlock = some g → r ≠ some g) : OwnsP w' base u l := by
  refine ⟨h.1, ?_⟩
  rcases h.2 with hn | ⟨g, cap, cur, rfl, hbase, hg1, rest⟩
  · exact Or.inl hn
  · refine Or.inr ⟨g, cap, cur, rfl, hbase, ?_, rest⟩
    rw [hg.block g (Array.getElem?_eq_some_iff.1 hg1).1 (fun e => ha g (by simp [Value.ownBlock]) e.symm)]
    exact hg1
theorem Tryz.infoR : (Tryz.prog.info? 36).map (fun i => (i.zero, i.size, i.bytes)) = some (some (.agg #[.string ⟨#[]⟩, .string ⟨#[]⟩, .int .i64 0, .slice none 0 0, .string ⟨#[]⟩, .slice none 0 0, .string ⟨#[]⟩, .bool false]), 8, 128) := by kernel_rfl
theorem news_row (w : World) (e : RqE) (t : TypeId) : ∀ j u, (cellsR [e])[j]? = some u → (w.alloc (.cells #[.string ⟨e.q.head.1.toArray⟩, .string ⟨e.q.head.2.1.toArray⟩, .int .i64 e.q.head.2.2.1, e.vf, .string ⟨e.q.path.toArray⟩, e.vq, .string ⟨e.q.body.toArray⟩, .bool e.q.close] t)).cell? ((⟨w.heap.size, 0, none⟩ : Addr).add j) = some u :=
  World.news_of_block (heap_alloc_new w _)
theorem news_atQ (w : World) (g : Nat) (hg : g = w.heap.size) (e : RqE) (t : TypeId) : ∀ j u, (cellsR [e])[j]? = some u → (w.alloc (.cells #[.string ⟨e.q.head.1.toArray⟩, .string ⟨e.q.head.2.1.toArray⟩, .int .i64 e.q.head.2.2.1, .slice e.af e.q.head.2.2.2.length e.cf, .string ⟨e.q.path.toArray⟩, .slice e.aq e.q.query.length e.cq, .string ⟨e.q.body.toArray⟩, .bool e.q.close] t)).cell? ((⟨g, 0, none⟩ : Addr).add j) = some u := by
  subst hg
  exact news_row w e t
theorem wpList_appQ {w : World} {ops : Array Oper} {rest : List Oper} {o : Oper} {a : Act} {Q : Exit → Act → World → Prop} (hgd : o.guard = none) (s x : Operand)
    (ho : o.op = .call { callee := .builtin .append, args := #[s, x], argTypes := #[45, 45] }) (base : Nat) (v : Value) (l : List RqE) (hs : a.eval s = v) (hown : OwnsQ w base v l) (b : Nat) (e : RqE)
    (hx : a.eval x = .slice (some ⟨b, 0, none⟩) 1 1) (hsee : ∀ j u, (cellsR [e])[j]? = some u → w.cell? ((⟨b, 0, none⟩ : Addr).add j) = some u) (hpe : OwnsP w base e.vf e.q.head.2.2.2 ∧ OwnsP w base e.vq e.q.query)
    (hb : (l.length + 1) * 128 ≤ 140737488355328) (hbase : base ≤ w.heap.size)
    (h : ∀ v' w', OwnsQ w' base v' (l ++ [e]) → w.grownBy w' v.ownBlock → wpList Tryz.prog ops Q rest (a.put o.dst v') w') : wpList Tryz.prog ops Q (o :: rest) a w := by
  obtain ⟨i0, hi, hz0, hz1, hz2⟩ := info_parts Tryz.infoR
  have hmx : l.length + 1 ≤ maxLen := by simp only [maxLen]; omega
  obtain ⟨g, cap', w', hr, h1, h2, _, _⟩ := run_append_lies (P := Tryz.prog) w 45 o.type base 36 i0 _ 8 128 Tryz.underlying45 hi hz0 hz1 hz2 (by decide) (by decide) v _ _ hown.row ⟨b, 0, none⟩ 1 1 (cellsR [e]) rfl hsee (cellsR_one _) (by decide) hmx hb hbase _ rfl
  refine wpList_plain hgd fun K hK => ?_
  unfold Oper.wp execOp
  simp only [ho, resolve, invoke, builtin, Sem.run_bind, Sem.run_pure, Result.andThen_ok, List.map_toArray, List.map_cons, List.map_nil, hs, hx, hr]
  refine hK _ _ (h _ w' ⟨by simpa [cellsR_app] using h1, fun e' he => ?_⟩ h2)
  rcases List.mem_append.1 he with he | he
  · exact ⟨OwnsP.grown (hown.parts e' he).1 h2 (apart_pq (hown.parts e' he).1 hown.row), OwnsP.grown (hown.parts e' he).2 h2 (apart_pq (hown.parts e' he).2 hown.row)⟩
  · rw [List.mem_singleton] at he
    subst he
    exact ⟨OwnsP.grown hpe.1 h2 (apart_pq hpe.1 hown.row), OwnsP.grown hpe.2 h2 (apart_pq hpe.2 hown.row)⟩
theorem OwnsR.elem {w : World} {base : Nat} {v : Value} {q : ReqL} (h : OwnsR w base v q) : ∃ e : RqE, e.q = q ∧ v = e.val ∧ OwnsP w base e.vf e.q.head.2.2.2 ∧ OwnsP w base e.vq e.q.query := by
  obtain ⟨vf, vq, rfl, h1, h2⟩ := h
  obtain ⟨af, cf, rfl⟩ := h1.shape
  obtain ⟨aq, cq, rfl⟩ := h2.shape
  exact ⟨⟨q, af, cf, aq, cq⟩, rfl, rfl, h1, h2⟩
end Go.Proofs.YtllhibdjopfcnaaGreatDoor
