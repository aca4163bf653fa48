/-
  Mailboxes: where they lie, and what turns one of them.
-/
import Derived.Test.YtahibklmcooanaaQC
import Derived.Test.YtahibklmcooanaaLFlows
import Derived.Test.YtahibklmcooanaaLRefMore
namespace Go.Proofs.Ytahibklmcooanaa
open Go.RowKit
set_option linter.unusedVariables false
set_option linter.unusedSimpArgs false

/-- All old memory stays but the blocks of F. -/
structure Gr (F : Nat → Prop) (w w' : World) : Prop where
  os : w'.os = w.os
  tape : w'.tape = w.tape
  output : w'.output = w.output
  size : w.heap.size ≤ w'.heap.size
  block : ∀ k, k < w.heap.size → ¬ F k → w'.heap[k]? = w.heap[k]?
theorem Gr.refl (F : Nat → Prop) (w : World) : Gr F w w := ⟨rfl, rfl, rfl, Nat.le_refl _, fun _ _ _ => rfl⟩
theorem Gr.mono {F F' : Nat → Prop} {w w' : World} (h : Gr F w w') (hs : ∀ b, b < w.heap.size → F b → F' b) : Gr F' w w' := ⟨h.os, h.tape, h.output, h.size, fun k hk hn => h.block k hk fun hm => hn (hs k hk hm)⟩
theorem Gr.trans {F F' : Nat → Prop} {a b c : World} (h : Gr F a b) (k : Gr F' b c) (hs : ∀ x, x < a.heap.size → F' x → F x) : Gr F a c :=
  ⟨k.os.trans h.os, k.tape.trans h.tape, k.output.trans h.output, Nat.le_trans h.size k.size, fun x hx hn => (k.block x (Nat.lt_of_lt_of_le hx h.size) fun hm => hn (hs x hx hm)).trans (h.block x hx hn)⟩
theorem Gr.of_below {w w' : World} (h : Below w.heap.size w w') (F : Nat → Prop) : Gr F w w' := ⟨h.os, h.tape, h.output, h.size, fun k hk _ => h.block k hk⟩
theorem Gr.below {F : Nat → Prop} {w w' : World} {B : Nat} (h : Gr F w w') (hB : ∀ b, F b → B ≤ b) (hs : B ≤ w.heap.size) : Below B w w' := ⟨h.os, h.tape, h.output, h.size, fun k hk => h.block k (by omega) fun hm => by have := hB k hm; omega⟩
theorem ownsRow_same {w w' : World} {base : Nat} {e : TypeId} {size : Nat} {v : Value} {n : Nat} {xs : List Value} (h : w.ownsRow base e size v n xs) (hb : ∀ j, v.ownBlock = some j → w'.heap[j]? = w.heap[j]?) : w'.ownsRow base e size v n xs := by
  refine ⟨h.1, ?_⟩
  rcases h.2 with hn | ⟨g, cap, cur, rfl, hbase, hg, rest⟩
  · exact Or.inl hn
  · exact Or.inr ⟨g, cap, cur, rfl, hbase, by rw [hb g (by simp [Value.ownBlock])]; exact hg, rest⟩
/-- A row's block bears the row's type. -/
theorem ownsRow_ty {w : World} {base : Nat} {e : TypeId} {size : Nat} {v : Value} {n : Nat} {xs : List Value} {k : Nat} (h : w.ownsRow base e size v n xs) (hk : v.ownBlock = some k) : ∃ cur, w.heap[k]? = some (.cells cur e (0, 0)) := by
  rcases h.2 with ⟨hv, _⟩ | ⟨g, cap, cur, rfl, hbase, hg, rest⟩
  · rw [hv] at hk; simp [Value.ownBlock] at hk
  · simp [Value.ownBlock] at hk
    subst hk
    exact ⟨cur, hg⟩
/-- Blocks of unlike types are not the same. -/
theorem ty_ne {w : World} {k l : Nat} {c d : Array Value} {s t : TypeId} {m n : Nat × Nat} (h : w.heap[k]? = some (.cells c s m)) (h' : w.heap[l]? = some (.cells d t n)) (hne : s ≠ t) : k ≠ l := by
  intro e
  subst e
  rw [h] at h'
  simp at h'
  exact hne h'.2.1

abbrev Msg := Mq.Msg
/-- The cells of mailboxes: the queue, the label's rows. -/
def bC : List (Nat × Nat) → List Value
  | [] => []
  | p :: r => .pointer (some ⟨p.1, 0, none⟩) :: .slice (some ⟨p.2, 0, none⟩) 1 1 :: .slice none 0 0 :: bC r
theorem bC_len (l : List (Nat × Nat)) : (bC l).length = l.length * 3 := by
  induction l with
  | nil => rfl
  | cons p r ih => simp [bC, ih]; omega
theorem bC_app (a b : List (Nat × Nat)) : bC (a ++ b) = bC a ++ bC b := by
  induction a with
  | nil => rfl
  | cons p r ih => simp [bC, ih]
theorem bC_get : ∀ (l : List (Nat × Nat)) (j : Nat), j < l.length → (bC l)[j * 3]? = some (.pointer (some ⟨(l.getD j (0, 0)).1, 0, none⟩)) ∧ (bC l)[j * 3 + 1]? = some (.slice (some ⟨(l.getD j (0, 0)).2, 0, none⟩) 1 1) ∧ (bC l)[j * 3 + 2]? = some (.slice none 0 0)
  | [], j, h => by simp at h
  | p :: r, 0, h => by simp [bC]
  | p :: r, j + 1, h => by
    have ih := bC_get r j (by simpa using h)
    rw [show (j + 1) * 3 = j * 3 + 1 + 1 + 1 by omega]
    simpa [bC] using ih

/-- How a queue's ring lies. -/
structure Rg where
  drops : Int
  rv : Value
  f : Nat
  rs : List Msg
def qq (ql : List (Nat × Nat)) (i : Nat) : Nat := (ql.getD i (0, 0)).1
def lbb (ql : List (Nat × Nat)) (i : Nat) : Nat := (ql.getD i (0, 0)).2
/-- Mailboxes at p, their list at bx; m is what waits in each. -/
structure PoAt (w : World) (p bx : Nat) (room : Int) (ql : List (Nat × Nat)) (v : Nat → Rg) (m : Nat → List Msg) : Prop where
  lies : w.heap[p]? = some (.cells #[.pointer (some ⟨p, 0, none⟩), .slice (some ⟨bx, 0, none⟩) ql.length ql.length] 61 (0, 0))
  row : w.ownsRow 0 69 3 (.slice (some ⟨bx, 0, none⟩) ql.length ql.length) ql.length (bC ql)
  lab : ∀ i, i < ql.length → w.heap[lbb ql i]? = some (.cells #[.int .i64 (2 * (i : Int) + 1)] 3 (0, 0))
  box : ∀ i, i < ql.length → Mq.QAt w (qq ql i) room (v i).drops (v i).rv (v i).f (v i).rs (m i)
  dr : ∀ i, i < ql.length → 0 ≤ (v i).drops ∧ (v i).drops ≤ 4611686018427387904
  aq : ∀ i j, i < ql.length → j < ql.length → i ≠ j → qq ql i ≠ qq ql j
  ar : ∀ i j k, i < ql.length → j < ql.length → i ≠ j → (v i).rv.ownBlock = some k → (v j).rv.ownBlock ≠ some k
  n1 : 1 ≤ ql.length
  n2 : ql.length ≤ 16
  r2 : room ≤ 64

/-- The blocks that mailboxes may turn. -/
def mine (ql : List (Nat × Nat)) (v : Nat → Rg) (k : Nat) : Prop := ∃ i, i < ql.length ∧ (k = qq ql i ∨ (v i).rv.ownBlock = some k)
/-- All their blocks. -/
def its (p bx : Nat) (ql : List (Nat × Nat)) (v : Nat → Rg) (k : Nat) : Prop := k = p ∨ k = bx ∨ (∃ i, i < ql.length ∧ k = lbb ql i) ∨ mine ql v k

theorem QAt_same {w w' : World} {q : Nat} {room drops : Int} {rv : Value} {f : Nat} {rs xs : List Msg} (h : Mq.QAt w q room drops rv f rs xs) (h1 : w'.heap[q]? = w.heap[q]?) (h2 : ∀ k, rv.ownBlock = some k → w'.heap[k]? = w.heap[k]?) : Mq.QAt w' q room drops rv f rs xs := by
  refine ⟨?_, ownsRow_same h.own h2, h.ring, h.rle, h.r1, h.r2⟩
  have := h.lies
  unfold Mq.Lies at *
  rw [h1]
  exact this

section
variable {w w' : World} {p bx : Nat} {room : Int} {ql : List (Nat × Nat)} {v : Nat → Rg} {m : Nat → List Msg}
theorem PoAt.gr (h : PoAt w p bx room ql v m) (hk : ∀ k, its p bx ql v k → w'.heap[k]? = w.heap[k]?) : PoAt w' p bx room ql v m := by
  refine ⟨by rw [hk p (Or.inl rfl)]; exact h.lies, ownsRow_same h.row (fun j hj => ?_), fun i hi => by rw [hk _ (Or.inr (Or.inr (Or.inl ⟨i, hi, rfl⟩)))]; exact h.lab i hi, fun i hi => ?_, h.dr, h.aq, h.ar, h.n1, h.n2, h.r2⟩
  · simp [Value.ownBlock] at hj
    exact hk j (Or.inr (Or.inl hj.symm))
  · exact QAt_same (h.box i hi) (hk _ (Or.inr (Or.inr (Or.inr ⟨i, hi, Or.inl rfl⟩)))) (fun k hr => hk k (Or.inr (Or.inr (Or.inr ⟨i, hi, Or.inr hr⟩))))
theorem PoAt.lt (h : PoAt w p bx room ql v m) (k : Nat) (hk : its p bx ql v k) : k < w.heap.size := by
  rcases hk with rfl | rfl | ⟨i, hi, rfl⟩ | ⟨i, hi, rfl | hr⟩
  · exact (Array.getElem?_eq_some_iff.1 h.lies).1
  · exact (h.row.lt _ rfl).2
  · exact (Array.getElem?_eq_some_iff.1 (h.lab i hi)).1
  · exact (h.box i hi).lies.lt
  · exact ((h.box i hi).own.lt k hr).2
theorem PoAt.below (h : PoAt w p bx room ql v m) (hb : Below w.heap.size w w') : PoAt w' p bx room ql v m := h.gr fun k hk => hb.block k (h.lt k hk)
theorem PoAt.cells (h : PoAt w p bx room ql v m) : w.cell? ⟨p, 0, none⟩ = some (.pointer (some ⟨p, 0, none⟩)) ∧ w.cell? ⟨p, 1, none⟩ = some (.slice (some ⟨bx, 0, none⟩) ql.length ql.length) := by
  have := h.lies
  constructor <;> simp [World.cell?, this]
theorem PoAt.boxes (h : PoAt w p bx room ql v m) (i : Nat) (hi : i < ql.length) : w.cell? ⟨bx, i * 3, none⟩ = some (.pointer (some ⟨qq ql i, 0, none⟩)) ∧ w.cell? ⟨bx, i * 3 + 1, none⟩ = some (.slice (some ⟨lbb ql i, 0, none⟩) 1 1) ∧ w.cell? ⟨bx, i * 3 + 2, none⟩ = some (.slice none 0 0) := by
  obtain ⟨e1, e2, e3⟩ := bC_get ql i hi
  have h1 := h.row.cells (g := bx) rfl _ _ e1
  have h2 := h.row.cells (g := bx) rfl _ _ e2
  have h3 := h.row.cells (g := bx) rfl _ _ e3
  rw [addr_add, Nat.zero_add] at h1 h2 h3
  exact ⟨h1, h2, h3⟩
theorem PoAt.label (h : PoAt w p bx room ql v m) (i : Nat) (hi : i < ql.length) : Sees w (.slice (some ⟨lbb ql i, 0, none⟩) 1 1) [2 * (i : Int) + 1] := by
  refine ⟨lbb ql i, 0, _, 1, rfl, Nat.le_refl _, (fun h => by cases h), fun _ => rfl, fun j hj => ?_⟩
  have : j = 0 := by simp at hj; omega
  subst this
  simp [World.cell?, h.lab i hi]
theorem PoAt.len (h : PoAt w p bx room ql v m) (i : Nat) (hi : i < ql.length) : ((m i).length : Int) ≤ room := by
  have h1 := (h.box i hi).ring.le
  have h2 := (h.box i hi).rle
  omega
/-- A call on one of the queues has turned it alone. -/
theorem PoAt.turn (h : PoAt w p bx room ql v m) (to : Nat) (ht : to < ql.length) {d' : Int} {rv' : Value} {f' : Nat} {rs' xs' : List Msg} (hQ : Mq.QAt w' (qq ql to) room d' rv' f' rs' xs') (hT : Mq.Turned w w' (qq ql to) (v to).rv.ownBlock) (hF : rv'.ownBlock = (v to).rv.ownBlock ∨ ∀ j, rv'.ownBlock = some j → w.heap.size ≤ j) (hd : 0 ≤ d' ∧ d' ≤ 4611686018427387904) :
    PoAt w' p bx room ql (fun i => if i = to then ⟨d', rv', f', rs'⟩ else v i) (fun i => if i = to then xs' else m i) ∧ Gr (mine ql v) w w' ∧ ∀ k, mine ql (fun i => if i = to then ⟨d', rv', f', rs'⟩ else v i) k → mine ql v k ∨ w.heap.size ≤ k := by
  have hq := (h.box to ht).lies
  have hty : ∀ k, (v to).rv.ownBlock = some k → ∃ cur, w.heap[k]? = some (.cells cur 55 (0, 0)) := fun k hk => ownsRow_ty (h.box to ht).own hk
  have keep : ∀ k, k < w.heap.size → k ≠ qq ql to → (v to).rv.ownBlock ≠ some k → w'.heap[k]? = w.heap[k]? := fun k hk h1 h2 => hT.block k hk h1 (fun e => h2 e.symm)
  have typed : ∀ (k : Nat) (c : Array Value) (t : TypeId) (mk : Nat × Nat), w.heap[k]? = some (.cells c t mk) → t ≠ 89 → t ≠ 55 → w'.heap[k]? = w.heap[k]? := by
    intro k c t mk hk h1 h2
    refine keep k (Array.getElem?_eq_some_iff.1 hk).1 (ty_ne hk hq h1) (fun e => ?_)
    obtain ⟨cur, hc⟩ := hty k e
    exact ty_ne hk hc h2 rfl
  refine ⟨⟨?_, ?_, ?_, ?_, ?_, h.aq, ?_, h.n1, h.n2, h.r2⟩, ?_, ?_⟩
  · rw [typed p _ _ _ h.lies (by decide) (by decide)]
    exact h.lies
  · refine ownsRow_same h.row fun j hj => ?_
    obtain ⟨cur, hc⟩ := ownsRow_ty h.row hj
    exact typed j _ _ _ hc (by decide) (by decide)
  · intro i hi
    rw [typed _ _ _ _ (h.lab i hi) (by decide) (by decide)]
    exact h.lab i hi
  · intro i hi
    by_cases e : i = to
    · subst e
      simpa using hQ
    · simp only [e, if_false]
      have hbi := h.box i hi
      refine QAt_same hbi (keep _ hbi.lies.lt (h.aq i to hi ht e) (fun e2 => ?_)) (fun k hk => keep k (hbi.own.lt k hk).2 ?_ (h.ar i to k hi ht e hk))
      · obtain ⟨cur, hc⟩ := hty _ e2
        have hl := hbi.lies
        unfold Mq.Lies at hl
        exact ty_ne hl hc (by decide) rfl
      · obtain ⟨cur, hc⟩ := ownsRow_ty hbi.own hk
        unfold Mq.Lies at hq
        exact ty_ne hc hq (by decide)
  · intro i hi
    by_cases e : i = to
    · subst e
      simpa using hd
    · simpa [e] using h.dr i hi
  · intro i j k hi hj hne hk
    by_cases e : i = to
    · subst e
      have e2 : j ≠ i := fun h => hne h.symm
      simp only [if_true] at hk
      simp only [e2, if_false]
      rcases hF with hF | hF
      · rw [hF] at hk
        exact h.ar i j k hi hj hne hk
      · intro hk2
        have := hF k hk
        have := ((h.box j hj).own.lt k hk2).2
        omega
    · simp only [e, if_false] at hk
      by_cases e2 : j = to
      · subst e2
        simp only [if_true]
        rcases hF with hF | hF
        · rw [hF]
          exact h.ar i j k hi hj hne hk
        · intro hk2
          have := hF k hk2
          have := ((h.box i hi).own.lt k hk).2
          omega
      · simp only [e2, if_false]
        exact h.ar i j k hi hj hne hk
  · exact ⟨hT.os, hT.tape, hT.output, hT.size, fun k hk hn => keep k hk (fun e => hn ⟨to, ht, Or.inl e⟩) (fun e => hn ⟨to, ht, Or.inr e⟩)⟩
  · rintro k ⟨i, hi, hk⟩
    by_cases e : i = to
    · subst e
      simp only [if_true] at hk
      rcases hk with hk | hk
      · exact Or.inl ⟨i, hi, Or.inl hk⟩
      · rcases hF with hF | hF
        · rw [hF] at hk
          exact Or.inl ⟨i, hi, Or.inr hk⟩
        · exact Or.inr (hF k hk)
    · simp only [e, if_false] at hk
      exact Or.inl ⟨i, hi, hk⟩
end
end Go.Proofs.Ytahibklmcooanaa
