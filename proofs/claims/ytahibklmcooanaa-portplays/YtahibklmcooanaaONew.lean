/-
  Mailboxes: boxOf, lay, New.
-/
import Derived.Test.YtahibklmcooanaaOTake
namespace Go.Proofs.Ytahibklmcooanaa
open Go.RowKit
set_option linter.unusedVariables false
set_option linter.unusedSimpArgs false

/-- Mailboxes as they are made: the first of them. -/
structure PoPart (w0 w : World) (room : Int) (ql : List (Nat × Nat)) (v : Nat → Rg) (m : Nat → List Msg) : Prop where
  lab : ∀ i, i < ql.length → w.heap[lbb ql i]? = some (.cells #[.int .i64 (2 * (i : Int) + 1)] 3 (0, 0))
  box : ∀ i, i < ql.length → Mq.QAt w (qq ql i) room (v i).drops (v i).rv (v i).f (v i).rs (m i)
  dr : ∀ i, i < ql.length → 0 ≤ (v i).drops ∧ (v i).drops ≤ 4611686018427387904
  aq : ∀ i j, i < ql.length → j < ql.length → i ≠ j → qq ql i ≠ qq ql j
  ar : ∀ i j k, i < ql.length → j < ql.length → i ≠ j → (v i).rv.ownBlock = some k → (v j).rv.ownBlock ≠ some k
  fresh : ∀ k, ((∃ i, i < ql.length ∧ k = lbb ql i) ∨ mine ql v k) → w0.heap.size ≤ k
section
variable {w0 w w' : World} {room : Int} {ql : List (Nat × Nat)} {v : Nat → Rg} {m : Nat → List Msg}
theorem PoPart.nil (w0 w : World) (room : Int) (v : Nat → Rg) (m : Nat → List Msg) : PoPart w0 w room [] v m :=
  ⟨fun i hi => by simp at hi, fun i hi => by simp at hi, fun i hi => by simp at hi, fun i j hi => by simp at hi, fun i j k hi => by simp at hi, fun k hk => by
    rcases hk with ⟨i, hi, _⟩ | ⟨i, hi, _⟩ <;> simp at hi⟩
theorem PoPart.gr (h : PoPart w0 w room ql v m) (hk : ∀ k, ((∃ i, i < ql.length ∧ k = lbb ql i) ∨ mine ql v k) → w'.heap[k]? = w.heap[k]?) : PoPart w0 w' room ql v m :=
  ⟨fun i hi => by rw [hk _ (Or.inl ⟨i, hi, rfl⟩)]; exact h.lab i hi, fun i hi => QAt_same (h.box i hi) (hk _ (Or.inr ⟨i, hi, Or.inl rfl⟩)) (fun k hr => hk k (Or.inr ⟨i, hi, Or.inr hr⟩)), h.dr, h.aq, h.ar, h.fresh⟩
theorem PoPart.ty (h : PoPart w0 w room ql v m) (k : Nat) (hk : (∃ i, i < ql.length ∧ k = lbb ql i) ∨ mine ql v k) : ∃ c t, w.heap[k]? = some (.cells c t (0, 0)) ∧ (t = 3 ∨ t = 89 ∨ t = 55) := by
  rcases hk with ⟨i, hi, rfl⟩ | ⟨i, hi, rfl | hr⟩
  · exact ⟨_, _, h.lab i hi, Or.inl rfl⟩
  · exact ⟨_, _, (h.box i hi).lies, Or.inr (Or.inl rfl)⟩
  · obtain ⟨cur, hc⟩ := ownsRow_ty (h.box i hi).own hr
    exact ⟨_, _, hc, Or.inr (Or.inr rfl)⟩
theorem PoPart.lt (h : PoPart w0 w room ql v m) (k : Nat) (hk : (∃ i, i < ql.length ∧ k = lbb ql i) ∨ mine ql v k) : k < w.heap.size := by
  obtain ⟨c, t, h1, _⟩ := h.ty k hk
  exact (Array.getElem?_eq_some_iff.1 h1).1
theorem PoPart.below (h : PoPart w0 w room ql v m) (hb : Below w.heap.size w w') : PoPart w0 w' room ql v m := h.gr fun k hk => hb.block k (h.lt k hk)
theorem PoPart.far (h : PoPart w0 w room ql v m) {bx : Nat} {cur : Array Value} (hb : w.heap[bx]? = some (.cells cur 69 (0, 0))) (j : Nat) (u : Value) : PoPart w0 (w.setCell ⟨bx, j, none⟩ u) room ql v m :=
  h.gr fun k hk => heap_setCell_other w ⟨bx, j, none⟩ k u (fun e => by
    obtain ⟨c, t, h1, h2⟩ := h.ty k hk
    have e' : k = bx := by simpa using e
    rw [e', hb] at h1
    simp at h1
    rcases h2 with h2 | h2 | h2 <;> rw [h2] at h1 <;> exact absurd h1.2 (by decide))
theorem qq_old (ql : List (Nat × Nat)) (z : Nat × Nat) (i : Nat) (hi : i < ql.length) : qq (ql ++ [z]) i = qq ql i ∧ lbb (ql ++ [z]) i = lbb ql i := by
  unfold qq lbb
  simp [List.getD, List.getElem?_append_left hi]
theorem qq_new (ql : List (Nat × Nat)) (z : Nat × Nat) : qq (ql ++ [z]) ql.length = z.1 ∧ lbb (ql ++ [z]) ql.length = z.2 := by
  unfold qq lbb
  simp [List.getD]
theorem PoPart.add (h : PoPart w0 w room ql v m) (hb : Below w.heap.size w w') (h0 : w0.heap.size ≤ w.heap.size) {q lb : Nat} {d : Int} {rv : Value} {f : Nat} {rs xs : List Msg} (hQ : Mq.QAt w' q room d rv f rs xs) (hq : w.heap.size ≤ q) (hr : ∀ j, rv.ownBlock = some j → w.heap.size ≤ j)
    (hl : w'.heap[lb]? = some (.cells #[.int .i64 (2 * (ql.length : Int) + 1)] 3 (0, 0))) (hlb : w.heap.size ≤ lb) (hd : 0 ≤ d ∧ d ≤ 4611686018427387904) :
    PoPart w0 w' room (ql ++ [(q, lb)]) (fun i => if i = ql.length then ⟨d, rv, f, rs⟩ else v i) (fun i => if i = ql.length then xs else m i) := by
  have h' := h.below hb
  have hlen : (ql ++ [(q, lb)]).length = ql.length + 1 := by simp
  have old : ∀ i, i < ql.length + 1 → i ≠ ql.length → i < ql.length := fun i h1 h2 => by omega
  refine ⟨fun i hi => ?_, fun i hi => ?_, fun i hi => ?_, fun i j hi hj hne => ?_, fun i j k hi hj hne hk => ?_, fun k hk => ?_⟩
  · rw [hlen] at hi
    by_cases e : i = ql.length
    · subst e
      rw [(qq_new ql (q, lb)).2]
      exact hl
    · rw [(qq_old ql (q, lb) i (old i hi e)).2]
      exact h'.lab i (old i hi e)
  · rw [hlen] at hi
    by_cases e : i = ql.length
    · subst e
      rw [(qq_new ql (q, lb)).1]
      simpa using hQ
    · rw [(qq_old ql (q, lb) i (old i hi e)).1]
      simpa [e] using h'.box i (old i hi e)
  · rw [hlen] at hi
    by_cases e : i = ql.length
    · subst e
      simpa using hd
    · simpa [e] using h.dr i (old i hi e)
  · rw [hlen] at hi hj
    by_cases e : i = ql.length
    · have e2 : j ≠ ql.length := fun h => hne (by omega)
      subst e
      rw [(qq_new ql (q, lb)).1, (qq_old ql (q, lb) j (old j hj e2)).1]
      have := h.lt _ (Or.inr ⟨j, old j hj e2, Or.inl rfl⟩)
      simp only
      omega
    · by_cases e2 : j = ql.length
      · subst e2
        rw [(qq_new ql (q, lb)).1, (qq_old ql (q, lb) i (old i hi e)).1]
        have := h.lt _ (Or.inr ⟨i, old i hi e, Or.inl rfl⟩)
        simp only
        omega
      · rw [(qq_old ql (q, lb) i (old i hi e)).1, (qq_old ql (q, lb) j (old j hj e2)).1]
        exact h.aq i j (old i hi e) (old j hj e2) hne
  · rw [hlen] at hi hj
    by_cases e : i = ql.length
    · have e2 : j ≠ ql.length := fun h => hne (by omega)
      simp only [e, if_true] at hk
      simp only [e2, if_false]
      intro hk2
      have := hr k hk
      have := h.lt k (Or.inr ⟨j, old j hj e2, Or.inr hk2⟩)
      omega
    · simp only [e, if_false] at hk
      by_cases e2 : j = ql.length
      · simp only [e2, if_true]
        intro hk2
        have := hr k hk2
        have := h.lt k (Or.inr ⟨i, old i hi e, Or.inr hk⟩)
        omega
      · simp only [e2, if_false]
        exact h.ar i j k (old i hi e) (old j hj e2) hne hk
  · rcases hk with ⟨i, hi, rfl⟩ | ⟨i, hi, hk⟩
    · rw [hlen] at hi
      by_cases e : i = ql.length
      · subst e
        rw [(qq_new ql (q, lb)).2]
        exact Nat.le_trans h0 hlb
      · rw [(qq_old ql (q, lb) i (old i hi e)).2]
        exact h.fresh _ (Or.inl ⟨i, old i hi e, rfl⟩)
    · rw [hlen] at hi
      by_cases e : i = ql.length
      · subst e
        rw [(qq_new ql (q, lb)).1] at hk
        simp only [if_true] at hk
        rcases hk with rfl | hk
        · exact Nat.le_trans h0 hq
        · exact Nat.le_trans h0 (hr k hk)
      · rw [(qq_old ql (q, lb) i (old i hi e)).1] at hk
        simp only [e, if_false] at hk
        exact h.fresh _ (Or.inr ⟨i, old i hi e, hk⟩)
end
/-- Rows of mailboxes that are still zero. -/
def bZ : Nat → List Value
  | 0 => []
  | n + 1 => .pointer none :: .slice none 0 0 :: .slice none 0 0 :: bZ n
theorem bZ_len (n : Nat) : (bZ n).length = n * 3 := by
  induction n with
  | zero => rfl
  | succ n ih => simp [bZ, ih]; omega
theorem bZ_get : ∀ (n j : Nat), j < n → (bZ n)[j * 3]? = some (.pointer none) ∧ (bZ n)[j * 3 + 1]? = some (.slice none 0 0) ∧ (bZ n)[j * 3 + 2]? = some (.slice none 0 0)
  | 0, j, h => by omega
  | n + 1, 0, h => by simp [bZ]
  | n + 1, j + 1, h => by
    have ih := bZ_get n j (by omega)
    rw [show (j + 1) * 3 = j * 3 + 1 + 1 + 1 by omega]
    simpa [bZ] using ih
theorem bZ_made (n : Nat) : (madeCells #[.pointer none, .slice none 0 0, .slice none 0 0] (n * 3)).toList = bZ n := by
  apply List.ext_getElem?
  intro j
  by_cases hj : j < n * 3
  · obtain ⟨e1, e2, e3⟩ := bZ_get n (j / 3) (by omega)
    have hm : j % 3 = 0 ∨ j % 3 = 1 ∨ j % 3 = 2 := by omega
    rcases hm with h | h | h
    · rw [show j / 3 * 3 = j by omega] at e1
      rw [e1]
      simp [madeCells, hj, h]
    · rw [show j / 3 * 3 + 1 = j by omega] at e2
      rw [e2]
      simp [madeCells, hj, h]
    · rw [show j / 3 * 3 + 2 = j by omega] at e3
      rw [e3]
      simp [madeCells, hj, h]
  · rw [List.getElem?_eq_none (by simp [madeCells]; omega), List.getElem?_eq_none (by rw [bZ_len]; omega)]
theorem bCZ_set (ql : List (Nat × Nat)) (r q lb : Nat) : (((bC ql ++ bZ (r + 1)).set (ql.length * 3) (.pointer (some ⟨q, 0, none⟩))).set (ql.length * 3 + 1) (.slice (some ⟨lb, 0, none⟩) 1 1)).set (ql.length * 3 + 2) (.slice none 0 0) = bC (ql ++ [(q, lb)]) ++ bZ r := by
  have hl := bC_len ql
  rw [List.set_append_right _ _ (by omega), List.set_append_right _ _ (by omega), List.set_append_right _ _ (by omega), hl, bC_app, List.append_assoc]
  congr 1
  simp [bZ, bC, Nat.sub_self, show ql.length * 3 + 1 - ql.length * 3 = 1 by omega, show ql.length * 3 + 2 - ql.length * 3 = 2 by omega]
/-- The row as far as it is filled. -/
def RowAt (w : World) (base bx n : Nat) (ql : List (Nat × Nat)) : Prop := w.ownsRow base 69 3 (.slice (some ⟨bx, 0, none⟩) n n) n (bC ql ++ bZ (n - ql.length))
theorem RowAt.store {w : World} {base bx n : Nat} {ql : List (Nat × Nat)} (h : RowAt w base bx n ql) (hl : ql.length < n) (q lb : Nat) :
    RowAt (((w.setCell ⟨bx, ql.length * 3, none⟩ (.pointer (some ⟨q, 0, none⟩))).setCell ⟨bx, ql.length * 3 + 1, none⟩ (.slice (some ⟨lb, 0, none⟩) 1 1)).setCell ⟨bx, ql.length * 3 + 2, none⟩ (.slice none 0 0)) base bx n (ql ++ [(q, lb)]) := by
  unfold RowAt at *
  have e : n - ql.length = (n - (ql ++ [(q, lb)]).length) + 1 := by simp; omega
  rw [e] at h
  have h1 := World.ownsRow.stored h (ql.length * 3) (.pointer (some ⟨q, 0, none⟩))
  have h2 := World.ownsRow.stored h1.1 (ql.length * 3 + 1) (.slice (some ⟨lb, 0, none⟩) 1 1)
  have h3 := World.ownsRow.stored h2.1 (ql.length * 3 + 2) (.slice none 0 0)
  rw [bCZ_set] at h3
  exact h3.1

set_option maxHeartbeats 1000000 in
theorem boxOf_any (i q : Nat) (hi : i ≤ 1000) (w : World) :
    Calls Try.prog 22 #[.int .i64 i, .pointer (some ⟨q, 0, none⟩)] w fun e w' => ∃ lb, e = .returned (.agg #[.pointer (some ⟨q, 0, none⟩), .slice (some ⟨lb, 0, none⟩) 1 1, .slice none 0 0]) ∧ w.heap.size ≤ lb ∧ w'.heap[lb]? = some (.cells #[.int .i64 (2 * (i : Int) + 1)] 3 (0, 0)) ∧ Below w.heap.size w w' := by
  have hSe := hid (secrecy_any i hi (w.alloc (.cells #[.pointer none, .slice none 0 0, .slice none 0 0] 69)))
  go_enter Try.func22, Try.ntmps22
  go_wp2_with fail
  refine hSe.out.mono ?_
  rintro e w1 ⟨rfl, hw1⟩
  subst w1
  go_wp2
  refine bodyPost_ret (v := .agg #[.pointer (some ⟨q, 0, none⟩), .slice (some ⟨w.heap.size + 1, 0, none⟩) 1 1, .slice none 0 0]) (by simp [results, Try.results22, go_sem]) rfl ?_
  refine ⟨w.heap.size + 1, rfl, by omega, ?_, (below_alloc w _).alloc (by simp) _⟩
  have := heap_alloc_new (w.alloc (.cells #[.pointer (some ⟨q, 0, none⟩), .slice (some ⟨w.heap.size + 1, 0, none⟩) 1 1, .slice none 0 0] 69)) (.cells #[.int .i64 (2 * (i : Int) + 1)] 3)
  simpa using this

/-- Mailboxes that a call has made. -/
def PoNew (w w' : World) (p : Nat) (room : Int) (n : Nat) (m : Nat → List Msg) : Prop :=
  ∃ bx ql v, ql.length = n ∧ PoAt w' p bx room ql v m ∧ Below w.heap.size w w' ∧ ∀ k, its p bx ql v k → w.heap.size ≤ k
set_option maxHeartbeats 1000000 in
theorem lay_any (bx : Nat) (room : Int) (ql : List (Nat × Nat)) (v : Nat → Rg) (m : Nat → List Msg) (w0 w : World) (hR : RowAt w w0.heap.size bx ql.length ql) (hP : PoPart w0 w room ql v m) (hb : Below w0.heap.size w0 w) (n1 : 1 ≤ ql.length) (n2 : ql.length ≤ 16) (r2 : room ≤ 64) :
    Calls Try.prog 23 #[.slice (some ⟨bx, 0, none⟩) ql.length ql.length] w fun e w' => ∃ p, e = .returned (.pointer (some ⟨p, 0, none⟩)) ∧ PoNew w0 w' p room ql.length m := by
  have hR0 : w.ownsRow 0 69 3 (.slice (some ⟨bx, 0, none⟩) ql.length ql.length) ql.length (bC ql) := by
    unfold RowAt at hR
    rw [Nat.sub_self] at hR
    simp only [bZ, List.append_nil] at hR
    refine ⟨hR.1, ?_⟩
    rcases hR.2 with hn | ⟨g, cap, cur, hv, hbase, rest⟩
    · exact Or.inl hn
    · exact Or.inr ⟨g, cap, cur, hv, Nat.zero_le _, rest⟩
  have HF := hid (show PoNew w0 (w.alloc (.cells #[.pointer (some ⟨w.heap.size, 0, none⟩), .slice (some ⟨bx, 0, none⟩) ql.length ql.length] 61)) w.heap.size room ql.length m from by
    have ha := below_alloc w (.cells #[.pointer (some ⟨w.heap.size, 0, none⟩), .slice (some ⟨bx, 0, none⟩) ql.length ql.length] 61)
    have hp := hP.below ha
    refine ⟨bx, ql, v, rfl, ⟨heap_alloc_new w _, ownsRow_below hR0 ha, hp.lab, hp.box, hp.dr, hp.aq, hp.ar, n1, n2, r2⟩, hb.trans (ha.mono hb.size), fun k hk => ?_⟩
    rcases hk with rfl | rfl | h | h
    · exact hb.size
    · exact (hR.lt k rfl).1
    · exact hP.fresh k (Or.inl h)
    · exact hP.fresh k (Or.inr h))
  clear hR hP hb hR0
  go_enter Try.func23, Try.ntmps23
  go_wp2
  go_ret
  exact ⟨_, rfl, HF.out⟩

theorem Try.infoBox : (Try.prog.info? 69).map (fun i => (i.zero, i.size, i.bytes)) = some (some (.agg #[.pointer none, .slice none 0 0, .slice none 0 0]), 3, 56) := by kernel_rfl
set_option maxHeartbeats 1000000 in
theorem new_bad (users room : Int) (w : World) (h : users < 1 ∨ 16 < users ∨ room < 1 ∨ 64 < room) :
    Calls Try.prog 8 #[.int .i64 users, .int .i64 room] w fun e w' => e = .returned (.tuple #[.pointer none, .int .i64 1]) ∧ w' = w := by
  by_cases h1 : users < 1
  · go_enter Try.func8, Try.ntmps8
    go_wp2
    go_ret2
    exact ⟨rfl, rfl⟩
  by_cases h2 : 16 < users
  · go_enter Try.func8, Try.ntmps8
    go_wp2
    go_ret2
    exact ⟨rfl, rfl⟩
  by_cases h3 : room < 1
  · go_enter Try.func8, Try.ntmps8
    go_wp2
    go_ret2
    exact ⟨rfl, rfl⟩
  by_cases h4 : 64 < room
  · go_enter Try.func8, Try.ntmps8
    go_wp2
    go_ret2
    exact ⟨rfl, rfl⟩
  omega

theorem RowAt.ty {w : World} {base bx n : Nat} {ql : List (Nat × Nat)} (h : RowAt w base bx n ql) : ∃ cur, w.heap[bx]? = some (.cells cur 69 (0, 0)) := ownsRow_ty h rfl
theorem RowAt.warm {w : World} {base bx n : Nat} {ql : List (Nat × Nat)} (h : RowAt w base bx n ql) (j : Nat) : w.frozen? ⟨bx, j, none⟩ = false := World.ownsRow.frozenAt h j
theorem RowAt.cell {w : World} {base bx n : Nat} {ql : List (Nat × Nat)} (h : RowAt w base bx n ql) (hl : ql.length < n) : w.cell? ⟨bx, ql.length * 3, none⟩ = some (.pointer none) ∧ w.cell? ⟨bx, ql.length * 3 + 1, none⟩ = some (.slice none 0 0) ∧ w.cell? ⟨bx, ql.length * 3 + 2, none⟩ = some (.slice none 0 0) := by
  have hb := bC_len ql
  have g : ∀ j, j < 3 → (bC ql ++ bZ (n - ql.length))[ql.length * 3 + j]? = (bZ (n - ql.length))[j]? := fun j hj => by
    rw [List.getElem?_append_right (by omega), hb, Nat.add_sub_cancel_left]
  have g0 := g 0 (by omega)
  have g1 := g 1 (by omega)
  have g2 := g 2 (by omega)
  obtain ⟨z0, z1, z2⟩ := bZ_get (n - ql.length) 0 (by omega)
  rw [Nat.zero_mul] at z0 z1 z2
  rw [z0] at g0
  rw [z1] at g1
  rw [z2] at g2
  have h0 := World.ownsRow.cells (g := bx) h rfl _ _ g0
  have h1 := World.ownsRow.cells (g := bx) h rfl _ _ g1
  have h2 := World.ownsRow.cells (g := bx) h rfl _ _ g2
  rw [addr_add, Nat.zero_add] at h0 h1 h2
  exact ⟨by simpa using h0, h1, h2⟩
theorem row_round {w0 w w' : World} {bx n : Nat} {room : Int} {ql : List (Nat × Nat)} {v : Nat → Rg} {m : Nat → List Msg} (hR : RowAt w w0.heap.size bx n ql) (hl : ql.length < n) (hP : PoPart w0 w room ql v m) (h0 : Below w0.heap.size w0 w) (hb : Below w.heap.size w w') {q lb : Nat} {d : Int} {rv : Value} {f : Nat} {rs xs : List Msg} (hQ : Mq.QAt w' q room d rv f rs xs) (hq : w.heap.size ≤ q) (hr : ∀ j, rv.ownBlock = some j → w.heap.size ≤ j)
    (hlb : w'.heap[lb]? = some (.cells #[.int .i64 (2 * (ql.length : Int) + 1)] 3 (0, 0))) (hlb2 : w.heap.size ≤ lb) (hd : 0 ≤ d ∧ d ≤ 4611686018427387904) (W : World) (hW : W = ((w'.setCell ⟨bx, ql.length * 3, none⟩ (.pointer (some ⟨q, 0, none⟩))).setCell ⟨bx, ql.length * 3 + 1, none⟩ (.slice (some ⟨lb, 0, none⟩) 1 1)).setCell ⟨bx, ql.length * 3 + 2, none⟩ (.slice none 0 0)) :
    RowAt W w0.heap.size bx n (ql ++ [(q, lb)]) ∧ PoPart w0 W room (ql ++ [(q, lb)]) (fun i => if i = ql.length then ⟨d, rv, f, rs⟩ else v i) (fun i => if i = ql.length then xs else m i) ∧ Below w0.heap.size w0 W := by
  have hbx := (hR.lt bx rfl).1
  have hR' : RowAt w' w0.heap.size bx n ql := ownsRow_below hR hb
  have hS := hR'.store hl q lb
  have hA := hP.add hb h0.size hQ hq hr hlb hlb2 hd
  obtain ⟨c1, t1⟩ := hR'.ty
  have s1 : ∃ cur, (w'.setCell ⟨bx, ql.length * 3, none⟩ (.pointer (some ⟨q, 0, none⟩))).heap[bx]? = some (.cells cur 69 (0, 0)) := ⟨_, by simp only [World.setCell, Array.getElem?_modify, t1]; simp; rfl⟩
  obtain ⟨c2, t2⟩ := s1
  have s2 : ∃ cur, ((w'.setCell ⟨bx, ql.length * 3, none⟩ (.pointer (some ⟨q, 0, none⟩))).setCell ⟨bx, ql.length * 3 + 1, none⟩ (.slice (some ⟨lb, 0, none⟩) 1 1)).heap[bx]? = some (.cells cur 69 (0, 0)) := ⟨_, by rw [World.setCell]; simp only [Array.getElem?_modify, t2]; simp; rfl⟩
  obtain ⟨c3, t3⟩ := s2
  subst hW
  have hb0 : Below w0.heap.size w0 w' := h0.trans (hb.mono h0.size)
  exact ⟨hS, ((hA.far t1 _ _).far t2 _ _).far t3 _ _, ((hb0.setCell (by simpa using hbx) _).setCell (by simpa using hbx) _).setCell (by simpa using hbx) _⟩
end Go.Proofs.Ytahibklmcooanaa
