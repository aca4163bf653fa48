/-
  What the walks of heads share: a head in memory, what is kept beside it, rows of texts, bytes that are changed in place.
-/
import Derived.Test.YtllhibdjopfcnaaGreatDoorZHMade
namespace Go.Proofs.YtllhibdjopfcnaaGreatDoor
open Go.RowKit
set_option linter.unusedVariables false

/-- At p lies a head, whole. -/
def HeadAt (w : World) (p : Nat) (a b c d : Value) : Prop := w.heap[p]? = some (.cells #[a, b, c, d] 34 (0, 0))
theorem HeadAt.lt {w : World} {p : Nat} {a b c d : Value} (h : HeadAt w p a b c d) : p < w.heap.size := (Array.getElem?_eq_some_iff.1 h).1
theorem HeadAt.same {w w' : World} {p : Nat} {a b c d : Value} (h : HeadAt w p a b c d) (e : w'.heap[p]? = w.heap[p]?) : HeadAt w' p a b c d := by
  unfold HeadAt
  rw [e]
  exact h
theorem HeadAt.below {w w' : World} {p B : Nat} {a b c d : Value} (h : HeadAt w p a b c d) (hb : Below B w w') (hp : p < B) : HeadAt w' p a b c d := h.same (hb.block p hp)
theorem HeadAt.cells {w : World} {p : Nat} {a b c d : Value} (h : HeadAt w p a b c d) :
    w.cell? ⟨p, 0, none⟩ = some a ∧ w.cell? ⟨p, 1, none⟩ = some b ∧ w.cell? ⟨p, 2, none⟩ = some c ∧ w.cell? ⟨p, 3, none⟩ = some d ∧
    w.frozen? ⟨p, 0, none⟩ = false ∧ w.frozen? ⟨p, 1, none⟩ = false ∧ w.frozen? ⟨p, 2, none⟩ = false ∧ w.frozen? ⟨p, 3, none⟩ = false := by
  unfold HeadAt at h
  refine ⟨?_, ?_, ?_, ?_, ?_, ?_, ?_, ?_⟩ <;> simp [World.cell?, World.frozen?, h]
theorem HeadAt.new (w : World) (a b c d : Value) : HeadAt (w.alloc (.cells #[a, b, c, d] 34)) w.heap.size a b c d := heap_alloc_new w _
theorem HeadAt.store0 {w : World} {p : Nat} {a b c d x : Value} (h : HeadAt w p a b c d) : HeadAt (w.setCell ⟨p, 0, none⟩ x) p x b c d := by
  unfold HeadAt at *
  simp only [World.setCell, Array.getElem?_modify, h]
  simp
theorem HeadAt.store1 {w : World} {p : Nat} {a b c d x : Value} (h : HeadAt w p a b c d) : HeadAt (w.setCell ⟨p, 1, none⟩ x) p a x c d := by
  unfold HeadAt at *
  simp only [World.setCell, Array.getElem?_modify, h]
  simp
theorem HeadAt.store2 {w : World} {p : Nat} {a b c d x : Value} (h : HeadAt w p a b c d) : HeadAt (w.setCell ⟨p, 2, none⟩ x) p a b x d := by
  unfold HeadAt at *
  simp only [World.setCell, Array.getElem?_modify, h]
  simp
theorem HeadAt.store3 {w : World} {p : Nat} {a b c d x : Value} (h : HeadAt w p a b c d) : HeadAt (w.setCell ⟨p, 3, none⟩ x) p a b c x := by
  unfold HeadAt at *
  simp only [World.setCell, Array.getElem?_modify, h]
  simp

/-- Below B all is as it was, but for the block p. -/
structure Kept (p B : Nat) (w w' : World) : Prop where
  os : w'.os = w.os
  tape : w'.tape = w.tape
  output : w'.output = w.output
  size : w.heap.size ≤ w'.heap.size
  block : ∀ k, k < B → k ≠ p → w'.heap[k]? = w.heap[k]?
theorem Kept.refl (p B : Nat) (w : World) : Kept p B w w := ⟨rfl, rfl, rfl, Nat.le_refl _, fun _ _ _ => rfl⟩
theorem Kept.trans {p B : Nat} {a b c : World} (h : Kept p B a b) (k : Kept p B b c) : Kept p B a c :=
  ⟨k.os.trans h.os, k.tape.trans h.tape, k.output.trans h.output, Nat.le_trans h.size k.size, fun i hi hp => (k.block i hi hp).trans (h.block i hi hp)⟩
theorem Kept.of_below {p B : Nat} {w w' : World} (h : Below B w w') : Kept p B w w' := ⟨h.os, h.tape, h.output, h.size, fun k hk _ => h.block k hk⟩
theorem Kept.below {p B : Nat} {w w' : World} (h : Kept p B w w') (hp : p ≤ B) : Below p w w' := ⟨h.os, h.tape, h.output, h.size, fun k hk => h.block k (by omega) (by omega)⟩
theorem Kept.le {p B C : Nat} {w w' : World} (h : Kept p B w w') (hc : C ≤ B) : Kept p C w w' := ⟨h.os, h.tape, h.output, h.size, fun k hk hp => h.block k (by omega) hp⟩
theorem Kept.store {p B : Nat} (w : World) (i : Nat) (x : Value) : Kept p B w (w.setCell ⟨p, i, none⟩ x) := by
  refine ⟨rfl, rfl, rfl, ?_, fun k _ hp => Below.heap_setCell w ⟨p, i, none⟩ x k hp⟩
  simp [World.setCell]
theorem Kept.cell {p B : Nat} {w w' : World} (h : Kept p B w w') {a : Addr} (hb : a.block < B) (hp : a.block ≠ p) : w'.cell? a = w.cell? a := World.cell?_of_block (h.block _ hb hp)

/-- A variable of the library holds some number. -/
def ML (w : World) : Prop := ∃ m, w.cell? ⟨0, 0, none⟩ = some (.int .i64 m)
theorem ML.lt {w : World} (h : ML w) : 0 < w.heap.size := by
  obtain ⟨m, hm⟩ := h
  exact World.block_lt_of_cell? w _ hm
theorem ML.below {w w' : World} {B : Nat} (h : ML w) (hb : Below B w w') (hB : 0 < B) : ML w' := by
  obtain ⟨m, hm⟩ := h
  exact ⟨m, (hb.cell hB).trans hm⟩

/-! ### Rows of texts -/
def cellsS (l : List (List UInt8)) : List Value := l.map strV
theorem cellsS_len (l : List (List UInt8)) : (cellsS l).length = l.length := by simp [cellsS]
theorem cellsS_app (a b : List (List UInt8)) : cellsS (a ++ b) = cellsS a ++ cellsS b := by simp [cellsS]
theorem cellsS_one (l : List (List UInt8)) : ∀ v ∈ cellsS l, v.oneCell' = true := by
  intro v hv
  obtain ⟨x, _, rfl⟩ := List.mem_map.1 hv
  rfl
theorem cellsS_get (l : List (List UInt8)) (j : Nat) (h : j < l.length) : (cellsS l)[j]? = some (strV l[j]) := by simp [cellsS, h]
def SeesS (w : World) (v : Value) (l : List (List UInt8)) : Prop :=
  ∃ b off ao cap, v = .slice ao l.length cap ∧ l.length ≤ cap ∧ (ao = none → cap = 0) ∧ (l ≠ [] → ao = some ⟨b, off, none⟩) ∧ ∀ j, (h : j < l.length) → w.cell? ⟨b, off + j, none⟩ = some (strV l[j])
theorem SeesS.below {w w' : World} {v : Value} {l : List (List UInt8)} (h : SeesS w v l) (hb : Below w.heap.size w w') : SeesS w' v l := by
  obtain ⟨b, off, ao, cap, hv, hc, hn, ha, hcell⟩ := h
  exact ⟨b, off, ao, cap, hv, hc, hn, ha, fun j hj => (hb.cell (World.block_lt_of_cell? w _ (hcell j hj))).trans (hcell j hj)⟩
def OwnsS (w : World) (base : Nat) (v : Value) (l : List (List UInt8)) : Prop := w.ownsRow base 9 1 v l.length (cellsS l)
theorem OwnsS.below {w w' : World} {base : Nat} {v : Value} {l : List (List UInt8)} (h : OwnsS w base v l) (hb : Below w.heap.size w w') : OwnsS w' base v l := ownsRow_below h hb
theorem OwnsS.nil (w : World) (base : Nat) : OwnsS w base (.slice none 0 0) [] := World.ownsRow_nil _ _ _ _
theorem OwnsS.sees {w : World} {base : Nat} {v : Value} {l : List (List UInt8)} (h : OwnsS w base v l) : SeesS w v l := by
  rcases h.2 with ⟨rfl, hn⟩ | ⟨g, cap, cur, rfl, hbase, hg, hcap, _, _, ht⟩
  · have : l = [] := List.eq_nil_of_length_eq_zero hn
    subst this
    exact ⟨0, 0, none, 0, rfl, Nat.le_refl _, fun _ => rfl, fun h => absurd rfl h, fun j hj => by simp at hj⟩
  · refine ⟨g, 0, _, cap, rfl, hcap, (fun h => by cases h), fun _ => rfl, fun j hj => ?_⟩
    have h1 := h.cells (g := g) rfl _ _ (cellsS_get l j hj)
    rw [addr_add] at h1
    exact h1
theorem OwnsS.shape {w : World} {base : Nat} {v : Value} {l : List (List UInt8)} (h : OwnsS w base v l) : ∃ ao cap, v = .slice ao l.length cap := by
  rcases h.2 with ⟨rfl, hn⟩ | ⟨g, cap, cur, rfl, _⟩
  · exact ⟨none, 0, by rw [hn]⟩
  · exact ⟨_, cap, rfl⟩
theorem OwnsS.block {w : World} {base : Nat} {v : Value} {l : List (List UInt8)} (h : OwnsS w base v l) : ∀ j, v.ownBlock = some j → base ≤ j := by
  intro j hj
  rcases h.2 with ⟨rfl, hn⟩ | ⟨g, cap, cur, rfl, hb, _⟩
  · simp [Value.ownBlock] at hj
  · simp [Value.ownBlock] at hj
    omega
theorem OwnsS.le {w : World} {base base' : Nat} {v : Value} {l : List (List UInt8)} (h : OwnsS w base v l) (hb : base' ≤ base) : OwnsS w base' v l := by
  refine ⟨h.1, ?_⟩
  rcases h.2 with hn | ⟨g, cap, cur, rfl, hbase, hg, rest⟩
  · exact Or.inl hn
  · exact Or.inr ⟨g, cap, cur, rfl, by omega, hg, rest⟩
theorem Tryz.info9 : (Tryz.prog.info? 9).map (fun i => (i.zero, i.size, i.bytes)) = some (some (.string ⟨#[]⟩), 1, 16) := by kernel_rfl
theorem wpList_appS {w : World} {ops : Array Oper} {rest : List Oper} {o : Oper} {a : Act} {Q : Exit → Act → World → Prop} (hgd : o.guard = none) (s x : Operand)
    (ho : o.op = .call { callee := .builtin .append, args := #[s, x], argTypes := #[22, 22] }) (base : Nat) (v : Value) (l : List (List UInt8)) (hs : a.eval s = v) (hown : OwnsS w base v l) (b : Nat) (p : List UInt8)
    (hx : a.eval x = .slice (some ⟨b, 0, none⟩) 1 1) (hsee : w.cell? ⟨b, 0, none⟩ = some (strV p)) (hb : (l.length + 1) * 16 ≤ 140737488355328) (hbase : base ≤ w.heap.size)
    (h : ∀ v' w', OwnsS w' base v' (l ++ [p]) → w.grownBy w' v.ownBlock → wpList Tryz.prog ops Q rest (a.put o.dst v') w') : wpList Tryz.prog ops Q (o :: rest) a w := by
  obtain ⟨i0, hi, hz0, hz1, hz2⟩ := info_parts Tryz.info9
  have hmx : l.length + 1 ≤ maxLen := by simp only [maxLen]; omega
  refine wpList_append_own w hgd s x 22 ho base 9 i0 (.string ⟨#[]⟩) 1 16 Tryz.underlying22 hi hz0 hz1 hz2 (by decide) (by decide) v _ _ hs hown ⟨b, 0, none⟩ 1 1 (cellsS [p]) hx rfl ?_ (cellsS_one _) hmx hb hbase ?_
  · intro j y hj
    have hj0 : j = 0 := by
      have := (List.getElem?_eq_some_iff.1 hj).1
      simp [cellsS] at this
      exact this
    subst hj0
    simp [cellsS] at hj
    subst hj
    rw [addr_add]
    exact hsee
  · intro v' w' h1 h2 _
    exact h v' w' (by simpa [OwnsS, cellsS_app] using h1) h2

/-! ### Bytes that are changed in place -/
def Cells8 (w : World) (g : Nat) (l : List UInt8) : Prop := ∀ j, (h : j < l.length) → w.cell? ⟨g, j, none⟩ = some (.int .u8 (l[j].toNat : Int)) ∧ w.frozen? ⟨g, j, none⟩ = false
theorem Cells8.set {w : World} {g : Nat} {l : List UInt8} (h : Cells8 w g l) (k : Nat) (hk : k < l.length) (b : UInt8) : Cells8 (w.setCell ⟨g, k, none⟩ (.int .u8 (b.toNat : Int))) g (l.set k b) := by
  intro j hj
  have hj' : j < l.length := by simpa using hj
  refine ⟨?_, by rw [World.frozen?_setCell]; exact (h j hj').2⟩
  by_cases e : k = j
  · subst e
    rw [World.cell?_setCell_same _ _ _ (h k hk).1]
    simp
  · rw [World.cell?_setCell_other _ _ _ _ (by intro x; injection x with _ x2; exact e x2), (h j hj').1]
    simp [e]
theorem Cells8.new (w : World) (l : List UInt8) (C : Nat) : Cells8 (w.drew.alloc (.cells (bytesRow ⟨l.toArray⟩ C) 5 ((bytesRow ⟨l.toArray⟩ C).size, (bytesRow ⟨l.toArray⟩ C).size + 1))) w.heap.size l := by
  intro j hj
  have h1 := World.cell?_alloc_mark w.drew (bytesRow ⟨l.toArray⟩ C) 5 ((bytesRow ⟨l.toArray⟩ C).size, (bytesRow ⟨l.toArray⟩ C).size + 1) j
  have h2 := World.frozen?_alloc_mark w.drew (bytesRow ⟨l.toArray⟩ C) 5 (bytesRow ⟨l.toArray⟩ C).size ((bytesRow ⟨l.toArray⟩ C).size + 1) j
  rw [show w.drew.heap.size = w.heap.size from rfl] at h1 h2
  have hb := bytesRow_at ⟨l.toArray⟩ C j (by simpa using hj)
  refine ⟨by rw [h1, hb]; simp, ?_⟩
  rw [h2]
  have : j < (bytesRow ⟨l.toArray⟩ C).size := (Array.getElem?_eq_some_iff.1 hb).1
  simp
  omega
def midS (k : Nat) (l : List UInt8) : List UInt8 := small (l.take k) ++ l.drop k
theorem midS_len (k : Nat) (l : List UInt8) : (midS k l).length = l.length := by simp [midS, small]; omega
theorem midS_get {k : Nat} {l : List UInt8} (h : k < l.length) : (midS k l)[k]'(by rw [midS_len]; exact h) = l[k] := by
  have : ∀ (hh : k < (midS k l).length), (midS k l)[k] = l[k] := by
    intro hh
    simp only [midS]
    rw [List.getElem_append_right (by simp [small]; omega)]
    simp [small, Nat.min_eq_left (Nat.le_of_lt h)]
  exact this _
theorem midS_set {k : Nat} {l : List UInt8} (h : k < l.length) : (midS k l).set k (smB l[k]) = midS (k + 1) l := by
  unfold midS
  have hl : (small (l.take k)).length = k := by simp [small]; omega
  rw [List.set_append_right k _ (by omega), hl, Nat.sub_self, List.take_succ_eq_append_getElem h]
  obtain ⟨x, hx⟩ : ∃ x, x = l[k] := ⟨_, rfl⟩
  have hd := List.drop_eq_getElem_cons h
  rw [← hx] at hd ⊢
  rw [hd]
  simp only [small, List.map_append, List.map_cons, List.map_nil, List.set_cons_zero, List.append_assoc, List.singleton_append]
theorem midS_stay {k : Nat} {l : List UInt8} (h : k < l.length) (hs : smB l[k] = l[k]) : midS k l = midS (k + 1) l := by
  rw [← midS_set h, hs]
  have := midS_get h
  rw [← this]
  simp
theorem u8_small {b : UInt8} (h : isLg b = true) : ((b.toNat : Int) - 65 + 97) % 256 = ((smB b).toNat : Int) := by
  rw [smB, if_pos h, sm_of h]
  simp only [isLg, decide_eq_true_eq] at h
  omega

set_option maxRecDepth 20000 in
set_option maxHeartbeats 1000000 in
theorem small_any (l : List UInt8) (w : World) (hs : l.length ≤ 140737488355328) :
    Calls Tryz.prog 60 #[.string ⟨l.toArray⟩] w fun e w' => e = .returned (.string ⟨(small l).toArray⟩) ∧ Below w.heap.size w w' := by
  have h1 := run_bytes_of_string (P := Tryz.prog) w 9 75 5 ⟨l.toArray⟩ Tryz.underlying9 Tryz.underlying75 Tryz.underlying5
  obtain ⟨C, hC⟩ : ∃ C, C = grownCap w (⟨l.toArray⟩ : ByteArray).size 0 5 := ⟨_, rfl⟩
  rw [← hC] at h1
  have hc8 := Cells8.new w l C
  obtain ⟨w1, hw1⟩ : ∃ w1, w1 = w.drew.alloc (.cells (bytesRow ⟨l.toArray⟩ C) 5 ((bytesRow ⟨l.toArray⟩ C).size, (bytesRow ⟨l.toArray⟩ C).size + 1)) := ⟨_, rfl⟩
  rw [← hw1, size_list] at h1
  rw [← hw1] at hc8
  have HB : Hid (Below w.heap.size w w1) := by
    unfold Hid
    rw [hw1]
    exact (Below.drew (Below.refl _ _)).alloc (Nat.le_refl _) _
  have HC8 := hid hc8
  clear hC hw1 hc8
  go_enter Tryz.func60, Tryz.ntmps60
  go_wp2_with fail
  go_loopw [10] (fun i wr => ∃ (k : Nat), k ≤ l.length ∧ i = .int .i64 (k : Int) ∧ Cells8 wr w.heap.size (midS k l) ∧ Below w.heap.size w wr) (fun i _ => l.length - (intOf i).toNat)
  case atStart => exact ⟨0, Nat.zero_le _, rfl, HC8.out, HB.out⟩
  clear HC8 HB
  case round =>
    obtain ⟨k, hk, rfl, hC8, hB⟩ := hrel
    by_cases hlt : k < l.length
    · have hlt' : (k : Int) < (l.length : Int) := by omega
      obtain ⟨c1, c2⟩ := hC8 k (by rw [midS_len]; exact hlt)
      rw [midS_get hlt] at c1
      have HC := hid hC8
      have HB := hid hB
      have HS : Hid (isLg l[k] = true → Cells8 (wr.setCell ⟨w.heap.size, k, none⟩ (.int .u8 (((l[k].toNat : Int) - 65 + 97) % 256))) w.heap.size (midS (k + 1) l)) := by
        unfold Hid
        intro h
        rw [u8_small h, ← midS_set hlt]
        exact HC.out.set k (by rw [midS_len]; exact hlt) _
      have HN : Hid (isLg l[k] = false → Cells8 wr w.heap.size (midS (k + 1) l)) := by
        unfold Hid
        intro h
        rw [← midS_stay hlt (by rw [smB, if_neg (by rw [h]; simp)])]
        exact HC.out
      have hL := isLarge_any l[k] wr
      obtain ⟨b, hb⟩ : ∃ b, b = l[k] := ⟨_, rfl⟩
      rw [← hb] at c1 HS HN hL
      clear hb hC8 hB HC
      cases hp : isLg b with
      | true =>
        rw [hp] at hL
        have HE := hid (HS.out hp)
        clear HS HN
        go_wp2_with fail
        refine hL.mono ?_
        clear hL
        rintro e w2 ⟨rfl, hw2⟩
        subst hw2
        go_wp2
        go_roundw
        case rel => exact ⟨k + 1, by omega, by go_num, HE.out, HB.out.setCell (p := ⟨w.heap.size, k, none⟩) (by simp) _⟩
        case measure => simp [intOf]; omega
      | false =>
        rw [hp] at hL
        have HE := hid (HN.out hp)
        clear HS HN
        go_wp2_with fail
        refine hL.mono ?_
        clear hL
        rintro e w2 ⟨rfl, hw2⟩
        subst hw2
        go_wp2
        go_roundw
        case rel => exact ⟨k + 1, by omega, by go_num, HE.out, HB.out⟩
        case measure => simp [intOf]; omega
    · have hlt' : ¬ (k : Int) < (l.length : Int) := by omega
      obtain rfl : k = l.length := by omega
      have hm : midS l.length l = small l := by simp [midS]
      rw [hm] at hC8
      have hsl : (small l).length = l.length := by simp [small]
      have h2 := run_convert_bytes_back (P := Tryz.prog) wr 75 9 5 ⟨w.heap.size, 0, none⟩ C (small l) Tryz.underlying75 Tryz.underlying5 Tryz.underlying9 (fun j hj => by
        rw [addr_add, Nat.zero_add]
        exact (hC8 j hj).1)
      rw [hsl] at h2
      have HB := hid hB
      clear hC8 hB hm hsl
      go_wp2
      go_ret
      exact ⟨rfl, HB.out⟩
end Go.Proofs.YtllhibdjopfcnaaGreatDoor
