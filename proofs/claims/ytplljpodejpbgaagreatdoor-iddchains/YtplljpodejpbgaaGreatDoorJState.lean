/-
  An identity server as it lies: users, draws, sessions in a map, what was given; what keeps it, what turns a part of it.
-/
import Derived.Test.YtplljpodejpbgaaGreatDoorJBase
import Derived.Maps.OwnSet
namespace Go.Proofs.YtplljpodejpbgaaGreatDoor
open Go.RowKit
set_option linter.unusedVariables false
set_option linter.unusedSimpArgs false

/-- All old memory stays but the blocks of F. -/
structure Gr (F : Nat → Prop) (w w' : World) : Prop where
  os : w'.os = w.os
  tape : w'.tape = w.tape
  output : w'.output = w.output
  size : w.heap.size ≤ w'.heap.size
  block : ∀ k, k < w.heap.size → ¬ F k → w'.heap[k]? = w.heap[k]?
theorem Gr.refl (F : Nat → Prop) (w : World) : Gr F w w := ⟨rfl, rfl, rfl, Nat.le_refl _, fun _ _ _ => rfl⟩
theorem Gr.mono {F F' : Nat → Prop} {w w' : World} (h : Gr F w w') (hs : ∀ b, b < w.heap.size → F b → F' b) : Gr F' w w' := ⟨h.os, h.tape, h.output, h.size, fun k hk hn => h.block k hk fun hm => hn (hs k hk hm)⟩
theorem Gr.trans {F F' : Nat → Prop} {a b c : World} (h : Gr F a b) (k : Gr F' b c) (hs : ∀ x, x < a.heap.size → F' x → F x) : Gr F a c :=
  ⟨k.os.trans h.os, k.tape.trans h.tape, k.output.trans h.output, Nat.le_trans h.size k.size, fun x hx hn => (k.block x (Nat.lt_of_lt_of_le hx h.size) fun hm => hn (hs x hx hm)).trans (h.block x hx hn)⟩
theorem Gr.of_below {w w' : World} (h : Below w.heap.size w w') (F : Nat → Prop) : Gr F w w' := ⟨h.os, h.tape, h.output, h.size, fun k hk _ => h.block k hk⟩
theorem Gr.below {F : Nat → Prop} {w w' : World} {B : Nat} (h : Gr F w w') (hB : ∀ b, F b → B ≤ b) (hs : B ≤ w.heap.size) : Below B w w' := ⟨h.os, h.tape, h.output, h.size, fun k hk => h.block k (by omega) fun hm => by have := hB k hm; omega⟩
theorem ownsRow_same {w w' : World} {base : Nat} {e : TypeId} {size : Nat} {v : Value} {n : Nat} {xs : List Value} (h : w.ownsRow base e size v n xs) (hb : ∀ j, v.ownBlock = some j → w'.heap[j]? = w.heap[j]?) : w'.ownsRow base e size v n xs := by
  refine ⟨h.1, ?_⟩
  rcases h.2 with hn | ⟨g, cap, cur, rfl, hbase, hg, rest⟩
  · exact Or.inl hn
  · exact Or.inr ⟨g, cap, cur, rfl, hbase, by rw [hb g (by simp [Value.ownBlock])]; exact hg, rest⟩
theorem ownsRow_base {w : World} {base base' : Nat} {e : TypeId} {size : Nat} {v : Value} {n : Nat} {xs : List Value} (h : w.ownsRow base e size v n xs) (hb : base' ≤ base) : w.ownsRow base' e size v n xs := by
  refine ⟨h.1, ?_⟩
  rcases h.2 with hn | ⟨g, cap, cur, rfl, hbase, hg, rest⟩
  · exact Or.inl hn
  · exact Or.inr ⟨g, cap, cur, rfl, by omega, hg, rest⟩
/-- A row's block bears the row's type. -/
theorem ownsRow_ty {w : World} {base : Nat} {e : TypeId} {size : Nat} {v : Value} {n : Nat} {xs : List Value} {k : Nat} (h : w.ownsRow base e size v n xs) (hk : v.ownBlock = some k) : ∃ cur, w.heap[k]? = some (.cells cur e (0, 0)) := by
  rcases h.2 with ⟨hv, _⟩ | ⟨g, cap, cur, rfl, hbase, hg, rest⟩
  · rw [hv] at hk; simp [Value.ownBlock] at hk
  · simp [Value.ownBlock] at hk
    subst hk
    exact ⟨cur, hg⟩
theorem ownsRow_lt {w : World} {base : Nat} {e : TypeId} {size : Nat} {v : Value} {n : Nat} {xs : List Value} {k : Nat} (h : w.ownsRow base e size v n xs) (hk : v.ownBlock = some k) : k < w.heap.size := by
  obtain ⟨cur, hc⟩ := ownsRow_ty h hk
  exact (Array.getElem?_eq_some_iff.1 hc).1
theorem ownsRow_ge {w : World} {base : Nat} {e : TypeId} {size : Nat} {v : Value} {n : Nat} {xs : List Value} {k : Nat} (h : w.ownsRow base e size v n xs) (hk : v.ownBlock = some k) : base ≤ k := by
  rcases h.2 with ⟨hv, _⟩ | ⟨g, cap, cur, rfl, hbase, hg, rest⟩
  · rw [hv] at hk; simp [Value.ownBlock] at hk
  · simp [Value.ownBlock] at hk
    omega
/-- Blocks of unlike types are not the same. -/
theorem ty_ne {w : World} {k l : Nat} {c d : Array Value} {s t : TypeId} {m n : Nat × Nat} (h : w.heap[k]? = some (.cells c s m)) (h' : w.heap[l]? = some (.cells d t n)) (hne : s ≠ t) : k ≠ l := by
  intro e
  subst e
  rw [h] at h'
  simp at h'
  exact hne h'.2.1
theorem map_ne {w : World} {k l : Nat} {c : Array Value} {s : TypeId} {m : Nat × Nat} {es : Array MapEntry} {ck : Nat} (h : w.heap[k]? = some (.cells c s m)) (h' : w.heap[l]? = some (.map es ck)) : k ≠ l := by
  intro e
  subst e
  rw [h] at h'
  simp at h'

/-! ### What it holds -/
structure Acc where
  name : ByteArray
  salt : ByteArray
  digest : ByteArray
  made : Nat
  own : List Int
structure Gra where
  step : Int
  frm : Int
  to : Int
  cat : Int
structure Ses where
  token : ByteArray
  who : Nat
  login : Nat

/-- The cells of an account, whose set of categories lies at v. -/
def accC (p : Acc × Value) : List Value := [.string p.1.name, .string p.1.salt, .string p.1.digest, .int .i64 (p.1.made : Int), p.2]
def aC : List (Acc × Value) → List Value
  | [] => []
  | p :: r => .string p.1.name :: .string p.1.salt :: .string p.1.digest :: .int .i64 (p.1.made : Int) :: p.2 :: aC r
def gC : List Gra → List Value
  | [] => []
  | g :: r => .int .i64 g.step :: .int .i64 g.frm :: .int .i64 g.to :: .int .i64 g.cat :: gC r
theorem aC_len (l : List (Acc × Value)) : (aC l).length = l.length * 5 := by
  induction l with
  | nil => rfl
  | cons p r ih => simp [aC, ih]; omega
theorem gC_len (l : List Gra) : (gC l).length = l.length * 4 := by
  induction l with
  | nil => rfl
  | cons p r ih => simp [gC, ih]; omega
theorem gC_app (a b : List Gra) : gC (a ++ b) = gC a ++ gC b := by
  induction a with
  | nil => rfl
  | cons p r ih => simp [gC, ih]
theorem gC_one : ∀ (l : List Gra), ∀ v ∈ gC l, v.oneCell' = true
  | [], v, h => by simp [gC] at h
  | g :: r, v, h => by
    simp only [gC, List.mem_cons] at h
    rcases h with rfl | rfl | rfl | rfl | h
    · rfl
    · rfl
    · rfl
    · rfl
    · exact gC_one r v h
theorem gC_get : ∀ (l : List Gra) (j : Nat) (g : Gra), l[j]? = some g → (gC l)[j * 4]? = some (.int .i64 g.step) ∧ (gC l)[j * 4 + 1]? = some (.int .i64 g.frm) ∧ (gC l)[j * 4 + 2]? = some (.int .i64 g.to) ∧ (gC l)[j * 4 + 3]? = some (.int .i64 g.cat)
  | [], j, g, h => by simp at h
  | q :: r, 0, g, h => by simp at h; subst h; simp [gC]
  | q :: r, j + 1, g, h => by
    have ih := gC_get r j g (by simpa using h)
    rw [show (j + 1) * 4 = j * 4 + 1 + 1 + 1 + 1 by omega]
    simpa [gC] using ih
theorem aC_get : ∀ (l : List (Acc × Value)) (j : Nat) (p : Acc × Value), l[j]? = some p → (aC l)[j * 5]? = some (.string p.1.name) ∧ (aC l)[j * 5 + 1]? = some (.string p.1.salt) ∧ (aC l)[j * 5 + 2]? = some (.string p.1.digest) ∧ (aC l)[j * 5 + 3]? = some (.int .i64 (p.1.made : Int)) ∧ (aC l)[j * 5 + 4]? = some p.2
  | [], j, p, h => by simp at h
  | q :: r, 0, p, h => by simp at h; subst h; simp [aC]
  | q :: r, j + 1, p, h => by
    have ih := aC_get r j p (by simpa using h)
    rw [show (j + 1) * 5 = j * 5 + 1 + 1 + 1 + 1 + 1 by omega]
    simpa [aC] using ih
theorem aC_own : ∀ (l : List (Acc × Value)) (j : Nat) (p : Acc × Value) (o : List Int) (v : Value), l[j]? = some p → (aC l).set (j * 5 + 4) v = aC (l.set j ({ p.1 with own := o }, v))
  | [], j, p, o, v, h => by simp at h
  | q :: r, 0, p, o, v, h => by simp at h; subst h; simp [aC]
  | q :: r, j + 1, p, o, v, h => by
    have ih := aC_own r j p o v (by simpa using h)
    rw [show (j + 1) * 5 + 4 = j * 5 + 4 + 1 + 1 + 1 + 1 + 1 by omega]
    simp [aC, ih]
theorem aC_made : ∀ (l : List (Acc × Value)) (j : Nat) (p : Acc × Value) (m : Nat), l[j]? = some p → (aC l).set (j * 5 + 3) (.int .i64 (m : Int)) = aC (l.set j ({ p.1 with made := m }, p.2))
  | [], j, p, m, h => by simp at h
  | q :: r, 0, p, m, h => by simp at h; subst h; simp [aC]
  | q :: r, j + 1, p, m, h => by
    have ih := aC_made r j p m (by simpa using h)
    rw [show (j + 1) * 5 + 3 = j * 5 + 3 + 1 + 1 + 1 + 1 + 1 by omega]
    simp [aC, ih]
theorem aC_all : ∀ (l : List (Acc × Value)) (j : Nat) (q : Acc × Value), j < l.length →
    (((((aC l).set (j * 5) (.string q.1.name)).set (j * 5 + 1) (.string q.1.salt)).set (j * 5 + 2) (.string q.1.digest)).set (j * 5 + 3) (.int .i64 (q.1.made : Int))).set (j * 5 + 4) q.2 = aC (l.set j q)
  | [], j, q, h => by simp at h
  | p :: r, 0, q, h => by simp [aC]
  | p :: r, j + 1, q, h => by
    have ih := aC_all r j q (by simpa using h)
    rw [show (j + 1) * 5 = j * 5 + 1 + 1 + 1 + 1 + 1 by omega]
    simp only [aC, List.set_cons_succ, show j * 5 + 1 + 1 + 1 + 1 + 1 + 1 = j * 5 + 1 + 1 + 1 + 1 + 1 + 1 from rfl]
    rw [← ih]
theorem aC_one (l : List (Acc × Value)) (h : ∀ p ∈ l, p.2.oneCell' = true) : ∀ v ∈ aC l, v.oneCell' = true := by
  induction l with
  | nil => intro v hv; simp [aC] at hv
  | cons p r ih =>
    intro v hv
    simp only [aC, List.mem_cons] at hv
    rcases hv with rfl | rfl | rfl | rfl | rfl | hv
    · rfl
    · rfl
    · rfl
    · rfl
    · exact h p (by simp)
    · exact ih (fun q hq => h q (by simp [hq])) v hv

/-- How a session reads. -/
def sesR : Value → Option (DataW Unit × List MemPlace)
  | .agg ⟨[.int .i64 a, .int .i64 b]⟩ => some (.agg [.lit (.int .i64 a), .lit (.int .i64 b)], [])
  | _ => none
def sesD (a b : Int) : DataW Unit := .agg [.lit (.int .i64 a), .lit (.int .i64 b)]
theorem sesR_mk (a b : Int) : sesR (.agg #[.int .i64 a, .int .i64 b]) = some (sesD a b, []) := rfl
theorem sesR_inv {v : Value} {y : DataW Unit × List MemPlace} (h : sesR v = some y) : ∃ a b, v = .agg #[.int .i64 a, .int .i64 b] ∧ y = (sesD a b, []) := by
  unfold sesR at h
  split at h
  · rename_i a b
    simp at h
    exact ⟨a, b, rfl, h.symm⟩
  · cases h
def keyB (t : ByteArray) : Lit := .string t.data.toList
/-- The map holds just these sessions. -/
structure MapIs (D : DataW Unit) (ss : List Ses) : Prop where
  has : ∀ x : List UInt8, Maps.has D (.string x) = true ↔ ∃ s ∈ ss, s.token.data.toList = x
  at_ : ∀ s ∈ ss, ∀ z, D.atKey (keyB s.token) z = sesD s.who s.login
  nd : (ss.map (·.token)).Nodup

structure IdAt (w : World) (d ub mb : Nat) (us : List (Acc × Value)) (vd : Value) (dr : List Int) (n : Nat) (ss : List Ses) (vg : Value) (gs : List Gra) : Prop where
  lies : w.heap[d]? = some (.cells #[.pointer (some ⟨d, 0, none⟩), .slice (some ⟨ub, 0, none⟩) us.length us.length, vd, .int .i64 (n : Int), .map (some mb), vg] 73 (0, 0))
  row : w.heap[ub]? = some (.cells (aC us).toArray 86 (0, 0))
  own : ∀ p ∈ us, Owns w 0 p.2 p.1.own
  rises : ∀ p ∈ us, p.1.own.Pairwise (· < ·)
  dra : Owns w 0 vd dr
  map : ∃ k D, w.ownsMap Tryz.prog 9 sesR mb k D ∧ k ≤ n ∧ MapIs D ss
  low : ∀ s ∈ ss, s.login < n
  ord : ss.Pairwise (fun a b => a.login < b.login)
  gra : w.ownsRow 0 66 4 vg gs.length (gC gs)
  n1 : 1 ≤ us.length
  n2 : us.length ≤ 16

/-- The blocks that it may turn. -/
def mineD (d ub mb : Nat) (vg : Value) (k : Nat) : Prop := k = d ∨ k = ub ∨ k = mb ∨ vg.ownBlock = some k

section
variable {w w' : World} {d ub mb : Nat} {us : List (Acc × Value)} {vd : Value} {dr : List Int} {n : Nat} {ss : List Ses} {vg : Value} {gs : List Gra}
theorem IdAt.ltd (h : IdAt w d ub mb us vd dr n ss vg gs) : d < w.heap.size := (Array.getElem?_eq_some_iff.1 h.lies).1
theorem IdAt.ltu (h : IdAt w d ub mb us vd dr n ss vg gs) : ub < w.heap.size := (Array.getElem?_eq_some_iff.1 h.row).1
theorem IdAt.ltm (h : IdAt w d ub mb us vd dr n ss vg gs) : mb < w.heap.size := by
  obtain ⟨k, D, hm, _⟩ := h.map
  exact hm.lt
theorem map_same {k : Nat} {D : DataW Unit} (h : w.ownsMap Tryz.prog 9 sesR mb k D) (hb : w'.heap[mb]? = w.heap[mb]?) : w'.ownsMap Tryz.prog 9 sesR mb k D := by
  obtain ⟨es, ck, e1, r⟩ := h
  exact ⟨es, ck, hb.trans e1, r⟩
/-- Where all its blocks stay, it stays. -/
theorem IdAt.same (h : IdAt w d ub mb us vd dr n ss vg gs) (hk : ∀ k, (mineD d ub mb vg k ∨ (∃ cur, w.heap[k]? = some (.cells cur 3 (0, 0)))) → w'.heap[k]? = w.heap[k]?) : IdAt w' d ub mb us vd dr n ss vg gs := by
  refine ⟨?_, ?_, ?_, h.rises, ?_, ?_, h.low, h.ord, ?_, h.n1, h.n2⟩
  · rw [hk d (Or.inl (Or.inl rfl))]; exact h.lies
  · rw [hk ub (Or.inl (Or.inr (Or.inl rfl)))]; exact h.row
  · exact fun p hp => ownsRow_same (h.own p hp) fun j hj => hk j (Or.inr (ownsRow_ty (h.own p hp) hj))
  · exact ownsRow_same h.dra fun j hj => hk j (Or.inr (ownsRow_ty h.dra hj))
  · obtain ⟨k, D, hm, r⟩ := h.map
    exact ⟨k, D, map_same hm (hk mb (Or.inl (Or.inr (Or.inr (Or.inl rfl))))), r⟩
  · exact ownsRow_same h.gra fun j hj => hk j (Or.inl (Or.inr (Or.inr (Or.inr hj))))
theorem IdAt.below (h : IdAt w d ub mb us vd dr n ss vg gs) (hb : Below w.heap.size w w') : IdAt w' d ub mb us vd dr n ss vg gs := by
  refine h.same fun k hk => hb.block k ?_
  rcases hk with (rfl | rfl | rfl | hk) | ⟨cur, hk⟩
  · exact h.ltd
  · exact h.ltu
  · exact h.ltm
  · exact ownsRow_lt h.gra hk
  · exact (Array.getElem?_eq_some_iff.1 hk).1
theorem IdAt.cells (h : IdAt w d ub mb us vd dr n ss vg gs) : w.cell? ⟨d, 0, none⟩ = some (.pointer (some ⟨d, 0, none⟩)) ∧ w.cell? ⟨d, 1, none⟩ = some (.slice (some ⟨ub, 0, none⟩) us.length us.length) ∧ w.cell? ⟨d, 2, none⟩ = some vd ∧
    w.cell? ⟨d, 3, none⟩ = some (.int .i64 (n : Int)) ∧ w.cell? ⟨d, 4, none⟩ = some (.map (some mb)) ∧ w.cell? ⟨d, 5, none⟩ = some vg := by
  simp [World.cell?, h.lies]
theorem IdAt.warm (h : IdAt w d ub mb us vd dr n ss vg gs) (j : Nat) : w.frozen? ⟨d, j, none⟩ = false ∧ w.frozen? ⟨ub, j, none⟩ = false := by
  simp [World.frozen?, h.lies, h.row]
theorem cell_of_list {W : World} {b : Nat} {cs : List Value} {t : TypeId} {f : Nat × Nat} (h : W.heap[b]? = some (.cells cs.toArray t f)) {j : Nat} {v : Value} (hv : cs[j]? = some v) : W.cell? ⟨b, j, none⟩ = some v := by
  simp [World.cell?, h, hv]
theorem IdAt.acc (h : IdAt w d ub mb us vd dr n ss vg gs) {j : Nat} {p : Acc × Value} (hp : us[j]? = some p) : w.cell? ⟨ub, j * 5, none⟩ = some (.string p.1.name) ∧ w.cell? ⟨ub, j * 5 + 1, none⟩ = some (.string p.1.salt) ∧ w.cell? ⟨ub, j * 5 + 2, none⟩ = some (.string p.1.digest) ∧
    w.cell? ⟨ub, j * 5 + 3, none⟩ = some (.int .i64 (p.1.made : Int)) ∧ w.cell? ⟨ub, j * 5 + 4, none⟩ = some p.2 := by
  obtain ⟨a, b, c, e, f⟩ := aC_get us j p hp
  exact ⟨cell_of_list h.row a, cell_of_list h.row b, cell_of_list h.row c, cell_of_list h.row e, cell_of_list h.row f⟩
/-- Its blocks are all unlike. -/
theorem IdAt.apart (h : IdAt w d ub mb us vd dr n ss vg gs) : d ≠ ub ∧ d ≠ mb ∧ ub ≠ mb ∧ (∀ k, vg.ownBlock = some k → k ≠ d ∧ k ≠ ub ∧ k ≠ mb) ∧ (∀ (k : Nat) (cur : Array Value), w.heap[k]? = some (.cells cur 3 (0, 0)) → ¬ mineD d ub mb vg k) := by
  obtain ⟨kk, D, ⟨es, ck, hm, _⟩, _⟩ := h.map
  refine ⟨ty_ne h.lies h.row (by decide), map_ne h.lies hm, map_ne h.row hm, fun k hk => ?_, fun k cur hk => ?_⟩
  · obtain ⟨cur, hc⟩ := ownsRow_ty h.gra hk
    exact ⟨ty_ne hc h.lies (by decide), ty_ne hc h.row (by decide), map_ne hc hm⟩
  · rintro (rfl | rfl | rfl | hv)
    · exact ty_ne hk h.lies (by decide) rfl
    · exact ty_ne hk h.row (by decide) rfl
    · exact map_ne hk hm rfl
    · obtain ⟨cur', hc⟩ := ownsRow_ty h.gra hv
      exact ty_ne hk hc (by decide) rfl
end
end Go.Proofs.YtplljpodejpbgaaGreatDoor
