/-
  What the walks over trees share: the order of keys, rows in memory, what a call may turn.
-/
import Derived.Test.YtkjmilcocnjjoaaProg
import Derived.Test.YtkjmilcocnjjoaaTrMathC
import Derived.WalkKit
import Derived.WalkSpells
import Derived.WalkLawsBesides
import Derived.BigQuiet
import Derived.Deep.QuietTactic
import Derived.Deep.DeepFit
import Derived.Deep.LoopGhost
import Derived.Laws.AppendOwnNone
import Derived.Laws.OwnMore
import Derived.OwnWalk
import Derived.Handy
import Derived.LaidEqlPtr
import Derived.Deep.RegionHeld3
import Derived.Deep.AppendLies
import Derived.Lib.Bytealg
namespace Go.Proofs.Ytkjmilcocnjjoaa
open Go.RowKit Tm
set_option linter.unusedVariables false

theorem hid {p : Prop} (h : p) : Hid p := h
theorem addr_add (b off j : Nat) : (⟨b, off, none⟩ : Addr).add j = ⟨b, off + j, none⟩ := by unfold Addr.add; split <;> simp_all

/-! ### The order of keys -/

def cmpB (a b : ByteArray) : Int := Lib.compareBytes a.data.toList b.data.toList
def keyLt (a b : ByteArray) : Bool := decide (cmpB a b < 0)

theorem cmp_refl (l : List UInt8) : Lib.compareBytes l l = 0 := by
  induction l with
  | nil => rfl
  | cons x l ih => simp [Lib.compareBytes, ih]
theorem cmp_range (a b : List UInt8) : Lib.compareBytes a b = -1 ∨ Lib.compareBytes a b = 0 ∨ Lib.compareBytes a b = 1 := by
  induction a generalizing b with
  | nil => cases b <;> simp [Lib.compareBytes]
  | cons x a ih => cases b with
    | nil => simp [Lib.compareBytes]
    | cons y b =>
      simp only [Lib.compareBytes]
      split
      · simp
      · split
        · simp
        · exact ih b
theorem cmp_swap (a b : List UInt8) : Lib.compareBytes b a = - Lib.compareBytes a b := by
  induction a generalizing b with
  | nil => cases b <;> simp [Lib.compareBytes]
  | cons x a ih => cases b with
    | nil => simp [Lib.compareBytes]
    | cons y b =>
      simp only [Lib.compareBytes]
      by_cases h1 : x < y
      · have h2 : ¬ y < x := fun h => by simp only [UInt8.lt_iff_toNat_lt] at h1 h; omega
        simp [h1, h2]
      · by_cases h2 : y < x
        · simp [h1, h2]
        · simp [h1, h2, ih b]
theorem cmp_eq0 (a b : List UInt8) (h : Lib.compareBytes a b = 0) : a = b := by
  induction a generalizing b with
  | nil => cases b with
    | nil => rfl
    | cons => simp [Lib.compareBytes] at h
  | cons x a ih => cases b with
    | nil => simp [Lib.compareBytes] at h
    | cons y b =>
      simp only [Lib.compareBytes] at h
      split at h
      · simp at h
      · split at h
        · simp at h
        · rename_i h1 h2
          have : x = y := by
            apply UInt8.toNat_inj.1
            simp only [UInt8.lt_iff_toNat_lt] at h1 h2
            omega
          rw [this, ih b h]
theorem cmp_tr (a b c : List UInt8) (h1 : Lib.compareBytes a b < 0) (h2 : Lib.compareBytes b c < 0) : Lib.compareBytes a c < 0 := by
  induction a generalizing b c with
  | nil => cases c with
    | nil => cases b <;> simp [Lib.compareBytes] at h1 h2
    | cons => simp [Lib.compareBytes]
  | cons x a ih => cases b with
    | nil => simp [Lib.compareBytes] at h1
    | cons y b => cases c with
      | nil => simp [Lib.compareBytes] at h2
      | cons z c =>
        simp only [Lib.compareBytes, UInt8.lt_iff_toNat_lt] at h1 h2 ⊢
        by_cases g1 : x.toNat < y.toNat
        · by_cases g2 : y.toNat < z.toNat
          · rw [if_pos (by omega)]; omega
          · rw [if_neg g2] at h2
            by_cases g3 : z.toNat < y.toNat
            · rw [if_pos g3] at h2; omega
            · rw [if_pos (by omega)]; omega
        · rw [if_neg g1] at h1
          by_cases g1' : y.toNat < x.toNat
          · rw [if_pos g1'] at h1; omega
          · rw [if_neg g1'] at h1
            by_cases g2 : y.toNat < z.toNat
            · rw [if_pos (by omega)]; omega
            · rw [if_neg g2] at h2
              by_cases g3 : z.toNat < y.toNat
              · rw [if_pos g3] at h2; omega
              · rw [if_neg g3] at h2
                rw [if_neg (by omega), if_neg (by omega)]
                exact ih b c h1 h2

theorem totB : Tot keyLt where
  irr a := by simp [keyLt, cmpB, cmp_refl]
  tr a b c h1 h2 := by
    simp only [keyLt, decide_eq_true_eq] at *
    exact cmp_tr _ _ _ h1 h2
  tri a b h1 h2 := by
    simp only [keyLt, decide_eq_false_iff_not] at *
    have h3 := cmp_swap a.data.toList b.data.toList
    have : cmpB a b = 0 := by
      have e : cmpB b a = - cmpB a b := h3
      omega
    have h4 := cmp_eq0 _ _ this
    obtain ⟨⟨la⟩⟩ := a
    obtain ⟨⟨lb⟩⟩ := b
    simp at h4
    rw [h4]

theorem lt_cmp (a b : ByteArray) : cmpB a b < 0 ↔ keyLt a b = true := by simp [keyLt]
theorem eq_cmp (a b : ByteArray) : cmpB a b = 0 ↔ keyLt a b = false ∧ keyLt b a = false := by
  have h3 : cmpB b a = - cmpB a b := cmp_swap a.data.toList b.data.toList
  simp only [keyLt, decide_eq_false_iff_not]
  omega

/-! ### What a call may turn -/

/-- The blocks of F may be turned, and new ones laid; nothing else. -/
structure Gr (F : Nat → Prop) (w w' : World) : Prop where
  os : w'.os = w.os
  tape : w'.tape = w.tape
  output : w'.output = w.output
  size : w.heap.size ≤ w'.heap.size
  block : ∀ k, k < w.heap.size → ¬ F k → w'.heap[k]? = w.heap[k]?

theorem Gr.refl (F : Nat → Prop) (w : World) : Gr F w w := ⟨rfl, rfl, rfl, Nat.le_refl _, fun _ _ _ => rfl⟩
theorem Gr.mono {F F' : Nat → Prop} {w w' : World} (h : Gr F w w') (hs : ∀ b, b < w.heap.size → F b → F' b) : Gr F' w w' := ⟨h.os, h.tape, h.output, h.size, fun k hk hn => h.block k hk fun hm => hn (hs k hk hm)⟩
theorem Gr.trans {F F' : Nat → Prop} {a b c : World} (h : Gr F a b) (k : Gr F' b c) (hs : ∀ x, x < a.heap.size → F' x → F x) : Gr F a c :=
  ⟨k.os.trans h.os, k.tape.trans h.tape, k.output.trans h.output, Nat.le_trans h.size k.size, fun i hi hn => (k.block i (Nat.lt_of_lt_of_le hi h.size) fun hm => hn (hs i hi hm)).trans (h.block i hi hn)⟩
theorem Gr.alloc (F : Nat → Prop) (w : World) (o : Obj) : Gr F w (w.alloc o) := ⟨rfl, rfl, rfl, by simp, fun k hk _ => Below.heap_alloc w o k hk⟩
theorem Gr.drew (F : Nat → Prop) (w : World) : Gr F w w.drew := ⟨rfl, rfl, rfl, Nat.le_refl _, fun _ _ _ => rfl⟩
theorem Gr.setCell {F : Nat → Prop} (w : World) {p : Addr} (hp : F p.block) (u : Value) : Gr F w (w.setCell p u) := by
  have h := (Below.refl 0 w).setCell (p := p) (Nat.zero_le _) u
  exact ⟨h.os, h.tape, h.output, h.size, fun k hk hn => Below.heap_setCell w p u k (fun e => hn (e ▸ hp))⟩
theorem Gr.of_grownBy {F : Nat → Prop} {w w' : World} {r : Option Nat} (h : w.grownBy w' r) (hr : ∀ k, r = some k → F k) : Gr F w w' := ⟨h.os, h.tape, h.output, h.size, fun k hk hn => h.block k hk fun e => hn (hr k e.symm)⟩
theorem Gr.below {F : Nat → Prop} {w w' : World} {B : Nat} (h : Gr F w w') (hB : ∀ b, F b → B ≤ b) (hs : B ≤ w.heap.size) : Below B w w' := ⟨h.os, h.tape, h.output, h.size, fun k hk => h.block k (by omega) fun hm => by have := hB k hm; omega⟩
theorem Gr.of_below {w w' : World} (h : Below w.heap.size w w') (F : Nat → Prop) : Gr F w w' := ⟨h.os, h.tape, h.output, h.size, fun k hk _ => h.block k hk⟩

/-! ### Rows of items, rows of pointers -/

section Items
variable {V : Type} (enc : V → Value)

/-- The cells of items. -/
def itC : List (ByteArray × V) → List Value
  | [] => []
  | x :: l => .string x.1 :: enc x.2 :: itC l
theorem itC_len (l : List (ByteArray × V)) : (itC enc l).length = l.length * 2 := by
  induction l with
  | nil => rfl
  | cons x l ih => simp [itC, ih]; omega
theorem itC_app (a b : List (ByteArray × V)) : itC enc (a ++ b) = itC enc a ++ itC enc b := by
  induction a with
  | nil => rfl
  | cons x l ih => simp [itC, ih]
theorem itC_take (l : List (ByteArray × V)) (i : Nat) : (itC enc l).take (i * 2) = itC enc (l.take i) := by
  induction l generalizing i with
  | nil => simp [itC]
  | cons x l ih => cases i with
    | zero => simp [itC]
    | succ i => rw [show (i + 1) * 2 = i * 2 + 1 + 1 by omega]; simp [itC, ih]
theorem itC_drop (l : List (ByteArray × V)) (i : Nat) : (itC enc l).drop (i * 2) = itC enc (l.drop i) := by
  induction l generalizing i with
  | nil => simp [itC]
  | cons x l ih => cases i with
    | zero => simp [itC]
    | succ i => rw [show (i + 1) * 2 = i * 2 + 1 + 1 by omega]; simp [itC, ih]
theorem itC_get (l : List (ByteArray × V)) (j : Nat) (h : j < l.length) : (itC enc l)[j * 2]? = some (.string l[j].1) ∧ (itC enc l)[j * 2 + 1]? = some (enc l[j].2) := by
  induction l generalizing j with
  | nil => simp at h
  | cons x l ih => cases j with
    | zero => simp [itC]
    | succ j =>
      have := ih j (by simpa using h)
      rw [show (j + 1) * 2 = j * 2 + 1 + 1 by omega]
      simpa [itC] using this
theorem itC_one (h1 : ∀ v, (enc v).oneCell' = true) (l : List (ByteArray × V)) : ∀ u ∈ itC enc l, u.oneCell' = true := by
  induction l with
  | nil => intro u hu; cases hu
  | cons x l ih =>
    intro u hu
    simp only [itC, List.mem_cons] at hu
    rcases hu with rfl | rfl | hu
    · rfl
    · exact h1 _
    · exact ih u hu
end Items

def encI (z : Int) : Value := .int .i64 z
def encS (s : ByteArray) : Value := .string s
theorem encI_one (z : Int) : (encI z).oneCell' = true := rfl
theorem encS_one (s : ByteArray) : (encS s).oneCell' = true := rfl
def ptr (q : Nat) : Value := .pointer (some ⟨q, 0, none⟩)
theorem ptr_one (l : List Nat) : ∀ u ∈ l.map ptr, u.oneCell' = true := by
  intro u hu
  obtain ⟨q, _, rfl⟩ := List.mem_map.1 hu
  rfl

theorem ownsRow_at {w : World} {e size n : Nat} {v : Value} {xs : List Value} (h : w.ownsRow 0 e size v n xs) (hn : 0 < n) : ∃ g cap, v = .slice (some ⟨g, 0, none⟩) n cap ∧ n ≤ cap ∧ cap ≤ maxLen ∧ g < w.heap.size ∧ (∀ j, j < n * size → w.cell? ⟨g, j, none⟩ = xs[j]?) ∧ (∀ j, w.frozen? ⟨g, j, none⟩ = false) := by
  rcases h.2 with ⟨_, hn0⟩ | ⟨g, cap, cur, rfl, hb, hg, hc, hm, hs, ht⟩
  · omega
  · exact ⟨g, cap, rfl, hc, hm, (Array.getElem?_eq_some_iff.1 hg).1, h.cellAt, h.frozenAt⟩

theorem ownsRow_shape {w : World} {e size n : Nat} {v : Value} {xs : List Value} (h : w.ownsRow 0 e size v n xs) : ∃ ao cap, v = .slice ao n cap ∧ n ≤ cap ∧ cap ≤ maxLen := by
  rcases h.2 with ⟨rfl, rfl⟩ | ⟨g, cap, cur, rfl, hb, hg, hc, hm, hs, ht⟩
  · exact ⟨none, 0, rfl, Nat.le_refl _, Nat.zero_le _⟩
  · exact ⟨_, cap, rfl, hc, hm⟩

theorem ownsRow_gr {w w' : World} {e size n : Nat} {v : Value} {xs : List Value} {F : Nat → Prop} (h : w.ownsRow 0 e size v n xs) (hg : Gr F w w') (hF : ∀ k, v.ownBlock = some k → ¬ F k) : w'.ownsRow 0 e size v n xs := by
  refine ⟨h.1, ?_⟩
  rcases h.2 with hn | ⟨g, cap, cur, rfl, hbase, hgg, rest⟩
  · exact Or.inl hn
  · exact Or.inr ⟨g, cap, cur, rfl, hbase, by rw [hg.block g (Array.getElem?_eq_some_iff.1 hgg).1 (hF g rfl)]; exact hgg, rest⟩

theorem ownsRow_blk {w : World} {e size n : Nat} {v : Value} {xs : List Value} (h : w.ownsRow 0 e size v n xs) {k : Nat} (hk : v.ownBlock = some k) : k < w.heap.size := (h.lt k hk).2

/-- How often a row lies in a block. -/
def rc (v : Value) (b : Nat) : Nat := if v.ownBlock = some b then 1 else 0
theorem rc_one (v : Value) (b : Nat) : rc v b ≤ 1 := by unfold rc; split <;> omega
theorem rc_pos {v : Value} {b : Nat} : 0 < rc v b ↔ v.ownBlock = some b := by unfold rc; split <;> simp_all
theorem rc_nil (b : Nat) : rc (.slice none 0 0) b = 0 := rfl
theorem rc_at (g n c b : Nat) : rc (.slice (some ⟨g, 0, none⟩) n c) b = if g = b then 1 else 0 := by simp [rc, Value.ownBlock]
theorem rc_eq {v v' : Value} (h : v'.ownBlock = v.ownBlock) (b : Nat) : rc v' b = rc v b := by simp [rc, h]
def eqN (p b : Nat) : Nat := if p = b then 1 else 0
theorem eqN_self (p : Nat) : eqN p p = 1 := by simp [eqN]
theorem eqN_one (p b : Nat) : eqN p b ≤ 1 := by unfold eqN; split <;> omega
theorem eqN_pos {p b : Nat} : 0 < eqN p b ↔ p = b := by unfold eqN; split <;> simp_all

/-! ### A node's block -/

theorem node_cell0 {w : World} {p t : Nat} {vi vk : Value} (h : w.heap[p]? = some (.cells #[vi, vk] t (0, 0))) : w.cell? ⟨p, 0, none⟩ = some vi := by simp [World.cell?, h]
theorem node_cell1 {w : World} {p t : Nat} {vi vk : Value} (h : w.heap[p]? = some (.cells #[vi, vk] t (0, 0))) : w.cell? ⟨p, 1, none⟩ = some vk := by simp [World.cell?, h]
theorem node_fro {w : World} {p t j : Nat} {vi vk : Value} (h : w.heap[p]? = some (.cells #[vi, vk] t (0, 0))) : w.frozen? ⟨p, j, none⟩ = false := by simp [World.frozen?, h]
theorem node_set0 {w : World} {p t : Nat} {vi vk : Value} (u : Value) (h : w.heap[p]? = some (.cells #[vi, vk] t (0, 0))) : (w.setCell ⟨p, 0, none⟩ u).heap[p]? = some (.cells #[u, vk] t (0, 0)) := by
  rw [setCell_eq_setRow w p 0 _ t (0, 0) u h]
  rw [setRow_heap w p _ _ t _ h]
  simp
theorem node_set1 {w : World} {p t : Nat} {vi vk : Value} (u : Value) (h : w.heap[p]? = some (.cells #[vi, vk] t (0, 0))) : (w.setCell ⟨p, 1, none⟩ u).heap[p]? = some (.cells #[vi, u] t (0, 0)) := by
  rw [setCell_eq_setRow w p 1 _ t (0, 0) u h]
  rw [setRow_heap w p _ _ t _ h]
  simp
theorem node_gr {w w' : World} {p t : Nat} {vi vk : Value} {F : Nat → Prop} (h : w.heap[p]? = some (.cells #[vi, vk] t (0, 0))) (hg : Gr F w w') (hF : ¬ F p) : w'.heap[p]? = some (.cells #[vi, vk] t (0, 0)) := by
  rw [hg.block p (Array.getElem?_eq_some_iff.1 h).1 hF]; exact h
theorem heap_lt {w : World} {p : Nat} {o : Obj} (h : w.heap[p]? = some o) : p < w.heap.size := (Array.getElem?_eq_some_iff.1 h).1

end Go.Proofs.Ytkjmilcocnjjoaa
