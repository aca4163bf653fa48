/-
  The code's Print of any instructions.
-/
import Derived.Test.YtkidcoolcjmcfaaDoorCLines
import Derived.Test.YtkidcoolcjmcfaaDoorShelfB
import Derived.Lib.AppendStr
import Derived.Lib.AppendIntMem
namespace Go.Proofs.YtkidcoolcjmcfaaDoor
open Go.RowKit
set_option linter.unusedVariables false
set_option linter.unusedSimpArgs false
set_option maxRecDepth 100000

theorem cellsN_bytes (l : List UInt8) : cellsN .u8 (l.map UInt8.toNat) = l.map fun b => Value.int .u8 b.toNat := by
  simp [cellsN, Function.comp]
/-- 'append(v, text...)'. -/
theorem wpList_appStr {w : World} {ops : Array Oper} {rest : List Oper} {o : Oper} {a : Act} {Q : Exit → Act → World → Prop} (hgd : o.guard = none) (s x : Operand)
    (ho : o.op = .call { callee := .builtin .append, args := #[s, x], argTypes := #[40, 9] }) (base : Nat) (v : Value) (out : List UInt8) (hs : a.eval s = v) (hown : OwnsB w base v out)
    (y : List UInt8) (hx : a.eval x = .string ⟨y.toArray⟩) (hb : out.length + y.length ≤ 140737488355328) (hbase : base ≤ w.heap.size)
    (h : ∀ v' w', OwnsB w' base v' (out ++ y) → w.grownBy w' v.ownBlock → wpList Tryd.prog ops Q rest (a.put o.dst v') w') : wpList Tryd.prog ops Q (o :: rest) a w := by
  obtain ⟨i0, hi, hz0, hz1, hz2⟩ := info_parts Tryd.info5
  unfold OwnsB OwnsN at hown
  rw [List.length_map, cellsN_bytes] at hown
  have hsz : (⟨y.toArray⟩ : ByteArray).size = y.length := size_list _
  refine Go.Lib.wpList_append_own_string w hgd s x 40 9 ho base 5 i0 Tryd.underlying40 Tryd.underlying9 hi hz0 hz1 hz2 v _ _ hs hown ⟨y.toArray⟩ hx (by rw [hsz]; simp only [maxLen]; omega) (by rw [hsz]; exact hb) hbase ?_
  intro v' w' h1 h2 _
  refine h v' w' ?_ h2
  unfold OwnsB OwnsN
  rw [List.length_map, cellsN_bytes, List.length_append]
  rw [hsz] at h1
  simpa [Go.Lib.strCells] using h1

/-- Bytes as cells. -/
def byC (l : List UInt8) : List Value := l.map fun b => Value.int .u8 b.toNat
def RowB (w : World) (B : Nat) (v : Value) (l : List UInt8) : Prop := w.ownsRow B 5 1 v l.length (byC l)
theorem rowB_iff {w : World} {B : Nat} {v : Value} {l : List UInt8} : OwnsB w B v l ↔ RowB w B v l := by
  unfold OwnsB OwnsN RowB byC
  rw [List.length_map, cellsN_bytes]
theorem seesK_byte (x : Int) (w : World) : SeesK 1 (w.alloc (.cells #[.int .u8 x] 5)) (.slice (some ⟨w.heap.size, 0, none⟩) 1 1) 1 [.int .u8 x] := by
  refine ⟨by simp, w.heap.size, 0, _, 1, rfl, Nat.le_refl _, (fun h => by cases h), fun _ => rfl, fun j hj => ?_⟩
  have : j = 0 := by simp at hj; omega
  subst this
  have h := heap_alloc_new w (.cells #[.int .u8 x] 5)
  simp only [World.cell?, h]
  rfl
theorem rowB_one {w : World} {B n : Nat} {v : Value} {l : List UInt8} {b : UInt8} (hn : l.length = n) (h : w.ownsRow B 5 1 v (n + 1) (byC l ++ [.int .u8 b.toNat])) : RowB w B v (l ++ [b]) := by
  unfold RowB byC
  rw [List.length_append, hn, List.map_append]
  exact h
/-- The table of powers lies below whatever came behind. -/
def PowA (w : World) : Prop := ∀ (B : Nat) (W : World), w.heap.size ≤ B → Below w.heap.size w W → Lib.TabBelow Tryd.prog B W "internal/strconv.uint64pow10" .u64 Lib.pow10Tab
theorem appendInt_any (B : Nat) (m : Int) (v : Value) (l : List UInt8) (w0 w : World) (hP : PowA w0) (hB : w0.heap.size ≤ B) (hb : Below w0.heap.size w0 w) (hm : in64 m) (hO : RowB w B v l) (hBw : B ≤ w.heap.size) (hl : l.length ≤ 1000000) :
    Calls Tryd.prog 21 #[v, .int .i64 m, .int .i64 10] w fun e w' => ∃ v', e = .returned v' ∧ RowB w' B v' (l ++ Lib.itoa m) ∧ Below B w w' := by
  refine (Tryd.strconv_AppendInt_10 B l.length m hm.1 hm.2 v (byC l) w hO hBw (by omega) (hP B w hB hb)).mono ?_
  rintro e w' ⟨v', rfl, h1, h2, _⟩
  refine ⟨v', rfl, ?_, h2⟩
  unfold RowB byC
  rw [List.length_append, List.map_append]
  exact h1
theorem line_at {l : List InsL} (hb : badAt l.length l = l.length) (k : Nat) (hk : k < l.length) : ∃ q : Nat, q < 25 ∧ l[k].1 = (q : Int) + 1 ∧ lineO l[k] = (opT.getD q ([], 0)).1 ++ (if (opT.getD q ([], 0)).2 = 0 then [] else 32 :: Lib.itoa l[k].2) := by
  have hm := badAt_all hb l[k] (List.getElem_mem hk)
  unfold mayI at hm
  cases ho : opOf l[k].1 with
  | none => simp only [ho] at hm; exact absurd hm (by decide)
  | some o =>
    obtain ⟨q, hq, e1, e2⟩ := opOf_some ho
    refine ⟨q, hq, by omega, ?_⟩
    unfold lineO nameO argL withO
    rw [ho, e2]
    have : opT.getD q ([], 0) = opT[q] := by have h' : q < opT.length := hq; rw [List.getD, List.getElem?_eq_getElem h']; rfl
    rw [this]
    rfl
end Go.Proofs.YtkidcoolcjmcfaaDoor
