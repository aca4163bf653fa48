/-
  The frame of the reader of a chunked body, and what holds at its labels.
-/
import Derived.ScopeJumps
import Derived.WalkMore
import Derived.Test.YtllhibdjopfcnaaGreatDoorZPRd
import Derived.Deep.RegionLaw
import Derived.Deep.CutBlock
namespace Go.Proofs.YtllhibdjopfcnaaGreatDoor
open Go
set_option linter.unusedVariables false
/-- As Q; by a goto to the label l: J l. -/
def jumps (J : Nat → Act → World → Prop) (Q : Exit → Act → World → Prop) : Exit → Act → World → Prop
  | .goto l, a, w => J l a w
  | e, a, w => Q e a w

theorem wp_scope_many {P : Program} {a : Act} {w : World} {Q : Exit → Act → World → Prop} {c : Code} (rest : Nat → Code) (J : Nat → Act → World → Prop) (μ : Nat → Act → World → Nat)
    (hf : ∀ l a w, J l a w → findLabel c l = some (rest l))
    (first : c.wp P (jumps J Q) a w)
    (pass : ∀ l a w, J l a w → (rest l).wp P (jumps (fun l' a' w' => J l' a' w' ∧ μ l' a' w' < μ l a w) Q) a w) : (Code.scope c).wp P Q a w := by
  intro b k cs
  have hg : ∀ l a w, J l a w → gotoIn l (.inScope c :: k) = some (.code (rest l) :: .inScope c :: k) := fun l a w h => by simp [gotoIn, hf l a w h]
  have key : ∀ n l a w, μ l a w = n → J l a w → ∃ e a' w', Q e a' w' ∧ Arrives P (lone (b.at a (.code (rest l) :: .inScope c :: k)) cs w) b k cs e a' w' := by
    intro n
    induction n using Nat.strongRecOn with
    | _ n ih =>
      intro l a w hn hJ
      obtain ⟨e, a₁, w₁, hq, harr⟩ := pass l a w hJ b (.inScope c :: k) cs
      cases e with
      | normal => exact ⟨.normal, a₁, w₁, hq, Steps.trans harr (.one step_inScope)⟩
      | exit id => exact ⟨.exit id, a₁, w₁, hq, fun k' hk => harr k' (by simp [exitTo, hk])⟩
      | goto l' =>
        obtain ⟨hJ', hlt⟩ := hq
        obtain ⟨e₂, a₂, w₂, hq₂, harr₂⟩ := ih _ (by omega) l' a₁ w₁ rfl hJ'
        exact ⟨e₂, a₂, w₂, hq₂, .of_steps (harr _ (hg l' a₁ w₁ hJ')) harr₂⟩
      | ret => exact ⟨_, a₁, w₁, hq, harr⟩
      | panic ch => exact ⟨_, a₁, w₁, hq, harr⟩
      | outgrown => exact ⟨_, a₁, w₁, hq, harr⟩
  obtain ⟨e, a₁, w₁, hq, harr⟩ := first b (.inScope c :: k) cs
  cases e with
  | normal => exact ⟨.normal, a₁, w₁, hq, .head step_scope (Steps.trans harr (.one step_inScope))⟩
  | exit id => exact ⟨.exit id, a₁, w₁, hq, fun k' hk => .head step_scope (harr k' (by simp [exitTo, hk]))⟩
  | goto l' =>
    obtain ⟨e₂, a₂, w₂, hq₂, harr₂⟩ := key _ l' a₁ w₁ rfl hq
    exact ⟨e₂, a₂, w₂, hq₂, .of_steps (.head step_scope (harr _ (hg l' a₁ w₁ hq))) harr₂⟩
  | ret => exact ⟨_, a₁, w₁, hq, .of_steps (.one step_scope) harr⟩
  | panic ch => exact ⟨_, a₁, w₁, hq, .of_steps (.one step_scope) harr⟩
  | outgrown => exact ⟨_, a₁, w₁, hq, .of_steps (.one step_scope) harr⟩
theorem jumps_ret {J : Nat → Act → World → Prop} {Q : Exit → Act → World → Prop} {a : Act} {w : World} : jumps J Q .ret a w = Q .ret a w := rfl
theorem jumps_goto {J : Nat → Act → World → Prop} {Q : Exit → Act → World → Prop} {l : Nat} {a : Act} {w : World} : jumps J Q (.goto l) a w = J l a w := rfl
theorem jumps_mono {J J' : Nat → Act → World → Prop} {Q : Exit → Act → World → Prop} (h : ∀ l a w, J l a w → J' l a w) : ∀ e a w, jumps J Q e a w → jumps J' Q e a w := by
  intro e a w
  cases e with
  | goto l => exact h l a w
  | normal => exact id
  | exit id' => exact id
  | ret => exact id
  | panic ch => exact id
  | outgrown => exact id
/-- What a pass from a label may jump to. -/
def lower (J : Nat → Act → World → Prop) (μ : World → Nat) (w : World) : Nat → Act → World → Prop := fun l' a' w' => J l' a' w' ∧ μ w' < μ w
theorem wp_skipped {P : Program} {a : Act} {w : World} {Q : Exit → Act → World → Prop} {c : Code} (h : c.wp P Q a w) : (Code.skip.seq c).wp P Q a w := wp_seq (wp_skip h)
/-- Five labels, in the order in which the code falls from one to the other: 0, 1, 3, 2; and 4. -/
theorem wp_scope5 {P : Program} {a : Act} {w : World} {Q : Exit → Act → World → Prop} {c r0 r1 r2 r3 r4 : Code} (J : Nat → Act → World → Prop) (μ : World → Nat)
    (h0 : findLabel c 0 = some (Code.skip.seq r0)) (h1 : findLabel c 1 = some (Code.skip.seq r1)) (h2 : findLabel c 2 = some (Code.skip.seq r2)) (h3 : findLabel c 3 = some (Code.skip.seq r3)) (h4 : findLabel c 4 = some (Code.skip.seq r4)) (hJ : ∀ l a w, J l a w → l < 5)
    (p4 : ∀ a w, J 4 a w → r4.wp P (jumps (lower J μ w) Q) a w)
    (p2 : ∀ a w, J 2 a w → r2.wp P (jumps (lower J μ w) Q) a w)
    (p3 : (∀ a w, J 2 a w → r2.wp P (jumps (lower J μ w) Q) a w) → ∀ a w, J 3 a w → r3.wp P (jumps (lower J μ w) Q) a w)
    (p1 : (∀ a w, J 3 a w → r3.wp P (jumps (lower J μ w) Q) a w) → ∀ a w, J 1 a w → r1.wp P (jumps (lower J μ w) Q) a w)
    (p0 : (∀ a w, J 1 a w → r1.wp P (jumps (lower J μ w) Q) a w) → ∀ a w, J 0 a w → r0.wp P (jumps (lower J μ w) Q) a w)
    (first : (∀ a w, J 0 a w → r0.wp P (jumps (lower J μ w) Q) a w) → c.wp P (jumps J Q) a w) : (Code.scope c).wp P Q a w := by
  have q3 := p3 p2
  have q1 := p1 q3
  have q0 := p0 q1
  refine wp_scope_many (fun l => Code.skip.seq (match l with | 0 => r0 | 1 => r1 | 2 => r2 | 3 => r3 | _ => r4)) J (fun _ _ => μ) ?_ (first q0) ?_
  · intro l a w hj
    have := hJ l a w hj
    match l with
    | 0 => exact h0
    | 1 => exact h1
    | 2 => exact h2
    | 3 => exact h3
    | 4 => exact h4
  · intro l a w hj
    have := hJ l a w hj
    match l with
    | 0 => exact wp_skipped (q0 a w hj)
    | 1 => exact wp_skipped (q1 a w hj)
    | 2 => exact wp_skipped (p2 a w hj)
    | 3 => exact wp_skipped (q3 a w hj)
    | 4 => exact wp_skipped (p4 a w hj)
theorem wp_fall {P : Program} {a1 : Act} {w w1 : World} {Q : Exit → Act → World → Prop} {c : Code} {J : Nat → Act → World → Prop} {μ : World → Nat} (h : c.wp P (jumps (lower J μ w1) Q) a1 w1) (hm : μ w1 ≤ μ w) : c.wp P (jumps (lower J μ w) Q) a1 w1 :=
  Code.wp_mono (jumps_mono fun l a' w' ⟨x, y⟩ => ⟨x, by omega⟩) h
theorem wp_into {P : Program} {a1 : Act} {w1 : World} {Q : Exit → Act → World → Prop} {c : Code} {J : Nat → Act → World → Prop} {μ : World → Nat} (h : c.wp P (jumps (lower J μ w1) Q) a1 w1) : c.wp P (jumps J Q) a1 w1 :=
  Code.wp_mono (jumps_mono fun l a' w' ⟨x, y⟩ => x) h
end Go.Proofs.YtllhibdjopfcnaaGreatDoor

namespace Go.Proofs.YtllhibdjopfcnaaGreatDoor
open Go.RowKit
set_option linter.unusedVariables false

theorem u32_or16 (n d : Nat) (hn : n < 268435456) (hd : d < 16) : bits .or .u32 ((n : Int) * 16) (d : Int) = ((16 * n + d : Nat) : Int) := by
  have h1 : (BitVec.ofInt 32 ((n : Int) * 16)).toNat = 16 * n := by
    rw [show ((n : Int) * 16) = ((16 * n : Nat) : Int) by omega, BitVec.ofInt_natCast, BitVec.toNat_ofNat]
    exact Nat.mod_eq_of_lt (by omega)
  have h2 : (BitVec.ofInt 32 (d : Int)).toNat = d := by
    rw [BitVec.ofInt_natCast, BitVec.toNat_ofNat]
    exact Nat.mod_eq_of_lt (by omega)
  have h3 : 16 * n ||| d = 16 * n + d := (Nat.two_pow_add_eq_or_of_lt (i := 4) (by simpa using hd) n).symm
  show IntKind.u32.wrap ((BitVec.ofInt 32 ((n : Int) * 16) ||| BitVec.ofInt 32 (d : Int)).toNat : Int) = _
  rw [BitVec.toNat_or, h1, h2, h3]
  simp [IntKind.wrap, IntKind.bits, IntKind.signed]
  omega
theorem wrap64_nat (m : Nat) (h : m ≤ 140737488355328) : wrap64 (m : Int) = (m : Int) := by
  simp only [wrap64]
  omega
/-- The frame of the reader: what is live in it. -/
def RdFr (a : Act) (p ln n : Nat) (st : Int) : Prop := a.defers = [] ∧ a.tmps.size = 144 ∧ a.tmps[0]? = some (.pointer (some ⟨p, 0, none⟩)) ∧ a.tmps[1]? = some undef ∧ a.tmps[2]? = some (.int .i64 0) ∧ a.tmps[3]? = some (.int .i64 (ln : Int)) ∧ a.tmps[4]? = some (.int .u32 (n : Int)) ∧ a.tmps[5]? = some (.int .i64 st)
theorem list_map {α : Type} (l : List α) (n : Nat) (V : Nat → α) (hl : l.length = n) (h : ∀ i, i < n → l[i]? = some (V i)) : l = (List.range n).map V := by
  apply List.ext_getElem?
  intro i
  by_cases hi : i < n
  · rw [h i hi]; simp [hi]
  · rw [List.getElem?_eq_none (by omega), List.getElem?_eq_none (by simp; omega)]
theorem RdFr.open {a : Act} {p ln n : Nat} {st : Int} (h : RdFr a p ln n st) : ∃ U : Nat → Value, a = { tmps := #[.pointer (some ⟨p, 0, none⟩), undef, .int .i64 0, .int .i64 (ln : Int), .int .u32 (n : Int), .int .i64 st, U 6, U 7, U 8, U 9, U 10, U 11, U 12, U 13, U 14, U 15, U 16, U 17, U 18, U 19, U 20, U 21, U 22, U 23, U 24, U 25, U 26, U 27, U 28, U 29, U 30, U 31, U 32, U 33, U 34, U 35, U 36, U 37, U 38, U 39, U 40, U 41, U 42, U 43, U 44, U 45, U 46, U 47, U 48, U 49, U 50, U 51, U 52, U 53, U 54, U 55, U 56, U 57, U 58, U 59, U 60, U 61, U 62, U 63, U 64, U 65, U 66, U 67, U 68, U 69, U 70, U 71, U 72, U 73, U 74, U 75, U 76, U 77, U 78, U 79, U 80, U 81, U 82, U 83, U 84, U 85, U 86, U 87, U 88, U 89, U 90, U 91, U 92, U 93, U 94, U 95, U 96, U 97, U 98, U 99, U 100, U 101, U 102, U 103, U 104, U 105, U 106, U 107, U 108, U 109, U 110, U 111, U 112, U 113, U 114, U 115, U 116, U 117, U 118, U 119, U 120, U 121, U 122, U 123, U 124, U 125, U 126, U 127, U 128, U 129, U 130, U 131, U 132, U 133, U 134, U 135, U 136, U 137, U 138, U 139, U 140, U 141, U 142, U 143], defers := [] } := by
  obtain ⟨d, sz, h0, h1, h2, h3, h4, h5⟩ := h
  obtain ⟨t, df⟩ := a
  simp only at d sz h0 h1 h2 h3 h4 h5
  subst d
  refine ⟨fun i => t.getD i undef, ?_⟩
  have e : t.toList = (List.range 144).map (fun i => match i with
      | 0 => .pointer (some ⟨p, 0, none⟩)
      | 1 => undef
      | 2 => .int .i64 0
      | 3 => .int .i64 (ln : Int)
      | 4 => .int .u32 (n : Int)
      | 5 => .int .i64 st
      | i => t.getD i undef) := by
    refine list_map t.toList 144 _ (by simpa using sz) ?_
    intro i hi
    rw [Array.getElem?_toList]
    match i with
    | 0 => exact h0
    | 1 => exact h1
    | 2 => exact h2
    | 3 => exact h3
    | 4 => exact h4
    | 5 => exact h5
    | i + 6 =>
      have hi' : i + 6 < t.size := by omega
      simp [Array.getD, hi']
  have e2 : t = (t.toList).toArray := by simp
  rw [e2, e]
  rfl
/-- What holds at each label. -/
def RdSt (T : Tell (List UInt8)) (L : List UInt8) (at' : Nat) (l k ln n : Nat) (B : List UInt8) : Prop :=
  (l = 0 ∧ Left T L at' k B) ∨
  (l = 1 ∧ Left T L at' ln B ∧ ∃ j, k = ln + j ∧ AtD (L.drop ln) j n) ∨
  (l = 2 ∧ Left T L at' ln B ∧ ∃ j, k = ln + j ∧ AtS (L.drop ln) j n) ∨
  (l = 3 ∧ Left T L at' ln B ∧ ∃ j, k = ln + j ∧ AtM (L.drop ln) j n) ∨
  (l = 4 ∧ Left T L at' ln B ∧ ∃ j, k = ln + j ∧ sizeL (L.drop ln) = (.ok (0, j)))
def RdJ (T : Tell (List UInt8)) (L : List UInt8) (s : ByteArray) (at' p B0 : Nat) (w0 : World) (l : Nat) (a : Act) (w : World) : Prop :=
  ∃ (k ln n : Nat) (st : Int) (v : Value) (B : List UInt8), RdFr a p ln n st ∧ RdAt w p s k v ∧ OwnsB w B0 v B ∧ Kept p B0 w0 w ∧ B0 ≤ w.heap.size ∧ k ≤ L.length ∧ RdSt T L at' l k ln n B
/-- How far the reader is from the end. -/
def RdM (L : List UInt8) (p : Nat) (w : World) : Nat := match w.cell? ⟨p, 1, none⟩ with
  | some (.int _ z) => L.length + 1 - z.toNat
  | _ => 0
theorem RdM.at {L : List UInt8} {p k : Nat} {s : ByteArray} {v : Value} {w : World} (h : RdAt w p s k v) : RdM L p w = L.length + 1 - k := by
  unfold RdM
  rw [h.cells.2.1]
  simp
/-- What the reader answers. -/
def RdEnd (T : Tell (List UInt8)) (s : ByteArray) (at' p B0 : Nat) (st : Int) (w : World) : Prop := match T with
  | (.error none) => st = -1
  | (.error (some t)) => st = t
  | (.ok (b, n)) => st = 0 ∧ ∃ v, RdAt w p s (at' + n) v ∧ OwnsB w B0 v b

end Go.Proofs.YtllhibdjopfcnaaGreatDoor
