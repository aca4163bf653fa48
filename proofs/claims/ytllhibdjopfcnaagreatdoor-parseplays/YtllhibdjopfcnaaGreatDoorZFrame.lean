/-
  What the proof of the card shares: an argument that is a slice of pairs; the listed tables, laid in the witness's world.
-/
import Derived.Test.YtllhibdjopfcnaaGreatDoorCards
import Derived.Test.YtllhibdjopfcnaaGreatDoorTie
import Derived.Test.YtllhibdjopfcnaaGreatDoorZHTools
import Derived.Shelf.Vars
import Derived.WalkKit
import Derived.ProofKit
import Derived.OpenShut
import Derived.ShutString
import Derived.ChangeOld
import Derived.ChangeMaps5
import Derived.Below
import Derived.JoinedCond
import Derived.SizedLaws
import Derived.Deep.DeepHandedRow
import Derived.Deep.SlicePairs
import Derived.Lib.LaidTab
namespace Go.Proofs.YtllhibdjopfcnaaGreatDoor
open Go.ChangeShapes Go.WideShapes Go.ChangeAt Go.RowKit
set_option linter.unusedVariables false

theorem own : ownKnob Tryz.prog.godebug = none := by kernel_rfl
theorem laidOut : laidOutB Tryz.prog = true := by kernel_rfl

theorem bulk_one {H : Type} (d : DataW H) : 1 ≤ Rows.uptoBulk d := by
  cases d with
  | lit l => cases l <;> simp [Rows.uptoBulk]
  | nil => simp [Rows.uptoBulk]
  | ptr d => simp [Rows.uptoBulk]
  | slice elems spare => simp [Rows.uptoBulk]
  | agg parts => simp [Rows.uptoBulk]
  | iface t d => simp [Rows.uptoBulk]
  | map entries => simp [Rows.uptoBulk]
  | held h => simp [Rows.uptoBulk]
theorem bulk_length {H : Type} (l : List (DataW H)) : l.length ≤ Rows.uptoBulkAll l := by
  induction l with
  | nil => simp [Rows.uptoBulkAll]
  | cons x r ih => have := bulk_one x; simp only [Rows.uptoBulkAll, List.length_cons]; omega
theorem bulk_mem {H : Type} (d : DataW H) : ∀ ds : List (DataW H), d ∈ ds → Rows.uptoBulk d ≤ Rows.uptoBulkAll ds
  | [], h => by cases h
  | e :: r, h => by
    rw [Rows.uptoBulkAll]
    rcases List.mem_cons.1 h with rfl | h
    · omega
    · have := bulk_mem d r h
      omega
theorem str_small {H : Type} {ds : List (DataW H)} {j : Nat} {l : List UInt8} (hk : Rows.uptoSmall H ds = true) (hj : ds[j]? = some (.lit (.string l))) : l.length ≤ 1048576 := by
  have h1 : Rows.uptoBulkAll ds ≤ 1048576 := of_decide_eq_true hk
  have h2 := bulk_mem _ ds (List.mem_of_getElem? hj)
  rw [Rows.uptoBulk] at h2
  omega
theorem fieldsP' : ∃ f0 f1 : Field, Tryz.prog.underlying 73 = some (.struct #[f0, f1]) ∧ f0.offset = 0 ∧ f1.offset = 1 ∧ f0.type = 9 ∧ f1.type = 9 := by
  refine ⟨_, _, Tryz.underlying73, rfl, rfl, rfl, rfl⟩
theorem bulk_all_map {H : Type} (f g : Nat → List UInt8) : ∀ n : Nat, Rows.uptoBulkAll ((List.range n).map fun i => (DataW.agg [.lit (.string (f i)), .lit (.string (g i))] : DataW H)) = ((List.range n).map fun i => (f i).length + (g i).length + 3).sum := by
  have key : ∀ l : List Nat, Rows.uptoBulkAll (l.map fun i => (DataW.agg [.lit (.string (f i)), .lit (.string (g i))] : DataW H)) = (l.map fun i => (f i).length + (g i).length + 3).sum := by
    intro l
    induction l with
    | nil => rfl
    | cons x r ih =>
      simp only [List.map_cons, List.sum_cons, Rows.uptoBulkAll, Rows.uptoBulk, ih]
      omega
  intro n
  exact key _
theorem sum_le_map {l : List Nat} {f g : Nat → Nat} (h : ∀ i ∈ l, f i ≤ g i) : (l.map f).sum ≤ (l.map g).sum := by
  induction l with
  | nil => simp
  | cons x r ih =>
    have h1 := h x (by simp)
    have h2 := ih (fun i hi => h i (by simp [hi]))
    simp only [List.map_cons, List.sum_cons]
    omega

set_option maxRecDepth 100000 in
/-- An argument that is a slice of pairs. -/
theorem seesP_arg {H : Type} {enc : TypeId × Value → H} {W : World} {base : Nat} {v : Value} {d : DataW H} {p : List MemPlace}
    (hval : Value.okWide Tryz.prog W .any base 32 v) (h : DataW.Trod enc Tryz.prog W 0 (fun _ => true) true 32 v d p) : ∃ l, SeesP W v l ∧ bulkL l ≤ Rows.uptoBulk d := by
  obtain ⟨a0, len, cap, rfl⟩ := okWide_slice Tryz.underlying32 hval
  obtain ⟨fuel, hf⟩ := h
  obtain ⟨f0, f1, hu, o0, o1, t0, t1⟩ := fieldsP'
  rcases Go.Deep.open_slice_pairs Tryz.underlying32 hu (by kernel_rfl) o0 o1 (by rw [t0]; kernel_rfl) (by rw [t1]; kernel_rfl) hf with ⟨hcs, hx⟩ | ⟨a, l, c, m, n, V0, V1, D0, D1, P0, P1, hcs, _, hl, hm, hmm, hx, hcell⟩
  · simp [Value.cells] at hcs
    obtain ⟨rfl, rfl, rfl⟩ := hcs
    refine ⟨[], ⟨0, 0, none, 0, rfl, Nat.le_refl _, fun _ => rfl, fun h => absurd rfl h, fun j hj => by simp at hj⟩, ?_⟩
    simp [bulkL]
  · simp [Value.cells] at hcs
    obtain ⟨rfl, rfl, rfl⟩ := hcs
    simp only [Prod.mk.injEq] at hx
    obtain ⟨rfl, _⟩ := hx
    have hlm : len ≤ m := by rw [hmm]; split <;> omega
    rw [t0, t1] at hcell
    have each : ∀ i, i < len → ∃ q : PairL, V0 i = strV q.1 ∧ V1 i = strV q.2 ∧ D0 i = .lit (.string q.1) ∧ D1 i = .lit (.string q.2) := by
      intro i hi
      obtain ⟨_, _, h3, h4⟩ := hcell i (by omega)
      obtain ⟨s0, e0, x0⟩ := DataW.trod_string Tryz.underlying9 h3
      obtain ⟨s1, e1, x1⟩ := DataW.trod_string Tryz.underlying9 h4
      simp only [List.cons.injEq, and_true] at e0 e1
      simp only [Prod.mk.injEq] at x0 x1
      refine ⟨(s0.data.toList, s1.data.toList), ?_, ?_, x0.1.1, x1.1.1⟩
      · rw [e0, strV]
      · rw [e1, strV]
    obtain ⟨q, hq⟩ := Go.Deep.choose_lt each
    have hlen : ((List.range len).map q).length = len := by simp
    refine ⟨(List.range len).map q, ?_, ?_⟩
    · by_cases h0 : len = 0
      · subst h0
        exact ⟨0, 0, some a, cap, rfl, Nat.zero_le _, (fun h => by cases h), fun h => absurd (by simp) h, fun j hj => by simp at hj⟩
      · obtain ⟨b, off, spot⟩ := a
        have hspot : spot = none := by simpa [Addr.add] using World.cell?_spot (hcell 0 (by omega)).1
        subst hspot
        refine ⟨b, off, _, cap, by rw [hlen], by rw [hlen]; exact hl, (fun h => by cases h), fun _ => rfl, fun j hj => ?_⟩
        rw [hlen] at hj
        obtain ⟨c0, c1, _, _⟩ := hcell j (by omega)
        rw [addr_add] at c0 c1
        simp only [List.getElem_map, List.getElem_range]
        rw [← (hq j hj).1, ← (hq j hj).2.1]
        exact ⟨c0, by rw [Nat.add_assoc]; exact c1⟩
    · have e1 : (List.range len).map (fun i => (DataW.agg [D0 i, D1 i] : DataW H)) = (List.range len).map fun i => (DataW.agg [.lit (.string (q i).1), .lit (.string (q i).2)] : DataW H) := by
        refine List.map_congr_left fun i hi => ?_
        rw [(hq i (List.mem_range.1 hi)).2.2.1, (hq i (List.mem_range.1 hi)).2.2.2]
      rw [Rows.uptoBulk, e1, bulk_all_map]
      unfold bulkL
      rw [List.map_map]
      have := sum_le_map (l := List.range len) (f := (fun p : PairL => p.1.length + p.2.length + 2) ∘ q) (g := fun i => (q i).1.length + (q i).2.length + 3) (fun i hi => by simp only [Function.comp]; omega)
      omega
theorem bulk_pairs {H : Type} {ds : List (DataW H)} {j : Nat} {d : DataW H} {l : List PairL} (hk : Rows.uptoSmall H ds = true) (hj : ds[j]? = some d) (hl : bulkL l ≤ Rows.uptoBulk d) : bulkL l ≤ 1048576 := by
  have h1 : Rows.uptoBulkAll ds ≤ 1048576 := of_decide_eq_true hk
  have h2 := bulk_mem _ ds (List.mem_of_getElem? hj)
  omega

/-- The tables' blocks hold what their initialisers lay. -/
def zRanges : List Int := [128, 191, 160, 191, 128, 159, 144, 191, 128, 143, 0, 0, 0, 0, 0, 0, 0, 0, 0, 0, 0, 0, 0, 0, 0, 0, 0, 0, 0, 0, 0, 0]
def layRanges : Obj → Obj
  | .cells _ t frozen => .cells (zRanges.map fun z => Value.int .u8 z).toArray t frozen
  | o => o
def layFirst : Obj → Obj
  | .cells _ t frozen => .cells (Go.Pinned.utf8FirstZ.map fun (z : Nat) => Value.int .u8 (z : Int)).toArray t frozen
  | o => o
theorem laid_met (os : Os) (args : Array Value) : laidMet Tryz.prog [("unicode/utf8.acceptRanges", Rows.laid_unicode_utf8_acceptRanges), ("unicode/utf8.first", Rows.laid_unicode_utf8_first)] (({ World.holding Tryz.prog os ⟨#[], #[], []⟩ with heap := ((World.holding Tryz.prog os ⟨#[], #[], []⟩).heap.modify 2 layRanges).modify 1 layFirst } : World).forCall (fun _ _ => 0) ⟨#[], args, []⟩).memory :=
  laidMet_of_run' 8 (by kernel_rfl) (by kernel_rfl)
theorem ml_of {W : World} (h : W.ShapedOpen Tryz.prog) : ML W := cell_of_shapedOpen_int (P := Tryz.prog) (g := 0) (t := 3) (zero := #[.int .i64 0]) h (of_decide_eq_true (by kernel_rfl)) (by kernel_rfl) rfl (by kernel_rfl) (by kernel_rfl) Tryz.underlying3

end Go.Proofs.YtllhibdjopfcnaaGreatDoor
