/-
  The tables of the seat as its rows list them; an argument of instructions.
-/
import Derived.Test.YtkidcoolcjmcfaaDoorCards
import Derived.Test.YtkidcoolcjmcfaaDoorTie
import Derived.Test.YtkidcoolcjmcfaaDoorCBackW
import Derived.Shelf.Vars
import Derived.WalkKit
import Derived.ProofKit
import Derived.OpenShut
import Derived.ShutString
import Derived.ChangeOld
import Derived.ChangeMaps5
import Derived.Below
import Derived.JoinedCond
import Derived.SizedLaws
import Derived.LaidLaws
import Derived.Deep.DeepHandedRow
import Derived.Deep.SlicePairs
import Derived.Lib.LaidTab
import Derived.Lib.LaidU8
import Derived.Lib.AppendIntMem
import Derived.Lib.SmallJoins
namespace Go.Proofs.YtkidcoolcjmcfaaDoor
open Go.ChangeShapes Go.WideShapes Go.ChangeAt Go.RowKit Go.Joins Go.Deep
set_option linter.unusedVariables false

theorem own : ownKnob Tryd.prog.godebug = none := by kernel_rfl
theorem laidOut : laidOutB Tryd.prog = true := by kernel_rfl

theorem int_bounds {m : Int} (h : (Lit.int .i64 m).wf = true) : -9223372036854775808 ≤ m ∧ m ≤ 9223372036854775807 := by
  have h' := h
  simp [Lit.wf] at h'
  have e1 : IntKind.i64.min = -9223372036854775808 := by first | rfl | decide
  have e2 : IntKind.i64.max = 9223372036854775807 := by first | rfl | decide
  omega
/-- The tables' blocks hold what their initialisers lay. -/
def zRanges : List Int := [128, 191, 160, 191, 128, 159, 144, 191, 128, 143, 0, 0, 0, 0, 0, 0, 0, 0, 0, 0, 0, 0, 0, 0, 0, 0, 0, 0, 0, 0, 0, 0]
def layRanges : Obj → Obj
  | .cells _ t frozen => .cells (zRanges.map fun z => Value.int .u8 z).toArray t frozen
  | o => o
def layFirst : Obj → Obj
  | .cells _ t frozen => .cells (Go.Pinned.utf8FirstZ.map fun (z : Nat) => Value.int .u8 (z : Int)).toArray t frozen
  | o => o
def zPow : List Int := [1, 10, 100, 1000, 10000, 100000, 1000000, 10000000, 100000000, 1000000000, 10000000000, 100000000000, 1000000000000, 10000000000000, 100000000000000, 1000000000000000, 10000000000000000, 100000000000000000, 1000000000000000000, 10000000000000000000]
def layPow : Obj → Obj
  | .cells _ t frozen => .cells (zPow.map fun z => Value.int .u64 z).toArray t frozen
  | o => o
def zB32 : List Int := [0, 1, 28, 2, 29, 14, 24, 3, 30, 22, 20, 15, 25, 17, 4, 8, 31, 27, 13, 23, 21, 19, 16, 7, 26, 12, 18, 6, 11, 5, 10, 9]
def layB32 : Obj → Obj
  | .cells _ t frozen => .cells (zB32.map fun z => Value.int .u8 z).toArray t frozen
  | o => o
def zB64 : List Int := [0, 1, 56, 2, 57, 49, 28, 3, 61, 58, 42, 50, 38, 29, 17, 4, 62, 47, 59, 36, 45, 43, 51, 22, 53, 39, 33, 30, 24, 18, 12, 5, 63, 55, 48, 27, 60, 41, 37, 16, 46, 35, 44, 21, 52, 32, 23, 11, 54, 26, 40, 15, 34, 20, 31, 10, 25, 14, 19, 9, 13, 8, 7, 6]
def layB64 : Obj → Obj
  | .cells _ t frozen => .cells (zB64.map fun z => Value.int .u8 z).toArray t frozen
  | o => o
def layOps : Obj → Obj
  | .cells _ t frozen => .cells opC.toArray t frozen
  | o => o
def laySyntax : Obj → Obj
  | .cells _ t frozen => .cells #[.iface 116 (.pointer (some ⟨14, 0, none⟩))] t frozen
  | o => o
def layRange : Obj → Obj
  | .cells _ t frozen => .cells #[.iface 116 (.pointer (some ⟨15, 0, none⟩))] t frozen
  | o => o
theorem held14 : ∀ os : Os, (World.holding Tryd.prog os ⟨#[], #[], []⟩).heap.size = 14 := fun os => by kernel_rfl
theorem ml_of {W : World} (h : W.ShapedOpen Tryd.prog) : ∃ m, W.cell? ⟨1, 0, none⟩ = some (.int .i64 m) := cell_of_shapedOpen_int (P := Tryd.prog) (g := 1) (t := 3) (zero := #[.int .i64 0]) h (of_decide_eq_true (by kernel_rfl)) (by kernel_rfl) rfl (by kernel_rfl) (by kernel_rfl) Tryd.underlying3

theorem gTab : Tryd.prog.globalNamed "internal/strconv.uint64pow10" = some 2 := by kernel_rfl
theorem gTabType : (Tryd.prog.globals[2]?).map (·.type) = some 90 := by kernel_rfl
theorem cellsTab : Tryd.prog.cellsOf 90 = 20 := by kernel_rfl
theorem cellsU : Tryd.prog.cellsOf 67 = 1 := by kernel_rfl
theorem pow_of {W : World} (h : Lib.VarReads Tryd.prog W "internal/strconv.uint64pow10" Rows.laid_internal_strconv_uint64pow10) : PowA W ∧ ∀ (m : Int) (W' : World), in64 m → Below W.heap.size W W' → Calls Tryd.prog 23 #[.int .i64 m] W' fun e V => e = .returned (.string ⟨(Lib.itoa m).toArray⟩) ∧ Below W'.heap.size W' V := by
  obtain ⟨g', t', cs, fuel, p, hg', ht', hvar, hd⟩ := h
  obtain rfl := Option.some.inj (gTab.symm.trans hg')
  obtain rfl := Option.some.inj (gTabType.symm.trans ht')
  have hP : Lib.TabBelow Tryd.prog W.heap.size W "internal/strconv.uint64pow10" .u64 Lib.pow10Tab := by
    refine Lib.tabBelow_of_tabIs ?_
    unfold Lib.TabIs
    rw [hvar, ← Lib.cells_of_tab (k := .u64) (zs := Lib.pow10Tab) Tryd.underlying90 Tryd.underlying67 cellsU cellsTab hd]
  refine ⟨fun B V h1 h2 V' h3 => hP V' (h2.trans (h3.mono h1)), fun m W' hm hb => ?_⟩
  refine (Tryd.strconv_Itoa m hm.1 hm.2 W' (hP W' hb)).mono ?_
  rintro e w' ⟨rfl, k, os, rfl⟩
  exact ⟨rfl, ⟨rfl, rfl, rfl, Lib.size_grow W' k os, fun j hj => Lib.heap_grow_old W' k os j (by omega)⟩⟩
theorem gOp : Tryd.prog.globalNamed "cloister/code.operations" = some 0 := by kernel_rfl
theorem gOpType : (Tryd.prog.globals[0]?).map (·.type) = some 56 := by kernel_rfl
theorem cellsOp : Tryd.prog.cellsOf 42 = 2 := by kernel_rfl
theorem cells3 : Tryd.prog.cellsOf 3 = 1 := by kernel_rfl
theorem cells9 : Tryd.prog.cellsOf 9 = 1 := by kernel_rfl
theorem fieldsOp : ∃ f0 f1 : Field, Tryd.prog.underlying 42 = some (.struct #[f0, f1]) ∧ f0.offset = 0 ∧ f1.offset = 1 ∧ f0.type = 9 ∧ f1.type = 3 := by
  refine ⟨_, _, Tryd.underlying42, rfl, rfl, rfl, rfl⟩
theorem two_of_op {H : Type} {enc : TypeId × Value → H} {W : World} {base : Nat} {sp : Nat → Bool} {held : Bool} {fuel : Nat} {cs : List Value} {d : Int} {ws : List UInt8} {q : List MemPlace}
    (h : DataW.trod enc Tryd.prog W base sp held fuel 42 cs = some (.agg [.lit (.string ws), .lit (.int .i64 d)], q)) : cs[0]? = some (.string ⟨ws.toArray⟩) ∧ cs[1]? = some (.int .i64 d) := by
  obtain ⟨f0, f1, hu, o0, o1, t0, t1⟩ := fieldsOp
  obtain ⟨xs, n, rfl, hx, hl, hxl, hall⟩ := DataW.trod_struct hu h
  have h0 := hall 0 f0 rfl
  have h1 := hall 1 f1 rfl
  match xs, hxl with
  | [x0, x1], _ =>
    rw [o0, t0, cells9] at h0
    rw [o1, t1, cells3] at h1
    obtain ⟨s, e0, y0, _⟩ := DataW.trod_string Tryd.underlying9 h0
    obtain ⟨z, e1, y1, _⟩ := DataW.trod_int Tryd.underlying3 h1
    simp only [List.map_cons, List.map_nil, Prod.mk.injEq, DataW.agg.injEq, List.cons.injEq, and_true] at hx
    obtain ⟨⟨hx0, hx1⟩, _⟩ := hx
    rw [y0] at hx0
    rw [y1] at hx1
    simp only [DataW.lit.injEq, Lit.int.injEq, Lit.string.injEq, true_and] at hx0 hx1
    subst hx1
    have g0 := congrArg (·[0]?) e0
    have g1 := congrArg (·[0]?) e1
    simp only [List.getElem?_take, List.getElem?_drop] at g0 g1
    refine ⟨?_, by simpa using g1⟩
    rw [hx0]
    simpa using g0
def opD : List (DataW Unit) := opT.map fun p => .agg [.lit (.string p.1), .lit (.int .i64 p.2)]
theorem tabs_of {W : World} (h2 : Lib.VarReads Tryd.prog W "cloister/code.operations" Rows.laid_cloister_code_operations) : Tabs W := by
  constructor
  · obtain ⟨g', t', cs, fuel, p, hg', ht', hvar, hd⟩ := h2
    obtain rfl := Option.some.inj (gOp.symm.trans hg')
    obtain rfl := Option.some.inj (gOpType.symm.trans ht')
    have hd' : DataW.trod (fun _ => ()) Tryd.prog W 0 (fun _ => true) false fuel 56 cs.toList = some (.agg opD, p) := hd
    intro k hk
    obtain ⟨fuel', d, q, hdi, he⟩ := Lib.array_elem Tryd.underlying56 hd' k hk
    have hk' : k < opT.length := hk
    have hl : opD[k]? = some (.agg [.lit (.string (opT.getD k ([], 0)).1), .lit (.int .i64 (opT.getD k ([], 0)).2)]) := by
      unfold opD
      rw [List.getElem?_map, List.getElem?_eq_getElem hk']
      simp [List.getD, hk']
    rw [hl] at hdi
    obtain rfl := Option.some.inj hdi
    rw [cellsOp] at he
    obtain ⟨e0, e1⟩ := two_of_op he
    simp only [List.getElem?_take, List.getElem?_drop] at e0 e1
    rw [World.var?_cell hg' hvar, World.var?_cell hg' hvar, ← Array.getElem?_toList, ← Array.getElem?_toList]
    exact ⟨by simpa using e0, by simpa using e1⟩
theorem gSy : Tryd.prog.globalNamed "strconv.ErrSyntax" = some 5 := by kernel_rfl
theorem gSyType : (Tryd.prog.globals[5]?).map (·.type) = some 76 := by kernel_rfl
theorem gRg : Tryd.prog.globalNamed "strconv.ErrRange" = some 6 := by kernel_rfl
theorem gRgType : (Tryd.prog.globals[6]?).map (·.type) = some 76 := by kernel_rfl
theorem errs_of {W : World} (h1 : Lib.VarReads Tryd.prog W "strconv.ErrSyntax" Rows.laid_strconv_ErrSyntax) (h2 : Lib.VarReads Tryd.prog W "strconv.ErrRange" Rows.laid_strconv_ErrRange) : Errs W := by
  constructor
  · obtain ⟨g', t', cs, fuel, p, hg', ht', hvar, hd⟩ := h1
    obtain rfl := Option.some.inj (gSy.symm.trans hg')
    obtain rfl := Option.some.inj (gSyType.symm.trans ht')
    obtain ⟨_, u, v, hcs, _, _⟩ := iface_of_trod Tryd.underlying76 hd
    refine ⟨.iface u v, ?_, Or.inr ⟨u, v, rfl⟩⟩
    rw [World.var?_cell hg' hvar 0, ← Array.getElem?_toList, hcs]
    rfl
  · obtain ⟨g', t', cs, fuel, p, hg', ht', hvar, hd⟩ := h2
    obtain rfl := Option.some.inj (gRg.symm.trans hg')
    obtain rfl := Option.some.inj (gRgType.symm.trans ht')
    obtain ⟨_, u, v, hcs, _, _⟩ := iface_of_trod Tryd.underlying76 hd
    refine ⟨.iface u v, ?_, Or.inr ⟨u, v, rfl⟩⟩
    rw [World.var?_cell hg' hvar 0, ← Array.getElem?_toList, hcs]
    rfl
theorem laid8 {W : World} (h : laidMetH Tryd.prog [("math/bits.deBruijn32tab", Rows.laid_math_bits_deBruijn32tab), ("math/bits.deBruijn64tab", Rows.laid_math_bits_deBruijn64tab), ("internal/strconv.uint64pow10", Rows.laid_internal_strconv_uint64pow10), ("unicode/utf8.acceptRanges", Rows.laid_unicode_utf8_acceptRanges), ("strconv.ErrRange", Rows.laid_strconv_ErrRange), ("strconv.ErrSyntax", Rows.laid_strconv_ErrSyntax), ("cloister/code.operations", Rows.laid_cloister_code_operations), ("unicode/utf8.first", Rows.laid_unicode_utf8_first)] W) (hS : W.ShapedOpen Tryd.prog) : Met W ∧ PowA W := by
  have h' : laidMet Tryd.prog [("math/bits.deBruijn32tab", Rows.laid_math_bits_deBruijn32tab), ("math/bits.deBruijn64tab", Rows.laid_math_bits_deBruijn64tab), ("internal/strconv.uint64pow10", Rows.laid_internal_strconv_uint64pow10), ("unicode/utf8.acceptRanges", Rows.laid_unicode_utf8_acceptRanges), ("strconv.ErrRange", Rows.laid_strconv_ErrRange), ("strconv.ErrSyntax", Rows.laid_strconv_ErrSyntax), ("cloister/code.operations", Rows.laid_cloister_code_operations), ("unicode/utf8.first", Rows.laid_unicode_utf8_first)] W := h
  obtain ⟨h1, h2⟩ := pow_of (Lib.laidMet.reads h' (.tail _ (.tail _ (.head _))))
  exact ⟨⟨ml_of hS, errs_of (Lib.laidMet.reads h' (.tail _ (.tail _ (.tail _ (.tail _ (.tail _ (.head _))))))) (Lib.laidMet.reads h' (.tail _ (.tail _ (.tail _ (.tail _ (.head _)))))), h2, tabs_of (Lib.laidMet.reads h' (.tail _ (.tail _ (.tail _ (.tail _ (.tail _ (.tail _ (.head _))))))))⟩, h1⟩
theorem laid_met8 (os : Os) (args : Array Value) : laidMet Tryd.prog [("math/bits.deBruijn32tab", Rows.laid_math_bits_deBruijn32tab), ("math/bits.deBruijn64tab", Rows.laid_math_bits_deBruijn64tab), ("internal/strconv.uint64pow10", Rows.laid_internal_strconv_uint64pow10), ("unicode/utf8.acceptRanges", Rows.laid_unicode_utf8_acceptRanges), ("strconv.ErrRange", Rows.laid_strconv_ErrRange), ("strconv.ErrSyntax", Rows.laid_strconv_ErrSyntax), ("cloister/code.operations", Rows.laid_cloister_code_operations), ("unicode/utf8.first", Rows.laid_unicode_utf8_first)] (({ World.holding Tryd.prog os ⟨#[.cells #[.string ⟨#[105, 110, 118, 97, 108, 105, 100, 32, 115, 121, 110, 116, 97, 120]⟩] 118, .cells #[.string ⟨#[118, 97, 108, 117, 101, 32, 111, 117, 116, 32, 111, 102, 32, 114, 97, 110, 103, 101]⟩] 118], #[], []⟩ with heap := ((((((((World.holding Tryd.prog os ⟨#[.cells #[.string ⟨#[105, 110, 118, 97, 108, 105, 100, 32, 115, 121, 110, 116, 97, 120]⟩] 118, .cells #[.string ⟨#[118, 97, 108, 117, 101, 32, 111, 117, 116, 32, 111, 102, 32, 114, 97, 110, 103, 101]⟩] 118], #[], []⟩).heap.modify 4 layRanges).modify 3 layFirst).modify 2 layPow).modify 7 layB32).modify 8 layB64).modify 0 layOps).modify 5 laySyntax).modify 6 layRange } : World).forCall (fun _ _ => 0) ⟨#[], args, []⟩).memory :=
  laidMet_of_run' 8 (by kernel_rfl) (by kernel_rfl)

theorem weights_arg {H : Type} {ts : List TypeId} {ds : List (DataW H)} (h : (DataW.weightsEach Tryd.prog ts ds).all (· ≤ reachBytes) = true) {j : Nat} {t : TypeId} {d : DataW H} (ht : ts[j]? = some t) (hd : ds[j]? = some d) :
    ∀ n, n ∈ d.weights Tryd.prog t → n ≤ reachBytes := fun n hn => by
  have := List.all_eq_true.1 h n (DataW.weights_mem_each ht hd n hn)
  simpa using this


theorem fieldsIn : ∃ f0 f1 : Field, Tryd.prog.underlying 38 = some (.struct #[f0, f1]) ∧ f0.offset = 0 ∧ f1.offset = 1 ∧ f0.type = 3 ∧ f1.type = 3 := by
  refine ⟨_, _, Tryd.underlying38, rfl, rfl, rfl, rfl⟩
set_option maxRecDepth 100000 in
theorem instr_cell {H : Type} {enc : TypeId × Value → H} {W : World} {v : Value} {x : DataW H × List MemPlace} {fuel : Nat}
    (hf : DataW.trod enc Tryd.prog W 0 (fun _ => true) true fuel 22 [v] = some x) : ∃ l, SeesI W v l ∧ (∀ i ∈ l, in64 i.2) ∧ ((∀ n, n ∈ x.1.weights Tryd.prog 22 → n ≤ reachBytes) → l.length * 16 ≤ 140737488351232) := by
  obtain ⟨f0, f1, hu, o0, o1, t0, t1⟩ := fieldsIn
  rcases Go.Deep.open_slice_pairs Tryd.underlying22 hu (by kernel_rfl) o0 o1 (by rw [t0]; kernel_rfl) (by rw [t1]; kernel_rfl) hf with ⟨hcs, hx⟩ | ⟨a, l, c, m, n, V0, V1, D0, D1, P0, P1, hcs, _, hl, hm, hmm, hx, hcell⟩
  · simp only [List.cons.injEq, and_true] at hcs
    subst hcs
    exact ⟨[], ⟨0, 0, none, 0, rfl, Nat.le_refl _, fun _ => rfl, fun h => absurd rfl h, fun j hj => by simp at hj⟩, fun i hi => by simp at hi, fun _ => by simp⟩
  · simp only [List.cons.injEq, and_true] at hcs
    subst hcs
    subst hx
    have hlm : l ≤ m := by rw [hmm]; split <;> omega
    rw [t0, t1] at hcell
    have each : ∀ i, i < l → ∃ q : InsL, V0 i = .int .i64 q.1 ∧ V1 i = .int .i64 q.2 ∧ in64 q.2 := by
      intro i hi
      obtain ⟨_, _, h3, h4⟩ := hcell i (by omega)
      obtain ⟨s0, e0, x0⟩ := DataW.trod_int Tryd.underlying3 h3
      obtain ⟨s1, e1, x1⟩ := DataW.trod_int Tryd.underlying3 h4
      simp only [List.cons.injEq, and_true] at e0 e1
      exact ⟨(s0, s1), e0, e1, int_bounds x1.2⟩
    obtain ⟨q, hq⟩ := Go.Deep.choose_lt each
    have hlen : ((List.range l).map q).length = l := by simp
    refine ⟨(List.range l).map q, ?_, fun i hi => ?_, fun hw => ?_⟩
    · by_cases h0 : l = 0
      · subst h0
        exact ⟨0, 0, some a, c, rfl, Nat.zero_le _, (fun h => by cases h), fun h => absurd (by simp) h, fun j hj => by simp at hj⟩
      · obtain ⟨b, off, spot⟩ := a
        have hspot : spot = none := by simpa [Addr.add] using World.cell?_spot (hcell 0 (by omega)).1
        subst hspot
        refine ⟨b, off, _, c, by rw [hlen], by rw [hlen]; exact hl, (fun h => by cases h), fun _ => rfl, fun j hj => ?_⟩
        rw [hlen] at hj
        obtain ⟨c0, c1, _, _⟩ := hcell j (by omega)
        rw [addr_add] at c0 c1
        simp only [List.getElem_map, List.getElem_range]
        rw [← (hq j hj).1, ← (hq j hj).2.1]
        exact ⟨c0, by rw [Nat.add_assoc]; exact c1⟩
    · obtain ⟨j, hj, rfl⟩ := List.mem_map.1 hi
      exact (hq j (List.mem_range.1 hj)).2.2
    · have h16 : Tryd.prog.bytesOf 38 = 16 := by kernel_rfl
      have := hw ((((List.range l).map fun i => (DataW.agg [D0 i, D1 i] : DataW H)).length + ((List.range (m - l)).map fun j => (DataW.agg [D0 (l + j), D1 (l + j)] : DataW H)).length) * Tryd.prog.bytesOf 38) (by simp [DataW.weights, Tryd.underlying22])
      rw [h16] at this
      simp only [List.length_map, List.length_range] at this
      rw [hlen]
      have hr : reachBytes = 140737488351232 := rfl
      omega

end Go.Proofs.YtkidcoolcjmcfaaDoor
