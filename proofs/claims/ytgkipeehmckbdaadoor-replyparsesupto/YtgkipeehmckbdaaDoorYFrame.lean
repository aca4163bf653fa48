/-
  What the proofs of the cards share: an argument that is a response; the listed tables and errors, in the world of a call and in the witness's.
-/
import Derived.Test.YtgkipeehmckbdaaDoorCards
import Derived.Test.YtgkipeehmckbdaaDoorTie
import Derived.Test.YtgkipeehmckbdaaDoorYAwake
import Derived.Shelf.Vars
import Derived.WalkKit
import Derived.ProofKit
import Derived.OpenShut
import Derived.ShutString
import Derived.ChangeOld
import Derived.ChangeMaps5
import Derived.Below
import Derived.JoinedCond
import Derived.SizedLaws
import Derived.LaidLaws
import Derived.Deep.DeepHandedRow
import Derived.Deep.SlicePairs
import Derived.Lib.LaidTab
import Derived.Lib.LaidU8
import Derived.Lib.AppendIntMem
import Derived.Lib.SmallJoins
namespace Go.Proofs.YtgkipeehmckbdaaDoor
open Go.ChangeShapes Go.WideShapes Go.ChangeAt Go.RowKit Go.Joins Go.Deep
set_option linter.unusedVariables false

theorem own : ownKnob Tryd.prog.godebug = none := by kernel_rfl
theorem laidOut : laidOutB Tryd.prog = true := by kernel_rfl

theorem bulk_one {H : Type} (d : DataW H) : 1 ≤ Rows.uptoBulk d := by
  cases d with
  | lit l => cases l <;> simp [Rows.uptoBulk]
  | nil => simp [Rows.uptoBulk]
  | ptr d => simp [Rows.uptoBulk]
  | slice elems spare => simp [Rows.uptoBulk]
  | agg parts => simp [Rows.uptoBulk]
  | iface t d => simp [Rows.uptoBulk]
  | map entries => simp [Rows.uptoBulk]
  | held h => simp [Rows.uptoBulk]
theorem bulk_length {H : Type} (l : List (DataW H)) : l.length ≤ Rows.uptoBulkAll l := by
  induction l with
  | nil => simp [Rows.uptoBulkAll]
  | cons x r ih => have := bulk_one x; simp only [Rows.uptoBulkAll, List.length_cons]; omega
theorem bulk_mem {H : Type} (d : DataW H) : ∀ ds : List (DataW H), d ∈ ds → Rows.uptoBulk d ≤ Rows.uptoBulkAll ds
  | [], h => by cases h
  | e :: r, h => by
    rw [Rows.uptoBulkAll]
    rcases List.mem_cons.1 h with rfl | h
    · omega
    · have := bulk_mem d r h
      omega
theorem str_small {H : Type} {ds : List (DataW H)} {j : Nat} {l : List UInt8} (hk : Rows.uptoSmall H ds = true) (hj : ds[j]? = some (.lit (.string l))) : l.length ≤ 1048576 := by
  have h1 : Rows.uptoBulkAll ds ≤ 1048576 := of_decide_eq_true hk
  have h2 := bulk_mem _ ds (List.mem_of_getElem? hj)
  rw [Rows.uptoBulk] at h2
  omega
theorem fieldsP' : ∃ f0 f1 : Field, Tryd.prog.underlying 45 = some (.struct #[f0, f1]) ∧ f0.offset = 0 ∧ f1.offset = 1 ∧ f0.type = 9 ∧ f1.type = 9 := by
  refine ⟨_, _, Tryd.underlying45, rfl, rfl, rfl, rfl⟩
theorem bulk_all_map {H : Type} (f g : Nat → List UInt8) : ∀ n : Nat, Rows.uptoBulkAll ((List.range n).map fun i => (DataW.agg [.lit (.string (f i)), .lit (.string (g i))] : DataW H)) = ((List.range n).map fun i => (f i).length + (g i).length + 3).sum := by
  have key : ∀ l : List Nat, Rows.uptoBulkAll (l.map fun i => (DataW.agg [.lit (.string (f i)), .lit (.string (g i))] : DataW H)) = (l.map fun i => (f i).length + (g i).length + 3).sum := by
    intro l
    induction l with
    | nil => rfl
    | cons x r ih =>
      simp only [List.map_cons, List.sum_cons, Rows.uptoBulkAll, Rows.uptoBulk, ih]
      omega
  intro n
  exact key _
theorem sum_le_map {l : List Nat} {f g : Nat → Nat} (h : ∀ i ∈ l, f i ≤ g i) : (l.map f).sum ≤ (l.map g).sum := by
  induction l with
  | nil => simp
  | cons x r ih =>
    have h1 := h x (by simp)
    have h2 := ih (fun i hi => h i (by simp [hi]))
    simp only [List.map_cons, List.sum_cons]
    omega

theorem int_bounds {m : Int} (h : (Lit.int .i64 m).wf = true) : -9223372036854775808 ≤ m ∧ m ≤ 9223372036854775807 := by
  have h' := h
  simp [Lit.wf] at h'
  have e1 : IntKind.i64.min = -9223372036854775808 := by first | rfl | decide
  have e2 : IntKind.i64.max = 9223372036854775807 := by first | rfl | decide
  omega
/-- The tables' blocks hold what their initialisers lay. -/
def zRanges : List Int := [128, 191, 160, 191, 128, 159, 144, 191, 128, 143, 0, 0, 0, 0, 0, 0, 0, 0, 0, 0, 0, 0, 0, 0, 0, 0, 0, 0, 0, 0, 0, 0]
def layRanges : Obj → Obj
  | .cells _ t frozen => .cells (zRanges.map fun z => Value.int .u8 z).toArray t frozen
  | o => o
def layFirst : Obj → Obj
  | .cells _ t frozen => .cells (Go.Pinned.utf8FirstZ.map fun (z : Nat) => Value.int .u8 (z : Int)).toArray t frozen
  | o => o
def zPow : List Int := [1, 10, 100, 1000, 10000, 100000, 1000000, 10000000, 100000000, 1000000000, 10000000000, 100000000000, 1000000000000, 10000000000000, 100000000000000, 1000000000000000, 10000000000000000, 100000000000000000, 1000000000000000000, 10000000000000000000]
def layPow : Obj → Obj
  | .cells _ t frozen => .cells (zPow.map fun z => Value.int .u64 z).toArray t frozen
  | o => o
def zB32 : List Int := [0, 1, 28, 2, 29, 14, 24, 3, 30, 22, 20, 15, 25, 17, 4, 8, 31, 27, 13, 23, 21, 19, 16, 7, 26, 12, 18, 6, 11, 5, 10, 9]
def layB32 : Obj → Obj
  | .cells _ t frozen => .cells (zB32.map fun z => Value.int .u8 z).toArray t frozen
  | o => o
def zB64 : List Int := [0, 1, 56, 2, 57, 49, 28, 3, 61, 58, 42, 50, 38, 29, 17, 4, 62, 47, 59, 36, 45, 43, 51, 22, 53, 39, 33, 30, 24, 18, 12, 5, 63, 55, 48, 27, 60, 41, 37, 16, 46, 35, 44, 21, 52, 32, 23, 11, 54, 26, 40, 15, 34, 20, 31, 10, 25, 14, 19, 9, 13, 8, 7, 6]
def layB64 : Obj → Obj
  | .cells _ t frozen => .cells (zB64.map fun z => Value.int .u8 z).toArray t frozen
  | o => o
def layReasons : Obj → Obj
  | .cells _ t frozen => .cells tabC.toArray t frozen
  | o => o
def laySyntax : Obj → Obj
  | .cells _ t frozen => .cells #[.iface 119 (.pointer (some ⟨14, 0, none⟩))] t frozen
  | o => o
def layRange : Obj → Obj
  | .cells _ t frozen => .cells #[.iface 119 (.pointer (some ⟨15, 0, none⟩))] t frozen
  | o => o
theorem held14 : ∀ os : Os, (World.holding Tryd.prog os ⟨#[], #[], []⟩).heap.size = 14 := fun os => by kernel_rfl
theorem ml_of {W : World} (h : W.ShapedOpen Tryd.prog) : ML W := cell_of_shapedOpen_int (P := Tryd.prog) (g := 2) (t := 3) (zero := #[.int .i64 0]) h (of_decide_eq_true (by kernel_rfl)) (by kernel_rfl) rfl (by kernel_rfl) (by kernel_rfl) Tryd.underlying3


/-! ### From the row's list to what the walks ask -/
theorem gTab : Tryd.prog.globalNamed "internal/strconv.uint64pow10" = some 1 := by kernel_rfl
theorem gTabType : (Tryd.prog.globals[1]?).map (·.type) = some 89 := by kernel_rfl
theorem cellsTab : Tryd.prog.cellsOf 89 = 20 := by kernel_rfl
theorem cellsU : Tryd.prog.cellsOf 77 = 1 := by kernel_rfl
theorem itoa_of {W : World} (h : Lib.VarReads Tryd.prog W "internal/strconv.uint64pow10" Rows.laid_internal_strconv_uint64pow10) : ItoaAt W := by
  obtain ⟨g', t', cs, fuel, p, hg', ht', hvar, hd⟩ := h
  obtain rfl := Option.some.inj (gTab.symm.trans hg')
  obtain rfl := Option.some.inj (gTabType.symm.trans ht')
  have hP : Lib.TabBelow Tryd.prog W.heap.size W "internal/strconv.uint64pow10" .u64 Lib.pow10Tab := by
    refine Lib.tabBelow_of_tabIs ?_
    unfold Lib.TabIs
    rw [hvar, ← Lib.cells_of_tab (k := .u64) (zs := Lib.pow10Tab) Tryd.underlying89 Tryd.underlying77 cellsU cellsTab hd]
  intro m W' h0 h1 hb
  refine (Tryd.strconv_Itoa m (by omega) h1 W' (hP W' hb)).mono ?_
  rintro e w' ⟨rfl, k, os, rfl⟩
  exact ⟨rfl, ⟨rfl, rfl, rfl, Lib.size_grow W' k os, fun j hj => Lib.heap_grow_old W' k os j (by omega)⟩⟩
theorem gRs : Tryd.prog.globalNamed "cloister/reply.reasons" = some 0 := by kernel_rfl
theorem gRsType : (Tryd.prog.globals[0]?).map (·.type) = some 49 := by kernel_rfl
theorem cellsRs : Tryd.prog.cellsOf 48 = 2 := by kernel_rfl
theorem cells3 : Tryd.prog.cellsOf 3 = 1 := by kernel_rfl
theorem cells9 : Tryd.prog.cellsOf 9 = 1 := by kernel_rfl
theorem fieldsRs : ∃ f0 f1 : Field, Tryd.prog.underlying 48 = some (.struct #[f0, f1]) ∧ f0.offset = 0 ∧ f1.offset = 1 ∧ f0.type = 3 ∧ f1.type = 9 := by
  refine ⟨_, _, Tryd.underlying48, rfl, rfl, rfl, rfl⟩
theorem two_of_struct {H : Type} {enc : TypeId × Value → H} {W : World} {base : Nat} {sp : Nat → Bool} {held : Bool} {fuel : Nat} {cs : List Value} {c : Int} {ws : List UInt8} {q : List MemPlace}
    (h : DataW.trod enc Tryd.prog W base sp held fuel 48 cs = some (.agg [.lit (.int .i64 c), .lit (.string ws)], q)) : cs[0]? = some (.int .i64 c) ∧ cs[1]? = some (.string ⟨ws.toArray⟩) := by
  obtain ⟨f0, f1, hu, o0, o1, t0, t1⟩ := fieldsRs
  obtain ⟨xs, n, rfl, hx, hl, hxl, hall⟩ := DataW.trod_struct hu h
  have h0 := hall 0 f0 rfl
  have h1 := hall 1 f1 rfl
  match xs, hxl with
  | [x0, x1], _ =>
    rw [o0, t0, cells3] at h0
    rw [o1, t1, cells9] at h1
    obtain ⟨z, e0, y0, _⟩ := DataW.trod_int Tryd.underlying3 h0
    obtain ⟨s, e1, y1, _⟩ := DataW.trod_string Tryd.underlying9 h1
    simp only [List.map_cons, List.map_nil, Prod.mk.injEq, DataW.agg.injEq, List.cons.injEq, and_true] at hx
    obtain ⟨⟨hx0, hx1⟩, _⟩ := hx
    rw [y0] at hx0
    rw [y1] at hx1
    simp only [DataW.lit.injEq, Lit.int.injEq, Lit.string.injEq, true_and] at hx0 hx1
    subst hx0
    have g0 := congrArg (·[0]?) e0
    have g1 := congrArg (·[0]?) e1
    simp only [List.getElem?_take, List.getElem?_drop] at g0 g1
    refine ⟨by simpa using g0, ?_⟩
    rw [hx1]
    simpa using g1
def reasonD : List (DataW Unit) := reasonT.map fun p => .agg [.lit (.int .i64 p.1), .lit (.string p.2)]
theorem tabC_at (i : Nat) (h : i < 13) : tabC[i * 2]? = some (.int .i64 (reasonT[i]'h).1) ∧ tabC[i * 2 + 1]? = some (.string ⟨(reasonT[i]'h).2.toArray⟩) := by
  have hc : i = 0 ∨ i = 1 ∨ i = 2 ∨ i = 3 ∨ i = 4 ∨ i = 5 ∨ i = 6 ∨ i = 7 ∨ i = 8 ∨ i = 9 ∨ i = 10 ∨ i = 11 ∨ i = 12 := by omega
  rcases hc with rfl | rfl | rfl | rfl | rfl | rfl | rfl | rfl | rfl | rfl | rfl | rfl | rfl <;> exact ⟨rfl, rfl⟩
theorem tab_of {W : World} (h : Lib.VarReads Tryd.prog W "cloister/reply.reasons" Rows.laid_cloister_reply_reasons) : Tab W := by
  obtain ⟨g', t', cs, fuel, p, hg', ht', hvar, hd⟩ := h
  obtain rfl := Option.some.inj (gRs.symm.trans hg')
  obtain rfl := Option.some.inj (gRsType.symm.trans ht')
  have hd' : DataW.trod (fun _ => ()) Tryd.prog W 0 (fun _ => true) false fuel 49 cs.toList = some (.agg reasonD, p) := hd
  intro j hj
  have hi : j / 2 < 13 := by omega
  obtain ⟨fuel', d, q, hdi, he⟩ := Lib.array_elem Tryd.underlying49 hd' (j / 2) hi
  have hl : reasonD[j / 2]? = some (.agg [.lit (.int .i64 (reasonT[j / 2]'hi).1), .lit (.string (reasonT[j / 2]'hi).2)]) := by
    unfold reasonD
    rw [List.getElem?_map, List.getElem?_eq_getElem (show j / 2 < reasonT.length from hi)]
    rfl
  rw [hl] at hdi
  obtain rfl := Option.some.inj hdi
  rw [cellsRs] at he
  obtain ⟨e0, e1⟩ := two_of_struct he
  simp only [List.getElem?_take, List.getElem?_drop] at e0 e1
  obtain ⟨a0, a1⟩ := tabC_at (j / 2) hi
  rw [World.var?_cell hg' hvar j, ← Array.getElem?_toList]
  by_cases hp : j % 2 = 0
  · have ej : j = j / 2 * 2 := by omega
    rw [ej, a0]
    simpa using e0
  · have ej : j = j / 2 * 2 + 1 := by omega
    rw [ej, a1]
    simpa using e1
theorem gSy : Tryd.prog.globalNamed "strconv.ErrSyntax" = some 3 := by kernel_rfl
theorem gSyType : (Tryd.prog.globals[3]?).map (·.type) = some 65 := by kernel_rfl
theorem gRg : Tryd.prog.globalNamed "strconv.ErrRange" = some 4 := by kernel_rfl
theorem gRgType : (Tryd.prog.globals[4]?).map (·.type) = some 65 := by kernel_rfl
theorem errs_of {W : World} (h1 : Lib.VarReads Tryd.prog W "strconv.ErrSyntax" Rows.laid_strconv_ErrSyntax) (h2 : Lib.VarReads Tryd.prog W "strconv.ErrRange" Rows.laid_strconv_ErrRange) : Errs W := by
  constructor
  · obtain ⟨g', t', cs, fuel, p, hg', ht', hvar, hd⟩ := h1
    obtain rfl := Option.some.inj (gSy.symm.trans hg')
    obtain rfl := Option.some.inj (gSyType.symm.trans ht')
    obtain ⟨_, u, v, hcs, _, _⟩ := iface_of_trod Tryd.underlying65 hd
    refine ⟨.iface u v, ?_, Or.inr ⟨u, v, rfl⟩⟩
    rw [World.var?_cell hg' hvar 0, ← Array.getElem?_toList, hcs]
    rfl
  · obtain ⟨g', t', cs, fuel, p, hg', ht', hvar, hd⟩ := h2
    obtain rfl := Option.some.inj (gRg.symm.trans hg')
    obtain rfl := Option.some.inj (gRgType.symm.trans ht')
    obtain ⟨_, u, v, hcs, _, _⟩ := iface_of_trod Tryd.underlying65 hd
    refine ⟨.iface u v, ?_, Or.inr ⟨u, v, rfl⟩⟩
    rw [World.var?_cell hg' hvar 0, ← Array.getElem?_toList, hcs]
    rfl
theorem laid6 {W : World} (h : laidMetH Tryd.prog [("math/bits.deBruijn32tab", Rows.laid_math_bits_deBruijn32tab), ("math/bits.deBruijn64tab", Rows.laid_math_bits_deBruijn64tab), ("internal/strconv.uint64pow10", Rows.laid_internal_strconv_uint64pow10), ("unicode/utf8.acceptRanges", Rows.laid_unicode_utf8_acceptRanges), ("cloister/reply.reasons", Rows.laid_cloister_reply_reasons), ("unicode/utf8.first", Rows.laid_unicode_utf8_first)] W) : ItoaAt W ∧ Tab W := by
  have h' : laidMet Tryd.prog [("math/bits.deBruijn32tab", Rows.laid_math_bits_deBruijn32tab), ("math/bits.deBruijn64tab", Rows.laid_math_bits_deBruijn64tab), ("internal/strconv.uint64pow10", Rows.laid_internal_strconv_uint64pow10), ("unicode/utf8.acceptRanges", Rows.laid_unicode_utf8_acceptRanges), ("cloister/reply.reasons", Rows.laid_cloister_reply_reasons), ("unicode/utf8.first", Rows.laid_unicode_utf8_first)] W := h
  exact ⟨itoa_of (Lib.laidMet.reads h' (.tail _ (.tail _ (.head _)))), tab_of (Lib.laidMet.reads h' (.tail _ (.tail _ (.tail _ (.tail _ (.head _))))))⟩
theorem laid8 {W : World} (h : laidMetH Tryd.prog [("math/bits.deBruijn32tab", Rows.laid_math_bits_deBruijn32tab), ("math/bits.deBruijn64tab", Rows.laid_math_bits_deBruijn64tab), ("internal/strconv.uint64pow10", Rows.laid_internal_strconv_uint64pow10), ("unicode/utf8.acceptRanges", Rows.laid_unicode_utf8_acceptRanges), ("strconv.ErrRange", Rows.laid_strconv_ErrRange), ("strconv.ErrSyntax", Rows.laid_strconv_ErrSyntax), ("cloister/reply.reasons", Rows.laid_cloister_reply_reasons), ("unicode/utf8.first", Rows.laid_unicode_utf8_first)] W) (hM : ML W) : Met W := by
  have h' : laidMet Tryd.prog [("math/bits.deBruijn32tab", Rows.laid_math_bits_deBruijn32tab), ("math/bits.deBruijn64tab", Rows.laid_math_bits_deBruijn64tab), ("internal/strconv.uint64pow10", Rows.laid_internal_strconv_uint64pow10), ("unicode/utf8.acceptRanges", Rows.laid_unicode_utf8_acceptRanges), ("strconv.ErrRange", Rows.laid_strconv_ErrRange), ("strconv.ErrSyntax", Rows.laid_strconv_ErrSyntax), ("cloister/reply.reasons", Rows.laid_cloister_reply_reasons), ("unicode/utf8.first", Rows.laid_unicode_utf8_first)] W := h
  exact ⟨hM, errs_of (Lib.laidMet.reads h' (.tail _ (.tail _ (.tail _ (.tail _ (.tail _ (.head _))))))) (Lib.laidMet.reads h' (.tail _ (.tail _ (.tail _ (.tail _ (.head _)))))), itoa_of (Lib.laidMet.reads h' (.tail _ (.tail _ (.head _)))), tab_of (Lib.laidMet.reads h' (.tail _ (.tail _ (.tail _ (.tail _ (.tail _ (.tail _ (.head _))))))))⟩
theorem laid_met6 (os : Os) (args : Array Value) : laidMet Tryd.prog [("math/bits.deBruijn32tab", Rows.laid_math_bits_deBruijn32tab), ("math/bits.deBruijn64tab", Rows.laid_math_bits_deBruijn64tab), ("internal/strconv.uint64pow10", Rows.laid_internal_strconv_uint64pow10), ("unicode/utf8.acceptRanges", Rows.laid_unicode_utf8_acceptRanges), ("cloister/reply.reasons", Rows.laid_cloister_reply_reasons), ("unicode/utf8.first", Rows.laid_unicode_utf8_first)] (({ World.holding Tryd.prog os ⟨#[.cells #[.string ⟨#[105, 110, 118, 97, 108, 105, 100, 32, 115, 121, 110, 116, 97, 120]⟩] 121, .cells #[.string ⟨#[118, 97, 108, 117, 101, 32, 111, 117, 116, 32, 111, 102, 32, 114, 97, 110, 103, 101]⟩] 121], #[], []⟩ with heap := ((((((((World.holding Tryd.prog os ⟨#[.cells #[.string ⟨#[105, 110, 118, 97, 108, 105, 100, 32, 115, 121, 110, 116, 97, 120]⟩] 121, .cells #[.string ⟨#[118, 97, 108, 117, 101, 32, 111, 117, 116, 32, 111, 102, 32, 114, 97, 110, 103, 101]⟩] 121], #[], []⟩).heap.modify 6 layRanges).modify 5 layFirst).modify 1 layPow).modify 7 layB32).modify 8 layB64).modify 0 layReasons).modify 3 laySyntax).modify 4 layRange } : World).forCall (fun _ _ => 0) ⟨#[], args, []⟩).memory :=
  laidMet_of_run' 8 (by kernel_rfl) (by kernel_rfl)
theorem laid_met8 (os : Os) (args : Array Value) : laidMet Tryd.prog [("math/bits.deBruijn32tab", Rows.laid_math_bits_deBruijn32tab), ("math/bits.deBruijn64tab", Rows.laid_math_bits_deBruijn64tab), ("internal/strconv.uint64pow10", Rows.laid_internal_strconv_uint64pow10), ("unicode/utf8.acceptRanges", Rows.laid_unicode_utf8_acceptRanges), ("strconv.ErrRange", Rows.laid_strconv_ErrRange), ("strconv.ErrSyntax", Rows.laid_strconv_ErrSyntax), ("cloister/reply.reasons", Rows.laid_cloister_reply_reasons), ("unicode/utf8.first", Rows.laid_unicode_utf8_first)] (({ World.holding Tryd.prog os ⟨#[.cells #[.string ⟨#[105, 110, 118, 97, 108, 105, 100, 32, 115, 121, 110, 116, 97, 120]⟩] 121, .cells #[.string ⟨#[118, 97, 108, 117, 101, 32, 111, 117, 116, 32, 111, 102, 32, 114, 97, 110, 103, 101]⟩] 121], #[], []⟩ with heap := ((((((((World.holding Tryd.prog os ⟨#[.cells #[.string ⟨#[105, 110, 118, 97, 108, 105, 100, 32, 115, 121, 110, 116, 97, 120]⟩] 121, .cells #[.string ⟨#[118, 97, 108, 117, 101, 32, 111, 117, 116, 32, 111, 102, 32, 114, 97, 110, 103, 101]⟩] 121], #[], []⟩).heap.modify 6 layRanges).modify 5 layFirst).modify 1 layPow).modify 7 layB32).modify 8 layB64).modify 0 layReasons).modify 3 laySyntax).modify 4 layRange } : World).forCall (fun _ _ => 0) ⟨#[], args, []⟩).memory :=
  laidMet_of_run' 8 (by kernel_rfl) (by kernel_rfl)

/-! ### An argument that is a response -/
def respBulk (r : RespL) : Nat := bulkL r.2.1 + r.2.2.1.length
theorem respBulk_few {r : RespL} (hb : respBulk r ≤ 1048576) : r.2.1.length ≤ 1048576 ∧ (∀ p ∈ r.2.1, p.1.length ≤ 1048576 ∧ p.2.length ≤ 1048576) ∧ r.2.2.1.length ≤ 1048576 := by
  have key : ∀ l : List PairL, l.length ≤ bulkL l ∧ ∀ p ∈ l, p.1.length + p.2.length ≤ bulkL l := by
    intro l
    induction l with
    | nil => simp [bulkL]
    | cons x r ih =>
      have e : bulkL (x :: r) = x.1.length + x.2.length + 2 + bulkL r := by simp [bulkL]
      refine ⟨by rw [e, List.length_cons]; omega, ?_⟩
      intro p hp
      rcases List.mem_cons.1 hp with rfl | hp
      · omega
      · have := ih.2 p hp; omega
  unfold respBulk at hb
  obtain ⟨k1, k2⟩ := key r.2.1
  exact ⟨by omega, fun p hp => by have := k2 p hp; omega, by omega⟩
theorem bulk_resp {H : Type} {ds : List (DataW H)} {j : Nat} {d : DataW H} {r : RespL} (hk : Rows.uptoSmall H ds = true) (hj : ds[j]? = some d) (hl : respBulk r ≤ Rows.uptoBulk d) : respBulk r ≤ 1048576 := by
  have h1 : Rows.uptoBulkAll ds ≤ 1048576 := of_decide_eq_true hk
  have h2 := bulk_mem _ ds (List.mem_of_getElem? hj)
  omega
set_option maxRecDepth 100000 in
theorem seesP_cells {H : Type} {enc : TypeId × Value → H} {W : World} {v : Value} {x : DataW H × List MemPlace} {fuel : Nat}
    (hf : DataW.trod enc Tryd.prog W 0 (fun _ => true) true fuel 22 [v] = some x) : ∃ l, SeesP W v l ∧ bulkL l ≤ Rows.uptoBulk x.1 := by
  obtain ⟨f0, f1, hu, o0, o1, t0, t1⟩ := fieldsP'
  rcases Go.Deep.open_slice_pairs Tryd.underlying22 hu (by kernel_rfl) o0 o1 (by rw [t0]; kernel_rfl) (by rw [t1]; kernel_rfl) hf with ⟨hcs, hx⟩ | ⟨a, l, c, m, n, V0, V1, D0, D1, P0, P1, hcs, _, hl, hm, hmm, hx, hcell⟩
  · simp only [List.cons.injEq, and_true] at hcs
    subst hcs
    refine ⟨[], ⟨0, 0, none, 0, rfl, Nat.le_refl _, fun _ => rfl, fun h => absurd rfl h, fun j hj => by simp at hj⟩, ?_⟩
    simp [bulkL]
  · simp only [List.cons.injEq, and_true] at hcs
    subst hcs
    subst hx
    have hlm : l ≤ m := by rw [hmm]; split <;> omega
    rw [t0, t1] at hcell
    have each : ∀ i, i < l → ∃ q : PairL, V0 i = strV q.1 ∧ V1 i = strV q.2 ∧ D0 i = .lit (.string q.1) ∧ D1 i = .lit (.string q.2) := by
      intro i hi
      obtain ⟨_, _, h3, h4⟩ := hcell i (by omega)
      obtain ⟨s0, e0, x0⟩ := DataW.trod_string Tryd.underlying9 h3
      obtain ⟨s1, e1, x1⟩ := DataW.trod_string Tryd.underlying9 h4
      simp only [List.cons.injEq, and_true] at e0 e1
      simp only [Prod.mk.injEq] at x0 x1
      refine ⟨(s0.data.toList, s1.data.toList), ?_, ?_, x0.1.1, x1.1.1⟩
      · rw [e0, strV]
      · rw [e1, strV]
    obtain ⟨q, hq⟩ := Go.Deep.choose_lt each
    have hlen : ((List.range l).map q).length = l := by simp
    refine ⟨(List.range l).map q, ?_, ?_⟩
    · by_cases h0 : l = 0
      · subst h0
        exact ⟨0, 0, some a, c, rfl, Nat.zero_le _, (fun h => by cases h), fun h => absurd (by simp) h, fun j hj => by simp at hj⟩
      · obtain ⟨b, off, spot⟩ := a
        have hspot : spot = none := by simpa [Addr.add] using World.cell?_spot (hcell 0 (by omega)).1
        subst hspot
        refine ⟨b, off, _, c, by rw [hlen], by rw [hlen]; exact hl, (fun h => by cases h), fun _ => rfl, fun j hj => ?_⟩
        rw [hlen] at hj
        obtain ⟨c0, c1, _, _⟩ := hcell j (by omega)
        rw [addr_add] at c0 c1
        simp only [List.getElem_map, List.getElem_range]
        rw [← (hq j hj).1, ← (hq j hj).2.1]
        exact ⟨c0, by rw [Nat.add_assoc]; exact c1⟩
    · have e1 : (List.range l).map (fun i => (DataW.agg [D0 i, D1 i] : DataW H)) = (List.range l).map fun i => (DataW.agg [.lit (.string (q i).1), .lit (.string (q i).2)] : DataW H) := by
        refine List.map_congr_left fun i hi => ?_
        rw [(hq i (List.mem_range.1 hi)).2.2.1, (hq i (List.mem_range.1 hi)).2.2.2]
      simp only
      rw [Rows.uptoBulk, e1, bulk_all_map]
      unfold bulkL
      rw [List.map_map]
      have := sum_le_map (l := List.range l) (f := (fun p : PairL => p.1.length + p.2.length + 2) ∘ q) (g := fun i => (q i).1.length + (q i).2.length + 3) (fun i hi => by simp only [Function.comp]; omega)
      omega

theorem fieldsResp : ∃ f0 f1 f2 f3 : Field, Tryd.prog.underlying 24 = some (.struct #[f0, f1, f2, f3]) ∧ f0.type = 3 ∧ f1.type = 22 ∧ f2.type = 9 ∧ f3.type = 4 ∧ oneCellFields Tryd.prog #[f0, f1, f2, f3] = true := ⟨_, _, _, _, Tryd.underlying24, rfl, rfl, rfl, rfl, by kernel_rfl⟩
set_option maxRecDepth 100000 in
theorem resp_arg {H : Type} {enc : TypeId × Value → H} {W : World} {base : Nat} {v : Value} {d : DataW H} {p : List MemPlace}
    (hval : Value.okWide Tryd.prog W .any base 24 v) (h : DataW.Trod enc Tryd.prog W 0 (fun _ => true) true 24 v d p) :
    ∃ (r : RespL) (u : Value), v = rspV r u ∧ SeesP W u r.2.1 ∧ respBulk r ≤ Rows.uptoBulk d := by
  obtain ⟨f0, f1, f2, f3, hu, t0, t1, t2, t3, hone⟩ := fieldsResp
  obtain ⟨v0, v1, v2, v3, y0, y1, y2, y3, n, rfl, rfl, rfl, h0, h1, h2, h3⟩ := open_agg4 hu hone (by kernel_rfl) hval h
  rw [t0] at h0
  rw [t1] at h1
  rw [t2] at h2
  rw [t3] at h3
  obtain ⟨m, e0, x0⟩ := DataW.trod_int Tryd.underlying3 h0
  obtain ⟨l, hS, hB⟩ := seesP_cells h1
  obtain ⟨s, e2, x2⟩ := DataW.trod_string Tryd.underlying9 h2
  obtain ⟨b, e3, x3⟩ := DataW.trod_bool Tryd.underlying4 h3
  simp only [List.cons.injEq, and_true] at e0 e2 e3
  refine ⟨(m, l, s.data.toList, b), v1, ?_, hS, ?_⟩
  · rw [e0, e2, e3]
  · have b2 : s.data.toList.length ≤ Rows.uptoBulk y2.1 := by rw [x2.1]; simp [Rows.uptoBulk]
    simp only [respBulk, Rows.uptoBulk, Rows.uptoBulkAll]
    omega
end Go.Proofs.YtgkipeehmckbdaaDoor
