/-
  What the proofs of the cards share: the listed tables, in the world of a call and in the witness's.
-/
import Derived.Test.YtfnojlgmbfocfaaDoorCards
import Derived.Test.YtfnojlgmbfocfaaDoorTie
import Derived.Test.YtfnojlgmbfocfaaDoorVAwake
import Derived.Shelf.Vars
import Derived.WalkKit
import Derived.ProofKit
import Derived.OpenShut
import Derived.ShutString
import Derived.ChangeOld
import Derived.ChangeMaps5
import Derived.Below
import Derived.JoinedCond
import Derived.SizedLaws
import Derived.LaidLaws
import Derived.Deep.DeepHandedRow
import Derived.Lib.LaidTab
import Derived.Lib.LaidU8
import Derived.Lib.SmallJoins
namespace Go.Proofs.YtfnojlgmbfocfaaDoor
open Go.ChangeShapes Go.WideShapes Go.ChangeAt Go.RowKit Go.Joins
set_option linter.unusedVariables false

theorem own : ownKnob Tryd.prog.godebug = none := by kernel_rfl
theorem laidOut : laidOutB Tryd.prog = true := by kernel_rfl
def layEff : Obj → Obj
  | .cells _ t frozen => .cells effC.toArray t frozen
  | o => o
def layOps : Obj → Obj
  | .cells _ t frozen => .cells opC.toArray t frozen
  | o => o
theorem gEf : Tryd.prog.globalNamed "cloister/vm.effects" = some 0 := by kernel_rfl
theorem gEfType : (Tryd.prog.globals[0]?).map (·.type) = some 86 := by kernel_rfl
theorem gOp : Tryd.prog.globalNamed "cloister/code.operations" = some 1 := by kernel_rfl
theorem gOpType : (Tryd.prog.globals[1]?).map (·.type) = some 90 := by kernel_rfl
theorem cellsEf : Tryd.prog.cellsOf 85 = 2 := by kernel_rfl
theorem cellsOp : Tryd.prog.cellsOf 81 = 2 := by kernel_rfl
theorem cells3 : Tryd.prog.cellsOf 3 = 1 := by kernel_rfl
theorem cells9 : Tryd.prog.cellsOf 9 = 1 := by kernel_rfl
theorem fieldsEf : ∃ f0 f1 : Field, Tryd.prog.underlying 85 = some (.struct #[f0, f1]) ∧ f0.offset = 0 ∧ f1.offset = 1 ∧ f0.type = 3 ∧ f1.type = 3 := by
  refine ⟨_, _, Tryd.underlying85, rfl, rfl, rfl, rfl⟩
theorem fieldsOp : ∃ f0 f1 : Field, Tryd.prog.underlying 81 = some (.struct #[f0, f1]) ∧ f0.offset = 0 ∧ f1.offset = 1 ∧ f0.type = 9 ∧ f1.type = 3 := by
  refine ⟨_, _, Tryd.underlying81, rfl, rfl, rfl, rfl⟩
theorem two_of_eff {H : Type} {enc : TypeId × Value → H} {W : World} {base : Nat} {sp : Nat → Bool} {held : Bool} {fuel : Nat} {cs : List Value} {c d : Int} {q : List MemPlace}
    (h : DataW.trod enc Tryd.prog W base sp held fuel 85 cs = some (.agg [.lit (.int .i64 c), .lit (.int .i64 d)], q)) : cs[0]? = some (.int .i64 c) ∧ cs[1]? = some (.int .i64 d) := by
  obtain ⟨f0, f1, hu, o0, o1, t0, t1⟩ := fieldsEf
  obtain ⟨xs, n, rfl, hx, hl, hxl, hall⟩ := DataW.trod_struct hu h
  have h0 := hall 0 f0 rfl
  have h1 := hall 1 f1 rfl
  match xs, hxl with
  | [x0, x1], _ =>
    rw [o0, t0, cells3] at h0
    rw [o1, t1, cells3] at h1
    obtain ⟨z, e0, y0, _⟩ := DataW.trod_int Tryd.underlying3 h0
    obtain ⟨s, e1, y1, _⟩ := DataW.trod_int Tryd.underlying3 h1
    simp only [List.map_cons, List.map_nil, Prod.mk.injEq, DataW.agg.injEq, List.cons.injEq, and_true] at hx
    obtain ⟨⟨hx0, hx1⟩, _⟩ := hx
    rw [y0] at hx0
    rw [y1] at hx1
    simp only [DataW.lit.injEq, Lit.int.injEq, true_and] at hx0 hx1
    subst hx0
    subst hx1
    have g0 := congrArg (·[0]?) e0
    have g1 := congrArg (·[0]?) e1
    simp only [List.getElem?_take, List.getElem?_drop] at g0 g1
    exact ⟨by simpa using g0, by simpa using g1⟩
theorem two_of_op {H : Type} {enc : TypeId × Value → H} {W : World} {base : Nat} {sp : Nat → Bool} {held : Bool} {fuel : Nat} {cs : List Value} {d : Int} {ws : List UInt8} {q : List MemPlace}
    (h : DataW.trod enc Tryd.prog W base sp held fuel 81 cs = some (.agg [.lit (.string ws), .lit (.int .i64 d)], q)) : cs[0]? = some (.string ⟨ws.toArray⟩) ∧ cs[1]? = some (.int .i64 d) := by
  obtain ⟨f0, f1, hu, o0, o1, t0, t1⟩ := fieldsOp
  obtain ⟨xs, n, rfl, hx, hl, hxl, hall⟩ := DataW.trod_struct hu h
  have h0 := hall 0 f0 rfl
  have h1 := hall 1 f1 rfl
  match xs, hxl with
  | [x0, x1], _ =>
    rw [o0, t0, cells9] at h0
    rw [o1, t1, cells3] at h1
    obtain ⟨s, e0, y0, _⟩ := DataW.trod_string Tryd.underlying9 h0
    obtain ⟨z, e1, y1, _⟩ := DataW.trod_int Tryd.underlying3 h1
    simp only [List.map_cons, List.map_nil, Prod.mk.injEq, DataW.agg.injEq, List.cons.injEq, and_true] at hx
    obtain ⟨⟨hx0, hx1⟩, _⟩ := hx
    rw [y0] at hx0
    rw [y1] at hx1
    simp only [DataW.lit.injEq, Lit.int.injEq, Lit.string.injEq, true_and] at hx0 hx1
    subst hx1
    have g0 := congrArg (·[0]?) e0
    have g1 := congrArg (·[0]?) e1
    simp only [List.getElem?_take, List.getElem?_drop] at g0 g1
    refine ⟨?_, by simpa using g1⟩
    rw [hx0]
    simpa using g0
def effD : List (DataW Unit) := effT.map fun p => .agg [.lit (.int .i64 p.1), .lit (.int .i64 p.2)]
def opD : List (DataW Unit) := opT.map fun p => .agg [.lit (.string p.1), .lit (.int .i64 p.2)]
theorem tabs_of {W : World} (h1 : Lib.VarReads Tryd.prog W "cloister/vm.effects" Rows.laid_cloister_vm_effects) (h2 : Lib.VarReads Tryd.prog W "cloister/code.operations" Rows.laid_cloister_code_operations) : Tabs W := by
  constructor
  · obtain ⟨g', t', cs, fuel, p, hg', ht', hvar, hd⟩ := h1
    obtain rfl := Option.some.inj (gEf.symm.trans hg')
    obtain rfl := Option.some.inj (gEfType.symm.trans ht')
    have hd' : DataW.trod (fun _ => ()) Tryd.prog W 0 (fun _ => true) false fuel 86 cs.toList = some (.agg effD, p) := hd
    intro k hk
    obtain ⟨fuel', d, q, hdi, he⟩ := Lib.array_elem Tryd.underlying86 hd' k hk
    have hk' : k < effT.length := hk
    have hl : effD[k]? = some (.agg [.lit (.int .i64 (effT.getD k (0, 0)).1), .lit (.int .i64 (effT.getD k (0, 0)).2)]) := by
      unfold effD
      rw [List.getElem?_map, List.getElem?_eq_getElem hk']
      simp [List.getD, hk']
    rw [hl] at hdi
    obtain rfl := Option.some.inj hdi
    rw [cellsEf] at he
    obtain ⟨e0, e1⟩ := two_of_eff he
    simp only [List.getElem?_take, List.getElem?_drop] at e0 e1
    rw [World.var?_cell hg' hvar, World.var?_cell hg' hvar, ← Array.getElem?_toList, ← Array.getElem?_toList]
    exact ⟨by simpa using e0, by simpa using e1⟩
  · obtain ⟨g', t', cs, fuel, p, hg', ht', hvar, hd⟩ := h2
    obtain rfl := Option.some.inj (gOp.symm.trans hg')
    obtain rfl := Option.some.inj (gOpType.symm.trans ht')
    have hd' : DataW.trod (fun _ => ()) Tryd.prog W 0 (fun _ => true) false fuel 90 cs.toList = some (.agg opD, p) := hd
    intro k hk
    obtain ⟨fuel', d, q, hdi, he⟩ := Lib.array_elem Tryd.underlying90 hd' k hk
    have hk' : k < opT.length := hk
    have hl : opD[k]? = some (.agg [.lit (.string (opT.getD k ([], 0)).1), .lit (.int .i64 (opT.getD k ([], 0)).2)]) := by
      unfold opD
      rw [List.getElem?_map, List.getElem?_eq_getElem hk']
      simp [List.getD, hk']
    rw [hl] at hdi
    obtain rfl := Option.some.inj hdi
    rw [cellsOp] at he
    obtain ⟨e0, e1⟩ := two_of_op he
    simp only [List.getElem?_take, List.getElem?_drop] at e0 e1
    rw [World.var?_cell hg' hvar, World.var?_cell hg' hvar, ← Array.getElem?_toList, ← Array.getElem?_toList]
    exact ⟨by simpa using e0, by simpa using e1⟩
theorem laid2 {W : World} (h : laidMetH Tryd.prog [("cloister/code.operations", Rows.laid_cloister_code_operations), ("cloister/vm.effects", Rows.laid_cloister_vm_effects)] W) : Tabs W := by
  have h' : laidMet Tryd.prog [("cloister/code.operations", Rows.laid_cloister_code_operations), ("cloister/vm.effects", Rows.laid_cloister_vm_effects)] W := h
  exact tabs_of (Lib.laidMet.reads h' (.tail _ (.head _))) (Lib.laidMet.reads h' (.head _))
theorem laid_met2 (os : Os) (args : Array Value) : laidMet Tryd.prog [("cloister/code.operations", Rows.laid_cloister_code_operations), ("cloister/vm.effects", Rows.laid_cloister_vm_effects)] (({ World.holding Tryd.prog os ⟨#[], #[], []⟩ with heap := ((World.holding Tryd.prog os ⟨#[], #[], []⟩).heap.modify 0 layEff).modify 1 layOps } : World).forCall (fun _ _ => 0) ⟨#[], args, []⟩).memory :=
  laidMet_of_run' 8 (by kernel_rfl) (by kernel_rfl)
end Go.Proofs.YtfnojlgmbfocfaaDoor
