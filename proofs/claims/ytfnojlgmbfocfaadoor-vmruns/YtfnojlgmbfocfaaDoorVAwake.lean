/-
  The law's small functions: filled, sum, awake.
-/
import Derived.Test.YtfnojlgmbfocfaaDoorVRunB
import Derived.Test.YtfnojlgmbfocfaaDoorVSame
import Derived.Laws.StructEq
import Derived.Lib.AppendStr
namespace Go.Proofs.YtfnojlgmbfocfaaDoor
open Go.RowKit
set_option linter.unusedVariables false
set_option linter.unusedSimpArgs false

theorem cellsN_str (s : ByteArray) : Go.Lib.strCells s = cellsN .u8 (bytesOf s) := by
  simp [Go.Lib.strCells, cellsN, bytesOf, Function.comp]

/-- What 'filled' leaves. -/
def FilR (w : World) (s : ByteArray) (e : Ending) (w' : World) : Prop := ∃ q r vb, e = .returned (.pointer (some ⟨q, 0, none⟩)) ∧ MemAt w' q r (bytesOf s) 0 0 vb ∧ w.heap.size ≤ q ∧ w.heap.size ≤ r ∧ r < w'.heap.size ∧ Below w.heap.size w w'
set_option maxHeartbeats 2000000 in
theorem filled_any (s : ByteArray) (w : World) (hs : s.size ≤ 140737488355328) :
    Calls Tryd.prog 11 #[.string s] w (FilR w s) := by
  obtain ⟨W, hW⟩ : ∃ W, W = w.alloc (.cells #[.slice none 0 0, .int .i64 0, .int .i64 0] 43) := ⟨_, rfl⟩
  have hb : Below w.heap.size w W := by rw [hW]; exact below_alloc w _
  have hz : W.heap[w.heap.size]? = some (.cells #[.slice none 0 0, .int .i64 0, .int .i64 0] 43 (0, 0)) := by rw [hW]; exact heap_alloc_new w _
  have hzl := (Array.getElem?_eq_some_iff.1 hz).1
  obtain ⟨i0, hi, hz0, hz1, hz2⟩ := info_parts Tryd.info5
  obtain ⟨v', w', hr, ho, hg, _⟩ := Go.Lib.run_append_own_string (P := Tryd.prog) (w := W) W.heap.size 37 9 37 5 i0 Tryd.underlying37 Tryd.underlying9 hi hz0 hz1 hz2 (.slice none 0 0) 0 [] (World.ownsRow_nil _ _ _ _) s (by simp only [maxLen]; omega) (by omega) (Nat.le_refl _)
  have hO : OwnsN .u8 5 w' W.heap.size v' (bytesOf s) := by
    unfold OwnsN
    rw [bytesOf_len]
    simpa [cellsN_str] using ho
  have hbg : Below W.heap.size W w' := (Below.refl _ _).grown hg (Nat.le_refl _) (fun k hk => by simp [Value.ownBlock] at hk)
  have hz' : w'.heap[w.heap.size]? = some (.cells #[.slice none 0 0, .int .i64 0, .int .i64 0] 43 (0, 0)) := by rw [hbg.block _ hzl]; exact hz
  obtain ⟨ao, cap, hv⟩ := OwnsN.shape hO
  subst hv
  have c0 : W.cell? ⟨w.heap.size, 0, none⟩ = some (.slice none 0 0) := by simp [World.cell?, hz]
  have d0 : w'.cell? ⟨w.heap.size, 0, none⟩ = some (.slice none 0 0) := by simp [World.cell?, hz']
  have df : w'.frozen? ⟨w.heap.size, 0, none⟩ = false := by simp [World.frozen?, hz']
  have HZ := hid hz'
  have HO := hid hO
  have HR := hid hr
  have HB := hid (hb.trans (hbg.mono hb.size))
  have hsz := hbg.size
  have HBY := hid (bytesOf_lt s)
  clear hb hz hr ho hg hO hbg hz' hi hz0 hz1 hz2
  go_enter Tryd.func11, Tryd.ntmps11
  go_wp2_with (first
    | (at_builtin
       rw [← hW]
       refine wpList_append_run rfl _ _ 37 9 rfl _ _ rfl rfl HR.out ?_
       clear hW c0)
    | fail)
  go_ret
  have hO := HO.out
  have hl := fun j hj => World.ownsRow.lt hO j hj
  obtain ⟨r, hr⟩ : ∃ r, (∀ j, (Value.slice ao (bytesOf s).length cap).ownBlock = some j → j = r ∧ r ≠ w.heap.size) ∧ w.heap.size ≤ r ∧ r < w'.heap.size := by
    cases ao with
    | none => exact ⟨w.heap.size, fun j hj => by simp [Value.ownBlock] at hj, Nat.le_refl _, by omega⟩
    | some ad =>
      have := hl ad.block rfl
      exact ⟨ad.block, fun j hj => by simp [Value.ownBlock] at hj; omega, by omega, by omega⟩
  refine ⟨w.heap.size, r, _, rfl, ⟨?_, ?_, hr.1, HBY.out⟩, Nat.le_refl _, hr.2.1, by simpa using hr.2.2, HB.out.setCell (p := ⟨w.heap.size, 0, none⟩) (Nat.le_refl _) _⟩
  · simp only [World.setCell, Array.getElem?_modify, HZ.out]
    simp
  · exact ownsRow_le (ownsRow_same hO (fun j hj => far_set (by have := (hl j hj).1; omega))) (Nat.zero_le _)

def sumL : List InsL := [(1, 2), (1, 3), (5, 0), (25, 0)]
theorem seesI_new (w : World) (l : List InsL) (t : TypeId) (h : l ≠ []) : SeesI (w.alloc (.cells (cellsI l).toArray t)) (.slice (some ⟨w.heap.size, 0, none⟩) l.length l.length) l := by
  refine ⟨w.heap.size, 0, _, _, rfl, Nat.le_refl _, (fun h => by cases h), fun _ => rfl, fun j hj => ?_⟩
  obtain ⟨e1, e2⟩ := cellsI_get l j hj
  refine ⟨?_, ?_⟩
  · simp only [World.cell?, heap_alloc_new, Nat.zero_add]
    simpa using e1
  · simp only [World.cell?, heap_alloc_new, Nat.zero_add]
    simpa using e2
set_option maxHeartbeats 1000000 in
theorem sum_any (w : World) : Calls Tryd.prog 23 #[] w fun e w' => ∃ v, e = .returned v ∧ SeesI w' v sumL ∧ Below w.heap.size w w' := by
  have HS := hid (seesI_new w sumL 57 (by decide))
  go_enter Tryd.func23, Tryd.ntmps23
  go_wp2
  go_ret
  exact ⟨_, rfl, HS.out, below_alloc w _⟩

/-! ### How runs end, held against each other -/
theorem Tryd.fieldsSt : (Tryd.prog.fieldsOf 33).toList.map (fun f => (f.name, f.type, f.offset)) = [("Kind", 3, 0), ("Trap", 3, 1), ("Used", 3, 2)] := by kernel_rfl
theorem Tryd.underSt : Tryd.prog.underlying 33 = some (.struct (Tryd.prog.fieldsOf 33)) := by kernel_rfl
theorem Tryd.stoodSt : Tryd.prog.stoodInHeld 33 = false := by kernel_rfl
theorem Tryd.guardSt : Tryd.prog.eqGuardType Tryd.prog.depth 33 = false := by kernel_rfl
theorem eqlSt (a b c d e f : Int) (w : World) : (binOp .eql 33 (.agg #[.int .i64 a, .int .i64 b, .int .i64 c]) (.agg #[.int .i64 d, .int .i64 e, .int .i64 f])).run Tryd.prog w = .ok (.bool (a == d && (b == e && c == f))) w := by
  rw [run_eql_struct, run_equalIn_agg w 9999 33 _ _ Tryd.underSt Tryd.stoodSt]
  have h := Tryd.fieldsSt
  match hfs : (Tryd.prog.fieldsOf 33).toList with
  | [] => rw [hfs] at h; simp at h
  | [_] => rw [hfs] at h; simp at h
  | [_, _] => rw [hfs] at h; simp at h
  | f1 :: f2 :: f3 :: f4 :: r => rw [hfs] at h; simp at h
  | [f1, f2, f3] =>
    rw [hfs] at h
    simp at h
    obtain ⟨⟨n1, t1, o1⟩, ⟨n2, t2, o2⟩, n3, t3, o3⟩ := h
    simp [Op.eqFields, n1, t1, o1, n2, t2, o2, n3, t3, o3, go_sem]
    by_cases h1 : a = d
    · by_cases h2 : b = e
      · by_cases h3 : c = f
        · simp [h1, h2, h3]
        · simp [h1, h2, h3]
      · simp [h1, h2]
    · simp [h1]
theorem neqSt (a b c d e f : Int) (w : World) : (binOp .neq 33 (.agg #[.int .i64 a, .int .i64 b, .int .i64 c]) (.agg #[.int .i64 d, .int .i64 e, .int .i64 f])).run Tryd.prog w = .ok (.bool (!(a == d && (b == e && c == f)))) w := by
  have h := eqlSt a b c d e f w
  rw [run_eql_struct] at h
  rw [run_neq_struct]
  cases hx : (Op.equalIn 10000 33 (.agg #[.int .i64 a, .int .i64 b, .int .i64 c]) (.agg #[.int .i64 d, .int .i64 e, .int .i64 f])).run Tryd.prog w with
  | ok v w2 =>
    rw [hx] at h
    simp only [Result.andThen_ok] at h ⊢
    simp at h
    obtain ⟨rfl, rfl⟩ := h
    simp
  | halt x w2 => rw [hx] at h; simp [Result.andThen] at h
theorem guardSt (o : BinOp) (x y : Operand) (xs ys : Array Value) (w : World) : (eqGuard o 33 x y (.agg xs) (.agg ys)).run Tryd.prog w = .ok () w := run_eqGuard_agg w o 33 x y xs ys Tryd.guardSt

theorem OwnC.shape {w : World} {B : Nat} {v : Value} {xs : List Int} (h : OwnC w B v xs) : ∃ ao, v = .slice ao xs.length xs.length := by
  rcases h with ⟨rfl, rfl⟩ | ⟨g, cur, rfl, _⟩
  · exact ⟨none, rfl⟩
  · exact ⟨_, rfl⟩
/-- No state. -/
def s0 : StL := ⟨0, [], []⟩
theorem sees0 (w : World) : SeesS w (.agg #[.int .i64 0, .slice none 0 0, .slice none 0 0]) s0 (.slice none 0 0) (.slice none 0 0) := ⟨rfl, Sees.nil w, Sees.nil w, by simp [s0], by simp [s0]⟩
theorem sum_ref : refL sumL s0 true ((9 : Nat) : Int) = 0 := by decide
theorem sum_run : runL sumL 9 0 s0 [] = ((3, 0, 4), ⟨3, [5], []⟩, []) := by kernel_rfl

set_option maxRecDepth 20000 in
set_option maxHeartbeats 4000000 in
theorem awake_any (w : World) (hT : Tabs w) : Calls Tryd.prog 10 #[] w fun e w' => e = .returned (.bool true) ∧ Below w.heap.size w w' := by
  have hsm := sum_any w
  have hG := guardSt
  have hEQ := eqlSt
  have hT2 := hT.lt
  have HT := hid (fun w1 (h : Below w.heap.size w w1) => hT.below h)
  have h2 : 2 ≤ w.heap.size := by
    have := hT2.2
    have e : 1 = 1 := rfl
    omega
  clear hT hT2
  go_enter Tryd.func10, Tryd.ntmps10
  go_wp2_with fail
  refine hsm.mono ?_
  rintro e w1 ⟨v1, rfl, s1, b1⟩
  have hfl := filled_any ⟨#[]⟩ w1 (by decide)
  have HS1 := hid s1
  have HB1 := hid b1
  clear hsm s1 b1
  go_wp2_with fail
  refine hfl.mono ?_
  rintro e w2 ⟨q, r, vb, rfl, m2, q2, r2, rl2, b2⟩
  have hs1 := HB1.out.size
  have hB2 := HB1.out.trans (b2.mono hs1)
  have hrun := run_good v1 sumL _ s0 _ _ vb 9 q r _ 0 0 w2 (HS1.out.below b2) (HT.out w2 hB2) (sees0 w2) (by decide) sum_ref m2 rl2 (by omega) (by omega) (by decide) (by decide)
  have hbe : bytesOf ⟨#[]⟩ = [] := rfl
  rw [hbe, sum_run] at hrun
  unfold GoodR at hrun
  simp only [stopV] at hrun
  have HB2 := hid hB2
  clear hfl m2 b2 hB2 hbe
  unfold memV at hrun
  go_wp2_with fail
  refine hrun.mono ?_
  rintro e w3 ⟨us, uk, rfl, o1, o2, od, ld', st', m3, a3, kp3⟩
  have hB3 : Below w.heap.size w w3 := HB2.out.trans (kp3.below HB2.out.size (by omega) (by omega))
  obtain ⟨a1, h1⟩ := o1.shape
  obtain ⟨a2, h2'⟩ := o2.shape
  have hS3 := o1.sees
  subst h1
  subst h2'
  obtain ⟨W, hW⟩ : ∃ W, W = ((w3.alloc (.cells #[.int .i64 3, .slice a1 1 1, .slice a2 0 0] 25)).alloc (.cells #[.int .i64 3, .int .i64 0, .int .i64 4] 33)).alloc (.cells #[.int .i64 5] 3) := ⟨_, rfl⟩
  obtain ⟨z1, z2, z3⟩ : W.heap[w3.heap.size]? = some (.cells #[.int .i64 3, .slice a1 1 1, .slice a2 0 0] 25 (0, 0)) ∧ W.heap[w3.heap.size + 1]? = some (.cells #[.int .i64 3, .int .i64 0, .int .i64 4] 33 (0, 0)) ∧ W.heap[w3.heap.size + 1 + 1]? = some (.cells #[.int .i64 5] 3 (0, 0)) := by rw [hW]; exact heap_new2 w3 _ _ _
  have hb : Below w3.heap.size w3 W := by rw [hW]; exact (below_alloc2 w3 _ _).alloc (by simp; omega) _
  have hS5 : Sees W (.slice (some ⟨w3.heap.size + 1 + 1, 0, none⟩) 1 1) [5] := by
    have := sees_one ((w3.alloc (.cells #[.int .i64 3, .slice a1 1 1, .slice a2 0 0] 25)).alloc (.cells #[.int .i64 3, .int .i64 0, .int .i64 4] 33)) 5
    rw [hW]
    simpa using this
  have hsa := same_any (.slice a1 1 1) _ [5] [5] W (hS3.below hb) hS5 (by decide) (by decide)
  have HBW := hid (hB3.trans (hb.mono hB3.size))
  have HZ2 := hid z2
  have hzl := (Array.getElem?_eq_some_iff.1 z3).1
  clear hrun o1 o2 od m3 a3 kp3 hB3 hS3 hS5 hb z1 z2 z3
  go_wp2_with fail
  rw [← hW]
  refine hsa.mono ?_
  rintro e w4 ⟨rfl, b4⟩
  have z2 : w4.heap[w3.heap.size + 1]? = some (.cells #[.int .i64 3, .int .i64 0, .int .i64 4] 33 (0, 0)) := by rw [b4.block _ (by omega)]; exact HZ2.out
  have c0 : w4.cell? ⟨w3.heap.size + 1, 0, none⟩ = some (.int .i64 3) := by simp [World.cell?, z2]
  have c1 : w4.cell? ⟨w3.heap.size + 1, 1, none⟩ = some (.int .i64 0) := by simp [World.cell?, z2]
  have c2 : w4.cell? ⟨w3.heap.size + 1, 2, none⟩ = some (.int .i64 4) := by simp [World.cell?, z2]
  have HB4 := hid (HBW.out.trans (b4.mono HBW.out.size))
  clear hsa b4 z2 hW
  go_wp2
  go_ret
  exact ⟨by first | rfl | simp, HB4.out⟩
end Go.Proofs.YtfnojlgmbfocfaaDoor
