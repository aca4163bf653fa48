/-
  What the proofs of the statements share: arguments that are subjects, calls, lists of calls, of texts, of numbers, read as data; how long their lists are.
-/
import Derived.Test.YtahibklmcooanaaRows
import Derived.Test.YtahibklmcooanaaOSend
import Derived.WalkKit
import Derived.ProofKit
import Derived.OpenShut
import Derived.ShutString
import Derived.ChangeOld
import Derived.ChangeMaps5
import Derived.Below
import Derived.SliceStrings
import Derived.SizedLaws
import Derived.Lib.SmallJoins
import Derived.Deep.Strs
import Derived.Deep.Slices
namespace Go.Proofs.Ytahibklmcooanaa
open Go.ChangeShapes Go.WideShapes Go.ChangeAt Go.RowKit
set_option linter.unusedVariables false

theorem own : ownKnob Try.prog.godebug = none := by kernel_rfl
theorem laidOut : laidOutB Try.prog = true := by kernel_rfl

/-- A slice of numbers among the data. -/
theorem ints_cell {H : Type} {enc : TypeId × Value → H} {W : World} {v : Value} {x : DataW H × List MemPlace} {fuel : Nat}
    (h : DataW.trod enc Try.prog W 0 (fun _ => true) true fuel 35 [v] = some x) : ∃ xs, Sees W v xs ∧ ((∀ n, n ∈ x.1.weights Try.prog 35 → n ≤ reachBytes) → xs.length * 8 ≤ 140737488351232) := by
  rcases open_ints Try.underlying35 Try.underlying3 (by kernel_rfl) h with ⟨hcs, hx⟩ | ⟨a, len, cap, zs, hcs, _, hl, hm, hz, hx, hcell, hwz⟩
  · simp only [List.cons.injEq, and_true] at hcs
    subst hcs
    exact ⟨[], ⟨0, 0, none, 0, rfl, Nat.le_refl _, fun _ => rfl, fun h => absurd rfl h, fun j hj => by simp at hj⟩, fun _ => by simp⟩
  · simp only [List.cons.injEq, and_true] at hcs
    subst hcs
    have hz' : zs.length = cap := by simpa using hz
    have hlen : (zs.take len).length = len := by rw [List.length_take]; omega
    refine ⟨zs.take len, ?_, fun hw => ?_⟩
    · by_cases h0 : len = 0
      · subst h0
        exact ⟨0, 0, some a, cap, rfl, Nat.zero_le _, (fun h => by cases h), fun h => absurd (by simp) h, fun j hj => by simp at hj⟩
      · obtain ⟨b, off, rfl, hc⟩ := ints_at hcell (by omega)
        refine ⟨b, off, _, cap, by rw [hlen], by omega, (fun h => by cases h), fun _ => rfl, fun j hj => ?_⟩
        have hj' : j < len := by omega
        rw [hc j (by omega)]
        simp [List.getD, hj']
    · rw [hx] at hw
      have h3 : Try.prog.bytesOf 3 = 8 := by kernel_rfl
      have := hw (((lits (H := H) .i64 (zs.take len)).length + (lits (H := H) .i64 (zs.drop len)).length) * Try.prog.bytesOf 3) (by simp [DataW.weights, Try.underlying35])
      rw [h3] at this
      simp only [lits, List.length_map, hlen] at this
      rw [hlen]
      have hr : reachBytes = 140737488351232 := rfl
      omega

/-- The slice v reads the texts xs in the world w. -/
def SeesT (w : World) (v : Value) (xs : List ByteArray) : Prop :=
  ∃ b off ao cap, v = .slice ao xs.length cap ∧ xs.length ≤ cap ∧ (ao = none → cap = 0) ∧ (xs ≠ [] → ao = some ⟨b, off, none⟩) ∧ ∀ j, j < xs.length → w.cell? ⟨b, off + j, none⟩ = some (.string (xs.getD j ByteArray.empty))
theorem SeesT.below {w w' : World} {v : Value} {xs : List ByteArray} (h : SeesT w v xs) (hb : Below w.heap.size w w') : SeesT w' v xs := by
  obtain ⟨b, off, ao, cap, hv, hc, hn, ha, hcell⟩ := h
  exact ⟨b, off, ao, cap, hv, hc, hn, ha, fun j hj => (hb.cell (World.block_lt_of_cell? w _ (hcell j hj))).trans (hcell j hj)⟩

theorem strs_at {W : World} {a : Addr} {ss : List ByteArray} (h : ∀ i, i < ss.length → W.cell? (a.add i) = some (.string (ss.getD i ByteArray.empty))) (hp : 0 < ss.length) :
    ∃ b off, a = ⟨b, off, none⟩ ∧ ∀ j, j < ss.length → W.cell? ⟨b, off + j, none⟩ = some (.string (ss.getD j ByteArray.empty)) := by
  obtain ⟨b, off, spot⟩ := a
  have hspot : spot = none := by simpa [Addr.add] using World.cell?_spot (h 0 hp)
  subst hspot
  exact ⟨b, off, rfl, fun j hj => by rw [← addr_add]; exact h j hj⟩
theorem weightsAll_mem {H : Type} {e : TypeId} {n : Nat} {d : DataW H} : ∀ {l : List (DataW H)}, d ∈ l → n ∈ d.weights Try.prog e → n ∈ DataW.weightsAll Try.prog e l
  | [], hd, _ => by simp at hd
  | x :: r, hd, hn => by
    rw [DataW.weightsAll]
    rcases List.mem_cons.1 hd with h | h
    · subst h; exact List.mem_append_left _ hn
    · exact List.mem_append_right _ (weightsAll_mem h hn)

/-- A slice of texts among the data. -/
theorem texts_cell {H : Type} {enc : TypeId × Value → H} {W : World} {v : Value} {x : DataW H × List MemPlace} {fuel : Nat}
    (h : DataW.trod enc Try.prog W 0 (fun _ => true) true fuel 51 [v] = some x) : ∃ xs, SeesT W v xs ∧ ((∀ n, n ∈ x.1.weights Try.prog 51 → n ≤ reachBytes) → xs.length * 16 ≤ 140737488351232 ∧ ∀ s ∈ xs, s.size ≤ 140737488351232) := by
  have hr : reachBytes = 140737488351232 := rfl
  rcases open_strings Try.underlying51 Try.underlying9 (by kernel_rfl) h with ⟨hcs, hx⟩ | ⟨a, len, cap, zs, hcs, _, hl, hm, hz, hx, hcell, hwz⟩
  · simp only [List.cons.injEq, and_true] at hcs
    subst hcs
    exact ⟨[], ⟨0, 0, none, 0, rfl, Nat.le_refl _, fun _ => rfl, fun h => absurd rfl h, fun j hj => by simp at hj⟩, fun _ => ⟨by simp, fun s hs => by simp at hs⟩⟩
  · simp only [List.cons.injEq, and_true] at hcs
    subst hcs
    have hz' : zs.length = cap := by simpa using hz
    have hlen : (zs.take len).length = len := by rw [List.length_take]; omega
    refine ⟨zs.take len, ?_, fun hw => ?_⟩
    · by_cases h0 : len = 0
      · subst h0
        exact ⟨0, 0, some a, cap, rfl, Nat.zero_le _, (fun h => by cases h), fun h => absurd (by simp) h, fun j hj => by simp at hj⟩
      · obtain ⟨b, off, rfl, hc⟩ := strs_at hcell (by omega)
        refine ⟨b, off, _, cap, by rw [hlen], by omega, (fun h => by cases h), fun _ => rfl, fun j hj => ?_⟩
        have hj' : j < len := by omega
        have hjz : j < zs.length := by omega
        rw [hc j hjz]
        simp [List.getD, hjz, hj']
    · rw [hx] at hw
      refine ⟨?_, fun s hs => ?_⟩
      · have h9 : Try.prog.bytesOf 9 = 16 := by kernel_rfl
        have := hw (((strs (H := H) (zs.take len)).length + (strs (H := H) (zs.drop len)).length) * Try.prog.bytesOf 9) (by simp [DataW.weights, Try.underlying51])
        rw [h9] at this
        have e : (strs (H := H) (zs.take len)).length + (strs (H := H) (zs.drop len)).length = cap := by simp only [strs, List.length_map, List.length_take, List.length_drop]; omega
        rw [e] at this
        rw [hlen]
        omega
      · have hmem : (DataW.lit (H := H) (.string s.data.toList)) ∈ strs (H := H) (zs.take len) := List.mem_map.2 ⟨s, hs, rfl⟩
        have h2 := hw s.size (by
          simp only [DataW.weights, Try.underlying51]
          exact List.mem_cons_of_mem _ (List.mem_append_left _ (weightsAll_mem hmem (by simp [DataW.weights]))))
        omega

theorem fieldsSub : ∃ f0 f1 f2 : Field, Try.prog.underlying 39 = some (.struct #[f0, f1, f2]) ∧ (f0.type = 3 ∧ f1.type = 37 ∧ f2.type = 35) ∧ (f0.offset = 0 ∧ f1.offset = 1 ∧ f2.offset = 3) :=
  ⟨_, _, _, Try.underlying39, ⟨rfl, rfl, rfl⟩, rfl, rfl, rfl⟩
theorem fieldsLab : ∃ f0 f1 : Field, Try.prog.underlying 37 = some (.struct #[f0, f1]) ∧ (f0.type = 35 ∧ f1.type = 35) ∧ (f0.offset = 0 ∧ f1.offset = 1) :=
  ⟨_, _, Try.underlying37, ⟨rfl, rfl⟩, rfl, rfl⟩
theorem cellsSub : Try.prog.cellsOf 39 = 4 ∧ Try.prog.cellsOf 9 = 1 ∧ Try.prog.cellsOf 37 = 2 ∧ Try.prog.cellsOf 3 = 1 ∧ Try.prog.cellsOf 35 = 1 ∧ Try.prog.cellsOf 4 = 1 :=
  ⟨by kernel_rfl, by kernel_rfl, by kernel_rfl, by kernel_rfl, by kernel_rfl, by kernel_rfl⟩

set_option maxRecDepth 100000 in
/-- The cells of a subject. -/
theorem subj_cells {H : Type} {enc : TypeId × Value → H} {W : World} {c0 c1 c2 c3 : Value} {x : DataW H × List MemPlace} {fuel : Nat}
    (hf : DataW.trod enc Try.prog W 0 (fun _ => true) true fuel 39 [c0, c1, c2, c3] = some x) (hw : ∀ n, n ∈ x.1.weights Try.prog 39 → n ≤ reachBytes) :
    ∃ who s i own, c0 = .int .i64 who ∧ SuAt W c1 c2 c3 s i own := by
  obtain ⟨f0, f1, f2, hu, ⟨t0, t1, t2⟩, o0, o1, o2⟩ := fieldsSub
  obtain ⟨g0, g1, hl, ⟨s0, s1⟩, q0, q1⟩ := fieldsLab
  obtain ⟨k0, k1, k2, k3, k4, k5⟩ := cellsSub
  obtain ⟨y0, y1, y2, n, hx, _, h0, h1, h2⟩ := Go.Deep.trod_struct3 hu hf
  rw [t0, o0, k3] at h0
  rw [t1, o1, k2] at h1
  rw [t2, o2, k4] at h2
  simp only [List.drop_zero, List.drop_succ_cons, List.take_succ_cons, List.take_zero] at h0 h1 h2
  obtain ⟨z0, z1, n2, hx2, _, h20, h21⟩ := trod_struct2 hl h1
  rw [s0, q0, k4] at h20
  rw [s1, q1, k4] at h21
  simp only [List.drop_zero, List.drop_succ_cons, List.take_succ_cons, List.take_zero] at h20 h21
  obtain ⟨ss, hs1, hs2⟩ := ints_cell h20
  obtain ⟨ii, hi1, hi2⟩ := ints_cell h21
  obtain ⟨oo, ho1, ho2⟩ := ints_cell h2
  obtain ⟨m, e0, x0⟩ := DataW.trod_int Try.underlying3 h0
  simp only [List.cons.injEq, and_true] at e0
  subst hx
  have hw' : ∀ n, n ∈ y0.1.weights Try.prog 3 ++ (y1.1.weights Try.prog 37 ++ (y2.1.weights Try.prog 35 ++ [])) → n ≤ reachBytes := by
    intro n hn
    apply hw n
    rw [DataW.weights]
    simp only [Try.underlying39]
    exact hn
  have hw2 : ∀ n, n ∈ z0.1.weights Try.prog 35 ++ (z1.1.weights Try.prog 35 ++ []) → n ≤ reachBytes := by
    intro n hn
    apply hw' n
    refine List.mem_append_right _ (List.mem_append_left _ ?_)
    rw [hx2]
    rw [DataW.weights]
    simp only [Try.underlying37]
    exact hn
  have b2 := hs2 (fun n hn => hw2 n (List.mem_append_left _ hn))
  have b3 := hi2 (fun n hn => hw2 n (List.mem_append_right _ (List.mem_append_left _ hn)))
  have b4 := ho2 (fun n hn => hw' n (List.mem_append_right _ (List.mem_append_right _ (List.mem_append_left _ hn))))
  exact ⟨m, ss, ii, oo, e0, hs1, hi1, ho1, by omega, by omega, by omega⟩

set_option maxRecDepth 100000 in
/-- An argument that is a subject. -/
theorem subj_arg {H : Type} {enc : TypeId × Value → H} {W : World} {base : Nat} {v : Value} {d : DataW H} {p : List MemPlace}
    (hval : Value.okWide Try.prog W .any base 39 v) (h : DataW.Trod enc Try.prog W 0 (fun _ => true) true 39 v d p) (hw : ∀ n, n ∈ d.weights Try.prog 39 → n ≤ reachBytes) :
    ∃ who vs vi vo s i own, v = suV who vs vi vo ∧ SuAt W vs vi vo s i own := by
  obtain ⟨f0, f1, f2, hu, _⟩ := fieldsSub
  obtain ⟨cs, rfl, hsz⟩ := okWide_struct hu hval
  obtain ⟨c0, c1, c2, c3, rfl⟩ := Go.Joins.array4 (hsz.trans cellsSub.1)
  obtain ⟨fuel, hf⟩ := h
  obtain ⟨who, s, i, own, rfl, hS⟩ := subj_cells hf hw
  exact ⟨who, c1, c2, c3, s, i, own, rfl, hS⟩

theorem trod_struct5 {H : Type} {enc : TypeId × Value → H} {P : Program} {w : World} {base : Nat} {spare : Nat → Bool} {held : Bool} {t : TypeId} {f0 f1 f2 f3 f4 : Field} {fuel : Nat} {cs : List Value} {x : DataW H × List MemPlace} (ht : P.underlying t = some (.struct #[f0, f1, f2, f3, f4])) (h : DataW.trod enc P w base spare held fuel t cs = some x) :
    ∃ y0 y1 y2 y3 y4 n, x = (.agg [y0.1, y1.1, y2.1, y3.1, y4.1], y0.2 ++ (y1.2 ++ (y2.2 ++ (y3.2 ++ y4.2)))) ∧ cs.length = P.cellsOf t ∧ DataW.trod enc P w base spare held n f0.type ((cs.drop f0.offset).take (P.cellsOf f0.type)) = some y0 ∧
      DataW.trod enc P w base spare held n f1.type ((cs.drop f1.offset).take (P.cellsOf f1.type)) = some y1 ∧ DataW.trod enc P w base spare held n f2.type ((cs.drop f2.offset).take (P.cellsOf f2.type)) = some y2 ∧
      DataW.trod enc P w base spare held n f3.type ((cs.drop f3.offset).take (P.cellsOf f3.type)) = some y3 ∧ DataW.trod enc P w base spare held n f4.type ((cs.drop f4.offset).take (P.cellsOf f4.type)) = some y4 := by
  obtain ⟨xs, n, _, rfl, hl, hlen, hf⟩ := DataW.trod_struct ht h
  match xs, hlen with
  | [y0, y1, y2, y3, y4], _ => exact ⟨y0, y1, y2, y3, y4, n, by simp, hl, by simpa using hf 0 f0 rfl, by simpa using hf 1 f1 rfl, by simpa using hf 2 f2 rfl, by simpa using hf 3 f3 rfl, by simpa using hf 4 f4 rfl⟩

/-- A call of the law. -/
structure OpL where
  kind : Int
  to : Int
  who : Int
  vs : Value
  vi : Value
  vo : Value
  text : ByteArray
  op : Bool
  s : List Int
  i : List Int
  own : List Int
def OpL.row (o : OpL) : List Value := [.int .i64 o.kind, .int .i64 o.to, .int .i64 o.who, o.vs, o.vi, o.vo, .string o.text, .bool o.op]
def OpL.su (o : OpL) (w : World) : Prop := SuAt w o.vs o.vi o.vo o.s o.i o.own
theorem fieldsOp : ∃ f0 f1 f2 f3 f4 : Field, Try.prog.underlying 41 = some (.struct #[f0, f1, f2, f3, f4]) ∧ (f0.type = 3 ∧ f1.type = 3 ∧ f2.type = 39 ∧ f3.type = 9 ∧ f4.type = 4) ∧ (f0.offset = 0 ∧ f1.offset = 1 ∧ f2.offset = 2 ∧ f3.offset = 6 ∧ f4.offset = 7) :=
  ⟨_, _, _, _, _, Try.underlying41, ⟨rfl, rfl, rfl, rfl, rfl⟩, rfl, rfl, rfl, rfl, rfl⟩
theorem cellsOp : Try.prog.cellsOf 41 = 8 := by kernel_rfl
set_option maxRecDepth 100000 in
theorem op_cells {H : Type} {enc : TypeId × Value → H} {W : World} {cs : List Value} {x : DataW H × List MemPlace} {fuel : Nat}
    (hf : DataW.trod enc Try.prog W 0 (fun _ => true) true fuel 41 cs = some x) (hw : ∀ n, n ∈ x.1.weights Try.prog 41 → n ≤ reachBytes) :
    ∃ o : OpL, cs = o.row ∧ o.su W := by
  obtain ⟨f0, f1, f2, f3, f4, hu, ⟨t0, t1, t2, t3, t4⟩, o0, o1, o2, o3, o4⟩ := fieldsOp
  obtain ⟨k0, k1, k2, k3, k4, k5⟩ := cellsSub
  obtain ⟨y0, y1, y2, y3, y4, n, hx, hlen, h0, h1, h2, h3, h4⟩ := trod_struct5 hu hf
  rw [cellsOp] at hlen
  match cs, hlen with
  | [c0, c1, c2, c3, c4, c5, c6, c7], _ =>
    rw [t0, o0, k3] at h0
    rw [t1, o1, k3] at h1
    rw [t2, o2, k0] at h2
    rw [t3, o3, k1] at h3
    rw [t4, o4, k5] at h4
    simp only [List.drop_zero, List.drop_succ_cons, List.take_succ_cons, List.take_zero] at h0 h1 h2 h3 h4
    obtain ⟨m0, e0, x0⟩ := DataW.trod_int Try.underlying3 h0
    obtain ⟨m1, e1, x1⟩ := DataW.trod_int Try.underlying3 h1
    obtain ⟨s3, e3, x3, _⟩ := DataW.trod_string Try.underlying9 h3
    obtain ⟨b4, e4, x4⟩ := DataW.trod_bool Try.underlying4 h4
    subst hx
    have hw' : ∀ n, n ∈ y2.1.weights Try.prog 39 → n ≤ reachBytes := by
      intro n hn
      apply hw n
      rw [DataW.weights]
      simp only [Try.underlying41]
      exact List.mem_append_right _ (List.mem_append_right _ (List.mem_append_left _ hn))
    obtain ⟨who, s, i, own, e2, hS⟩ := subj_cells h2 hw'
    simp only [List.cons.injEq, and_true] at e0 e1 e3 e4
    exact ⟨⟨m0, m1, who, c3, c4, c5, s3, b4, s, i, own⟩, by rw [e0, e1, e2, e3, e4]; rfl, hS⟩
set_option maxRecDepth 100000 in
/-- An argument that is a call. -/
theorem op_arg {H : Type} {enc : TypeId × Value → H} {W : World} {base : Nat} {v : Value} {d : DataW H} {p : List MemPlace}
    (hval : Value.okWide Try.prog W .any base 41 v) (h : DataW.Trod enc Try.prog W 0 (fun _ => true) true 41 v d p) (hw : ∀ n, n ∈ d.weights Try.prog 41 → n ≤ reachBytes) :
    ∃ o : OpL, v = .agg o.row.toArray ∧ o.su W := by
  obtain ⟨f0, f1, f2, f3, f4, hu, _⟩ := fieldsOp
  obtain ⟨cs, rfl, hsz⟩ := okWide_struct hu hval
  obtain ⟨fuel, hf⟩ := h
  obtain ⟨o, ho, hS⟩ := op_cells hf hw
  refine ⟨o, ?_, hS⟩
  have : cs.toList = o.row := by simpa [Value.cells] using ho
  rw [← this]
/-- The slice v reads calls. -/
def SeesO (w : World) (v : Value) (l : List OpL) : Prop :=
  ∃ b off ao cap, v = .slice ao l.length cap ∧ l.length ≤ cap ∧ (l ≠ [] → ao = some ⟨b, off, none⟩) ∧ (∀ j, (h : j < l.length) → ∀ q, q < 8 → w.cell? ⟨b, off + j * 8 + q, none⟩ = l[j].row[q]?) ∧ ∀ o ∈ l, o.su w
set_option maxRecDepth 100000 in
theorem ops_arg {H : Type} {enc : TypeId × Value → H} {W : World} {base : Nat} {v : Value} {d : DataW H} {p : List MemPlace}
    (hval : Value.okWide Try.prog W .any base 22 v) (h : DataW.Trod enc Try.prog W 0 (fun _ => true) true 22 v d p) (hw : ∀ n, n ∈ d.weights Try.prog 22 → n ≤ reachBytes) : ∃ l, SeesO W v l ∧ l.length * 8 ≤ 140737488351232 := by
  obtain ⟨a0, len, cap, rfl⟩ := okWide_slice Try.underlying22 hval
  obtain ⟨fuel, hf⟩ := h
  have hr : reachBytes = 140737488351232 := rfl
  rcases Go.Deep.open_slice Try.underlying22 hf with ⟨hcs, hx⟩ | ⟨a, l, c, m, n, D, Pl, hcs, _, hl, hm, hmm, hx, hcell⟩
  · simp [Value.cells] at hcs
    obtain ⟨rfl, rfl, rfl⟩ := hcs
    exact ⟨[], ⟨0, 0, none, 0, rfl, Nat.le_refl _, fun h => absurd rfl h, fun j hj => by simp at hj, fun e he => by cases he⟩, by simp⟩
  · simp [Value.cells] at hcs
    obtain ⟨rfl, rfl, rfl⟩ := hcs
    simp only [Prod.mk.injEq] at hx
    obtain ⟨rfl, _⟩ := hx
    have hmc : m = cap := by rw [hmm]; simp
    subst hmc
    have hD : ∀ i, i < len → ∀ n, n ∈ (D i).weights Try.prog 41 → n ≤ reachBytes := by
      intro i hi n hn
      apply hw n
      simp only [DataW.weights, Try.underlying22]
      exact List.mem_cons_of_mem _ (List.mem_append_left _ (weightsAll_mem (List.mem_map.2 ⟨i, by simpa using hi, rfl⟩) hn))
    have hsz : len * 8 ≤ 140737488351232 := by
      have h80 : Try.prog.bytesOf 41 = 120 := by kernel_rfl
      have := hw ((((List.range len).map D).length + ((List.range (m - len)).map fun j => D (len + j)).length) * Try.prog.bytesOf 41) (by simp [DataW.weights, Try.underlying22])
      rw [h80] at this
      simp only [List.length_map, List.length_range] at this
      omega
    have each : ∀ i, i < len → ∃ o : OpL, (∀ q, q < 8 → W.cell? ((a.add (i * 8)).add q) = o.row[q]?) ∧ o.su W := by
      intro i hi
      obtain ⟨cs', h1, h2⟩ := hcell i (by omega)
      rw [cellsOp] at h1
      obtain ⟨_, hlen, hc⟩ := World.cells?_some h1
      obtain ⟨o, ho, hS⟩ := op_cells h2 (hD i hi)
      refine ⟨o, fun q hq => ?_, hS⟩
      rw [← ho]
      exact hc q hq
    by_cases h0 : len = 0
    · subst h0
      exact ⟨[], ⟨0, 0, some a, m, rfl, Nat.zero_le _, fun h => absurd rfl h, fun j hj => by simp at hj, fun e he => by cases he⟩, by simp⟩
    · obtain ⟨o0, ho0, _⟩ := each 0 (by omega)
      obtain ⟨b, off, spot⟩ := a
      have hspot : spot = none := by
        have := ho0 0 (by decide)
        simp only [OpL.row, List.getElem?_cons_zero] at this
        simpa [Addr.add] using World.cell?_spot this
      subst hspot
      have hch : ∀ i : Fin len, ∃ o : OpL, (∀ q, q < 8 → W.cell? ⟨b, off + i.1 * 8 + q, none⟩ = o.row[q]?) ∧ o.su W := fun i => by
        obtain ⟨o, h1, h2⟩ := each i.1 i.2
        refine ⟨o, fun q hq => ?_, h2⟩
        have := h1 q hq
        rw [addr_add, addr_add] at this
        exact this
      have hl2 := fun i => Classical.choose_spec (hch i)
      refine ⟨List.ofFn (fun i : Fin len => Classical.choose (hch i)), ⟨b, off, _, m, by simp, by simp; omega, fun _ => rfl, fun j hj q hq => ?_, fun o ho => ?_⟩, by simp; omega⟩
      · have hj' : j < len := by simpa using hj
        have := (hl2 ⟨j, hj'⟩).1 q hq
        rw [this]
        simp
      · obtain ⟨i, rfl⟩ := (List.mem_ofFn).1 ho
        exact (hl2 i).2

theorem str_le {H : Type} {l : List UInt8} (h : ∀ n, n ∈ (DataW.lit (H := H) (.string l)).weights Try.prog 9 → n ≤ reachBytes) : l.length ≤ 140737488351232 := by
  have := h l.length (by simp [DataW.weights])
  have hr : reachBytes = 140737488351232 := rfl
  omega
theorem weights_arg {H : Type} {ts : List TypeId} {ds : List (DataW H)} (h : (DataW.weightsEach Try.prog ts ds).all (· ≤ reachBytes) = true) {j : Nat} {t : TypeId} {d : DataW H} (ht : ts[j]? = some t) (hd : ds[j]? = some d) :
    ∀ n, n ∈ d.weights Try.prog t → n ≤ reachBytes := fun n hn => by
  have := List.all_eq_true.1 h n (DataW.weights_mem_each ht hd n hn)
  simpa using this

end Go.Proofs.Ytahibklmcooanaa
