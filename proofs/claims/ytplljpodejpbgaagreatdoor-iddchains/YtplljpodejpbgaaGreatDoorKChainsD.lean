/-
  IddChains: for every way in which an identity server begins and every script the law IddChains returns true: whoever owns something was given it by one who owned it then, or by the kernel, which gives nobody another one's. No condition but that the listed tables are the program's, to which they are tied.
-/
import Derived.Test.YtplljpodejpbgaaGreatDoorKChainsM
import Derived.Test.YtplljpodejpbgaaGreatDoorKLaid
import Derived.Deep.Slices
import Derived.Deep.Grids
namespace Go.Proofs.YtplljpodejpbgaaGreatDoor
open Go.ChangeShapes Go.WideShapes Go.ChangeAt Go.RowKit Go.Joins
set_option linter.unusedVariables false
set_option linter.unusedSimpArgs false

theorem int_bounds {m : Int} (h : (Lit.int .i64 m).wf = true) : -9223372036854775808 ≤ m ∧ m ≤ 9223372036854775807 := by
  have h' := h
  simp [Lit.wf] at h'
  have e1 : IntKind.i64.min = -9223372036854775808 := by first | rfl | decide
  have e2 : IntKind.i64.max = 9223372036854775807 := by first | rfl | decide
  omega
theorem weights_arg {H : Type} {ts : List TypeId} {ds : List (DataW H)} (h : (DataW.weightsEach Tryz.prog ts ds).all (· ≤ reachBytes) = true) {j : Nat} {t : TypeId} {d : DataW H} (ht : ts[j]? = some t) (hd : ds[j]? = some d) :
    ∀ n, n ∈ d.weights Tryz.prog t → n ≤ reachBytes := fun n hn => by
  have := List.all_eq_true.1 h n (DataW.weights_mem_each ht hd n hn)
  simpa using this
/-- A slice of numbers among the data. -/
theorem ints_cell {H : Type} {enc : TypeId × Value → H} {W : World} {v : Value} {x : DataW H × List MemPlace} {fuel : Nat}
    (h : DataW.trod enc Tryz.prog W 0 (fun _ => true) true fuel 23 [v] = some x) : ∃ xs, Sees W v xs ∧ (∀ z ∈ xs, -9223372036854775808 ≤ z ∧ z ≤ 9223372036854775807) ∧ ((∀ n, n ∈ x.1.weights Tryz.prog 23 → n ≤ reachBytes) → xs.length * 8 ≤ 140737488351232) := by
  rcases open_ints Tryz.underlying23 Tryz.underlying3 (by kernel_rfl) h with ⟨hcs, hx⟩ | ⟨a, len, cap, zs, hcs, _, hl, hm, hz, hx, hcell, hwz⟩
  · simp only [List.cons.injEq, and_true] at hcs
    subst hcs
    exact ⟨[], ⟨0, 0, none, 0, rfl, Nat.le_refl _, fun _ => rfl, fun h => absurd rfl h, fun j hj => by simp at hj⟩, fun z hz => by simp at hz, fun _ => by simp⟩
  · simp only [List.cons.injEq, and_true] at hcs
    subst hcs
    have hz' : zs.length = cap := by simpa using hz
    have hlen : (zs.take len).length = len := by rw [List.length_take]; omega
    refine ⟨zs.take len, ?_, fun z hz => int_bounds (hwz z (List.mem_of_mem_take hz)), fun hw => ?_⟩
    · by_cases h0 : len = 0
      · subst h0
        exact ⟨0, 0, some a, cap, rfl, Nat.zero_le _, (fun h => by cases h), fun h => absurd (by simp) h, fun j hj => by simp at hj⟩
      · obtain ⟨b, off, rfl, hc⟩ := ints_at hcell (by omega)
        refine ⟨b, off, _, cap, by rw [hlen], by omega, (fun h => by cases h), fun _ => rfl, fun j hj => ?_⟩
        have hj' : j < len := by omega
        rw [hc j (by omega)]
        simp [List.getD, hj']
    · rw [hx] at hw
      have h3 : Tryz.prog.bytesOf 3 = 8 := by kernel_rfl
      have := hw (((lits (H := H) .i64 (zs.take len)).length + (lits (H := H) .i64 (zs.drop len)).length) * Tryz.prog.bytesOf 3) (by simp [DataW.weights, Tryz.underlying23])
      rw [h3] at this
      simp only [lits, List.length_map, hlen] at this
      rw [hlen]
      have hr : reachBytes = 140737488351232 := rfl
      omega
theorem seesK_of {α : Type} {k : Nat} {W : World} {a : Addr} {len cap : Nat} {row : α → List Value} {cs : List α → List Value} (hk : 0 < k) (hlen : ∀ l, (cs l).length = l.length * k)
    (hget : ∀ (l : List α) (j : Nat) (o : α) (q : Nat), l[j]? = some o → q < k → (cs l)[j * k + q]? = (row o)[q]?) (hr : ∀ o, (row o).length = k) {P : α → Prop} (hlc : len ≤ cap)
    (each : ∀ i, i < len → ∃ o, (∀ q, q < k → W.cell? ((a.add (i * k)).add q) = (row o)[q]?) ∧ P o) : ∃ l : List α, l.length = len ∧ SeesK k W (.slice (some a) len cap) len (cs l) ∧ ∀ o ∈ l, P o := by
  by_cases h0 : len = 0
  · subst h0
    exact ⟨[], rfl, ⟨by rw [hlen]; simp, 0, 0, some a, cap, rfl, Nat.zero_le _, (fun h => by cases h), (fun h => absurd h (by omega)), fun j hj => by rw [hlen] at hj; simp at hj⟩, fun o ho => by cases ho⟩
  · obtain ⟨o0, ho0, _⟩ := each 0 (by omega)
    obtain ⟨b, off, spot⟩ := a
    have hspot : spot = none := by
      have h1 := ho0 0 hk
      obtain ⟨x, hx⟩ : ∃ x, (row o0)[0]? = some x := ⟨_, List.getElem?_eq_getElem (by rw [hr]; exact hk)⟩
      rw [hx] at h1
      simpa [Addr.add] using World.cell?_spot h1
    subst hspot
    have hch : ∀ i : Fin len, ∃ o, (∀ q, q < k → W.cell? ⟨b, off + i.1 * k + q, none⟩ = (row o)[q]?) ∧ P o := fun i => by
      obtain ⟨o, h1, h2⟩ := each i.1 i.2
      refine ⟨o, fun q hq => ?_, h2⟩
      have := h1 q hq
      rw [addr_add, addr_add] at this
      exact this
    have hl2 := fun i => Classical.choose_spec (hch i)
    obtain ⟨l, hl⟩ : ∃ l, l = List.ofFn (fun i : Fin len => Classical.choose (hch i)) := ⟨_, rfl⟩
    have hll : l.length = len := by rw [hl]; simp
    refine ⟨l, hll, ⟨by rw [hlen, hll], b, off, _, cap, rfl, hlc, (fun h => by cases h), fun _ => rfl, fun j hj => ?_⟩, fun o ho => ?_⟩
    · rw [hlen, hll] at hj
      have hjk : j / k < len := Nat.div_lt_of_lt_mul (by rw [Nat.mul_comm]; exact hj)
      have hq : j % k < k := Nat.mod_lt _ hk
      have hj' : j / k * k + j % k = j := Nat.div_add_mod' j k
      have hlj : l[j / k]? = some (Classical.choose (hch ⟨j / k, hjk⟩)) := by rw [hl]; simp [hjk]
      have h1 := hget l (j / k) _ (j % k) hlj hq
      have h2 := (hl2 ⟨j / k, hjk⟩).1 (j % k) hq
      rw [hj'] at h1
      have h3 : W.cell? ⟨b, off + j, none⟩ = (cs l)[j]? := by
        rw [h1, ← h2, Nat.add_assoc, hj']
      rw [h3]
      have hjl : j < (cs l).length := by rw [hlen, hll]; exact hj
      simp [List.getD, hjl]
    · rw [hl] at ho
      obtain ⟨i, rfl⟩ := (List.mem_ofFn).1 ho
      exact (hl2 i).2
theorem weightsAll_mem {H : Type} {e : TypeId} {n : Nat} {d : DataW H} : ∀ {l : List (DataW H)}, d ∈ l → n ∈ d.weights Tryz.prog e → n ∈ DataW.weightsAll Tryz.prog e l
  | [], hd, _ => by simp at hd
  | x :: r, hd, hn => by
    rw [DataW.weightsAll]
    rcases List.mem_cons.1 hd with h | h
    · subst h; exact List.mem_append_left _ hn
    · exact List.mem_append_right _ (weightsAll_mem h hn)
def uRow (u : UsL) : List Value := [.string u.name, .string u.salt, .string u.digest, .bool u.op]
theorem uC_row (l : List UsL) (j : Nat) (u : UsL) (q : Nat) (h : l[j]? = some u) (hq : q < 4) : (uC l)[j * 4 + q]? = (uRow u)[q]? := by
  obtain ⟨a, b, c, d⟩ := uC_get l j u h
  match q, hq with
  | 0, _ => exact a
  | 1, _ => exact b
  | 2, _ => exact c
  | 3, _ => exact d
def UsOk (u : UsL) : Prop := u.name.size ≤ 140737488355328 ∧ u.salt.size ≤ 140737488355328 ∧ u.digest.size ≤ 140737488355328
theorem fieldsUser : ∃ f0 f1 f2 f3 : Field, Tryz.prog.underlying 55 = some (.struct #[f0, f1, f2, f3]) ∧ (f0.type = 9 ∧ f1.type = 9 ∧ f2.type = 9 ∧ f3.type = 4) ∧ (f0.offset = 0 ∧ f1.offset = 1 ∧ f2.offset = 2 ∧ f3.offset = 3) :=
  ⟨_, _, _, _, Tryz.underlying55, ⟨rfl, rfl, rfl, rfl⟩, rfl, rfl, rfl, rfl⟩
theorem cellsUser : Tryz.prog.cellsOf 55 = 4 ∧ Tryz.prog.cellsOf 9 = 1 ∧ Tryz.prog.cellsOf 4 = 1 ∧ Tryz.prog.cellsOf 3 = 1 := ⟨by kernel_rfl, by kernel_rfl, by kernel_rfl, by kernel_rfl⟩
set_option maxRecDepth 100000 in
theorem user_cells {H : Type} {enc : TypeId × Value → H} {W : World} {cs : List Value} {x : DataW H × List MemPlace} {fuel : Nat}
    (hf : DataW.trod enc Tryz.prog W 0 (fun _ => true) true fuel 55 cs = some x) (hw : ∀ n, n ∈ x.1.weights Tryz.prog 55 → n ≤ reachBytes) : ∃ u : UsL, cs = uRow u ∧ UsOk u := by
  have hr : reachBytes = 140737488351232 := rfl
  obtain ⟨f0, f1, f2, f3, hu, ⟨t0, t1, t2, t3⟩, o0, o1, o2, o3⟩ := fieldsUser
  obtain ⟨k0, k9, k4, k3⟩ := cellsUser
  obtain ⟨xs, n, _, rfl, hlen, hxl, hfs⟩ := DataW.trod_struct hu hf
  match xs, hxl with
  | [y0, y1, y2, y3], _ =>
    have h0 := hfs 0 f0 rfl
    have h1 := hfs 1 f1 rfl
    have h2 := hfs 2 f2 rfl
    have h3 := hfs 3 f3 rfl
    rw [k0] at hlen
    match cs, hlen with
    | [c0, c1, c2, c3], _ =>
      rw [t0, o0, k9] at h0
      rw [t1, o1, k9] at h1
      rw [t2, o2, k9] at h2
      rw [t3, o3, k4] at h3
      simp only [List.drop_zero, List.drop_succ_cons, List.take_succ_cons, List.take_zero, List.getElem?_cons_zero, List.getElem?_cons_succ] at h0 h1 h2 h3
      obtain ⟨s0, e0, x0, _⟩ := DataW.trod_string Tryz.underlying9 h0
      obtain ⟨s1, e1, x1, _⟩ := DataW.trod_string Tryz.underlying9 h1
      obtain ⟨s2, e2, x2, _⟩ := DataW.trod_string Tryz.underlying9 h2
      obtain ⟨b3, e3, x3⟩ := DataW.trod_bool Tryz.underlying4 h3
      have hw' : ∀ n, n ∈ y0.1.weights Tryz.prog 9 ++ (y1.1.weights Tryz.prog 9 ++ (y2.1.weights Tryz.prog 9 ++ (y3.1.weights Tryz.prog 4 ++ []))) → n ≤ reachBytes := by
        intro n hn
        apply hw n
        simp only [List.map_cons, List.map_nil]
        rw [DataW.weights]
        simp only [Tryz.underlying55]
        exact hn
      have b0 := hw' s0.size (List.mem_append_left _ (by rw [x0]; simp [DataW.weights]))
      have b1 := hw' s1.size (List.mem_append_right _ (List.mem_append_left _ (by rw [x1]; simp [DataW.weights])))
      have b2 := hw' s2.size (List.mem_append_right _ (List.mem_append_right _ (List.mem_append_left _ (by rw [x2]; simp [DataW.weights]))))
      simp only [List.cons.injEq, and_true] at e0 e1 e2 e3
      exact ⟨⟨s0, s1, s2, b3⟩, by rw [e0, e1, e2, e3]; rfl, by show s0.size ≤ _; omega, by show s1.size ≤ _; omega, by show s2.size ≤ _; omega⟩
set_option maxRecDepth 100000 in
theorem users_cell {H : Type} {enc : TypeId × Value → H} {W : World} {v : Value} {x : DataW H × List MemPlace} {fuel : Nat}
    (h : DataW.trod enc Tryz.prog W 0 (fun _ => true) true fuel 22 [v] = some x) (hw : ∀ n, n ∈ x.1.weights Tryz.prog 22 → n ≤ reachBytes) : ∃ l : List UsL, SeesK 4 W v l.length (uC l) ∧ ∀ u ∈ l, UsOk u := by
  rcases Go.Deep.open_slice Tryz.underlying22 h with ⟨hcs, hx⟩ | ⟨a, len, cap, m, n, D, Pl, hcs, _, hl, hm, hmm, hx, hcell⟩
  · simp only [List.cons.injEq, and_true] at hcs
    subst hcs
    exact ⟨[], ⟨rfl, 0, 0, none, 0, rfl, Nat.le_refl _, fun _ => rfl, (fun h => absurd h (by simp)), fun j hj => by simp [uC] at hj⟩, fun u hu => by cases hu⟩
  · simp only [List.cons.injEq, and_true] at hcs
    subst hcs
    subst hx
    have hD : ∀ i, i < len → ∀ n, n ∈ (D i).weights Tryz.prog 55 → n ≤ reachBytes := by
      intro i hi n hn
      apply hw n
      simp only [DataW.weights, Tryz.underlying22]
      exact List.mem_cons_of_mem _ (List.mem_append_left _ (weightsAll_mem (List.mem_map.2 ⟨i, by simpa using hi, rfl⟩) hn))
    have hmc : len ≤ m := by rw [hmm]; simp; omega
    obtain ⟨l, hll, hS, hP⟩ := seesK_of (k := 4) (W := W) (a := a) (len := len) (cap := cap) (row := uRow) (cs := uC) (P := UsOk) (by decide) uC_len uC_row (fun _ => rfl) (by omega) (fun i hi => by
      obtain ⟨cs', h1, h2⟩ := hcell i (by omega)
      rw [cellsUser.1] at h1
      obtain ⟨_, hlen, hc⟩ := World.cells?_some h1
      obtain ⟨u, ho, hS⟩ := user_cells h2 (hD i hi)
      exact ⟨u, fun q hq => by rw [← ho]; exact hc q hq, hS⟩)
    subst hll
    exact ⟨l, hS, hP⟩
theorem fieldsOp : ∃ f0 f1 f2 f3 f4 f5 f6 f7 : Field, Tryz.prog.underlying 43 = some (.struct #[f0, f1, f2, f3, f4, f5, f6, f7]) ∧ (f0.type = 3 ∧ f1.type = 3 ∧ f2.type = 3 ∧ f3.type = 3 ∧ f4.type = 3 ∧ f5.type = 3 ∧ f6.type = 9 ∧ f7.type = 9) ∧ (f0.offset = 0 ∧ f1.offset = 1 ∧ f2.offset = 2 ∧ f3.offset = 3 ∧ f4.offset = 4 ∧ f5.offset = 5 ∧ f6.offset = 6 ∧ f7.offset = 7) :=
  ⟨_, _, _, _, _, _, _, _, Tryz.underlying43, ⟨rfl, rfl, rfl, rfl, rfl, rfl, rfl, rfl⟩, rfl, rfl, rfl, rfl, rfl, rfl, rfl, rfl⟩
theorem cellsOp : Tryz.prog.cellsOf 43 = 8 := by kernel_rfl
set_option maxRecDepth 100000 in
theorem op_cells {H : Type} {enc : TypeId × Value → H} {W : World} {cs : List Value} {x : DataW H × List MemPlace} {fuel : Nat}
    (hf : DataW.trod enc Tryz.prog W 0 (fun _ => true) true fuel 43 cs = some x) : ∃ o : OpL, cs = oV o := by
  obtain ⟨f0, f1, f2, f3, f4, f5, f6, f7, hu, ⟨t0, t1, t2, t3, t4, t5, t6, t7⟩, o0, o1, o2, o3, o4, o5, o6, o7⟩ := fieldsOp
  obtain ⟨k0, k9, k4, k3⟩ := cellsUser
  obtain ⟨xs, n, _, rfl, hlen, hxl, hfs⟩ := DataW.trod_struct hu hf
  match xs, hxl with
  | [y0, y1, y2, y3, y4, y5, y6, y7], _ =>
    have h0 := hfs 0 f0 rfl
    have h1 := hfs 1 f1 rfl
    have h2 := hfs 2 f2 rfl
    have h3 := hfs 3 f3 rfl
    have h4 := hfs 4 f4 rfl
    have h5 := hfs 5 f5 rfl
    have h6 := hfs 6 f6 rfl
    have h7 := hfs 7 f7 rfl
    rw [cellsOp] at hlen
    match cs, hlen with
    | [c0, c1, c2, c3, c4, c5, c6, c7], _ =>
      rw [t0, o0, k3] at h0
      rw [t1, o1, k3] at h1
      rw [t2, o2, k3] at h2
      rw [t3, o3, k3] at h3
      rw [t4, o4, k3] at h4
      rw [t5, o5, k3] at h5
      rw [t6, o6, k9] at h6
      rw [t7, o7, k9] at h7
      simp only [List.drop_zero, List.drop_succ_cons, List.take_succ_cons, List.take_zero, List.getElem?_cons_zero, List.getElem?_cons_succ] at h0 h1 h2 h3 h4 h5 h6 h7
      obtain ⟨m0, e0, _⟩ := DataW.trod_int Tryz.underlying3 h0
      obtain ⟨m1, e1, _⟩ := DataW.trod_int Tryz.underlying3 h1
      obtain ⟨m2, e2, _⟩ := DataW.trod_int Tryz.underlying3 h2
      obtain ⟨m3, e3, _⟩ := DataW.trod_int Tryz.underlying3 h3
      obtain ⟨m4, e4, _⟩ := DataW.trod_int Tryz.underlying3 h4
      obtain ⟨m5, e5, _⟩ := DataW.trod_int Tryz.underlying3 h5
      obtain ⟨s6, e6, _⟩ := DataW.trod_string Tryz.underlying9 h6
      obtain ⟨s7, e7, _⟩ := DataW.trod_string Tryz.underlying9 h7
      simp only [List.cons.injEq, and_true] at e0 e1 e2 e3 e4 e5 e6 e7
      exact ⟨⟨m0, m1, m2, m3, m4, m5, s6, s7⟩, by rw [e0, e1, e2, e3, e4, e5, e6, e7]; rfl⟩
set_option maxRecDepth 100000 in
theorem ops_cell {H : Type} {enc : TypeId × Value → H} {W : World} {v : Value} {x : DataW H × List MemPlace} {fuel : Nat}
    (h : DataW.trod enc Tryz.prog W 0 (fun _ => true) true fuel 26 [v] = some x) (hw : ∀ n, n ∈ x.1.weights Tryz.prog 26 → n ≤ reachBytes) : ∃ l : List OpL, SeesK 8 W v l.length (oC l) ∧ l.length ≤ 1759218604441 := by
  have hr : reachBytes = 140737488351232 := rfl
  rcases Go.Deep.open_slice Tryz.underlying26 h with ⟨hcs, hx⟩ | ⟨a, len, cap, m, n, D, Pl, hcs, _, hl, hm, hmm, hx, hcell⟩
  · simp only [List.cons.injEq, and_true] at hcs
    subst hcs
    exact ⟨[], ⟨rfl, 0, 0, none, 0, rfl, Nat.le_refl _, fun _ => rfl, (fun h => absurd h (by simp)), fun j hj => by simp [oC] at hj⟩, by simp⟩
  · simp only [List.cons.injEq, and_true] at hcs
    subst hcs
    subst hx
    have hmc : len ≤ m := by rw [hmm]; simp; omega
    have hsz : len * 80 ≤ 140737488351232 := by
      have h80 : Tryz.prog.bytesOf 43 = 80 := by kernel_rfl
      have := hw ((((List.range len).map D).length + ((List.range (m - len)).map fun j => D (len + j)).length) * Tryz.prog.bytesOf 43) (by simp [DataW.weights, Tryz.underlying26])
      rw [h80] at this
      simp only [List.length_map, List.length_range] at this
      omega
    obtain ⟨l, hll, hS, hP⟩ := seesK_of (k := 8) (W := W) (a := a) (len := len) (cap := cap) (row := oV) (cs := oC) (P := fun _ => True) (by decide) oC_len (fun l j o q h hq => oC_get l j o q h hq) (fun _ => rfl) (by omega) (fun i hi => by
      obtain ⟨cs', h1, h2⟩ := hcell i (by omega)
      rw [cellsOp] at h1
      obtain ⟨_, hlen, hc⟩ := World.cells?_some h1
      obtain ⟨u, ho⟩ := op_cells h2
      exact ⟨u, fun q hq => by rw [← ho]; exact hc q hq, trivial⟩)
    subst hll
    exact ⟨l, hS, by omega⟩
theorem fieldsBegin : ∃ f0 f1 : Field, Tryz.prog.underlying 25 = some (.struct #[f0, f1]) ∧ (f0.type = 22 ∧ f1.type = 23) ∧ f0.offset = 0 ∧ f1.offset = 1 :=
  ⟨_, _, Tryz.underlying25, ⟨rfl, rfl⟩, rfl, rfl⟩
theorem cellsBegin : Tryz.prog.cellsOf 25 = 2 ∧ Tryz.prog.cellsOf 22 = 1 ∧ Tryz.prog.cellsOf 23 = 1 := ⟨by kernel_rfl, by kernel_rfl, by kernel_rfl⟩
set_option maxRecDepth 100000 in
theorem begin_arg {H : Type} {enc : TypeId × Value → H} {W : World} {base : Nat} {v : Value} {d : DataW H} {p : List MemPlace}
    (hval : Value.okWide Tryz.prog W .any base 25 v) (h : DataW.Trod enc Tryz.prog W 0 (fun _ => true) true 25 v d p) (hw : ∀ n, n ∈ d.weights Tryz.prog 25 → n ≤ reachBytes) :
    ∃ vU vD, v = .agg #[vU, vD] ∧ (∃ l : List UsL, SeesK 4 W vU l.length (uC l) ∧ ∀ u ∈ l, UsOk u) ∧ (∃ dr, Sees W vD dr ∧ dr.length * 8 ≤ 140737488351232) := by
  obtain ⟨f0, f1, hu, ⟨t0, t1⟩, o0, o1⟩ := fieldsBegin
  obtain ⟨k0, k1, k2⟩ := cellsBegin
  obtain ⟨cs, rfl, hsz⟩ := okWide_struct hu hval
  obtain ⟨c0, c1, rfl⟩ : ∃ c0 c1, cs = #[c0, c1] := by
    have h2 : cs.toList.length = 2 := by rw [Array.length_toList]; exact hsz.trans k0
    match hc : cs.toList, h2 with
    | [c0, c1], _ => exact ⟨c0, c1, by rw [← Array.toArray_toList (xs := cs), hc]⟩
  obtain ⟨fuel, hf⟩ := h
  obtain ⟨xs, n, _, hx, hlen, hxl, hfs⟩ := DataW.trod_struct hu hf
  match xs, hxl with
  | [y0, y1], _ =>
    have h0 := hfs 0 f0 rfl
    have h1 := hfs 1 f1 rfl
    rw [t0, o0, k1] at h0
    rw [t1, o1, k2] at h1
    simp only [Value.cells, List.drop_zero, List.drop_succ_cons, List.take_succ_cons, List.take_zero, List.getElem?_cons_zero, List.getElem?_cons_succ] at h0 h1
    have hd : d = .agg [y0.1, y1.1] := (Prod.mk.inj hx).1
    have hw' : ∀ n, n ∈ y0.1.weights Tryz.prog 22 ++ (y1.1.weights Tryz.prog 23 ++ []) → n ≤ reachBytes := by
      intro n hn
      apply hw n
      rw [hd, DataW.weights]
      simp only [Tryz.underlying25]
      exact hn
    obtain ⟨l, hl1, hl2⟩ := users_cell h0 (fun n hn => hw' n (List.mem_append_left _ hn))
    obtain ⟨dr, hd1, _, hd3⟩ := ints_cell h1
    exact ⟨c0, c1, rfl, ⟨l, hl1, hl2⟩, dr, hd1, hd3 (fun n hn => hw' n (List.mem_append_right _ (List.mem_append_left _ hn)))⟩
end Go.Proofs.YtplljpodejpbgaaGreatDoor

namespace Go.Proofs.YtplljpodejpbgaaGreatDoor
open Go.RowKit
theorem chains_walk (vU vD vO : Value) (l : List UsL) (dr : List Int) (ops : List OpL) (w : World) (hT : Tb w) (hU : SeesK 4 w vU l.length (uC l)) (hD : Sees w vD dr) (hO : SeesK 8 w vO ops.length (oC ops))
    (hz : ∀ u ∈ l, u.name.size ≤ 140737488355328 ∧ u.salt.size ≤ 140737488355328 ∧ u.digest.size ≤ 140737488355328) (hdl : dr.length * 8 ≤ 140737488355328) (hol : ops.length ≤ 1759218604441) :
    Calls Tryz.prog 5 #[.agg #[vU, vD], vO] w fun e w' => e = .returned (.bool true) ∧ Below w.heap.size w w' := by
  cases hm : mayB l with
  | false => exact chains_no vU vD vO l w hT hU hm hz
  | true => exact chains_yes vU vD vO l dr ops w hT hU hD hO hm hz hdl hol
end Go.Proofs.YtplljpodejpbgaaGreatDoor
namespace Go.Proofs.YtplljpodejpbgaaGreatDoor.iddChains
open Go.ChangeShapes Go.WideShapes Go.ChangeAt Go.RowKit Go.ChangeMaps
set_option linter.unusedVariables false

set_option maxRecDepth 100000 in
theorem contract (H : Type) (enc : TypeId × Value → H) (W : World) (base : Nat) (args : Array Value) (ds gs : List (DataW H)) (before : List MemPlace)
    (hval : ∀ (j : Nat) t v, Tryz.f5.params[j]? = some t → args[j]? = some v → Value.okWide Tryz.prog W .any base t v)
    (hW : DataW.Whole enc Tryz.prog Tryz.f5.params.toList Rows.iddChainsSpec.vars false W args.toList ds gs before)
    (hz : (DataW.weightsEach Tryz.prog (Tryz.f5.params.toList ++ Rows.iddChainsSpec.plain.varTypes Tryz.prog) (ds ++ gs)).all (· ≤ reachBytes) = true) (hL : laidMetH Tryz.prog Rows.iddChainsRow.laid W) :
    Calls Tryz.prog 5 args W fun e W' => ∃ v, e = .returned v ∧ Rows.iddChainsSpec.post enc Tryz.prog Tryz.f5 false true false false W args v W' := by
  have hW' := hW
  obtain ⟨p, q, hA0, hV, rfl, hfz, hnd⟩ := hW
  have hA : DataW.TrodAll enc Tryz.prog W 0 (fun _ => true) true Tryz.f5.params.toList args.toList ds p := hA0
  rw [Tryz.params5] at hA hval hz
  obtain ⟨v0, vs0, d0, ds0, p0, q0, hargs, rfl, rfl, h0, r0⟩ := trodAll_cons hA
  obtain ⟨v1, vs1, d1, ds1, p1, q1, rfl, rfl, rfl, h1, r1⟩ := trodAll_cons r0
  obtain ⟨rfl, rfl, rfl⟩ := trodAll_nil r1
  obtain rfl : args = #[v0, v1] := by cases args; simp_all
  obtain ⟨rfl, rfl⟩ := trodVars_none hV
  obtain ⟨vU, vD, rfl, ⟨l, hU, hUz⟩, dr, hD, hdl⟩ := begin_arg (hval 0 25 v0 rfl rfl) h0 (weights_arg hz (j := 0) rfl rfl)
  have lt0 : ∀ x ∈ p0, x.block < W.heap.size := by obtain ⟨m, hm⟩ := h0; exact DataW.trod_lt m _ _ _ hm
  obtain ⟨a1, n1, c1, rfl⟩ := okWide_slice Tryz.underlying26 (hval 1 26 v1 rfl rfl)
  have h1' := h1
  obtain ⟨fu1, hf1⟩ := h1'
  obtain ⟨ops, hO, hol⟩ := ops_cell hf1 (weights_arg hz (j := 1) rfl rfl)
  have lt1 : ∀ x ∈ p1, x.block < W.heap.size := by obtain ⟨m, hm⟩ := h1; exact DataW.trod_lt m _ _ _ hm
  clear hA0
  refine (chains_walk _ _ _ l dr ops W (tb_laid hL) hU hD hO hUz (by omega) hol).mono fun e W' ⟨he, bel⟩ => ?_
  subst he
  exact ⟨_, rfl, _, _, _, [], _, [], hW', trodAll_mk1 (shut_bool Tryz.underlying4 _), (trodAll_cons_mk (Below.trod laidOut (by kernel_rfl) (of_decide_eq_true (by kernel_rfl)) h0 bel lt0) (trodAll_cons_mk (Below.trod laidOut (by kernel_rfl) (of_decide_eq_true (by kernel_rfl)) h1 bel lt1) trodAll_mk0)), rfl, bel.frame _, fun h => by cases h⟩

theorem reads (os : Os) {H : Type} (enc : TypeId × Value → H) : ∃ places, DataW.whole enc Tryz.prog (({ World.holding Tryz.prog os ⟨#[], #[], []⟩ with heap := ((((World.holding Tryz.prog os ⟨#[], #[], []⟩).heap.modify 0 layRounds).modify 1 layPow).modify 3 layB32).modify 4 layB64 } : World).forCall (fun _ _ => 0) ⟨#[], #[.agg #[.slice none 0 0, .slice none 0 0], .slice none 0 0], []⟩).memory Tryz.f5.params.toList Rows.iddChainsSpec.vars false (#[.agg #[.slice none 0 0, .slice none 0 0], .slice none 0 0] : Array Value).toList 8 = some ([.agg [.nil, .nil], .nil], [], places) :=
  ⟨[], by kernel_rfl⟩

set_option maxRecDepth 100000 in
theorem lifted (os : Os) (started : os.Started) (H : Type) (enc : TypeId × Value → H) (F : Stop.Interp) :
    ReturnsInHanded {} Tryz.checked os 5 .any ((OpenSpec.ofChange Rows.iddChainsSpec).preRow enc Tryz.prog Tryz.f5 Rows.iddChainsRow.domain false Rows.iddChainsRow.laid) (((OpenSpec.ofChange Rows.iddChainsSpec).at F).post enc Tryz.prog Tryz.f5 false true false false) := by
  obtain ⟨places, hx⟩ := reads os enc
  refine returnsInHanded_of_row (C := Tryz.checked) (s := OpenSpec.ofChange Rows.iddChainsSpec) own started (by kernel_rfl) Tryz.func5
    (witness_row_at (enc := enc) (C := Tryz.checked) false { World.holding Tryz.prog os ⟨#[], #[], []⟩ with heap := ((((World.holding Tryz.prog os ⟨#[], #[], []⟩).heap.modify 0 layRounds).modify 1 layPow).modify 3 layB32).modify 4 layB64 } #[.agg #[.slice none 0 0, .slice none 0 0], .slice none 0 0] rfl (by kernel_rfl) (by kernel_rfl) (by kernel_rfl)
      (OpenSpec.preRow_of_cond 8 hx (by kernel_rfl) (fun k hk => by cases hk) (by kernel_rfl) (laid_met os _))) ?_
  intro W base args ds gs before hval hW _ hcond hz hL hsh _
  exact contract H enc W base args ds gs before hval hW hz hL

theorem said : Rows.IddChainsSaid :=
  OpenClaim.holds_of_cond 5 Tryz.f5 rfl rfl rfl rfl rfl rfl rfl ⟨rfl, rfl, rfl, rfl, rfl⟩ rfl rfl rfl rfl rfl (by kernel_rfl) Tryz.func5 (by kernel_rfl)
    (of_decide_eq_true (by kernel_rfl)) (by unfold Func.isWrapper; first | (rw [if_pos (by decide +kernel)]; kernel_rfl) | (rw [if_neg (by decide +kernel)]; exact ⟨rfl, rfl⟩))
    (fun os started H enc _ F => by rw [OpenClaim.pre_eq_preRow]; exact lifted os started H enc F)

theorem plain (f : FuncId) (fn : Func) (hf : Tryz.pinned.checked.prog.funcNamed "cloister/cloisterlaw17.IddChains" = some f) (hfn : Tryz.pinned.checked.prog.funcs[f]? = some fn) :
    true = Tryz.pinned.checked.prog.looks [] ∧ ∀ (j : Nat) t, fn.params[j]? = some t → Tryz.pinned.checked.prog.wantsStandIn t = false := by
  obtain rfl : f = 5 := Option.some.inj ((show Tryz.prog.funcNamed "cloister/cloisterlaw17.IddChains" = some 5 by kernel_rfl).symm.trans hf) |>.symm
  obtain rfl : fn = Tryz.f5 := (Option.some.inj (Tryz.func5.symm.trans hfn)).symm
  refine ⟨by kernel_rfl, fun j t ht => ?_⟩
  rw [Tryz.params5] at ht
  have hm := Array.mem_of_getElem? ht
  simp only [List.mem_toArray, List.mem_cons, List.not_mem_nil, or_false] at hm
  rcases hm with rfl | rfl
  · exact (show Tryz.prog.wantsStandIn 25 = false by kernel_rfl)
  · exact (show Tryz.prog.wantsStandIn 26 = false by kernel_rfl)

theorem card : Rows.IddChainsCardSaid :=
  Claim7.holds_tied_plain_at .later [] _ _ _ _ said (fun _ h => by cases h) (by kernel_rfl) (fun _ h => by cases h) iddChains_row_tie rfl ⟨rfl, rfl⟩ (by kernel_rfl) rfl plain (by kernel_rfl)

end Go.Proofs.YtplljpodejpbgaaGreatDoor.iddChains
namespace Go.Proofs.YtplljpodejpbgaaGreatDoor
theorem iddChains_holds : Rows.IddChainsCardSaid := iddChains.card
end Go.Proofs.YtplljpodejpbgaaGreatDoor
