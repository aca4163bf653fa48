/-
  The walk of LabelLattice. (Laid by wip/tools/gen_lattice.py.)
-/
import Derived.Test.YtjgohajlabdloaaLatMath
import Derived.Test.YtjgohajlabdloaaTwo
import Derived.Deep.DeepCutAuto
import Derived.Deep.CutBlock
import Derived.Deep.LoopGhost
namespace Go.Proofs.Ytjgohajlabdloaa
open Go.RowKit
set_option linter.unusedVariables false
set_option linter.unusedSimpArgs false

theorem Boxed.new3 (w : World) (o o2 : Obj) (u v : Value) : Boxed (((w.alloc o).alloc o2).alloc (.cells #[u, v] 24)) (w.heap.size + 1 + 1) u v := by
  have h := Boxed.new ((w.alloc o).alloc o2) u v
  simpa using h

/-- A label of the call's own lies at p. -/
structure LabO (w : World) (base p : Nat) (va vb : Value) (xs ys : List Int) : Prop where
  lab : LabAt w p va vb
  oa : Owns w base va xs
  ob : Owns w base vb ys
theorem LabO.below {w w' : World} {base p : Nat} {va vb : Value} {xs ys : List Int} (h : LabO w base p va vb xs ys) (hb : Below w.heap.size w w') : LabO w' base p va vb xs ys :=
  ⟨h.lab.below hb h.lab.lt, h.oa.below hb, h.ob.below hb⟩
theorem LabO.seesL {w : World} {base p : Nat} {va vb : Value} {xs ys : List Int} (h : LabO w base p va vb xs ys) (h1 : xs.length ≤ 64) (h2 : ys.length ≤ 64) : SeesL w (.agg #[va, vb]) xs ys :=
  ⟨va, vb, rfl, h.oa.sees, h.ob.sees, by omega, by omega⟩
theorem mixL_p (ok : Bool) (p q : List Int) : (mixL ok p q p).length ≤ 64 := by
  unfold mixL
  split
  · split
    · omega
    · simp
  · simp
theorem mixL_q (ok : Bool) (p q : List Int) : (mixL ok p q q).length ≤ 64 := by
  unfold mixL
  split
  · split
    · omega
    · simp
  · simp
theorem labO_new {w : World} {base : Nat} {va vb : Value} {xs ys : List Int} (ha : Owns w base va xs) (hb : Owns w base vb ys) : LabO (w.alloc (.cells #[va, vb] 24)) base w.heap.size va vb xs ys :=
  ⟨LabAt.new w va vb, ha.below (below_alloc w _), hb.below (below_alloc w _)⟩

set_option maxRecDepth 20000 in
set_option maxHeartbeats 8000000 in
theorem lattice_walk (a b c : Value) (s i t j k l : List Int) (w : World) (h1 : SeesL w a s i) (h2 : SeesL w b t j) (h3 : SeesL w c k l) :
    Calls Try.prog 6 #[a, b, c] w fun e w' => e = .returned (.bool true) ∧ Below w.heap.size w w' := by
  have hA1 := h1
  obtain ⟨u1, x1, rfl, _⟩ := h1
  have hA2 := h2
  obtain ⟨u2, x2, rfl, _⟩ := h2
  have hA3 := h3
  obtain ⟨u3, x3, rfl, _⟩ := h3
  obtain ⟨W, hW⟩ : ∃ W, W = ((w.alloc (.cells #[u1, x1] 24)).alloc (.cells #[u2, x2] 24)).alloc (.cells #[u3, x3] 24) := ⟨_, rfl⟩
  have d1 : SeesL W (.agg #[u1, x1]) s i := by rw [hW]; exact (((hA1.box _).box _).box _)
  have d2 : SeesL W (.agg #[u2, x2]) t j := by rw [hW]; exact (((hA2.box _).box _).box _)
  have d3 : SeesL W (.agg #[u3, x3]) k l := by rw [hW]; exact (((hA3.box _).box _).box _)
  have hZ : Below w.heap.size w W := by rw [hW]; exact (((below_alloc w _).alloc (by simp) _).alloc (by simp; omega) _)
  have HA1 := hid (show Boxed W (w.heap.size) u1 x1 by rw [hW]; exact (((Boxed.new _ _ _).box _).box _))
  have HA2 := hid (show Boxed W (w.heap.size + 1) u2 x2 by rw [hW]; exact ((Boxed.new2 _ _ _ _).box _))
  have HA3 := hid (show Boxed W (w.heap.size + 1 + 1) u3 x3 by rw [hW]; exact (Boxed.new3 _ _ _ _ _))
  have HZ := hid hZ
  have hsz := hZ.size
  have HW := hid hW
  have HB := hid (Below.refl W.heap.size W)
  have F1 := hid (fun w1 (h : Below W.heap.size W w1) => lJoin_any _ _ s i t j w1 (d1.below h) (d2.below h))
  have F3 := hid (fun w1 (h : Below W.heap.size W w1) => lMeet_any _ _ s i t j w1 (d1.below h) (d2.below h))
  have l1 := mixL_p (mayB s i && mayB t j) (sd (s ++ t)) (meetL i j)
  have l2 := mixL_q (mayB s i && mayB t j) (sd (s ++ t)) (meetL i j)
  have l3 := mixL_p (mayB s i && mayB t j) (meetL s t) (sd (i ++ j))
  have l4 := mixL_q (mayB s i && mayB t j) (meetL s t) (sd (i ++ j))
  obtain ⟨JE, hJE⟩ : ∃ E, E = mixE (mayB s i && mayB t j) (sd (s ++ t)) (meetL i j) := ⟨_, rfl⟩
  obtain ⟨JS, hJS⟩ : ∃ X, X = mixL (mayB s i && mayB t j) (sd (s ++ t)) (meetL i j) (sd (s ++ t)) := ⟨_, rfl⟩
  obtain ⟨JI, hJI⟩ : ∃ X, X = mixL (mayB s i && mayB t j) (sd (s ++ t)) (meetL i j) (meetL i j) := ⟨_, rfl⟩
  obtain ⟨ME, hME⟩ : ∃ E, E = mixE (mayB s i && mayB t j) (meetL s t) (sd (i ++ j)) := ⟨_, rfl⟩
  obtain ⟨MS, hMS⟩ : ∃ X, X = mixL (mayB s i && mayB t j) (meetL s t) (sd (i ++ j)) (meetL s t) := ⟨_, rfl⟩
  obtain ⟨MI, hMI⟩ : ∃ X, X = mixL (mayB s i && mayB t j) (meetL s t) (sd (i ++ j)) (sd (i ++ j)) := ⟨_, rfl⟩
  have qJ : mayB s i = true → mayB t j = true → mayB k l = true → (JE = 0 ∧ flB s i JS JI = true ∧ flB t j JS JI = true ∧ (flB s i k l && flB t j k l) = flB JS JI k l) ∨ JE = 2 := fun a b c => by
    rw [hJE, hJS, hJI, a, b]
    exact lat_join a b c
  have qM : mayB s i = true → mayB t j = true → mayB k l = true → (ME = 0 ∧ flB MS MI s i = true ∧ flB MS MI t j = true ∧ (flB k l s i && flB k l t j) = flB k l MS MI) ∨ ME = 2 := fun a b c => by
    rw [hME, hMS, hMI, a, b]
    exact lat_meet a b c
  have q0 : (mayB s i && mayB t j) = false → JE = 20 ∧ ME = 20 := fun h => by
    rw [hJE, hME, h]
    exact ⟨rfl, rfl⟩
  rw [← hJE, ← hJS, ← hJI] at F1
  rw [← hME, ← hMS, ← hMI] at F3
  rw [← hJS] at l1
  rw [← hJI] at l2
  rw [← hMS] at l3
  rw [← hMI] at l4
  have QJ := hid qJ
  have QM := hid qM
  have Q0 := hid q0
  have HD1 := hid d1
  have HD2 := hid d2
  have HD3 := hid d3
  clear d1 d2 d3 hA1 hA2 hA3 hW hZ hJE hJS hJI hME hMS hMI qJ qM q0
  obtain ⟨c1, c2⟩ := HA1.out
  obtain ⟨c3, c4⟩ := HA2.out
  obtain ⟨c5, c6⟩ := HA3.out
  go_enter Try.func6, Try.ntmps6
  go_wp2_with fail
  rw [← HW.out]
  clear HW
  refine (F1.out _ HB.out).mono ?_
  rintro e w2 ⟨ja, jb, rfl, qa, qb, h'⟩
  clear F1
  obtain ⟨jao, jac, hva⟩ := Owns.form qa
  obtain ⟨jbo, jbc, hvb⟩ := Owns.form qb
  subst hva
  subst hvb
  clear c1 c2 c3 c4 c5 c6
  have HBn := hid (HB.out.trans (h'.mono HB.out.size))
  clear HB h'
  have HB := HBn
  clear HBn
  have h' := below_alloc w2 (.cells #[.slice jao JS.length jac, .slice jbo JI.length jbc] 24)
  have HJ := hid (labO_new qa qb)
  have HBn := hid (HB.out.trans (h'.mono HB.out.size))
  clear HB h'
  have HB := HBn
  clear HBn
  obtain ⟨c1, c2⟩ := HA1.out.below HB.out
  obtain ⟨c3, c4⟩ := HA2.out.below HB.out
  obtain ⟨c5, c6⟩ := HA3.out.below HB.out
  clear qa qb
  go_wp2_with fail
  refine (F3.out _ HB.out).mono ?_
  rintro e w3 ⟨ma, mb, rfl, qa, qb, h'⟩
  clear F3
  obtain ⟨mao, mac, hva⟩ := Owns.form qa
  obtain ⟨mbo, mbc, hvb⟩ := Owns.form qb
  subst hva
  subst hvb
  clear c1 c2 c3 c4 c5 c6
  have HJn := hid (HJ.out.below h')
  clear HJ
  have HJ := HJn
  clear HJn
  have HBn := hid (HB.out.trans (h'.mono HB.out.size))
  clear HB h'
  have HB := HBn
  clear HBn
  have h' := below_alloc w3 (.cells #[.slice mao MS.length mac, .slice mbo MI.length mbc] 24)
  have HM := hid (labO_new qa qb)
  have HJn := hid (HJ.out.below h')
  clear HJ
  have HJ := HJn
  clear HJn
  have HBn := hid (HB.out.trans (h'.mono HB.out.size))
  clear HB h'
  have HB := HBn
  clear HBn
  obtain ⟨c1, c2⟩ := HA1.out.below HB.out
  obtain ⟨c3, c4⟩ := HA2.out.below HB.out
  obtain ⟨c5, c6⟩ := HA3.out.below HB.out
  clear qa qb
  go_wp2_with fail
  obtain ⟨V, hV⟩ : ∃ V, V = w3.alloc (.cells #[.slice mao MS.length mac, .slice mbo MI.length mbc] 24) := ⟨_, rfl⟩
  rw [← hV] at HB HJ HM ⊢
  have hV1 := HB.out.size
  have sA := HD1.out.below HB.out
  have sB := HD2.out.below HB.out
  have sC := HD3.out.below HB.out
  have sJ := HJ.out.seesL l1 l2
  have sM := HM.out.seesL l3 l4
  have HM1 := hid (fun w1 (h : Below V.heap.size V w1) => may_any _ s i w1 (sA.below h))
  have HM2 := hid (fun w1 (h : Below V.heap.size V w1) => may_any _ t j w1 (sB.below h))
  have HM3 := hid (fun w1 (h : Below V.heap.size V w1) => may_any _ k l w1 (sC.below h))
  have Faj := hid (fun w1 (h : Below V.heap.size V w1) => flowsl_any _ _ s i JS JI w1 (sA.below h) (sJ.below h))
  have Fbj := hid (fun w1 (h : Below V.heap.size V w1) => flowsl_any _ _ t j JS JI w1 (sB.below h) (sJ.below h))
  have Fac := hid (fun w1 (h : Below V.heap.size V w1) => flowsl_any _ _ s i k l w1 (sA.below h) (sC.below h))
  have Fbc := hid (fun w1 (h : Below V.heap.size V w1) => flowsl_any _ _ t j k l w1 (sB.below h) (sC.below h))
  have Fjc := hid (fun w1 (h : Below V.heap.size V w1) => flowsl_any _ _ JS JI k l w1 (sJ.below h) (sC.below h))
  have Fma := hid (fun w1 (h : Below V.heap.size V w1) => flowsl_any _ _ MS MI s i w1 (sM.below h) (sA.below h))
  have Fmb := hid (fun w1 (h : Below V.heap.size V w1) => flowsl_any _ _ MS MI t j w1 (sM.below h) (sB.below h))
  have Fca := hid (fun w1 (h : Below V.heap.size V w1) => flowsl_any _ _ k l s i w1 (sC.below h) (sA.below h))
  have Fcb := hid (fun w1 (h : Below V.heap.size V w1) => flowsl_any _ _ k l t j w1 (sC.below h) (sB.below h))
  have Fcm := hid (fun w1 (h : Below V.heap.size V w1) => flowsl_any _ _ k l MS MI w1 (sC.below h) (sM.below h))
  have Awa := hid (fun w1 (h : Below V.heap.size V w1) => awake_any w1)
  have HV1 := hid (HA1.out.below HB.out)
  have HV2 := hid (HA2.out.below HB.out)
  have HV3 := hid (HA3.out.below HB.out)
  have HJV := hid (show Boxed V w2.heap.size (.slice jao JS.length jac) (.slice jbo JI.length jbc) from ⟨HJ.out.lab.cells.1, HJ.out.lab.cells.2.1⟩)
  have HMV := hid (show Boxed V w3.heap.size (.slice mao MS.length mac) (.slice mbo MI.length mbc) from ⟨HM.out.lab.cells.1, HM.out.lab.cells.2.1⟩)
  have HZV := hid (HZ.out.trans (HB.out.mono hsz))
  clear sA sB sC sJ sM HD1 HD2 HD3 HB HJ HM HA1 HA2 HA3 hV HZ hsz l1 l2 l3 l4
  have hVs := HZV.out.size
  obtain ⟨pj, hpj⟩ : ∃ n, n = w2.heap.size := ⟨_, rfl⟩
  obtain ⟨pm, hpm⟩ : ∃ n, n = w3.heap.size := ⟨_, rfl⟩
  rw [← hpj] at HJV ⊢
  rw [← hpm] at HMV ⊢
  clear hpj hpm hV1
  obtain ⟨lJ, hlJ⟩ : ∃ v, v = Value.slice jao JS.length jac := ⟨_, rfl⟩
  generalize mayB s i = m1 at *
  generalize mayB t j = m2 at *
  generalize mayB k l = m3 at *
  generalize flB s i JS JI = faj at *
  generalize flB t j JS JI = fbj at *
  generalize flB s i k l = fac at *
  generalize flB t j k l = fbc at *
  generalize flB JS JI k l = fjc at *
  generalize flB MS MI s i = fma at *
  generalize flB MS MI t j = fmb at *
  generalize flB k l s i = fca at *
  generalize flB k l t j = fcb at *
  generalize flB k l MS MI = fcm at *
  clear hlJ lJ
  have HB := hid (Below.refl V.heap.size V)
  obtain ⟨c1, c2⟩ := HV1.out.below HB.out
  obtain ⟨c3, c4⟩ := HV2.out.below HB.out
  obtain ⟨c5, c6⟩ := HV3.out.below HB.out
  obtain ⟨j1, j2⟩ := HJV.out.below HB.out
  obtain ⟨e1, e2⟩ := HMV.out.below HB.out
  cases m1
  · obtain ⟨rfl, rfl⟩ := Q0.out rfl
    refine (HM1.out _ HB.out).mono ?_
    clear c1 c2 c3 c4 c5 c6 j1 j2 e1 e2
    rintro e w' ⟨rfl, h'⟩
    have HBn := hid (HB.out.trans (h'.mono HB.out.size))
    clear HB h'
    have HB := HBn
    clear HBn
    obtain ⟨c1, c2⟩ := HV1.out.below HB.out
    obtain ⟨c3, c4⟩ := HV2.out.below HB.out
    obtain ⟨c5, c6⟩ := HV3.out.below HB.out
    obtain ⟨j1, j2⟩ := HJV.out.below HB.out
    obtain ⟨e1, e2⟩ := HMV.out.below HB.out
    go_wp2_with fail
    refine (HM1.out _ HB.out).mono ?_
    clear c1 c2 c3 c4 c5 c6 j1 j2 e1 e2
    rintro e w' ⟨rfl, h'⟩
    have HBn := hid (HB.out.trans (h'.mono HB.out.size))
    clear HB h'
    have HB := HBn
    clear HBn
    obtain ⟨c1, c2⟩ := HV1.out.below HB.out
    obtain ⟨c3, c4⟩ := HV2.out.below HB.out
    obtain ⟨c5, c6⟩ := HV3.out.below HB.out
    obtain ⟨j1, j2⟩ := HJV.out.below HB.out
    obtain ⟨e1, e2⟩ := HMV.out.below HB.out
    go_wp2_with fail
    refine (Awa.out _ HB.out).mono ?_
    clear c1 c2 c3 c4 c5 c6 j1 j2 e1 e2
    rintro e w' ⟨rfl, h'⟩
    have HBn := hid (HB.out.trans (h'.mono HB.out.size))
    clear HB h'
    have HB := HBn
    clear HBn
    obtain ⟨c1, c2⟩ := HV1.out.below HB.out
    obtain ⟨c3, c4⟩ := HV2.out.below HB.out
    obtain ⟨c5, c6⟩ := HV3.out.below HB.out
    obtain ⟨j1, j2⟩ := HJV.out.below HB.out
    obtain ⟨e1, e2⟩ := HMV.out.below HB.out
    go_wp2
    go_ret
    exact ⟨rfl, HZV.out.trans (HB.out.mono hVs)⟩
  cases m2
  · obtain ⟨rfl, rfl⟩ := Q0.out rfl
    refine (HM1.out _ HB.out).mono ?_
    clear c1 c2 c3 c4 c5 c6 j1 j2 e1 e2
    rintro e w' ⟨rfl, h'⟩
    have HBn := hid (HB.out.trans (h'.mono HB.out.size))
    clear HB h'
    have HB := HBn
    clear HBn
    obtain ⟨c1, c2⟩ := HV1.out.below HB.out
    obtain ⟨c3, c4⟩ := HV2.out.below HB.out
    obtain ⟨c5, c6⟩ := HV3.out.below HB.out
    obtain ⟨j1, j2⟩ := HJV.out.below HB.out
    obtain ⟨e1, e2⟩ := HMV.out.below HB.out
    go_wp2_with fail
    refine (HM2.out _ HB.out).mono ?_
    clear c1 c2 c3 c4 c5 c6 j1 j2 e1 e2
    rintro e w' ⟨rfl, h'⟩
    have HBn := hid (HB.out.trans (h'.mono HB.out.size))
    clear HB h'
    have HB := HBn
    clear HBn
    obtain ⟨c1, c2⟩ := HV1.out.below HB.out
    obtain ⟨c3, c4⟩ := HV2.out.below HB.out
    obtain ⟨c5, c6⟩ := HV3.out.below HB.out
    obtain ⟨j1, j2⟩ := HJV.out.below HB.out
    obtain ⟨e1, e2⟩ := HMV.out.below HB.out
    go_wp2_with fail
    refine (HM1.out _ HB.out).mono ?_
    clear c1 c2 c3 c4 c5 c6 j1 j2 e1 e2
    rintro e w' ⟨rfl, h'⟩
    have HBn := hid (HB.out.trans (h'.mono HB.out.size))
    clear HB h'
    have HB := HBn
    clear HBn
    obtain ⟨c1, c2⟩ := HV1.out.below HB.out
    obtain ⟨c3, c4⟩ := HV2.out.below HB.out
    obtain ⟨c5, c6⟩ := HV3.out.below HB.out
    obtain ⟨j1, j2⟩ := HJV.out.below HB.out
    obtain ⟨e1, e2⟩ := HMV.out.below HB.out
    go_wp2_with fail
    refine (HM2.out _ HB.out).mono ?_
    clear c1 c2 c3 c4 c5 c6 j1 j2 e1 e2
    rintro e w' ⟨rfl, h'⟩
    have HBn := hid (HB.out.trans (h'.mono HB.out.size))
    clear HB h'
    have HB := HBn
    clear HBn
    obtain ⟨c1, c2⟩ := HV1.out.below HB.out
    obtain ⟨c3, c4⟩ := HV2.out.below HB.out
    obtain ⟨c5, c6⟩ := HV3.out.below HB.out
    obtain ⟨j1, j2⟩ := HJV.out.below HB.out
    obtain ⟨e1, e2⟩ := HMV.out.below HB.out
    go_wp2_with fail
    refine (Awa.out _ HB.out).mono ?_
    clear c1 c2 c3 c4 c5 c6 j1 j2 e1 e2
    rintro e w' ⟨rfl, h'⟩
    have HBn := hid (HB.out.trans (h'.mono HB.out.size))
    clear HB h'
    have HB := HBn
    clear HBn
    obtain ⟨c1, c2⟩ := HV1.out.below HB.out
    obtain ⟨c3, c4⟩ := HV2.out.below HB.out
    obtain ⟨c5, c6⟩ := HV3.out.below HB.out
    obtain ⟨j1, j2⟩ := HJV.out.below HB.out
    obtain ⟨e1, e2⟩ := HMV.out.below HB.out
    go_wp2
    go_ret
    exact ⟨rfl, HZV.out.trans (HB.out.mono hVs)⟩
  cases m3
  · refine (HM1.out _ HB.out).mono ?_
    clear c1 c2 c3 c4 c5 c6 j1 j2 e1 e2
    rintro e w' ⟨rfl, h'⟩
    have HBn := hid (HB.out.trans (h'.mono HB.out.size))
    clear HB h'
    have HB := HBn
    clear HBn
    obtain ⟨c1, c2⟩ := HV1.out.below HB.out
    obtain ⟨c3, c4⟩ := HV2.out.below HB.out
    obtain ⟨c5, c6⟩ := HV3.out.below HB.out
    obtain ⟨j1, j2⟩ := HJV.out.below HB.out
    obtain ⟨e1, e2⟩ := HMV.out.below HB.out
    go_wp2_with fail
    refine (HM2.out _ HB.out).mono ?_
    clear c1 c2 c3 c4 c5 c6 j1 j2 e1 e2
    rintro e w' ⟨rfl, h'⟩
    have HBn := hid (HB.out.trans (h'.mono HB.out.size))
    clear HB h'
    have HB := HBn
    clear HBn
    obtain ⟨c1, c2⟩ := HV1.out.below HB.out
    obtain ⟨c3, c4⟩ := HV2.out.below HB.out
    obtain ⟨c5, c6⟩ := HV3.out.below HB.out
    obtain ⟨j1, j2⟩ := HJV.out.below HB.out
    obtain ⟨e1, e2⟩ := HMV.out.below HB.out
    go_wp2_with fail
    refine (HM3.out _ HB.out).mono ?_
    clear c1 c2 c3 c4 c5 c6 j1 j2 e1 e2
    rintro e w' ⟨rfl, h'⟩
    have HBn := hid (HB.out.trans (h'.mono HB.out.size))
    clear HB h'
    have HB := HBn
    clear HBn
    obtain ⟨c1, c2⟩ := HV1.out.below HB.out
    obtain ⟨c3, c4⟩ := HV2.out.below HB.out
    obtain ⟨c5, c6⟩ := HV3.out.below HB.out
    obtain ⟨j1, j2⟩ := HJV.out.below HB.out
    obtain ⟨e1, e2⟩ := HMV.out.below HB.out
    go_wp2_with fail
    refine (HM1.out _ HB.out).mono ?_
    clear c1 c2 c3 c4 c5 c6 j1 j2 e1 e2
    rintro e w' ⟨rfl, h'⟩
    have HBn := hid (HB.out.trans (h'.mono HB.out.size))
    clear HB h'
    have HB := HBn
    clear HBn
    obtain ⟨c1, c2⟩ := HV1.out.below HB.out
    obtain ⟨c3, c4⟩ := HV2.out.below HB.out
    obtain ⟨c5, c6⟩ := HV3.out.below HB.out
    obtain ⟨j1, j2⟩ := HJV.out.below HB.out
    obtain ⟨e1, e2⟩ := HMV.out.below HB.out
    go_wp2_with fail
    refine (HM2.out _ HB.out).mono ?_
    clear c1 c2 c3 c4 c5 c6 j1 j2 e1 e2
    rintro e w' ⟨rfl, h'⟩
    have HBn := hid (HB.out.trans (h'.mono HB.out.size))
    clear HB h'
    have HB := HBn
    clear HBn
    obtain ⟨c1, c2⟩ := HV1.out.below HB.out
    obtain ⟨c3, c4⟩ := HV2.out.below HB.out
    obtain ⟨c5, c6⟩ := HV3.out.below HB.out
    obtain ⟨j1, j2⟩ := HJV.out.below HB.out
    obtain ⟨e1, e2⟩ := HMV.out.below HB.out
    go_wp2_with fail
    refine (Awa.out _ HB.out).mono ?_
    clear c1 c2 c3 c4 c5 c6 j1 j2 e1 e2
    rintro e w' ⟨rfl, h'⟩
    have HBn := hid (HB.out.trans (h'.mono HB.out.size))
    clear HB h'
    have HB := HBn
    clear HBn
    obtain ⟨c1, c2⟩ := HV1.out.below HB.out
    obtain ⟨c3, c4⟩ := HV2.out.below HB.out
    obtain ⟨c5, c6⟩ := HV3.out.below HB.out
    obtain ⟨j1, j2⟩ := HJV.out.below HB.out
    obtain ⟨e1, e2⟩ := HMV.out.below HB.out
    go_wp2
    go_ret
    exact ⟨rfl, HZV.out.trans (HB.out.mono hVs)⟩
  have kJ := QJ.out rfl rfl rfl
  have kM := QM.out rfl rfl rfl
  have KJ := hid kJ
  have KM := hid kM
  clear kJ kM QJ QM Q0
  refine (HM1.out _ HB.out).mono ?_
  clear c1 c2 c3 c4 c5 c6 j1 j2 e1 e2
  rintro e w' ⟨rfl, h'⟩
  have HBn := hid (HB.out.trans (h'.mono HB.out.size))
  clear HB h'
  have HB := HBn
  clear HBn
  obtain ⟨c1, c2⟩ := HV1.out.below HB.out
  obtain ⟨c3, c4⟩ := HV2.out.below HB.out
  obtain ⟨c5, c6⟩ := HV3.out.below HB.out
  obtain ⟨j1, j2⟩ := HJV.out.below HB.out
  obtain ⟨e1, e2⟩ := HMV.out.below HB.out
  go_wp2_with fail
  refine (HM2.out _ HB.out).mono ?_
  clear c1 c2 c3 c4 c5 c6 j1 j2 e1 e2
  rintro e w' ⟨rfl, h'⟩
  have HBn := hid (HB.out.trans (h'.mono HB.out.size))
  clear HB h'
  have HB := HBn
  clear HBn
  obtain ⟨c1, c2⟩ := HV1.out.below HB.out
  obtain ⟨c3, c4⟩ := HV2.out.below HB.out
  obtain ⟨c5, c6⟩ := HV3.out.below HB.out
  obtain ⟨j1, j2⟩ := HJV.out.below HB.out
  obtain ⟨e1, e2⟩ := HMV.out.below HB.out
  go_wp2_with fail
  refine (HM3.out _ HB.out).mono ?_
  clear c1 c2 c3 c4 c5 c6 j1 j2 e1 e2
  rintro e w' ⟨rfl, h'⟩
  have HBn := hid (HB.out.trans (h'.mono HB.out.size))
  clear HB h'
  have HB := HBn
  clear HBn
  obtain ⟨c1, c2⟩ := HV1.out.below HB.out
  obtain ⟨c3, c4⟩ := HV2.out.below HB.out
  obtain ⟨c5, c6⟩ := HV3.out.below HB.out
  obtain ⟨j1, j2⟩ := HJV.out.below HB.out
  obtain ⟨e1, e2⟩ := HMV.out.below HB.out
  go_wp2_with fail
  go_cut [80] from 53 to 80 (fun q wx => q = .bool false ∧ Below V.heap.size V wx)
  case first =>
    rcases KJ.out with ⟨rfl, g1, g2, g3⟩ | rfl
    · subst g1
      subst g2
      cases fac
      · obtain rfl : fjc = false := g3.symm
        have HBn := hid (Below.drew HB.out)
        clear HB
        have HB := HBn
        clear HBn
        refine wp_region_noPanic ?_
        refine wp_region_held_drew (S := (fun w' => w'.cell? ⟨w.heap.size, 0, none⟩ = some u1 ∧ w'.cell? ⟨w.heap.size, 1, none⟩ = some x1 ∧ w'.cell? ⟨w.heap.size + 1, 0, none⟩ = some u2 ∧ w'.cell? ⟨w.heap.size + 1, 1, none⟩ = some x2 ∧ w'.cell? ⟨w.heap.size + 1 + 1, 0, none⟩ = some u3 ∧ w'.cell? ⟨w.heap.size + 1 + 1, 1, none⟩ = some x3 ∧ w'.cell? ⟨pj, 0, none⟩ = some (.slice jao JS.length jac) ∧ w'.cell? ⟨pj, 1, none⟩ = some (.slice jbo JI.length jbc))) (by kernel_rfl) ?_ (fun hHeld => ?_)
        · first | (refine ⟨?_, ?_, ?_, ?_, ?_, ?_, ?_, ?_⟩ <;> first | assumption | go_keep)
        refine wpAnyH_take (i := 0) (oi := { dst := some 53, op := Op.move (Operand.tmp 8), type := 26, pos := "law.go:107", after := #[], guard := none }) (v := (.int .i64 0)) rfl (by kernel_rfl) (by kernel_rfl) (by kernel_rfl) (fun _ _ _ h => h) (Or.inl ⟨by rfl, ?_⟩) (by assumption) ?_
        · intro w hSw
          try dsimp only at hSw
          go_simp
        try simp only [Act.put, List.setIfInBounds_toArray, List.set_cons_zero, List.set_cons_succ]
        refine wpAnyH_take (i := 1) (oi := { dst := some 54, op := Op.binOp BinOp.eql 26 (Operand.tmp 53) (Operand.const (Value.int IntKind.i64 0)) 26, type := 4, pos := "law.go:107", after := #[{ on := 0, ground := Ground.data }], guard := none }) (v := (.bool true)) rfl (by kernel_rfl) (by kernel_rfl) (by kernel_rfl) (fun _ _ _ h => h) (Or.inl ⟨by rfl, ?_⟩) (by assumption) ?_
        · intro w hSw
          try dsimp only at hSw
          go_simp
        try simp only [Act.put, List.setIfInBounds_toArray, List.set_cons_zero, List.set_cons_succ]
        refine wpAnyH_take (i := 2) (oi := { dst := some 55, op := Op.move (Operand.tmp 54), type := 4, pos := "law.go:107", after := #[{ on := 1, ground := Ground.data }], guard := none }) (v := (.bool true)) rfl (by kernel_rfl) (by kernel_rfl) (by kernel_rfl) (fun _ _ _ h => h) (Or.inl ⟨by rfl, ?_⟩) (by assumption) ?_
        · intro w hSw
          try dsimp only at hSw
          go_simp
        try simp only [Act.put, List.setIfInBounds_toArray, List.set_cons_zero, List.set_cons_succ]
        refine wpAnyH_take (i := 3) (oi := { dst := some 56, op := Op.load 24 (Operand.tmp 3), type := 24, pos := "law.go:107", after := #[{ on := 2, ground := Ground.guard }], guard := some (2, true) }) (v := (.agg #[u1, x1])) rfl (by kernel_rfl) (by kernel_rfl) (by kernel_rfl) (fun _ _ _ h => h) (Or.inl ⟨by rfl, ?_⟩) (by assumption) ?_
        · intro w hSw
          try dsimp only at hSw
          go_simp
        try simp only [Act.put, List.setIfInBounds_toArray, List.set_cons_zero, List.set_cons_succ]
        refine wpAnyH_take (i := 4) (oi := { dst := some 57, op := Op.load 24 (Operand.tmp 7), type := 24, pos := "law.go:107", after := #[{ on := 2, ground := Ground.guard }], guard := some (2, true) }) (v := (.agg #[(.slice jao JS.length jac), (.slice jbo JI.length jbc)])) rfl (by kernel_rfl) (by kernel_rfl) (by kernel_rfl) (fun _ _ _ h => h) (Or.inl ⟨by rfl, ?_⟩) (by assumption) ?_
        · intro w hSw
          try dsimp only at hSw
          go_simp
        try simp only [Act.put, List.setIfInBounds_toArray, List.set_cons_zero, List.set_cons_succ]
        refine wpAnyH_ready (rs := [5]) (by kernel_rfl) (by simp) ?_
        refine AllReadyH.cons (o := { dst := some 58, op := Op.call { callee := Callee.value (Operand.func 23), args := #[Operand.tmp 56, Operand.tmp 57], argTypes := #[24, 24] }, type := 4, pos := "law.go:107", after := #[{ on := 3, ground := Ground.data }, { on := 4, ground := Ground.data }, { on := 2, ground := Ground.chain }, { on := 2, ground := Ground.guard }], guard := some (2, true) }) rfl (fun K hK => ?_) AllReadyH.nil
        go_simp
        refine (Faj.out _ HB.out).mono ?_
        clear c1 c2 c3 c4 c5 c6 j1 j2 e1 e2
        rintro e w' ⟨rfl, h'⟩
        have HBn := hid (HB.out.trans (h'.mono HB.out.size))
        clear HB h'
        have HB := HBn
        clear HBn
        obtain ⟨c1, c2⟩ := HV1.out.below HB.out
        obtain ⟨c3, c4⟩ := HV2.out.below HB.out
        obtain ⟨c5, c6⟩ := HV3.out.below HB.out
        obtain ⟨j1, j2⟩ := HJV.out.below HB.out
        obtain ⟨e1, e2⟩ := HMV.out.below HB.out
        try go_wp2_with fail
        refine hK.out _ _ ?_ (fun hHeld => ?_)
        · first | (refine ⟨?_, ?_, ?_, ?_, ?_, ?_, ?_, ?_⟩ <;> first | assumption | go_keep)
        clear hK K
        try simp only [Act.put, List.setIfInBounds_toArray, List.set_cons_zero, List.set_cons_succ]
        refine wpAnyH_take (i := 6) (oi := { dst := some 59, op := Op.unOp UnOp.not 4 (Operand.tmp 58), type := 4, pos := "law.go:107", after := #[{ on := 5, ground := Ground.data }, { on := 2, ground := Ground.guard }], guard := some (2, true) }) (v := (.bool false)) rfl (by kernel_rfl) (by kernel_rfl) (by kernel_rfl) (fun _ _ _ h => h) (Or.inl ⟨by rfl, ?_⟩) (by assumption) ?_
        · intro w hSw
          try dsimp only at hSw
          go_simp
        try simp only [Act.put, List.setIfInBounds_toArray, List.set_cons_zero, List.set_cons_succ]
        refine wpAnyH_take (i := 7) (oi := { dst := some 60, op := Op.move (Operand.tmp 59), type := 4, pos := "law.go:107", after := #[{ on := 6, ground := Ground.data }, { on := 5, ground := Ground.chain }, { on := 2, ground := Ground.guard }], guard := some (2, true) }) (v := (.bool false)) rfl (by kernel_rfl) (by kernel_rfl) (by kernel_rfl) (fun _ _ _ h => h) (Or.inl ⟨by rfl, ?_⟩) (by assumption) ?_
        · intro w hSw
          try dsimp only at hSw
          go_simp
        try simp only [Act.put, List.setIfInBounds_toArray, List.set_cons_zero, List.set_cons_succ]
        refine wpAnyH_take (i := 8) (oi := { dst := some 61, op := Op.load 24 (Operand.tmp 4), type := 24, pos := "law.go:107", after := #[{ on := 7, ground := Ground.guard }], guard := some (7, false) }) (v := (.agg #[u2, x2])) rfl (by kernel_rfl) (by kernel_rfl) (by kernel_rfl) (fun _ _ _ h => h) (Or.inl ⟨by rfl, ?_⟩) (by assumption) ?_
        · intro w hSw
          try dsimp only at hSw
          go_simp
        try simp only [Act.put, List.setIfInBounds_toArray, List.set_cons_zero, List.set_cons_succ]
        refine wpAnyH_take (i := 9) (oi := { dst := some 62, op := Op.load 24 (Operand.tmp 7), type := 24, pos := "law.go:107", after := #[{ on := 7, ground := Ground.guard }], guard := some (7, false) }) (v := (.agg #[(.slice jao JS.length jac), (.slice jbo JI.length jbc)])) rfl (by kernel_rfl) (by kernel_rfl) (by kernel_rfl) (fun _ _ _ h => h) (Or.inl ⟨by rfl, ?_⟩) (by assumption) ?_
        · intro w hSw
          try dsimp only at hSw
          go_simp
        try simp only [Act.put, List.setIfInBounds_toArray, List.set_cons_zero, List.set_cons_succ]
        refine wpAnyH_ready (rs := [10]) (by kernel_rfl) (by simp) ?_
        refine AllReadyH.cons (o := { dst := some 63, op := Op.call { callee := Callee.value (Operand.func 23), args := #[Operand.tmp 61, Operand.tmp 62], argTypes := #[24, 24] }, type := 4, pos := "law.go:107", after := #[{ on := 8, ground := Ground.data }, { on := 9, ground := Ground.data }, { on := 7, ground := Ground.chain }, { on := 7, ground := Ground.guard }], guard := some (7, false) }) rfl (fun K hK => ?_) AllReadyH.nil
        go_simp
        refine (Fbj.out _ HB.out).mono ?_
        clear c1 c2 c3 c4 c5 c6 j1 j2 e1 e2
        rintro e w' ⟨rfl, h'⟩
        have HBn := hid (HB.out.trans (h'.mono HB.out.size))
        clear HB h'
        have HB := HBn
        clear HBn
        obtain ⟨c1, c2⟩ := HV1.out.below HB.out
        obtain ⟨c3, c4⟩ := HV2.out.below HB.out
        obtain ⟨c5, c6⟩ := HV3.out.below HB.out
        obtain ⟨j1, j2⟩ := HJV.out.below HB.out
        obtain ⟨e1, e2⟩ := HMV.out.below HB.out
        try go_wp2_with fail
        refine hK.out _ _ ?_ (fun hHeld => ?_)
        · first | (refine ⟨?_, ?_, ?_, ?_, ?_, ?_, ?_, ?_⟩ <;> first | assumption | go_keep)
        clear hK K
        try simp only [Act.put, List.setIfInBounds_toArray, List.set_cons_zero, List.set_cons_succ]
        refine wpAnyH_take (i := 11) (oi := { dst := some 64, op := Op.unOp UnOp.not 4 (Operand.tmp 63), type := 4, pos := "law.go:107", after := #[{ on := 10, ground := Ground.data }, { on := 7, ground := Ground.guard }], guard := some (7, false) }) (v := (.bool false)) rfl (by kernel_rfl) (by kernel_rfl) (by kernel_rfl) (fun _ _ _ h => h) (Or.inl ⟨by rfl, ?_⟩) (by assumption) ?_
        · intro w hSw
          try dsimp only at hSw
          go_simp
        try simp only [Act.put, List.setIfInBounds_toArray, List.set_cons_zero, List.set_cons_succ]
        refine wpAnyH_take (i := 12) (oi := { dst := some 65, op := Op.pick (Operand.tmp 60) (Operand.const (Value.bool true)) (Operand.tmp 64), type := 4, pos := "law.go:107", after := #[{ on := 7, ground := Ground.data }, { on := 11, ground := Ground.data }, { on := 2, ground := Ground.guard }], guard := some (2, true) }) (v := (.bool false)) rfl (by kernel_rfl) (by kernel_rfl) (by kernel_rfl) (fun _ _ _ h => h) (Or.inl ⟨by rfl, ?_⟩) (by assumption) ?_
        · intro w hSw
          try dsimp only at hSw
          go_simp
        try simp only [Act.put, List.setIfInBounds_toArray, List.set_cons_zero, List.set_cons_succ]
        refine wpAnyH_take (i := 13) (oi := { dst := some 66, op := Op.move (Operand.tmp 65), type := 4, pos := "law.go:107", after := #[{ on := 12, ground := Ground.data }, { on := 10, ground := Ground.chain }, { on := 2, ground := Ground.guard }], guard := some (2, true) }) (v := (.bool false)) rfl (by kernel_rfl) (by kernel_rfl) (by kernel_rfl) (fun _ _ _ h => h) (Or.inl ⟨by rfl, ?_⟩) (by assumption) ?_
        · intro w hSw
          try dsimp only at hSw
          go_simp
        try simp only [Act.put, List.setIfInBounds_toArray, List.set_cons_zero, List.set_cons_succ]
        refine wpAnyH_take (i := 14) (oi := { dst := some 67, op := Op.load 24 (Operand.tmp 3), type := 24, pos := "law.go:107", after := #[{ on := 13, ground := Ground.guard }], guard := some (13, false) }) (v := (.agg #[u1, x1])) rfl (by kernel_rfl) (by kernel_rfl) (by kernel_rfl) (fun _ _ _ h => h) (Or.inl ⟨by rfl, ?_⟩) (by assumption) ?_
        · intro w hSw
          try dsimp only at hSw
          go_simp
        try simp only [Act.put, List.setIfInBounds_toArray, List.set_cons_zero, List.set_cons_succ]
        refine wpAnyH_take (i := 15) (oi := { dst := some 68, op := Op.load 24 (Operand.tmp 5), type := 24, pos := "law.go:107", after := #[{ on := 13, ground := Ground.guard }], guard := some (13, false) }) (v := (.agg #[u3, x3])) rfl (by kernel_rfl) (by kernel_rfl) (by kernel_rfl) (fun _ _ _ h => h) (Or.inl ⟨by rfl, ?_⟩) (by assumption) ?_
        · intro w hSw
          try dsimp only at hSw
          go_simp
        try simp only [Act.put, List.setIfInBounds_toArray, List.set_cons_zero, List.set_cons_succ]
        refine wpAnyH_take (i := 22) (oi := { dst := some 75, op := Op.load 24 (Operand.tmp 7), type := 24, pos := "law.go:107", after := #[{ on := 13, ground := Ground.guard }], guard := some (13, false) }) (v := (.agg #[(.slice jao JS.length jac), (.slice jbo JI.length jbc)])) rfl (by kernel_rfl) (by kernel_rfl) (by kernel_rfl) (fun _ _ _ h => h) (Or.inl ⟨by rfl, ?_⟩) (by assumption) ?_
        · intro w hSw
          try dsimp only at hSw
          go_simp
        try simp only [Act.put, List.setIfInBounds_toArray, List.set_cons_zero, List.set_cons_succ]
        refine wpAnyH_take (i := 23) (oi := { dst := some 76, op := Op.load 24 (Operand.tmp 5), type := 24, pos := "law.go:107", after := #[{ on := 13, ground := Ground.guard }], guard := some (13, false) }) (v := (.agg #[u3, x3])) rfl (by kernel_rfl) (by kernel_rfl) (by kernel_rfl) (fun _ _ _ h => h) (Or.inl ⟨by rfl, ?_⟩) (by assumption) ?_
        · intro w hSw
          try dsimp only at hSw
          go_simp
        try simp only [Act.put, List.setIfInBounds_toArray, List.set_cons_zero, List.set_cons_succ]
        refine wpAnyH_ready (rs := [16]) (by kernel_rfl) (by simp) ?_
        refine AllReadyH.cons (o := { dst := some 69, op := Op.call { callee := Callee.value (Operand.func 23), args := #[Operand.tmp 67, Operand.tmp 68], argTypes := #[24, 24] }, type := 4, pos := "law.go:107", after := #[{ on := 14, ground := Ground.data }, { on := 15, ground := Ground.data }, { on := 13, ground := Ground.chain }, { on := 13, ground := Ground.guard }], guard := some (13, false) }) rfl (fun K hK => ?_) AllReadyH.nil
        go_simp
        refine (Fac.out _ HB.out).mono ?_
        clear c1 c2 c3 c4 c5 c6 j1 j2 e1 e2
        rintro e w' ⟨rfl, h'⟩
        have HBn := hid (HB.out.trans (h'.mono HB.out.size))
        clear HB h'
        have HB := HBn
        clear HBn
        obtain ⟨c1, c2⟩ := HV1.out.below HB.out
        obtain ⟨c3, c4⟩ := HV2.out.below HB.out
        obtain ⟨c5, c6⟩ := HV3.out.below HB.out
        obtain ⟨j1, j2⟩ := HJV.out.below HB.out
        obtain ⟨e1, e2⟩ := HMV.out.below HB.out
        try go_wp2_with fail
        refine hK.out _ _ ?_ (fun hHeld => ?_)
        · first | (refine ⟨?_, ?_, ?_, ?_, ?_, ?_, ?_, ?_⟩ <;> first | assumption | go_keep)
        clear hK K
        try simp only [Act.put, List.setIfInBounds_toArray, List.set_cons_zero, List.set_cons_succ]
        refine wpAnyH_take (i := 17) (oi := { dst := some 70, op := Op.move (Operand.tmp 69), type := 4, pos := "law.go:107", after := #[{ on := 16, ground := Ground.data }, { on := 16, ground := Ground.chain }, { on := 13, ground := Ground.guard }], guard := some (13, false) }) (v := (.bool false)) rfl (by kernel_rfl) (by kernel_rfl) (by kernel_rfl) (fun _ _ _ h => h) (Or.inl ⟨by rfl, ?_⟩) (by assumption) ?_
        · intro w hSw
          try dsimp only at hSw
          go_simp
        try simp only [Act.put, List.setIfInBounds_toArray, List.set_cons_zero, List.set_cons_succ]
        refine wpAnyH_take (i := 18) (oi := { dst := some 71, op := Op.load 24 (Operand.tmp 4), type := 24, pos := "law.go:107", after := #[{ on := 17, ground := Ground.guard }], guard := some (17, true) }) (v := undef) rfl (by kernel_rfl) (by kernel_rfl) (by kernel_rfl) (fun _ _ _ h => h) (Or.inr ⟨by rfl, rfl⟩) (by assumption) ?_
        try simp only [Act.put, List.setIfInBounds_toArray, List.set_cons_zero, List.set_cons_succ]
        refine wpAnyH_take (i := 19) (oi := { dst := some 72, op := Op.load 24 (Operand.tmp 5), type := 24, pos := "law.go:107", after := #[{ on := 17, ground := Ground.guard }], guard := some (17, true) }) (v := undef) rfl (by kernel_rfl) (by kernel_rfl) (by kernel_rfl) (fun _ _ _ h => h) (Or.inr ⟨by rfl, rfl⟩) (by assumption) ?_
        try simp only [Act.put, List.setIfInBounds_toArray, List.set_cons_zero, List.set_cons_succ]
        refine wpAnyH_take (i := 20) (oi := { dst := some 73, op := Op.call { callee := Callee.value (Operand.func 23), args := #[Operand.tmp 71, Operand.tmp 72], argTypes := #[24, 24] }, type := 4, pos := "law.go:107", after := #[{ on := 18, ground := Ground.data }, { on := 19, ground := Ground.data }, { on := 17, ground := Ground.chain }, { on := 17, ground := Ground.guard }], guard := some (17, true) }) (v := undef) rfl (by kernel_rfl) (by kernel_rfl) (by kernel_rfl) (fun _ _ _ h => h) (Or.inr ⟨by rfl, rfl⟩) (by assumption) ?_
        try simp only [Act.put, List.setIfInBounds_toArray, List.set_cons_zero, List.set_cons_succ]
        refine wpAnyH_take (i := 21) (oi := { dst := some 74, op := Op.pick (Operand.tmp 70) (Operand.tmp 73) (Operand.const (Value.bool false)), type := 4, pos := "law.go:107", after := #[{ on := 17, ground := Ground.data }, { on := 20, ground := Ground.data }, { on := 13, ground := Ground.guard }], guard := some (13, false) }) (v := (.bool false)) rfl (by kernel_rfl) (by kernel_rfl) (by kernel_rfl) (fun _ _ _ h => h) (Or.inl ⟨by rfl, ?_⟩) (by assumption) ?_
        · intro w hSw
          try dsimp only at hSw
          go_simp
        try simp only [Act.put, List.setIfInBounds_toArray, List.set_cons_zero, List.set_cons_succ]
        refine wpAnyH_ready (rs := [24]) (by kernel_rfl) (by simp) ?_
        refine AllReadyH.cons (o := { dst := some 77, op := Op.call { callee := Callee.value (Operand.func 23), args := #[Operand.tmp 75, Operand.tmp 76], argTypes := #[24, 24] }, type := 4, pos := "law.go:107", after := #[{ on := 22, ground := Ground.data }, { on := 23, ground := Ground.data }, { on := 20, ground := Ground.chain }, { on := 13, ground := Ground.guard }], guard := some (13, false) }) rfl (fun K hK => ?_) AllReadyH.nil
        go_simp
        refine (Fjc.out _ HB.out).mono ?_
        clear c1 c2 c3 c4 c5 c6 j1 j2 e1 e2
        rintro e w' ⟨rfl, h'⟩
        have HBn := hid (HB.out.trans (h'.mono HB.out.size))
        clear HB h'
        have HB := HBn
        clear HBn
        obtain ⟨c1, c2⟩ := HV1.out.below HB.out
        obtain ⟨c3, c4⟩ := HV2.out.below HB.out
        obtain ⟨c5, c6⟩ := HV3.out.below HB.out
        obtain ⟨j1, j2⟩ := HJV.out.below HB.out
        obtain ⟨e1, e2⟩ := HMV.out.below HB.out
        try go_wp2_with fail
        refine hK.out _ _ ?_ (fun hHeld => ?_)
        · first | (refine ⟨?_, ?_, ?_, ?_, ?_, ?_, ?_, ?_⟩ <;> first | assumption | go_keep)
        clear hK K
        try simp only [Act.put, List.setIfInBounds_toArray, List.set_cons_zero, List.set_cons_succ]
        refine wpAnyH_take (i := 25) (oi := { dst := some 78, op := Op.binOp BinOp.neq 4 (Operand.tmp 74) (Operand.tmp 77) 4, type := 4, pos := "law.go:107", after := #[{ on := 21, ground := Ground.data }, { on := 24, ground := Ground.data }, { on := 13, ground := Ground.guard }], guard := some (13, false) }) (v := (.bool false)) rfl (by kernel_rfl) (by kernel_rfl) (by kernel_rfl) (fun _ _ _ h => h) (Or.inl ⟨by rfl, ?_⟩) (by assumption) ?_
        · intro w hSw
          try dsimp only at hSw
          go_simp
        try simp only [Act.put, List.setIfInBounds_toArray, List.set_cons_zero, List.set_cons_succ]
        refine wpAnyH_take (i := 26) (oi := { dst := some 79, op := Op.pick (Operand.tmp 66) (Operand.const (Value.bool true)) (Operand.tmp 78), type := 4, pos := "law.go:107", after := #[{ on := 13, ground := Ground.data }, { on := 25, ground := Ground.data }, { on := 2, ground := Ground.guard }], guard := some (2, true) }) (v := (.bool false)) rfl (by kernel_rfl) (by kernel_rfl) (by kernel_rfl) (fun _ _ _ h => h) (Or.inl ⟨by rfl, ?_⟩) (by assumption) ?_
        · intro w hSw
          try dsimp only at hSw
          go_simp
        try simp only [Act.put, List.setIfInBounds_toArray, List.set_cons_zero, List.set_cons_succ]
        refine wpAnyH_take (i := 27) (oi := { dst := some 80, op := Op.pick (Operand.tmp 55) (Operand.tmp 79) (Operand.const (Value.bool false)), type := 4, pos := "law.go:107", after := #[{ on := 2, ground := Ground.data }, { on := 26, ground := Ground.data }], guard := none }) (v := (.bool false)) rfl (by kernel_rfl) (by kernel_rfl) (by kernel_rfl) (fun _ _ _ h => h) (Or.inl ⟨by rfl, ?_⟩) (by assumption) ?_
        · intro w hSw
          try dsimp only at hSw
          go_simp
        try simp only [Act.put, List.setIfInBounds_toArray, List.set_cons_zero, List.set_cons_succ]
        refine wpAnyH_done (by kernel_rfl) ?_ _
        refine NoPanic.normal ?_
        go_wp2_with fail
        go_meet
        exact ⟨rfl, HB.out⟩
      · cases fbc
        · obtain rfl : fjc = false := g3.symm
          have HBn := hid (Below.drew HB.out)
          clear HB
          have HB := HBn
          clear HBn
          refine wp_region_noPanic ?_
          refine wp_region_held_drew (S := (fun w' => w'.cell? ⟨w.heap.size, 0, none⟩ = some u1 ∧ w'.cell? ⟨w.heap.size, 1, none⟩ = some x1 ∧ w'.cell? ⟨w.heap.size + 1, 0, none⟩ = some u2 ∧ w'.cell? ⟨w.heap.size + 1, 1, none⟩ = some x2 ∧ w'.cell? ⟨w.heap.size + 1 + 1, 0, none⟩ = some u3 ∧ w'.cell? ⟨w.heap.size + 1 + 1, 1, none⟩ = some x3 ∧ w'.cell? ⟨pj, 0, none⟩ = some (.slice jao JS.length jac) ∧ w'.cell? ⟨pj, 1, none⟩ = some (.slice jbo JI.length jbc))) (by kernel_rfl) ?_ (fun hHeld => ?_)
          · first | (refine ⟨?_, ?_, ?_, ?_, ?_, ?_, ?_, ?_⟩ <;> first | assumption | go_keep)
          refine wpAnyH_take (i := 0) (oi := { dst := some 53, op := Op.move (Operand.tmp 8), type := 26, pos := "law.go:107", after := #[], guard := none }) (v := (.int .i64 0)) rfl (by kernel_rfl) (by kernel_rfl) (by kernel_rfl) (fun _ _ _ h => h) (Or.inl ⟨by rfl, ?_⟩) (by assumption) ?_
          · intro w hSw
            try dsimp only at hSw
            go_simp
          try simp only [Act.put, List.setIfInBounds_toArray, List.set_cons_zero, List.set_cons_succ]
          refine wpAnyH_take (i := 1) (oi := { dst := some 54, op := Op.binOp BinOp.eql 26 (Operand.tmp 53) (Operand.const (Value.int IntKind.i64 0)) 26, type := 4, pos := "law.go:107", after := #[{ on := 0, ground := Ground.data }], guard := none }) (v := (.bool true)) rfl (by kernel_rfl) (by kernel_rfl) (by kernel_rfl) (fun _ _ _ h => h) (Or.inl ⟨by rfl, ?_⟩) (by assumption) ?_
          · intro w hSw
            try dsimp only at hSw
            go_simp
          try simp only [Act.put, List.setIfInBounds_toArray, List.set_cons_zero, List.set_cons_succ]
          refine wpAnyH_take (i := 2) (oi := { dst := some 55, op := Op.move (Operand.tmp 54), type := 4, pos := "law.go:107", after := #[{ on := 1, ground := Ground.data }], guard := none }) (v := (.bool true)) rfl (by kernel_rfl) (by kernel_rfl) (by kernel_rfl) (fun _ _ _ h => h) (Or.inl ⟨by rfl, ?_⟩) (by assumption) ?_
          · intro w hSw
            try dsimp only at hSw
            go_simp
          try simp only [Act.put, List.setIfInBounds_toArray, List.set_cons_zero, List.set_cons_succ]
          refine wpAnyH_take (i := 3) (oi := { dst := some 56, op := Op.load 24 (Operand.tmp 3), type := 24, pos := "law.go:107", after := #[{ on := 2, ground := Ground.guard }], guard := some (2, true) }) (v := (.agg #[u1, x1])) rfl (by kernel_rfl) (by kernel_rfl) (by kernel_rfl) (fun _ _ _ h => h) (Or.inl ⟨by rfl, ?_⟩) (by assumption) ?_
          · intro w hSw
            try dsimp only at hSw
            go_simp
          try simp only [Act.put, List.setIfInBounds_toArray, List.set_cons_zero, List.set_cons_succ]
          refine wpAnyH_take (i := 4) (oi := { dst := some 57, op := Op.load 24 (Operand.tmp 7), type := 24, pos := "law.go:107", after := #[{ on := 2, ground := Ground.guard }], guard := some (2, true) }) (v := (.agg #[(.slice jao JS.length jac), (.slice jbo JI.length jbc)])) rfl (by kernel_rfl) (by kernel_rfl) (by kernel_rfl) (fun _ _ _ h => h) (Or.inl ⟨by rfl, ?_⟩) (by assumption) ?_
          · intro w hSw
            try dsimp only at hSw
            go_simp
          try simp only [Act.put, List.setIfInBounds_toArray, List.set_cons_zero, List.set_cons_succ]
          refine wpAnyH_ready (rs := [5]) (by kernel_rfl) (by simp) ?_
          refine AllReadyH.cons (o := { dst := some 58, op := Op.call { callee := Callee.value (Operand.func 23), args := #[Operand.tmp 56, Operand.tmp 57], argTypes := #[24, 24] }, type := 4, pos := "law.go:107", after := #[{ on := 3, ground := Ground.data }, { on := 4, ground := Ground.data }, { on := 2, ground := Ground.chain }, { on := 2, ground := Ground.guard }], guard := some (2, true) }) rfl (fun K hK => ?_) AllReadyH.nil
          go_simp
          refine (Faj.out _ HB.out).mono ?_
          clear c1 c2 c3 c4 c5 c6 j1 j2 e1 e2
          rintro e w' ⟨rfl, h'⟩
          have HBn := hid (HB.out.trans (h'.mono HB.out.size))
          clear HB h'
          have HB := HBn
          clear HBn
          obtain ⟨c1, c2⟩ := HV1.out.below HB.out
          obtain ⟨c3, c4⟩ := HV2.out.below HB.out
          obtain ⟨c5, c6⟩ := HV3.out.below HB.out
          obtain ⟨j1, j2⟩ := HJV.out.below HB.out
          obtain ⟨e1, e2⟩ := HMV.out.below HB.out
          try go_wp2_with fail
          refine hK.out _ _ ?_ (fun hHeld => ?_)
          · first | (refine ⟨?_, ?_, ?_, ?_, ?_, ?_, ?_, ?_⟩ <;> first | assumption | go_keep)
          clear hK K
          try simp only [Act.put, List.setIfInBounds_toArray, List.set_cons_zero, List.set_cons_succ]
          refine wpAnyH_take (i := 6) (oi := { dst := some 59, op := Op.unOp UnOp.not 4 (Operand.tmp 58), type := 4, pos := "law.go:107", after := #[{ on := 5, ground := Ground.data }, { on := 2, ground := Ground.guard }], guard := some (2, true) }) (v := (.bool false)) rfl (by kernel_rfl) (by kernel_rfl) (by kernel_rfl) (fun _ _ _ h => h) (Or.inl ⟨by rfl, ?_⟩) (by assumption) ?_
          · intro w hSw
            try dsimp only at hSw
            go_simp
          try simp only [Act.put, List.setIfInBounds_toArray, List.set_cons_zero, List.set_cons_succ]
          refine wpAnyH_take (i := 7) (oi := { dst := some 60, op := Op.move (Operand.tmp 59), type := 4, pos := "law.go:107", after := #[{ on := 6, ground := Ground.data }, { on := 5, ground := Ground.chain }, { on := 2, ground := Ground.guard }], guard := some (2, true) }) (v := (.bool false)) rfl (by kernel_rfl) (by kernel_rfl) (by kernel_rfl) (fun _ _ _ h => h) (Or.inl ⟨by rfl, ?_⟩) (by assumption) ?_
          · intro w hSw
            try dsimp only at hSw
            go_simp
          try simp only [Act.put, List.setIfInBounds_toArray, List.set_cons_zero, List.set_cons_succ]
          refine wpAnyH_take (i := 8) (oi := { dst := some 61, op := Op.load 24 (Operand.tmp 4), type := 24, pos := "law.go:107", after := #[{ on := 7, ground := Ground.guard }], guard := some (7, false) }) (v := (.agg #[u2, x2])) rfl (by kernel_rfl) (by kernel_rfl) (by kernel_rfl) (fun _ _ _ h => h) (Or.inl ⟨by rfl, ?_⟩) (by assumption) ?_
          · intro w hSw
            try dsimp only at hSw
            go_simp
          try simp only [Act.put, List.setIfInBounds_toArray, List.set_cons_zero, List.set_cons_succ]
          refine wpAnyH_take (i := 9) (oi := { dst := some 62, op := Op.load 24 (Operand.tmp 7), type := 24, pos := "law.go:107", after := #[{ on := 7, ground := Ground.guard }], guard := some (7, false) }) (v := (.agg #[(.slice jao JS.length jac), (.slice jbo JI.length jbc)])) rfl (by kernel_rfl) (by kernel_rfl) (by kernel_rfl) (fun _ _ _ h => h) (Or.inl ⟨by rfl, ?_⟩) (by assumption) ?_
          · intro w hSw
            try dsimp only at hSw
            go_simp
          try simp only [Act.put, List.setIfInBounds_toArray, List.set_cons_zero, List.set_cons_succ]
          refine wpAnyH_ready (rs := [10]) (by kernel_rfl) (by simp) ?_
          refine AllReadyH.cons (o := { dst := some 63, op := Op.call { callee := Callee.value (Operand.func 23), args := #[Operand.tmp 61, Operand.tmp 62], argTypes := #[24, 24] }, type := 4, pos := "law.go:107", after := #[{ on := 8, ground := Ground.data }, { on := 9, ground := Ground.data }, { on := 7, ground := Ground.chain }, { on := 7, ground := Ground.guard }], guard := some (7, false) }) rfl (fun K hK => ?_) AllReadyH.nil
          go_simp
          refine (Fbj.out _ HB.out).mono ?_
          clear c1 c2 c3 c4 c5 c6 j1 j2 e1 e2
          rintro e w' ⟨rfl, h'⟩
          have HBn := hid (HB.out.trans (h'.mono HB.out.size))
          clear HB h'
          have HB := HBn
          clear HBn
          obtain ⟨c1, c2⟩ := HV1.out.below HB.out
          obtain ⟨c3, c4⟩ := HV2.out.below HB.out
          obtain ⟨c5, c6⟩ := HV3.out.below HB.out
          obtain ⟨j1, j2⟩ := HJV.out.below HB.out
          obtain ⟨e1, e2⟩ := HMV.out.below HB.out
          try go_wp2_with fail
          refine hK.out _ _ ?_ (fun hHeld => ?_)
          · first | (refine ⟨?_, ?_, ?_, ?_, ?_, ?_, ?_, ?_⟩ <;> first | assumption | go_keep)
          clear hK K
          try simp only [Act.put, List.setIfInBounds_toArray, List.set_cons_zero, List.set_cons_succ]
          refine wpAnyH_take (i := 11) (oi := { dst := some 64, op := Op.unOp UnOp.not 4 (Operand.tmp 63), type := 4, pos := "law.go:107", after := #[{ on := 10, ground := Ground.data }, { on := 7, ground := Ground.guard }], guard := some (7, false) }) (v := (.bool false)) rfl (by kernel_rfl) (by kernel_rfl) (by kernel_rfl) (fun _ _ _ h => h) (Or.inl ⟨by rfl, ?_⟩) (by assumption) ?_
          · intro w hSw
            try dsimp only at hSw
            go_simp
          try simp only [Act.put, List.setIfInBounds_toArray, List.set_cons_zero, List.set_cons_succ]
          refine wpAnyH_take (i := 12) (oi := { dst := some 65, op := Op.pick (Operand.tmp 60) (Operand.const (Value.bool true)) (Operand.tmp 64), type := 4, pos := "law.go:107", after := #[{ on := 7, ground := Ground.data }, { on := 11, ground := Ground.data }, { on := 2, ground := Ground.guard }], guard := some (2, true) }) (v := (.bool false)) rfl (by kernel_rfl) (by kernel_rfl) (by kernel_rfl) (fun _ _ _ h => h) (Or.inl ⟨by rfl, ?_⟩) (by assumption) ?_
          · intro w hSw
            try dsimp only at hSw
            go_simp
          try simp only [Act.put, List.setIfInBounds_toArray, List.set_cons_zero, List.set_cons_succ]
          refine wpAnyH_take (i := 13) (oi := { dst := some 66, op := Op.move (Operand.tmp 65), type := 4, pos := "law.go:107", after := #[{ on := 12, ground := Ground.data }, { on := 10, ground := Ground.chain }, { on := 2, ground := Ground.guard }], guard := some (2, true) }) (v := (.bool false)) rfl (by kernel_rfl) (by kernel_rfl) (by kernel_rfl) (fun _ _ _ h => h) (Or.inl ⟨by rfl, ?_⟩) (by assumption) ?_
          · intro w hSw
            try dsimp only at hSw
            go_simp
          try simp only [Act.put, List.setIfInBounds_toArray, List.set_cons_zero, List.set_cons_succ]
          refine wpAnyH_take (i := 14) (oi := { dst := some 67, op := Op.load 24 (Operand.tmp 3), type := 24, pos := "law.go:107", after := #[{ on := 13, ground := Ground.guard }], guard := some (13, false) }) (v := (.agg #[u1, x1])) rfl (by kernel_rfl) (by kernel_rfl) (by kernel_rfl) (fun _ _ _ h => h) (Or.inl ⟨by rfl, ?_⟩) (by assumption) ?_
          · intro w hSw
            try dsimp only at hSw
            go_simp
          try simp only [Act.put, List.setIfInBounds_toArray, List.set_cons_zero, List.set_cons_succ]
          refine wpAnyH_take (i := 15) (oi := { dst := some 68, op := Op.load 24 (Operand.tmp 5), type := 24, pos := "law.go:107", after := #[{ on := 13, ground := Ground.guard }], guard := some (13, false) }) (v := (.agg #[u3, x3])) rfl (by kernel_rfl) (by kernel_rfl) (by kernel_rfl) (fun _ _ _ h => h) (Or.inl ⟨by rfl, ?_⟩) (by assumption) ?_
          · intro w hSw
            try dsimp only at hSw
            go_simp
          try simp only [Act.put, List.setIfInBounds_toArray, List.set_cons_zero, List.set_cons_succ]
          refine wpAnyH_take (i := 22) (oi := { dst := some 75, op := Op.load 24 (Operand.tmp 7), type := 24, pos := "law.go:107", after := #[{ on := 13, ground := Ground.guard }], guard := some (13, false) }) (v := (.agg #[(.slice jao JS.length jac), (.slice jbo JI.length jbc)])) rfl (by kernel_rfl) (by kernel_rfl) (by kernel_rfl) (fun _ _ _ h => h) (Or.inl ⟨by rfl, ?_⟩) (by assumption) ?_
          · intro w hSw
            try dsimp only at hSw
            go_simp
          try simp only [Act.put, List.setIfInBounds_toArray, List.set_cons_zero, List.set_cons_succ]
          refine wpAnyH_take (i := 23) (oi := { dst := some 76, op := Op.load 24 (Operand.tmp 5), type := 24, pos := "law.go:107", after := #[{ on := 13, ground := Ground.guard }], guard := some (13, false) }) (v := (.agg #[u3, x3])) rfl (by kernel_rfl) (by kernel_rfl) (by kernel_rfl) (fun _ _ _ h => h) (Or.inl ⟨by rfl, ?_⟩) (by assumption) ?_
          · intro w hSw
            try dsimp only at hSw
            go_simp
          try simp only [Act.put, List.setIfInBounds_toArray, List.set_cons_zero, List.set_cons_succ]
          refine wpAnyH_ready (rs := [16]) (by kernel_rfl) (by simp) ?_
          refine AllReadyH.cons (o := { dst := some 69, op := Op.call { callee := Callee.value (Operand.func 23), args := #[Operand.tmp 67, Operand.tmp 68], argTypes := #[24, 24] }, type := 4, pos := "law.go:107", after := #[{ on := 14, ground := Ground.data }, { on := 15, ground := Ground.data }, { on := 13, ground := Ground.chain }, { on := 13, ground := Ground.guard }], guard := some (13, false) }) rfl (fun K hK => ?_) AllReadyH.nil
          go_simp
          refine (Fac.out _ HB.out).mono ?_
          clear c1 c2 c3 c4 c5 c6 j1 j2 e1 e2
          rintro e w' ⟨rfl, h'⟩
          have HBn := hid (HB.out.trans (h'.mono HB.out.size))
          clear HB h'
          have HB := HBn
          clear HBn
          obtain ⟨c1, c2⟩ := HV1.out.below HB.out
          obtain ⟨c3, c4⟩ := HV2.out.below HB.out
          obtain ⟨c5, c6⟩ := HV3.out.below HB.out
          obtain ⟨j1, j2⟩ := HJV.out.below HB.out
          obtain ⟨e1, e2⟩ := HMV.out.below HB.out
          try go_wp2_with fail
          refine hK.out _ _ ?_ (fun hHeld => ?_)
          · first | (refine ⟨?_, ?_, ?_, ?_, ?_, ?_, ?_, ?_⟩ <;> first | assumption | go_keep)
          clear hK K
          try simp only [Act.put, List.setIfInBounds_toArray, List.set_cons_zero, List.set_cons_succ]
          refine wpAnyH_take (i := 17) (oi := { dst := some 70, op := Op.move (Operand.tmp 69), type := 4, pos := "law.go:107", after := #[{ on := 16, ground := Ground.data }, { on := 16, ground := Ground.chain }, { on := 13, ground := Ground.guard }], guard := some (13, false) }) (v := (.bool true)) rfl (by kernel_rfl) (by kernel_rfl) (by kernel_rfl) (fun _ _ _ h => h) (Or.inl ⟨by rfl, ?_⟩) (by assumption) ?_
          · intro w hSw
            try dsimp only at hSw
            go_simp
          try simp only [Act.put, List.setIfInBounds_toArray, List.set_cons_zero, List.set_cons_succ]
          refine wpAnyH_take (i := 18) (oi := { dst := some 71, op := Op.load 24 (Operand.tmp 4), type := 24, pos := "law.go:107", after := #[{ on := 17, ground := Ground.guard }], guard := some (17, true) }) (v := (.agg #[u2, x2])) rfl (by kernel_rfl) (by kernel_rfl) (by kernel_rfl) (fun _ _ _ h => h) (Or.inl ⟨by rfl, ?_⟩) (by assumption) ?_
          · intro w hSw
            try dsimp only at hSw
            go_simp
          try simp only [Act.put, List.setIfInBounds_toArray, List.set_cons_zero, List.set_cons_succ]
          refine wpAnyH_take (i := 19) (oi := { dst := some 72, op := Op.load 24 (Operand.tmp 5), type := 24, pos := "law.go:107", after := #[{ on := 17, ground := Ground.guard }], guard := some (17, true) }) (v := (.agg #[u3, x3])) rfl (by kernel_rfl) (by kernel_rfl) (by kernel_rfl) (fun _ _ _ h => h) (Or.inl ⟨by rfl, ?_⟩) (by assumption) ?_
          · intro w hSw
            try dsimp only at hSw
            go_simp
          try simp only [Act.put, List.setIfInBounds_toArray, List.set_cons_zero, List.set_cons_succ]
          refine wpAnyH_ready (rs := [20]) (by kernel_rfl) (by simp) ?_
          refine AllReadyH.cons (o := { dst := some 73, op := Op.call { callee := Callee.value (Operand.func 23), args := #[Operand.tmp 71, Operand.tmp 72], argTypes := #[24, 24] }, type := 4, pos := "law.go:107", after := #[{ on := 18, ground := Ground.data }, { on := 19, ground := Ground.data }, { on := 17, ground := Ground.chain }, { on := 17, ground := Ground.guard }], guard := some (17, true) }) rfl (fun K hK => ?_) AllReadyH.nil
          go_simp
          refine (Fbc.out _ HB.out).mono ?_
          clear c1 c2 c3 c4 c5 c6 j1 j2 e1 e2
          rintro e w' ⟨rfl, h'⟩
          have HBn := hid (HB.out.trans (h'.mono HB.out.size))
          clear HB h'
          have HB := HBn
          clear HBn
          obtain ⟨c1, c2⟩ := HV1.out.below HB.out
          obtain ⟨c3, c4⟩ := HV2.out.below HB.out
          obtain ⟨c5, c6⟩ := HV3.out.below HB.out
          obtain ⟨j1, j2⟩ := HJV.out.below HB.out
          obtain ⟨e1, e2⟩ := HMV.out.below HB.out
          try go_wp2_with fail
          refine hK.out _ _ ?_ (fun hHeld => ?_)
          · first | (refine ⟨?_, ?_, ?_, ?_, ?_, ?_, ?_, ?_⟩ <;> first | assumption | go_keep)
          clear hK K
          try simp only [Act.put, List.setIfInBounds_toArray, List.set_cons_zero, List.set_cons_succ]
          refine wpAnyH_take (i := 21) (oi := { dst := some 74, op := Op.pick (Operand.tmp 70) (Operand.tmp 73) (Operand.const (Value.bool false)), type := 4, pos := "law.go:107", after := #[{ on := 17, ground := Ground.data }, { on := 20, ground := Ground.data }, { on := 13, ground := Ground.guard }], guard := some (13, false) }) (v := (.bool false)) rfl (by kernel_rfl) (by kernel_rfl) (by kernel_rfl) (fun _ _ _ h => h) (Or.inl ⟨by rfl, ?_⟩) (by assumption) ?_
          · intro w hSw
            try dsimp only at hSw
            go_simp
          try simp only [Act.put, List.setIfInBounds_toArray, List.set_cons_zero, List.set_cons_succ]
          refine wpAnyH_ready (rs := [24]) (by kernel_rfl) (by simp) ?_
          refine AllReadyH.cons (o := { dst := some 77, op := Op.call { callee := Callee.value (Operand.func 23), args := #[Operand.tmp 75, Operand.tmp 76], argTypes := #[24, 24] }, type := 4, pos := "law.go:107", after := #[{ on := 22, ground := Ground.data }, { on := 23, ground := Ground.data }, { on := 20, ground := Ground.chain }, { on := 13, ground := Ground.guard }], guard := some (13, false) }) rfl (fun K hK => ?_) AllReadyH.nil
          go_simp
          refine (Fjc.out _ HB.out).mono ?_
          clear c1 c2 c3 c4 c5 c6 j1 j2 e1 e2
          rintro e w' ⟨rfl, h'⟩
          have HBn := hid (HB.out.trans (h'.mono HB.out.size))
          clear HB h'
          have HB := HBn
          clear HBn
          obtain ⟨c1, c2⟩ := HV1.out.below HB.out
          obtain ⟨c3, c4⟩ := HV2.out.below HB.out
          obtain ⟨c5, c6⟩ := HV3.out.below HB.out
          obtain ⟨j1, j2⟩ := HJV.out.below HB.out
          obtain ⟨e1, e2⟩ := HMV.out.below HB.out
          try go_wp2_with fail
          refine hK.out _ _ ?_ (fun hHeld => ?_)
          · first | (refine ⟨?_, ?_, ?_, ?_, ?_, ?_, ?_, ?_⟩ <;> first | assumption | go_keep)
          clear hK K
          try simp only [Act.put, List.setIfInBounds_toArray, List.set_cons_zero, List.set_cons_succ]
          refine wpAnyH_take (i := 25) (oi := { dst := some 78, op := Op.binOp BinOp.neq 4 (Operand.tmp 74) (Operand.tmp 77) 4, type := 4, pos := "law.go:107", after := #[{ on := 21, ground := Ground.data }, { on := 24, ground := Ground.data }, { on := 13, ground := Ground.guard }], guard := some (13, false) }) (v := (.bool false)) rfl (by kernel_rfl) (by kernel_rfl) (by kernel_rfl) (fun _ _ _ h => h) (Or.inl ⟨by rfl, ?_⟩) (by assumption) ?_
          · intro w hSw
            try dsimp only at hSw
            go_simp
          try simp only [Act.put, List.setIfInBounds_toArray, List.set_cons_zero, List.set_cons_succ]
          refine wpAnyH_take (i := 26) (oi := { dst := some 79, op := Op.pick (Operand.tmp 66) (Operand.const (Value.bool true)) (Operand.tmp 78), type := 4, pos := "law.go:107", after := #[{ on := 13, ground := Ground.data }, { on := 25, ground := Ground.data }, { on := 2, ground := Ground.guard }], guard := some (2, true) }) (v := (.bool false)) rfl (by kernel_rfl) (by kernel_rfl) (by kernel_rfl) (fun _ _ _ h => h) (Or.inl ⟨by rfl, ?_⟩) (by assumption) ?_
          · intro w hSw
            try dsimp only at hSw
            go_simp
          try simp only [Act.put, List.setIfInBounds_toArray, List.set_cons_zero, List.set_cons_succ]
          refine wpAnyH_take (i := 27) (oi := { dst := some 80, op := Op.pick (Operand.tmp 55) (Operand.tmp 79) (Operand.const (Value.bool false)), type := 4, pos := "law.go:107", after := #[{ on := 2, ground := Ground.data }, { on := 26, ground := Ground.data }], guard := none }) (v := (.bool false)) rfl (by kernel_rfl) (by kernel_rfl) (by kernel_rfl) (fun _ _ _ h => h) (Or.inl ⟨by rfl, ?_⟩) (by assumption) ?_
          · intro w hSw
            try dsimp only at hSw
            go_simp
          try simp only [Act.put, List.setIfInBounds_toArray, List.set_cons_zero, List.set_cons_succ]
          refine wpAnyH_done (by kernel_rfl) ?_ _
          refine NoPanic.normal ?_
          go_wp2_with fail
          go_meet
          exact ⟨rfl, HB.out⟩
        · obtain rfl : fjc = true := g3.symm
          have HBn := hid (Below.drew HB.out)
          clear HB
          have HB := HBn
          clear HBn
          refine wp_region_noPanic ?_
          refine wp_region_held_drew (S := (fun w' => w'.cell? ⟨w.heap.size, 0, none⟩ = some u1 ∧ w'.cell? ⟨w.heap.size, 1, none⟩ = some x1 ∧ w'.cell? ⟨w.heap.size + 1, 0, none⟩ = some u2 ∧ w'.cell? ⟨w.heap.size + 1, 1, none⟩ = some x2 ∧ w'.cell? ⟨w.heap.size + 1 + 1, 0, none⟩ = some u3 ∧ w'.cell? ⟨w.heap.size + 1 + 1, 1, none⟩ = some x3 ∧ w'.cell? ⟨pj, 0, none⟩ = some (.slice jao JS.length jac) ∧ w'.cell? ⟨pj, 1, none⟩ = some (.slice jbo JI.length jbc))) (by kernel_rfl) ?_ (fun hHeld => ?_)
          · first | (refine ⟨?_, ?_, ?_, ?_, ?_, ?_, ?_, ?_⟩ <;> first | assumption | go_keep)
          refine wpAnyH_take (i := 0) (oi := { dst := some 53, op := Op.move (Operand.tmp 8), type := 26, pos := "law.go:107", after := #[], guard := none }) (v := (.int .i64 0)) rfl (by kernel_rfl) (by kernel_rfl) (by kernel_rfl) (fun _ _ _ h => h) (Or.inl ⟨by rfl, ?_⟩) (by assumption) ?_
          · intro w hSw
            try dsimp only at hSw
            go_simp
          try simp only [Act.put, List.setIfInBounds_toArray, List.set_cons_zero, List.set_cons_succ]
          refine wpAnyH_take (i := 1) (oi := { dst := some 54, op := Op.binOp BinOp.eql 26 (Operand.tmp 53) (Operand.const (Value.int IntKind.i64 0)) 26, type := 4, pos := "law.go:107", after := #[{ on := 0, ground := Ground.data }], guard := none }) (v := (.bool true)) rfl (by kernel_rfl) (by kernel_rfl) (by kernel_rfl) (fun _ _ _ h => h) (Or.inl ⟨by rfl, ?_⟩) (by assumption) ?_
          · intro w hSw
            try dsimp only at hSw
            go_simp
          try simp only [Act.put, List.setIfInBounds_toArray, List.set_cons_zero, List.set_cons_succ]
          refine wpAnyH_take (i := 2) (oi := { dst := some 55, op := Op.move (Operand.tmp 54), type := 4, pos := "law.go:107", after := #[{ on := 1, ground := Ground.data }], guard := none }) (v := (.bool true)) rfl (by kernel_rfl) (by kernel_rfl) (by kernel_rfl) (fun _ _ _ h => h) (Or.inl ⟨by rfl, ?_⟩) (by assumption) ?_
          · intro w hSw
            try dsimp only at hSw
            go_simp
          try simp only [Act.put, List.setIfInBounds_toArray, List.set_cons_zero, List.set_cons_succ]
          refine wpAnyH_take (i := 3) (oi := { dst := some 56, op := Op.load 24 (Operand.tmp 3), type := 24, pos := "law.go:107", after := #[{ on := 2, ground := Ground.guard }], guard := some (2, true) }) (v := (.agg #[u1, x1])) rfl (by kernel_rfl) (by kernel_rfl) (by kernel_rfl) (fun _ _ _ h => h) (Or.inl ⟨by rfl, ?_⟩) (by assumption) ?_
          · intro w hSw
            try dsimp only at hSw
            go_simp
          try simp only [Act.put, List.setIfInBounds_toArray, List.set_cons_zero, List.set_cons_succ]
          refine wpAnyH_take (i := 4) (oi := { dst := some 57, op := Op.load 24 (Operand.tmp 7), type := 24, pos := "law.go:107", after := #[{ on := 2, ground := Ground.guard }], guard := some (2, true) }) (v := (.agg #[(.slice jao JS.length jac), (.slice jbo JI.length jbc)])) rfl (by kernel_rfl) (by kernel_rfl) (by kernel_rfl) (fun _ _ _ h => h) (Or.inl ⟨by rfl, ?_⟩) (by assumption) ?_
          · intro w hSw
            try dsimp only at hSw
            go_simp
          try simp only [Act.put, List.setIfInBounds_toArray, List.set_cons_zero, List.set_cons_succ]
          refine wpAnyH_ready (rs := [5]) (by kernel_rfl) (by simp) ?_
          refine AllReadyH.cons (o := { dst := some 58, op := Op.call { callee := Callee.value (Operand.func 23), args := #[Operand.tmp 56, Operand.tmp 57], argTypes := #[24, 24] }, type := 4, pos := "law.go:107", after := #[{ on := 3, ground := Ground.data }, { on := 4, ground := Ground.data }, { on := 2, ground := Ground.chain }, { on := 2, ground := Ground.guard }], guard := some (2, true) }) rfl (fun K hK => ?_) AllReadyH.nil
          go_simp
          refine (Faj.out _ HB.out).mono ?_
          clear c1 c2 c3 c4 c5 c6 j1 j2 e1 e2
          rintro e w' ⟨rfl, h'⟩
          have HBn := hid (HB.out.trans (h'.mono HB.out.size))
          clear HB h'
          have HB := HBn
          clear HBn
          obtain ⟨c1, c2⟩ := HV1.out.below HB.out
          obtain ⟨c3, c4⟩ := HV2.out.below HB.out
          obtain ⟨c5, c6⟩ := HV3.out.below HB.out
          obtain ⟨j1, j2⟩ := HJV.out.below HB.out
          obtain ⟨e1, e2⟩ := HMV.out.below HB.out
          try go_wp2_with fail
          refine hK.out _ _ ?_ (fun hHeld => ?_)
          · first | (refine ⟨?_, ?_, ?_, ?_, ?_, ?_, ?_, ?_⟩ <;> first | assumption | go_keep)
          clear hK K
          try simp only [Act.put, List.setIfInBounds_toArray, List.set_cons_zero, List.set_cons_succ]
          refine wpAnyH_take (i := 6) (oi := { dst := some 59, op := Op.unOp UnOp.not 4 (Operand.tmp 58), type := 4, pos := "law.go:107", after := #[{ on := 5, ground := Ground.data }, { on := 2, ground := Ground.guard }], guard := some (2, true) }) (v := (.bool false)) rfl (by kernel_rfl) (by kernel_rfl) (by kernel_rfl) (fun _ _ _ h => h) (Or.inl ⟨by rfl, ?_⟩) (by assumption) ?_
          · intro w hSw
            try dsimp only at hSw
            go_simp
          try simp only [Act.put, List.setIfInBounds_toArray, List.set_cons_zero, List.set_cons_succ]
          refine wpAnyH_take (i := 7) (oi := { dst := some 60, op := Op.move (Operand.tmp 59), type := 4, pos := "law.go:107", after := #[{ on := 6, ground := Ground.data }, { on := 5, ground := Ground.chain }, { on := 2, ground := Ground.guard }], guard := some (2, true) }) (v := (.bool false)) rfl (by kernel_rfl) (by kernel_rfl) (by kernel_rfl) (fun _ _ _ h => h) (Or.inl ⟨by rfl, ?_⟩) (by assumption) ?_
          · intro w hSw
            try dsimp only at hSw
            go_simp
          try simp only [Act.put, List.setIfInBounds_toArray, List.set_cons_zero, List.set_cons_succ]
          refine wpAnyH_take (i := 8) (oi := { dst := some 61, op := Op.load 24 (Operand.tmp 4), type := 24, pos := "law.go:107", after := #[{ on := 7, ground := Ground.guard }], guard := some (7, false) }) (v := (.agg #[u2, x2])) rfl (by kernel_rfl) (by kernel_rfl) (by kernel_rfl) (fun _ _ _ h => h) (Or.inl ⟨by rfl, ?_⟩) (by assumption) ?_
          · intro w hSw
            try dsimp only at hSw
            go_simp
          try simp only [Act.put, List.setIfInBounds_toArray, List.set_cons_zero, List.set_cons_succ]
          refine wpAnyH_take (i := 9) (oi := { dst := some 62, op := Op.load 24 (Operand.tmp 7), type := 24, pos := "law.go:107", after := #[{ on := 7, ground := Ground.guard }], guard := some (7, false) }) (v := (.agg #[(.slice jao JS.length jac), (.slice jbo JI.length jbc)])) rfl (by kernel_rfl) (by kernel_rfl) (by kernel_rfl) (fun _ _ _ h => h) (Or.inl ⟨by rfl, ?_⟩) (by assumption) ?_
          · intro w hSw
            try dsimp only at hSw
            go_simp
          try simp only [Act.put, List.setIfInBounds_toArray, List.set_cons_zero, List.set_cons_succ]
          refine wpAnyH_ready (rs := [10]) (by kernel_rfl) (by simp) ?_
          refine AllReadyH.cons (o := { dst := some 63, op := Op.call { callee := Callee.value (Operand.func 23), args := #[Operand.tmp 61, Operand.tmp 62], argTypes := #[24, 24] }, type := 4, pos := "law.go:107", after := #[{ on := 8, ground := Ground.data }, { on := 9, ground := Ground.data }, { on := 7, ground := Ground.chain }, { on := 7, ground := Ground.guard }], guard := some (7, false) }) rfl (fun K hK => ?_) AllReadyH.nil
          go_simp
          refine (Fbj.out _ HB.out).mono ?_
          clear c1 c2 c3 c4 c5 c6 j1 j2 e1 e2
          rintro e w' ⟨rfl, h'⟩
          have HBn := hid (HB.out.trans (h'.mono HB.out.size))
          clear HB h'
          have HB := HBn
          clear HBn
          obtain ⟨c1, c2⟩ := HV1.out.below HB.out
          obtain ⟨c3, c4⟩ := HV2.out.below HB.out
          obtain ⟨c5, c6⟩ := HV3.out.below HB.out
          obtain ⟨j1, j2⟩ := HJV.out.below HB.out
          obtain ⟨e1, e2⟩ := HMV.out.below HB.out
          try go_wp2_with fail
          refine hK.out _ _ ?_ (fun hHeld => ?_)
          · first | (refine ⟨?_, ?_, ?_, ?_, ?_, ?_, ?_, ?_⟩ <;> first | assumption | go_keep)
          clear hK K
          try simp only [Act.put, List.setIfInBounds_toArray, List.set_cons_zero, List.set_cons_succ]
          refine wpAnyH_take (i := 11) (oi := { dst := some 64, op := Op.unOp UnOp.not 4 (Operand.tmp 63), type := 4, pos := "law.go:107", after := #[{ on := 10, ground := Ground.data }, { on := 7, ground := Ground.guard }], guard := some (7, false) }) (v := (.bool false)) rfl (by kernel_rfl) (by kernel_rfl) (by kernel_rfl) (fun _ _ _ h => h) (Or.inl ⟨by rfl, ?_⟩) (by assumption) ?_
          · intro w hSw
            try dsimp only at hSw
            go_simp
          try simp only [Act.put, List.setIfInBounds_toArray, List.set_cons_zero, List.set_cons_succ]
          refine wpAnyH_take (i := 12) (oi := { dst := some 65, op := Op.pick (Operand.tmp 60) (Operand.const (Value.bool true)) (Operand.tmp 64), type := 4, pos := "law.go:107", after := #[{ on := 7, ground := Ground.data }, { on := 11, ground := Ground.data }, { on := 2, ground := Ground.guard }], guard := some (2, true) }) (v := (.bool false)) rfl (by kernel_rfl) (by kernel_rfl) (by kernel_rfl) (fun _ _ _ h => h) (Or.inl ⟨by rfl, ?_⟩) (by assumption) ?_
          · intro w hSw
            try dsimp only at hSw
            go_simp
          try simp only [Act.put, List.setIfInBounds_toArray, List.set_cons_zero, List.set_cons_succ]
          refine wpAnyH_take (i := 13) (oi := { dst := some 66, op := Op.move (Operand.tmp 65), type := 4, pos := "law.go:107", after := #[{ on := 12, ground := Ground.data }, { on := 10, ground := Ground.chain }, { on := 2, ground := Ground.guard }], guard := some (2, true) }) (v := (.bool false)) rfl (by kernel_rfl) (by kernel_rfl) (by kernel_rfl) (fun _ _ _ h => h) (Or.inl ⟨by rfl, ?_⟩) (by assumption) ?_
          · intro w hSw
            try dsimp only at hSw
            go_simp
          try simp only [Act.put, List.setIfInBounds_toArray, List.set_cons_zero, List.set_cons_succ]
          refine wpAnyH_take (i := 14) (oi := { dst := some 67, op := Op.load 24 (Operand.tmp 3), type := 24, pos := "law.go:107", after := #[{ on := 13, ground := Ground.guard }], guard := some (13, false) }) (v := (.agg #[u1, x1])) rfl (by kernel_rfl) (by kernel_rfl) (by kernel_rfl) (fun _ _ _ h => h) (Or.inl ⟨by rfl, ?_⟩) (by assumption) ?_
          · intro w hSw
            try dsimp only at hSw
            go_simp
          try simp only [Act.put, List.setIfInBounds_toArray, List.set_cons_zero, List.set_cons_succ]
          refine wpAnyH_take (i := 15) (oi := { dst := some 68, op := Op.load 24 (Operand.tmp 5), type := 24, pos := "law.go:107", after := #[{ on := 13, ground := Ground.guard }], guard := some (13, false) }) (v := (.agg #[u3, x3])) rfl (by kernel_rfl) (by kernel_rfl) (by kernel_rfl) (fun _ _ _ h => h) (Or.inl ⟨by rfl, ?_⟩) (by assumption) ?_
          · intro w hSw
            try dsimp only at hSw
            go_simp
          try simp only [Act.put, List.setIfInBounds_toArray, List.set_cons_zero, List.set_cons_succ]
          refine wpAnyH_take (i := 22) (oi := { dst := some 75, op := Op.load 24 (Operand.tmp 7), type := 24, pos := "law.go:107", after := #[{ on := 13, ground := Ground.guard }], guard := some (13, false) }) (v := (.agg #[(.slice jao JS.length jac), (.slice jbo JI.length jbc)])) rfl (by kernel_rfl) (by kernel_rfl) (by kernel_rfl) (fun _ _ _ h => h) (Or.inl ⟨by rfl, ?_⟩) (by assumption) ?_
          · intro w hSw
            try dsimp only at hSw
            go_simp
          try simp only [Act.put, List.setIfInBounds_toArray, List.set_cons_zero, List.set_cons_succ]
          refine wpAnyH_take (i := 23) (oi := { dst := some 76, op := Op.load 24 (Operand.tmp 5), type := 24, pos := "law.go:107", after := #[{ on := 13, ground := Ground.guard }], guard := some (13, false) }) (v := (.agg #[u3, x3])) rfl (by kernel_rfl) (by kernel_rfl) (by kernel_rfl) (fun _ _ _ h => h) (Or.inl ⟨by rfl, ?_⟩) (by assumption) ?_
          · intro w hSw
            try dsimp only at hSw
            go_simp
          try simp only [Act.put, List.setIfInBounds_toArray, List.set_cons_zero, List.set_cons_succ]
          refine wpAnyH_ready (rs := [16]) (by kernel_rfl) (by simp) ?_
          refine AllReadyH.cons (o := { dst := some 69, op := Op.call { callee := Callee.value (Operand.func 23), args := #[Operand.tmp 67, Operand.tmp 68], argTypes := #[24, 24] }, type := 4, pos := "law.go:107", after := #[{ on := 14, ground := Ground.data }, { on := 15, ground := Ground.data }, { on := 13, ground := Ground.chain }, { on := 13, ground := Ground.guard }], guard := some (13, false) }) rfl (fun K hK => ?_) AllReadyH.nil
          go_simp
          refine (Fac.out _ HB.out).mono ?_
          clear c1 c2 c3 c4 c5 c6 j1 j2 e1 e2
          rintro e w' ⟨rfl, h'⟩
          have HBn := hid (HB.out.trans (h'.mono HB.out.size))
          clear HB h'
          have HB := HBn
          clear HBn
          obtain ⟨c1, c2⟩ := HV1.out.below HB.out
          obtain ⟨c3, c4⟩ := HV2.out.below HB.out
          obtain ⟨c5, c6⟩ := HV3.out.below HB.out
          obtain ⟨j1, j2⟩ := HJV.out.below HB.out
          obtain ⟨e1, e2⟩ := HMV.out.below HB.out
          try go_wp2_with fail
          refine hK.out _ _ ?_ (fun hHeld => ?_)
          · first | (refine ⟨?_, ?_, ?_, ?_, ?_, ?_, ?_, ?_⟩ <;> first | assumption | go_keep)
          clear hK K
          try simp only [Act.put, List.setIfInBounds_toArray, List.set_cons_zero, List.set_cons_succ]
          refine wpAnyH_take (i := 17) (oi := { dst := some 70, op := Op.move (Operand.tmp 69), type := 4, pos := "law.go:107", after := #[{ on := 16, ground := Ground.data }, { on := 16, ground := Ground.chain }, { on := 13, ground := Ground.guard }], guard := some (13, false) }) (v := (.bool true)) rfl (by kernel_rfl) (by kernel_rfl) (by kernel_rfl) (fun _ _ _ h => h) (Or.inl ⟨by rfl, ?_⟩) (by assumption) ?_
          · intro w hSw
            try dsimp only at hSw
            go_simp
          try simp only [Act.put, List.setIfInBounds_toArray, List.set_cons_zero, List.set_cons_succ]
          refine wpAnyH_take (i := 18) (oi := { dst := some 71, op := Op.load 24 (Operand.tmp 4), type := 24, pos := "law.go:107", after := #[{ on := 17, ground := Ground.guard }], guard := some (17, true) }) (v := (.agg #[u2, x2])) rfl (by kernel_rfl) (by kernel_rfl) (by kernel_rfl) (fun _ _ _ h => h) (Or.inl ⟨by rfl, ?_⟩) (by assumption) ?_
          · intro w hSw
            try dsimp only at hSw
            go_simp
          try simp only [Act.put, List.setIfInBounds_toArray, List.set_cons_zero, List.set_cons_succ]
          refine wpAnyH_take (i := 19) (oi := { dst := some 72, op := Op.load 24 (Operand.tmp 5), type := 24, pos := "law.go:107", after := #[{ on := 17, ground := Ground.guard }], guard := some (17, true) }) (v := (.agg #[u3, x3])) rfl (by kernel_rfl) (by kernel_rfl) (by kernel_rfl) (fun _ _ _ h => h) (Or.inl ⟨by rfl, ?_⟩) (by assumption) ?_
          · intro w hSw
            try dsimp only at hSw
            go_simp
          try simp only [Act.put, List.setIfInBounds_toArray, List.set_cons_zero, List.set_cons_succ]
          refine wpAnyH_ready (rs := [20]) (by kernel_rfl) (by simp) ?_
          refine AllReadyH.cons (o := { dst := some 73, op := Op.call { callee := Callee.value (Operand.func 23), args := #[Operand.tmp 71, Operand.tmp 72], argTypes := #[24, 24] }, type := 4, pos := "law.go:107", after := #[{ on := 18, ground := Ground.data }, { on := 19, ground := Ground.data }, { on := 17, ground := Ground.chain }, { on := 17, ground := Ground.guard }], guard := some (17, true) }) rfl (fun K hK => ?_) AllReadyH.nil
          go_simp
          refine (Fbc.out _ HB.out).mono ?_
          clear c1 c2 c3 c4 c5 c6 j1 j2 e1 e2
          rintro e w' ⟨rfl, h'⟩
          have HBn := hid (HB.out.trans (h'.mono HB.out.size))
          clear HB h'
          have HB := HBn
          clear HBn
          obtain ⟨c1, c2⟩ := HV1.out.below HB.out
          obtain ⟨c3, c4⟩ := HV2.out.below HB.out
          obtain ⟨c5, c6⟩ := HV3.out.below HB.out
          obtain ⟨j1, j2⟩ := HJV.out.below HB.out
          obtain ⟨e1, e2⟩ := HMV.out.below HB.out
          try go_wp2_with fail
          refine hK.out _ _ ?_ (fun hHeld => ?_)
          · first | (refine ⟨?_, ?_, ?_, ?_, ?_, ?_, ?_, ?_⟩ <;> first | assumption | go_keep)
          clear hK K
          try simp only [Act.put, List.setIfInBounds_toArray, List.set_cons_zero, List.set_cons_succ]
          refine wpAnyH_take (i := 21) (oi := { dst := some 74, op := Op.pick (Operand.tmp 70) (Operand.tmp 73) (Operand.const (Value.bool false)), type := 4, pos := "law.go:107", after := #[{ on := 17, ground := Ground.data }, { on := 20, ground := Ground.data }, { on := 13, ground := Ground.guard }], guard := some (13, false) }) (v := (.bool true)) rfl (by kernel_rfl) (by kernel_rfl) (by kernel_rfl) (fun _ _ _ h => h) (Or.inl ⟨by rfl, ?_⟩) (by assumption) ?_
          · intro w hSw
            try dsimp only at hSw
            go_simp
          try simp only [Act.put, List.setIfInBounds_toArray, List.set_cons_zero, List.set_cons_succ]
          refine wpAnyH_ready (rs := [24]) (by kernel_rfl) (by simp) ?_
          refine AllReadyH.cons (o := { dst := some 77, op := Op.call { callee := Callee.value (Operand.func 23), args := #[Operand.tmp 75, Operand.tmp 76], argTypes := #[24, 24] }, type := 4, pos := "law.go:107", after := #[{ on := 22, ground := Ground.data }, { on := 23, ground := Ground.data }, { on := 20, ground := Ground.chain }, { on := 13, ground := Ground.guard }], guard := some (13, false) }) rfl (fun K hK => ?_) AllReadyH.nil
          go_simp
          refine (Fjc.out _ HB.out).mono ?_
          clear c1 c2 c3 c4 c5 c6 j1 j2 e1 e2
          rintro e w' ⟨rfl, h'⟩
          have HBn := hid (HB.out.trans (h'.mono HB.out.size))
          clear HB h'
          have HB := HBn
          clear HBn
          obtain ⟨c1, c2⟩ := HV1.out.below HB.out
          obtain ⟨c3, c4⟩ := HV2.out.below HB.out
          obtain ⟨c5, c6⟩ := HV3.out.below HB.out
          obtain ⟨j1, j2⟩ := HJV.out.below HB.out
          obtain ⟨e1, e2⟩ := HMV.out.below HB.out
          try go_wp2_with fail
          refine hK.out _ _ ?_ (fun hHeld => ?_)
          · first | (refine ⟨?_, ?_, ?_, ?_, ?_, ?_, ?_, ?_⟩ <;> first | assumption | go_keep)
          clear hK K
          try simp only [Act.put, List.setIfInBounds_toArray, List.set_cons_zero, List.set_cons_succ]
          refine wpAnyH_take (i := 25) (oi := { dst := some 78, op := Op.binOp BinOp.neq 4 (Operand.tmp 74) (Operand.tmp 77) 4, type := 4, pos := "law.go:107", after := #[{ on := 21, ground := Ground.data }, { on := 24, ground := Ground.data }, { on := 13, ground := Ground.guard }], guard := some (13, false) }) (v := (.bool false)) rfl (by kernel_rfl) (by kernel_rfl) (by kernel_rfl) (fun _ _ _ h => h) (Or.inl ⟨by rfl, ?_⟩) (by assumption) ?_
          · intro w hSw
            try dsimp only at hSw
            go_simp
          try simp only [Act.put, List.setIfInBounds_toArray, List.set_cons_zero, List.set_cons_succ]
          refine wpAnyH_take (i := 26) (oi := { dst := some 79, op := Op.pick (Operand.tmp 66) (Operand.const (Value.bool true)) (Operand.tmp 78), type := 4, pos := "law.go:107", after := #[{ on := 13, ground := Ground.data }, { on := 25, ground := Ground.data }, { on := 2, ground := Ground.guard }], guard := some (2, true) }) (v := (.bool false)) rfl (by kernel_rfl) (by kernel_rfl) (by kernel_rfl) (fun _ _ _ h => h) (Or.inl ⟨by rfl, ?_⟩) (by assumption) ?_
          · intro w hSw
            try dsimp only at hSw
            go_simp
          try simp only [Act.put, List.setIfInBounds_toArray, List.set_cons_zero, List.set_cons_succ]
          refine wpAnyH_take (i := 27) (oi := { dst := some 80, op := Op.pick (Operand.tmp 55) (Operand.tmp 79) (Operand.const (Value.bool false)), type := 4, pos := "law.go:107", after := #[{ on := 2, ground := Ground.data }, { on := 26, ground := Ground.data }], guard := none }) (v := (.bool false)) rfl (by kernel_rfl) (by kernel_rfl) (by kernel_rfl) (fun _ _ _ h => h) (Or.inl ⟨by rfl, ?_⟩) (by assumption) ?_
          · intro w hSw
            try dsimp only at hSw
            go_simp
          try simp only [Act.put, List.setIfInBounds_toArray, List.set_cons_zero, List.set_cons_succ]
          refine wpAnyH_done (by kernel_rfl) ?_ _
          refine NoPanic.normal ?_
          go_wp2_with fail
          go_meet
          exact ⟨rfl, HB.out⟩
    · have HBn := hid (Below.drew HB.out)
      clear HB
      have HB := HBn
      clear HBn
      refine wp_region_noPanic ?_
      refine wp_region_held_drew (S := (fun w' => w'.cell? ⟨w.heap.size, 0, none⟩ = some u1 ∧ w'.cell? ⟨w.heap.size, 1, none⟩ = some x1 ∧ w'.cell? ⟨w.heap.size + 1, 0, none⟩ = some u2 ∧ w'.cell? ⟨w.heap.size + 1, 1, none⟩ = some x2 ∧ w'.cell? ⟨w.heap.size + 1 + 1, 0, none⟩ = some u3 ∧ w'.cell? ⟨w.heap.size + 1 + 1, 1, none⟩ = some x3 ∧ w'.cell? ⟨pj, 0, none⟩ = some (.slice jao JS.length jac) ∧ w'.cell? ⟨pj, 1, none⟩ = some (.slice jbo JI.length jbc))) (by kernel_rfl) ?_ (fun hHeld => ?_)
      · first | (refine ⟨?_, ?_, ?_, ?_, ?_, ?_, ?_, ?_⟩ <;> first | assumption | go_keep)
      refine wpAnyH_take (i := 0) (oi := { dst := some 53, op := Op.move (Operand.tmp 8), type := 26, pos := "law.go:107", after := #[], guard := none }) (v := (.int .i64 2)) rfl (by kernel_rfl) (by kernel_rfl) (by kernel_rfl) (fun _ _ _ h => h) (Or.inl ⟨by rfl, ?_⟩) (by assumption) ?_
      · intro w hSw
        try dsimp only at hSw
        go_simp
      try simp only [Act.put, List.setIfInBounds_toArray, List.set_cons_zero, List.set_cons_succ]
      refine wpAnyH_take (i := 1) (oi := { dst := some 54, op := Op.binOp BinOp.eql 26 (Operand.tmp 53) (Operand.const (Value.int IntKind.i64 0)) 26, type := 4, pos := "law.go:107", after := #[{ on := 0, ground := Ground.data }], guard := none }) (v := (.bool false)) rfl (by kernel_rfl) (by kernel_rfl) (by kernel_rfl) (fun _ _ _ h => h) (Or.inl ⟨by rfl, ?_⟩) (by assumption) ?_
      · intro w hSw
        try dsimp only at hSw
        go_simp
      try simp only [Act.put, List.setIfInBounds_toArray, List.set_cons_zero, List.set_cons_succ]
      refine wpAnyH_take (i := 2) (oi := { dst := some 55, op := Op.move (Operand.tmp 54), type := 4, pos := "law.go:107", after := #[{ on := 1, ground := Ground.data }], guard := none }) (v := (.bool false)) rfl (by kernel_rfl) (by kernel_rfl) (by kernel_rfl) (fun _ _ _ h => h) (Or.inl ⟨by rfl, ?_⟩) (by assumption) ?_
      · intro w hSw
        try dsimp only at hSw
        go_simp
      try simp only [Act.put, List.setIfInBounds_toArray, List.set_cons_zero, List.set_cons_succ]
      refine wpAnyH_take (i := 3) (oi := { dst := some 56, op := Op.load 24 (Operand.tmp 3), type := 24, pos := "law.go:107", after := #[{ on := 2, ground := Ground.guard }], guard := some (2, true) }) (v := undef) rfl (by kernel_rfl) (by kernel_rfl) (by kernel_rfl) (fun _ _ _ h => h) (Or.inr ⟨by rfl, rfl⟩) (by assumption) ?_
      try simp only [Act.put, List.setIfInBounds_toArray, List.set_cons_zero, List.set_cons_succ]
      refine wpAnyH_take (i := 4) (oi := { dst := some 57, op := Op.load 24 (Operand.tmp 7), type := 24, pos := "law.go:107", after := #[{ on := 2, ground := Ground.guard }], guard := some (2, true) }) (v := undef) rfl (by kernel_rfl) (by kernel_rfl) (by kernel_rfl) (fun _ _ _ h => h) (Or.inr ⟨by rfl, rfl⟩) (by assumption) ?_
      try simp only [Act.put, List.setIfInBounds_toArray, List.set_cons_zero, List.set_cons_succ]
      refine wpAnyH_take (i := 5) (oi := { dst := some 58, op := Op.call { callee := Callee.value (Operand.func 23), args := #[Operand.tmp 56, Operand.tmp 57], argTypes := #[24, 24] }, type := 4, pos := "law.go:107", after := #[{ on := 3, ground := Ground.data }, { on := 4, ground := Ground.data }, { on := 2, ground := Ground.chain }, { on := 2, ground := Ground.guard }], guard := some (2, true) }) (v := undef) rfl (by kernel_rfl) (by kernel_rfl) (by kernel_rfl) (fun _ _ _ h => h) (Or.inr ⟨by rfl, rfl⟩) (by assumption) ?_
      try simp only [Act.put, List.setIfInBounds_toArray, List.set_cons_zero, List.set_cons_succ]
      refine wpAnyH_take (i := 6) (oi := { dst := some 59, op := Op.unOp UnOp.not 4 (Operand.tmp 58), type := 4, pos := "law.go:107", after := #[{ on := 5, ground := Ground.data }, { on := 2, ground := Ground.guard }], guard := some (2, true) }) (v := undef) rfl (by kernel_rfl) (by kernel_rfl) (by kernel_rfl) (fun _ _ _ h => h) (Or.inr ⟨by rfl, rfl⟩) (by assumption) ?_
      try simp only [Act.put, List.setIfInBounds_toArray, List.set_cons_zero, List.set_cons_succ]
      refine wpAnyH_take (i := 7) (oi := { dst := some 60, op := Op.move (Operand.tmp 59), type := 4, pos := "law.go:107", after := #[{ on := 6, ground := Ground.data }, { on := 5, ground := Ground.chain }, { on := 2, ground := Ground.guard }], guard := some (2, true) }) (v := undef) rfl (by kernel_rfl) (by kernel_rfl) (by kernel_rfl) (fun _ _ _ h => h) (Or.inr ⟨by rfl, rfl⟩) (by assumption) ?_
      try simp only [Act.put, List.setIfInBounds_toArray, List.set_cons_zero, List.set_cons_succ]
      refine wpAnyH_take (i := 8) (oi := { dst := some 61, op := Op.load 24 (Operand.tmp 4), type := 24, pos := "law.go:107", after := #[{ on := 7, ground := Ground.guard }], guard := some (7, false) }) (v := undef) rfl (by kernel_rfl) (by kernel_rfl) (by kernel_rfl) (fun _ _ _ h => h) (Or.inr ⟨by rfl, rfl⟩) (by assumption) ?_
      try simp only [Act.put, List.setIfInBounds_toArray, List.set_cons_zero, List.set_cons_succ]
      refine wpAnyH_take (i := 9) (oi := { dst := some 62, op := Op.load 24 (Operand.tmp 7), type := 24, pos := "law.go:107", after := #[{ on := 7, ground := Ground.guard }], guard := some (7, false) }) (v := undef) rfl (by kernel_rfl) (by kernel_rfl) (by kernel_rfl) (fun _ _ _ h => h) (Or.inr ⟨by rfl, rfl⟩) (by assumption) ?_
      try simp only [Act.put, List.setIfInBounds_toArray, List.set_cons_zero, List.set_cons_succ]
      refine wpAnyH_take (i := 10) (oi := { dst := some 63, op := Op.call { callee := Callee.value (Operand.func 23), args := #[Operand.tmp 61, Operand.tmp 62], argTypes := #[24, 24] }, type := 4, pos := "law.go:107", after := #[{ on := 8, ground := Ground.data }, { on := 9, ground := Ground.data }, { on := 7, ground := Ground.chain }, { on := 7, ground := Ground.guard }], guard := some (7, false) }) (v := undef) rfl (by kernel_rfl) (by kernel_rfl) (by kernel_rfl) (fun _ _ _ h => h) (Or.inr ⟨by rfl, rfl⟩) (by assumption) ?_
      try simp only [Act.put, List.setIfInBounds_toArray, List.set_cons_zero, List.set_cons_succ]
      refine wpAnyH_take (i := 11) (oi := { dst := some 64, op := Op.unOp UnOp.not 4 (Operand.tmp 63), type := 4, pos := "law.go:107", after := #[{ on := 10, ground := Ground.data }, { on := 7, ground := Ground.guard }], guard := some (7, false) }) (v := undef) rfl (by kernel_rfl) (by kernel_rfl) (by kernel_rfl) (fun _ _ _ h => h) (Or.inr ⟨by rfl, rfl⟩) (by assumption) ?_
      try simp only [Act.put, List.setIfInBounds_toArray, List.set_cons_zero, List.set_cons_succ]
      refine wpAnyH_take (i := 12) (oi := { dst := some 65, op := Op.pick (Operand.tmp 60) (Operand.const (Value.bool true)) (Operand.tmp 64), type := 4, pos := "law.go:107", after := #[{ on := 7, ground := Ground.data }, { on := 11, ground := Ground.data }, { on := 2, ground := Ground.guard }], guard := some (2, true) }) (v := undef) rfl (by kernel_rfl) (by kernel_rfl) (by kernel_rfl) (fun _ _ _ h => h) (Or.inr ⟨by rfl, rfl⟩) (by assumption) ?_
      try simp only [Act.put, List.setIfInBounds_toArray, List.set_cons_zero, List.set_cons_succ]
      refine wpAnyH_take (i := 13) (oi := { dst := some 66, op := Op.move (Operand.tmp 65), type := 4, pos := "law.go:107", after := #[{ on := 12, ground := Ground.data }, { on := 10, ground := Ground.chain }, { on := 2, ground := Ground.guard }], guard := some (2, true) }) (v := undef) rfl (by kernel_rfl) (by kernel_rfl) (by kernel_rfl) (fun _ _ _ h => h) (Or.inr ⟨by rfl, rfl⟩) (by assumption) ?_
      try simp only [Act.put, List.setIfInBounds_toArray, List.set_cons_zero, List.set_cons_succ]
      refine wpAnyH_take (i := 14) (oi := { dst := some 67, op := Op.load 24 (Operand.tmp 3), type := 24, pos := "law.go:107", after := #[{ on := 13, ground := Ground.guard }], guard := some (13, false) }) (v := undef) rfl (by kernel_rfl) (by kernel_rfl) (by kernel_rfl) (fun _ _ _ h => h) (Or.inr ⟨by rfl, rfl⟩) (by assumption) ?_
      try simp only [Act.put, List.setIfInBounds_toArray, List.set_cons_zero, List.set_cons_succ]
      refine wpAnyH_take (i := 15) (oi := { dst := some 68, op := Op.load 24 (Operand.tmp 5), type := 24, pos := "law.go:107", after := #[{ on := 13, ground := Ground.guard }], guard := some (13, false) }) (v := undef) rfl (by kernel_rfl) (by kernel_rfl) (by kernel_rfl) (fun _ _ _ h => h) (Or.inr ⟨by rfl, rfl⟩) (by assumption) ?_
      try simp only [Act.put, List.setIfInBounds_toArray, List.set_cons_zero, List.set_cons_succ]
      refine wpAnyH_take (i := 16) (oi := { dst := some 69, op := Op.call { callee := Callee.value (Operand.func 23), args := #[Operand.tmp 67, Operand.tmp 68], argTypes := #[24, 24] }, type := 4, pos := "law.go:107", after := #[{ on := 14, ground := Ground.data }, { on := 15, ground := Ground.data }, { on := 13, ground := Ground.chain }, { on := 13, ground := Ground.guard }], guard := some (13, false) }) (v := undef) rfl (by kernel_rfl) (by kernel_rfl) (by kernel_rfl) (fun _ _ _ h => h) (Or.inr ⟨by rfl, rfl⟩) (by assumption) ?_
      try simp only [Act.put, List.setIfInBounds_toArray, List.set_cons_zero, List.set_cons_succ]
      refine wpAnyH_take (i := 17) (oi := { dst := some 70, op := Op.move (Operand.tmp 69), type := 4, pos := "law.go:107", after := #[{ on := 16, ground := Ground.data }, { on := 16, ground := Ground.chain }, { on := 13, ground := Ground.guard }], guard := some (13, false) }) (v := undef) rfl (by kernel_rfl) (by kernel_rfl) (by kernel_rfl) (fun _ _ _ h => h) (Or.inr ⟨by rfl, rfl⟩) (by assumption) ?_
      try simp only [Act.put, List.setIfInBounds_toArray, List.set_cons_zero, List.set_cons_succ]
      refine wpAnyH_take (i := 18) (oi := { dst := some 71, op := Op.load 24 (Operand.tmp 4), type := 24, pos := "law.go:107", after := #[{ on := 17, ground := Ground.guard }], guard := some (17, true) }) (v := undef) rfl (by kernel_rfl) (by kernel_rfl) (by kernel_rfl) (fun _ _ _ h => h) (Or.inr ⟨by rfl, rfl⟩) (by assumption) ?_
      try simp only [Act.put, List.setIfInBounds_toArray, List.set_cons_zero, List.set_cons_succ]
      refine wpAnyH_take (i := 19) (oi := { dst := some 72, op := Op.load 24 (Operand.tmp 5), type := 24, pos := "law.go:107", after := #[{ on := 17, ground := Ground.guard }], guard := some (17, true) }) (v := undef) rfl (by kernel_rfl) (by kernel_rfl) (by kernel_rfl) (fun _ _ _ h => h) (Or.inr ⟨by rfl, rfl⟩) (by assumption) ?_
      try simp only [Act.put, List.setIfInBounds_toArray, List.set_cons_zero, List.set_cons_succ]
      refine wpAnyH_take (i := 20) (oi := { dst := some 73, op := Op.call { callee := Callee.value (Operand.func 23), args := #[Operand.tmp 71, Operand.tmp 72], argTypes := #[24, 24] }, type := 4, pos := "law.go:107", after := #[{ on := 18, ground := Ground.data }, { on := 19, ground := Ground.data }, { on := 17, ground := Ground.chain }, { on := 17, ground := Ground.guard }], guard := some (17, true) }) (v := undef) rfl (by kernel_rfl) (by kernel_rfl) (by kernel_rfl) (fun _ _ _ h => h) (Or.inr ⟨by rfl, rfl⟩) (by assumption) ?_
      try simp only [Act.put, List.setIfInBounds_toArray, List.set_cons_zero, List.set_cons_succ]
      refine wpAnyH_take (i := 21) (oi := { dst := some 74, op := Op.pick (Operand.tmp 70) (Operand.tmp 73) (Operand.const (Value.bool false)), type := 4, pos := "law.go:107", after := #[{ on := 17, ground := Ground.data }, { on := 20, ground := Ground.data }, { on := 13, ground := Ground.guard }], guard := some (13, false) }) (v := undef) rfl (by kernel_rfl) (by kernel_rfl) (by kernel_rfl) (fun _ _ _ h => h) (Or.inr ⟨by rfl, rfl⟩) (by assumption) ?_
      try simp only [Act.put, List.setIfInBounds_toArray, List.set_cons_zero, List.set_cons_succ]
      refine wpAnyH_take (i := 22) (oi := { dst := some 75, op := Op.load 24 (Operand.tmp 7), type := 24, pos := "law.go:107", after := #[{ on := 13, ground := Ground.guard }], guard := some (13, false) }) (v := undef) rfl (by kernel_rfl) (by kernel_rfl) (by kernel_rfl) (fun _ _ _ h => h) (Or.inr ⟨by rfl, rfl⟩) (by assumption) ?_
      try simp only [Act.put, List.setIfInBounds_toArray, List.set_cons_zero, List.set_cons_succ]
      refine wpAnyH_take (i := 23) (oi := { dst := some 76, op := Op.load 24 (Operand.tmp 5), type := 24, pos := "law.go:107", after := #[{ on := 13, ground := Ground.guard }], guard := some (13, false) }) (v := undef) rfl (by kernel_rfl) (by kernel_rfl) (by kernel_rfl) (fun _ _ _ h => h) (Or.inr ⟨by rfl, rfl⟩) (by assumption) ?_
      try simp only [Act.put, List.setIfInBounds_toArray, List.set_cons_zero, List.set_cons_succ]
      refine wpAnyH_take (i := 24) (oi := { dst := some 77, op := Op.call { callee := Callee.value (Operand.func 23), args := #[Operand.tmp 75, Operand.tmp 76], argTypes := #[24, 24] }, type := 4, pos := "law.go:107", after := #[{ on := 22, ground := Ground.data }, { on := 23, ground := Ground.data }, { on := 20, ground := Ground.chain }, { on := 13, ground := Ground.guard }], guard := some (13, false) }) (v := undef) rfl (by kernel_rfl) (by kernel_rfl) (by kernel_rfl) (fun _ _ _ h => h) (Or.inr ⟨by rfl, rfl⟩) (by assumption) ?_
      try simp only [Act.put, List.setIfInBounds_toArray, List.set_cons_zero, List.set_cons_succ]
      refine wpAnyH_take (i := 25) (oi := { dst := some 78, op := Op.binOp BinOp.neq 4 (Operand.tmp 74) (Operand.tmp 77) 4, type := 4, pos := "law.go:107", after := #[{ on := 21, ground := Ground.data }, { on := 24, ground := Ground.data }, { on := 13, ground := Ground.guard }], guard := some (13, false) }) (v := undef) rfl (by kernel_rfl) (by kernel_rfl) (by kernel_rfl) (fun _ _ _ h => h) (Or.inr ⟨by rfl, rfl⟩) (by assumption) ?_
      try simp only [Act.put, List.setIfInBounds_toArray, List.set_cons_zero, List.set_cons_succ]
      refine wpAnyH_take (i := 26) (oi := { dst := some 79, op := Op.pick (Operand.tmp 66) (Operand.const (Value.bool true)) (Operand.tmp 78), type := 4, pos := "law.go:107", after := #[{ on := 13, ground := Ground.data }, { on := 25, ground := Ground.data }, { on := 2, ground := Ground.guard }], guard := some (2, true) }) (v := undef) rfl (by kernel_rfl) (by kernel_rfl) (by kernel_rfl) (fun _ _ _ h => h) (Or.inr ⟨by rfl, rfl⟩) (by assumption) ?_
      try simp only [Act.put, List.setIfInBounds_toArray, List.set_cons_zero, List.set_cons_succ]
      refine wpAnyH_take (i := 27) (oi := { dst := some 80, op := Op.pick (Operand.tmp 55) (Operand.tmp 79) (Operand.const (Value.bool false)), type := 4, pos := "law.go:107", after := #[{ on := 2, ground := Ground.data }, { on := 26, ground := Ground.data }], guard := none }) (v := (.bool false)) rfl (by kernel_rfl) (by kernel_rfl) (by kernel_rfl) (fun _ _ _ h => h) (Or.inl ⟨by rfl, ?_⟩) (by assumption) ?_
      · intro w hSw
        try dsimp only at hSw
        go_simp
      try simp only [Act.put, List.setIfInBounds_toArray, List.set_cons_zero, List.set_cons_succ]
      refine wpAnyH_done (by kernel_rfl) ?_ _
      refine NoPanic.normal ?_
      go_wp2_with fail
      go_meet
      exact ⟨rfl, HB.out⟩
  case rest =>
    obtain ⟨rfl, hcb⟩ := hcut
    have HBn := hid hcb
    clear c1 c2 c3 c4 c5 c6 j1 j2 e1 e2
    clear HB hcb
    have HB := HBn
    clear HBn
    obtain ⟨c1, c2⟩ := HV1.out.below HB.out
    obtain ⟨c3, c4⟩ := HV2.out.below HB.out
    obtain ⟨c5, c6⟩ := HV3.out.below HB.out
    obtain ⟨j1, j2⟩ := HJV.out.below HB.out
    obtain ⟨e1, e2⟩ := HMV.out.below HB.out
    go_wp2_with fail
    go_cut [108] from 81 to 108 (fun q wx => q = .bool false ∧ Below V.heap.size V wx)
    case first =>
      rcases KM.out with ⟨rfl, g1, g2, g3⟩ | rfl
      · subst g1
        subst g2
        cases fca
        · obtain rfl : fcm = false := g3.symm
          have HBn := hid (Below.drew HB.out)
          clear HB
          have HB := HBn
          clear HBn
          refine wp_region_noPanic ?_
          refine wp_region_held_drew (S := (fun w' => w'.cell? ⟨w.heap.size, 0, none⟩ = some u1 ∧ w'.cell? ⟨w.heap.size, 1, none⟩ = some x1 ∧ w'.cell? ⟨w.heap.size + 1, 0, none⟩ = some u2 ∧ w'.cell? ⟨w.heap.size + 1, 1, none⟩ = some x2 ∧ w'.cell? ⟨w.heap.size + 1 + 1, 0, none⟩ = some u3 ∧ w'.cell? ⟨w.heap.size + 1 + 1, 1, none⟩ = some x3 ∧ w'.cell? ⟨pm, 0, none⟩ = some (.slice mao MS.length mac) ∧ w'.cell? ⟨pm, 1, none⟩ = some (.slice mbo MI.length mbc))) (by kernel_rfl) ?_ (fun hHeld => ?_)
          · first | (refine ⟨?_, ?_, ?_, ?_, ?_, ?_, ?_, ?_⟩ <;> first | assumption | go_keep)
          refine wpAnyH_take (i := 0) (oi := { dst := some 81, op := Op.move (Operand.tmp 10), type := 26, pos := "law.go:110", after := #[], guard := none }) (v := (.int .i64 0)) rfl (by kernel_rfl) (by kernel_rfl) (by kernel_rfl) (fun _ _ _ h => h) (Or.inl ⟨by rfl, ?_⟩) (by assumption) ?_
          · intro w hSw
            try dsimp only at hSw
            go_simp
          try simp only [Act.put, List.setIfInBounds_toArray, List.set_cons_zero, List.set_cons_succ]
          refine wpAnyH_take (i := 1) (oi := { dst := some 82, op := Op.binOp BinOp.eql 26 (Operand.tmp 81) (Operand.const (Value.int IntKind.i64 0)) 26, type := 4, pos := "law.go:110", after := #[{ on := 0, ground := Ground.data }], guard := none }) (v := (.bool true)) rfl (by kernel_rfl) (by kernel_rfl) (by kernel_rfl) (fun _ _ _ h => h) (Or.inl ⟨by rfl, ?_⟩) (by assumption) ?_
          · intro w hSw
            try dsimp only at hSw
            go_simp
          try simp only [Act.put, List.setIfInBounds_toArray, List.set_cons_zero, List.set_cons_succ]
          refine wpAnyH_take (i := 2) (oi := { dst := some 83, op := Op.move (Operand.tmp 82), type := 4, pos := "law.go:110", after := #[{ on := 1, ground := Ground.data }], guard := none }) (v := (.bool true)) rfl (by kernel_rfl) (by kernel_rfl) (by kernel_rfl) (fun _ _ _ h => h) (Or.inl ⟨by rfl, ?_⟩) (by assumption) ?_
          · intro w hSw
            try dsimp only at hSw
            go_simp
          try simp only [Act.put, List.setIfInBounds_toArray, List.set_cons_zero, List.set_cons_succ]
          refine wpAnyH_take (i := 3) (oi := { dst := some 84, op := Op.load 24 (Operand.tmp 9), type := 24, pos := "law.go:110", after := #[{ on := 2, ground := Ground.guard }], guard := some (2, true) }) (v := (.agg #[(.slice mao MS.length mac), (.slice mbo MI.length mbc)])) rfl (by kernel_rfl) (by kernel_rfl) (by kernel_rfl) (fun _ _ _ h => h) (Or.inl ⟨by rfl, ?_⟩) (by assumption) ?_
          · intro w hSw
            try dsimp only at hSw
            go_simp
          try simp only [Act.put, List.setIfInBounds_toArray, List.set_cons_zero, List.set_cons_succ]
          refine wpAnyH_take (i := 4) (oi := { dst := some 85, op := Op.load 24 (Operand.tmp 3), type := 24, pos := "law.go:110", after := #[{ on := 2, ground := Ground.guard }], guard := some (2, true) }) (v := (.agg #[u1, x1])) rfl (by kernel_rfl) (by kernel_rfl) (by kernel_rfl) (fun _ _ _ h => h) (Or.inl ⟨by rfl, ?_⟩) (by assumption) ?_
          · intro w hSw
            try dsimp only at hSw
            go_simp
          try simp only [Act.put, List.setIfInBounds_toArray, List.set_cons_zero, List.set_cons_succ]
          refine wpAnyH_ready (rs := [5]) (by kernel_rfl) (by simp) ?_
          refine AllReadyH.cons (o := { dst := some 86, op := Op.call { callee := Callee.value (Operand.func 23), args := #[Operand.tmp 84, Operand.tmp 85], argTypes := #[24, 24] }, type := 4, pos := "law.go:110", after := #[{ on := 3, ground := Ground.data }, { on := 4, ground := Ground.data }, { on := 2, ground := Ground.chain }, { on := 2, ground := Ground.guard }], guard := some (2, true) }) rfl (fun K hK => ?_) AllReadyH.nil
          go_simp
          refine (Fma.out _ HB.out).mono ?_
          clear c1 c2 c3 c4 c5 c6 j1 j2 e1 e2
          rintro e w' ⟨rfl, h'⟩
          have HBn := hid (HB.out.trans (h'.mono HB.out.size))
          clear HB h'
          have HB := HBn
          clear HBn
          obtain ⟨c1, c2⟩ := HV1.out.below HB.out
          obtain ⟨c3, c4⟩ := HV2.out.below HB.out
          obtain ⟨c5, c6⟩ := HV3.out.below HB.out
          obtain ⟨j1, j2⟩ := HJV.out.below HB.out
          obtain ⟨e1, e2⟩ := HMV.out.below HB.out
          try go_wp2_with fail
          refine hK.out _ _ ?_ (fun hHeld => ?_)
          · first | (refine ⟨?_, ?_, ?_, ?_, ?_, ?_, ?_, ?_⟩ <;> first | assumption | go_keep)
          clear hK K
          try simp only [Act.put, List.setIfInBounds_toArray, List.set_cons_zero, List.set_cons_succ]
          refine wpAnyH_take (i := 6) (oi := { dst := some 87, op := Op.unOp UnOp.not 4 (Operand.tmp 86), type := 4, pos := "law.go:110", after := #[{ on := 5, ground := Ground.data }, { on := 2, ground := Ground.guard }], guard := some (2, true) }) (v := (.bool false)) rfl (by kernel_rfl) (by kernel_rfl) (by kernel_rfl) (fun _ _ _ h => h) (Or.inl ⟨by rfl, ?_⟩) (by assumption) ?_
          · intro w hSw
            try dsimp only at hSw
            go_simp
          try simp only [Act.put, List.setIfInBounds_toArray, List.set_cons_zero, List.set_cons_succ]
          refine wpAnyH_take (i := 7) (oi := { dst := some 88, op := Op.move (Operand.tmp 87), type := 4, pos := "law.go:110", after := #[{ on := 6, ground := Ground.data }, { on := 5, ground := Ground.chain }, { on := 2, ground := Ground.guard }], guard := some (2, true) }) (v := (.bool false)) rfl (by kernel_rfl) (by kernel_rfl) (by kernel_rfl) (fun _ _ _ h => h) (Or.inl ⟨by rfl, ?_⟩) (by assumption) ?_
          · intro w hSw
            try dsimp only at hSw
            go_simp
          try simp only [Act.put, List.setIfInBounds_toArray, List.set_cons_zero, List.set_cons_succ]
          refine wpAnyH_take (i := 8) (oi := { dst := some 89, op := Op.load 24 (Operand.tmp 9), type := 24, pos := "law.go:110", after := #[{ on := 7, ground := Ground.guard }], guard := some (7, false) }) (v := (.agg #[(.slice mao MS.length mac), (.slice mbo MI.length mbc)])) rfl (by kernel_rfl) (by kernel_rfl) (by kernel_rfl) (fun _ _ _ h => h) (Or.inl ⟨by rfl, ?_⟩) (by assumption) ?_
          · intro w hSw
            try dsimp only at hSw
            go_simp
          try simp only [Act.put, List.setIfInBounds_toArray, List.set_cons_zero, List.set_cons_succ]
          refine wpAnyH_take (i := 9) (oi := { dst := some 90, op := Op.load 24 (Operand.tmp 4), type := 24, pos := "law.go:110", after := #[{ on := 7, ground := Ground.guard }], guard := some (7, false) }) (v := (.agg #[u2, x2])) rfl (by kernel_rfl) (by kernel_rfl) (by kernel_rfl) (fun _ _ _ h => h) (Or.inl ⟨by rfl, ?_⟩) (by assumption) ?_
          · intro w hSw
            try dsimp only at hSw
            go_simp
          try simp only [Act.put, List.setIfInBounds_toArray, List.set_cons_zero, List.set_cons_succ]
          refine wpAnyH_ready (rs := [10]) (by kernel_rfl) (by simp) ?_
          refine AllReadyH.cons (o := { dst := some 91, op := Op.call { callee := Callee.value (Operand.func 23), args := #[Operand.tmp 89, Operand.tmp 90], argTypes := #[24, 24] }, type := 4, pos := "law.go:110", after := #[{ on := 8, ground := Ground.data }, { on := 9, ground := Ground.data }, { on := 7, ground := Ground.chain }, { on := 7, ground := Ground.guard }], guard := some (7, false) }) rfl (fun K hK => ?_) AllReadyH.nil
          go_simp
          refine (Fmb.out _ HB.out).mono ?_
          clear c1 c2 c3 c4 c5 c6 j1 j2 e1 e2
          rintro e w' ⟨rfl, h'⟩
          have HBn := hid (HB.out.trans (h'.mono HB.out.size))
          clear HB h'
          have HB := HBn
          clear HBn
          obtain ⟨c1, c2⟩ := HV1.out.below HB.out
          obtain ⟨c3, c4⟩ := HV2.out.below HB.out
          obtain ⟨c5, c6⟩ := HV3.out.below HB.out
          obtain ⟨j1, j2⟩ := HJV.out.below HB.out
          obtain ⟨e1, e2⟩ := HMV.out.below HB.out
          try go_wp2_with fail
          refine hK.out _ _ ?_ (fun hHeld => ?_)
          · first | (refine ⟨?_, ?_, ?_, ?_, ?_, ?_, ?_, ?_⟩ <;> first | assumption | go_keep)
          clear hK K
          try simp only [Act.put, List.setIfInBounds_toArray, List.set_cons_zero, List.set_cons_succ]
          refine wpAnyH_take (i := 11) (oi := { dst := some 92, op := Op.unOp UnOp.not 4 (Operand.tmp 91), type := 4, pos := "law.go:110", after := #[{ on := 10, ground := Ground.data }, { on := 7, ground := Ground.guard }], guard := some (7, false) }) (v := (.bool false)) rfl (by kernel_rfl) (by kernel_rfl) (by kernel_rfl) (fun _ _ _ h => h) (Or.inl ⟨by rfl, ?_⟩) (by assumption) ?_
          · intro w hSw
            try dsimp only at hSw
            go_simp
          try simp only [Act.put, List.setIfInBounds_toArray, List.set_cons_zero, List.set_cons_succ]
          refine wpAnyH_take (i := 12) (oi := { dst := some 93, op := Op.pick (Operand.tmp 88) (Operand.const (Value.bool true)) (Operand.tmp 92), type := 4, pos := "law.go:110", after := #[{ on := 7, ground := Ground.data }, { on := 11, ground := Ground.data }, { on := 2, ground := Ground.guard }], guard := some (2, true) }) (v := (.bool false)) rfl (by kernel_rfl) (by kernel_rfl) (by kernel_rfl) (fun _ _ _ h => h) (Or.inl ⟨by rfl, ?_⟩) (by assumption) ?_
          · intro w hSw
            try dsimp only at hSw
            go_simp
          try simp only [Act.put, List.setIfInBounds_toArray, List.set_cons_zero, List.set_cons_succ]
          refine wpAnyH_take (i := 13) (oi := { dst := some 94, op := Op.move (Operand.tmp 93), type := 4, pos := "law.go:110", after := #[{ on := 12, ground := Ground.data }, { on := 10, ground := Ground.chain }, { on := 2, ground := Ground.guard }], guard := some (2, true) }) (v := (.bool false)) rfl (by kernel_rfl) (by kernel_rfl) (by kernel_rfl) (fun _ _ _ h => h) (Or.inl ⟨by rfl, ?_⟩) (by assumption) ?_
          · intro w hSw
            try dsimp only at hSw
            go_simp
          try simp only [Act.put, List.setIfInBounds_toArray, List.set_cons_zero, List.set_cons_succ]
          refine wpAnyH_take (i := 14) (oi := { dst := some 95, op := Op.load 24 (Operand.tmp 5), type := 24, pos := "law.go:110", after := #[{ on := 13, ground := Ground.guard }], guard := some (13, false) }) (v := (.agg #[u3, x3])) rfl (by kernel_rfl) (by kernel_rfl) (by kernel_rfl) (fun _ _ _ h => h) (Or.inl ⟨by rfl, ?_⟩) (by assumption) ?_
          · intro w hSw
            try dsimp only at hSw
            go_simp
          try simp only [Act.put, List.setIfInBounds_toArray, List.set_cons_zero, List.set_cons_succ]
          refine wpAnyH_take (i := 15) (oi := { dst := some 96, op := Op.load 24 (Operand.tmp 3), type := 24, pos := "law.go:110", after := #[{ on := 13, ground := Ground.guard }], guard := some (13, false) }) (v := (.agg #[u1, x1])) rfl (by kernel_rfl) (by kernel_rfl) (by kernel_rfl) (fun _ _ _ h => h) (Or.inl ⟨by rfl, ?_⟩) (by assumption) ?_
          · intro w hSw
            try dsimp only at hSw
            go_simp
          try simp only [Act.put, List.setIfInBounds_toArray, List.set_cons_zero, List.set_cons_succ]
          refine wpAnyH_take (i := 22) (oi := { dst := some 103, op := Op.load 24 (Operand.tmp 5), type := 24, pos := "law.go:110", after := #[{ on := 13, ground := Ground.guard }], guard := some (13, false) }) (v := (.agg #[u3, x3])) rfl (by kernel_rfl) (by kernel_rfl) (by kernel_rfl) (fun _ _ _ h => h) (Or.inl ⟨by rfl, ?_⟩) (by assumption) ?_
          · intro w hSw
            try dsimp only at hSw
            go_simp
          try simp only [Act.put, List.setIfInBounds_toArray, List.set_cons_zero, List.set_cons_succ]
          refine wpAnyH_take (i := 23) (oi := { dst := some 104, op := Op.load 24 (Operand.tmp 9), type := 24, pos := "law.go:110", after := #[{ on := 13, ground := Ground.guard }], guard := some (13, false) }) (v := (.agg #[(.slice mao MS.length mac), (.slice mbo MI.length mbc)])) rfl (by kernel_rfl) (by kernel_rfl) (by kernel_rfl) (fun _ _ _ h => h) (Or.inl ⟨by rfl, ?_⟩) (by assumption) ?_
          · intro w hSw
            try dsimp only at hSw
            go_simp
          try simp only [Act.put, List.setIfInBounds_toArray, List.set_cons_zero, List.set_cons_succ]
          refine wpAnyH_ready (rs := [16]) (by kernel_rfl) (by simp) ?_
          refine AllReadyH.cons (o := { dst := some 97, op := Op.call { callee := Callee.value (Operand.func 23), args := #[Operand.tmp 95, Operand.tmp 96], argTypes := #[24, 24] }, type := 4, pos := "law.go:110", after := #[{ on := 14, ground := Ground.data }, { on := 15, ground := Ground.data }, { on := 13, ground := Ground.chain }, { on := 13, ground := Ground.guard }], guard := some (13, false) }) rfl (fun K hK => ?_) AllReadyH.nil
          go_simp
          refine (Fca.out _ HB.out).mono ?_
          clear c1 c2 c3 c4 c5 c6 j1 j2 e1 e2
          rintro e w' ⟨rfl, h'⟩
          have HBn := hid (HB.out.trans (h'.mono HB.out.size))
          clear HB h'
          have HB := HBn
          clear HBn
          obtain ⟨c1, c2⟩ := HV1.out.below HB.out
          obtain ⟨c3, c4⟩ := HV2.out.below HB.out
          obtain ⟨c5, c6⟩ := HV3.out.below HB.out
          obtain ⟨j1, j2⟩ := HJV.out.below HB.out
          obtain ⟨e1, e2⟩ := HMV.out.below HB.out
          try go_wp2_with fail
          refine hK.out _ _ ?_ (fun hHeld => ?_)
          · first | (refine ⟨?_, ?_, ?_, ?_, ?_, ?_, ?_, ?_⟩ <;> first | assumption | go_keep)
          clear hK K
          try simp only [Act.put, List.setIfInBounds_toArray, List.set_cons_zero, List.set_cons_succ]
          refine wpAnyH_take (i := 17) (oi := { dst := some 98, op := Op.move (Operand.tmp 97), type := 4, pos := "law.go:110", after := #[{ on := 16, ground := Ground.data }, { on := 16, ground := Ground.chain }, { on := 13, ground := Ground.guard }], guard := some (13, false) }) (v := (.bool false)) rfl (by kernel_rfl) (by kernel_rfl) (by kernel_rfl) (fun _ _ _ h => h) (Or.inl ⟨by rfl, ?_⟩) (by assumption) ?_
          · intro w hSw
            try dsimp only at hSw
            go_simp
          try simp only [Act.put, List.setIfInBounds_toArray, List.set_cons_zero, List.set_cons_succ]
          refine wpAnyH_take (i := 18) (oi := { dst := some 99, op := Op.load 24 (Operand.tmp 5), type := 24, pos := "law.go:110", after := #[{ on := 17, ground := Ground.guard }], guard := some (17, true) }) (v := undef) rfl (by kernel_rfl) (by kernel_rfl) (by kernel_rfl) (fun _ _ _ h => h) (Or.inr ⟨by rfl, rfl⟩) (by assumption) ?_
          try simp only [Act.put, List.setIfInBounds_toArray, List.set_cons_zero, List.set_cons_succ]
          refine wpAnyH_take (i := 19) (oi := { dst := some 100, op := Op.load 24 (Operand.tmp 4), type := 24, pos := "law.go:110", after := #[{ on := 17, ground := Ground.guard }], guard := some (17, true) }) (v := undef) rfl (by kernel_rfl) (by kernel_rfl) (by kernel_rfl) (fun _ _ _ h => h) (Or.inr ⟨by rfl, rfl⟩) (by assumption) ?_
          try simp only [Act.put, List.setIfInBounds_toArray, List.set_cons_zero, List.set_cons_succ]
          refine wpAnyH_take (i := 20) (oi := { dst := some 101, op := Op.call { callee := Callee.value (Operand.func 23), args := #[Operand.tmp 99, Operand.tmp 100], argTypes := #[24, 24] }, type := 4, pos := "law.go:110", after := #[{ on := 18, ground := Ground.data }, { on := 19, ground := Ground.data }, { on := 17, ground := Ground.chain }, { on := 17, ground := Ground.guard }], guard := some (17, true) }) (v := undef) rfl (by kernel_rfl) (by kernel_rfl) (by kernel_rfl) (fun _ _ _ h => h) (Or.inr ⟨by rfl, rfl⟩) (by assumption) ?_
          try simp only [Act.put, List.setIfInBounds_toArray, List.set_cons_zero, List.set_cons_succ]
          refine wpAnyH_take (i := 21) (oi := { dst := some 102, op := Op.pick (Operand.tmp 98) (Operand.tmp 101) (Operand.const (Value.bool false)), type := 4, pos := "law.go:110", after := #[{ on := 17, ground := Ground.data }, { on := 20, ground := Ground.data }, { on := 13, ground := Ground.guard }], guard := some (13, false) }) (v := (.bool false)) rfl (by kernel_rfl) (by kernel_rfl) (by kernel_rfl) (fun _ _ _ h => h) (Or.inl ⟨by rfl, ?_⟩) (by assumption) ?_
          · intro w hSw
            try dsimp only at hSw
            go_simp
          try simp only [Act.put, List.setIfInBounds_toArray, List.set_cons_zero, List.set_cons_succ]
          refine wpAnyH_ready (rs := [24]) (by kernel_rfl) (by simp) ?_
          refine AllReadyH.cons (o := { dst := some 105, op := Op.call { callee := Callee.value (Operand.func 23), args := #[Operand.tmp 103, Operand.tmp 104], argTypes := #[24, 24] }, type := 4, pos := "law.go:110", after := #[{ on := 22, ground := Ground.data }, { on := 23, ground := Ground.data }, { on := 20, ground := Ground.chain }, { on := 13, ground := Ground.guard }], guard := some (13, false) }) rfl (fun K hK => ?_) AllReadyH.nil
          go_simp
          refine (Fcm.out _ HB.out).mono ?_
          clear c1 c2 c3 c4 c5 c6 j1 j2 e1 e2
          rintro e w' ⟨rfl, h'⟩
          have HBn := hid (HB.out.trans (h'.mono HB.out.size))
          clear HB h'
          have HB := HBn
          clear HBn
          obtain ⟨c1, c2⟩ := HV1.out.below HB.out
          obtain ⟨c3, c4⟩ := HV2.out.below HB.out
          obtain ⟨c5, c6⟩ := HV3.out.below HB.out
          obtain ⟨j1, j2⟩ := HJV.out.below HB.out
          obtain ⟨e1, e2⟩ := HMV.out.below HB.out
          try go_wp2_with fail
          refine hK.out _ _ ?_ (fun hHeld => ?_)
          · first | (refine ⟨?_, ?_, ?_, ?_, ?_, ?_, ?_, ?_⟩ <;> first | assumption | go_keep)
          clear hK K
          try simp only [Act.put, List.setIfInBounds_toArray, List.set_cons_zero, List.set_cons_succ]
          refine wpAnyH_take (i := 25) (oi := { dst := some 106, op := Op.binOp BinOp.neq 4 (Operand.tmp 102) (Operand.tmp 105) 4, type := 4, pos := "law.go:110", after := #[{ on := 21, ground := Ground.data }, { on := 24, ground := Ground.data }, { on := 13, ground := Ground.guard }], guard := some (13, false) }) (v := (.bool false)) rfl (by kernel_rfl) (by kernel_rfl) (by kernel_rfl) (fun _ _ _ h => h) (Or.inl ⟨by rfl, ?_⟩) (by assumption) ?_
          · intro w hSw
            try dsimp only at hSw
            go_simp
          try simp only [Act.put, List.setIfInBounds_toArray, List.set_cons_zero, List.set_cons_succ]
          refine wpAnyH_take (i := 26) (oi := { dst := some 107, op := Op.pick (Operand.tmp 94) (Operand.const (Value.bool true)) (Operand.tmp 106), type := 4, pos := "law.go:110", after := #[{ on := 13, ground := Ground.data }, { on := 25, ground := Ground.data }, { on := 2, ground := Ground.guard }], guard := some (2, true) }) (v := (.bool false)) rfl (by kernel_rfl) (by kernel_rfl) (by kernel_rfl) (fun _ _ _ h => h) (Or.inl ⟨by rfl, ?_⟩) (by assumption) ?_
          · intro w hSw
            try dsimp only at hSw
            go_simp
          try simp only [Act.put, List.setIfInBounds_toArray, List.set_cons_zero, List.set_cons_succ]
          refine wpAnyH_take (i := 27) (oi := { dst := some 108, op := Op.pick (Operand.tmp 83) (Operand.tmp 107) (Operand.const (Value.bool false)), type := 4, pos := "law.go:110", after := #[{ on := 2, ground := Ground.data }, { on := 26, ground := Ground.data }], guard := none }) (v := (.bool false)) rfl (by kernel_rfl) (by kernel_rfl) (by kernel_rfl) (fun _ _ _ h => h) (Or.inl ⟨by rfl, ?_⟩) (by assumption) ?_
          · intro w hSw
            try dsimp only at hSw
            go_simp
          try simp only [Act.put, List.setIfInBounds_toArray, List.set_cons_zero, List.set_cons_succ]
          refine wpAnyH_done (by kernel_rfl) ?_ _
          refine NoPanic.normal ?_
          go_wp2_with fail
          go_meet
          exact ⟨rfl, HB.out⟩
        · cases fcb
          · obtain rfl : fcm = false := g3.symm
            have HBn := hid (Below.drew HB.out)
            clear HB
            have HB := HBn
            clear HBn
            refine wp_region_noPanic ?_
            refine wp_region_held_drew (S := (fun w' => w'.cell? ⟨w.heap.size, 0, none⟩ = some u1 ∧ w'.cell? ⟨w.heap.size, 1, none⟩ = some x1 ∧ w'.cell? ⟨w.heap.size + 1, 0, none⟩ = some u2 ∧ w'.cell? ⟨w.heap.size + 1, 1, none⟩ = some x2 ∧ w'.cell? ⟨w.heap.size + 1 + 1, 0, none⟩ = some u3 ∧ w'.cell? ⟨w.heap.size + 1 + 1, 1, none⟩ = some x3 ∧ w'.cell? ⟨pm, 0, none⟩ = some (.slice mao MS.length mac) ∧ w'.cell? ⟨pm, 1, none⟩ = some (.slice mbo MI.length mbc))) (by kernel_rfl) ?_ (fun hHeld => ?_)
            · first | (refine ⟨?_, ?_, ?_, ?_, ?_, ?_, ?_, ?_⟩ <;> first | assumption | go_keep)
            refine wpAnyH_take (i := 0) (oi := { dst := some 81, op := Op.move (Operand.tmp 10), type := 26, pos := "law.go:110", after := #[], guard := none }) (v := (.int .i64 0)) rfl (by kernel_rfl) (by kernel_rfl) (by kernel_rfl) (fun _ _ _ h => h) (Or.inl ⟨by rfl, ?_⟩) (by assumption) ?_
            · intro w hSw
              try dsimp only at hSw
              go_simp
            try simp only [Act.put, List.setIfInBounds_toArray, List.set_cons_zero, List.set_cons_succ]
            refine wpAnyH_take (i := 1) (oi := { dst := some 82, op := Op.binOp BinOp.eql 26 (Operand.tmp 81) (Operand.const (Value.int IntKind.i64 0)) 26, type := 4, pos := "law.go:110", after := #[{ on := 0, ground := Ground.data }], guard := none }) (v := (.bool true)) rfl (by kernel_rfl) (by kernel_rfl) (by kernel_rfl) (fun _ _ _ h => h) (Or.inl ⟨by rfl, ?_⟩) (by assumption) ?_
            · intro w hSw
              try dsimp only at hSw
              go_simp
            try simp only [Act.put, List.setIfInBounds_toArray, List.set_cons_zero, List.set_cons_succ]
            refine wpAnyH_take (i := 2) (oi := { dst := some 83, op := Op.move (Operand.tmp 82), type := 4, pos := "law.go:110", after := #[{ on := 1, ground := Ground.data }], guard := none }) (v := (.bool true)) rfl (by kernel_rfl) (by kernel_rfl) (by kernel_rfl) (fun _ _ _ h => h) (Or.inl ⟨by rfl, ?_⟩) (by assumption) ?_
            · intro w hSw
              try dsimp only at hSw
              go_simp
            try simp only [Act.put, List.setIfInBounds_toArray, List.set_cons_zero, List.set_cons_succ]
            refine wpAnyH_take (i := 3) (oi := { dst := some 84, op := Op.load 24 (Operand.tmp 9), type := 24, pos := "law.go:110", after := #[{ on := 2, ground := Ground.guard }], guard := some (2, true) }) (v := (.agg #[(.slice mao MS.length mac), (.slice mbo MI.length mbc)])) rfl (by kernel_rfl) (by kernel_rfl) (by kernel_rfl) (fun _ _ _ h => h) (Or.inl ⟨by rfl, ?_⟩) (by assumption) ?_
            · intro w hSw
              try dsimp only at hSw
              go_simp
            try simp only [Act.put, List.setIfInBounds_toArray, List.set_cons_zero, List.set_cons_succ]
            refine wpAnyH_take (i := 4) (oi := { dst := some 85, op := Op.load 24 (Operand.tmp 3), type := 24, pos := "law.go:110", after := #[{ on := 2, ground := Ground.guard }], guard := some (2, true) }) (v := (.agg #[u1, x1])) rfl (by kernel_rfl) (by kernel_rfl) (by kernel_rfl) (fun _ _ _ h => h) (Or.inl ⟨by rfl, ?_⟩) (by assumption) ?_
            · intro w hSw
              try dsimp only at hSw
              go_simp
            try simp only [Act.put, List.setIfInBounds_toArray, List.set_cons_zero, List.set_cons_succ]
            refine wpAnyH_ready (rs := [5]) (by kernel_rfl) (by simp) ?_
            refine AllReadyH.cons (o := { dst := some 86, op := Op.call { callee := Callee.value (Operand.func 23), args := #[Operand.tmp 84, Operand.tmp 85], argTypes := #[24, 24] }, type := 4, pos := "law.go:110", after := #[{ on := 3, ground := Ground.data }, { on := 4, ground := Ground.data }, { on := 2, ground := Ground.chain }, { on := 2, ground := Ground.guard }], guard := some (2, true) }) rfl (fun K hK => ?_) AllReadyH.nil
            go_simp
            refine (Fma.out _ HB.out).mono ?_
            clear c1 c2 c3 c4 c5 c6 j1 j2 e1 e2
            rintro e w' ⟨rfl, h'⟩
            have HBn := hid (HB.out.trans (h'.mono HB.out.size))
            clear HB h'
            have HB := HBn
            clear HBn
            obtain ⟨c1, c2⟩ := HV1.out.below HB.out
            obtain ⟨c3, c4⟩ := HV2.out.below HB.out
            obtain ⟨c5, c6⟩ := HV3.out.below HB.out
            obtain ⟨j1, j2⟩ := HJV.out.below HB.out
            obtain ⟨e1, e2⟩ := HMV.out.below HB.out
            try go_wp2_with fail
            refine hK.out _ _ ?_ (fun hHeld => ?_)
            · first | (refine ⟨?_, ?_, ?_, ?_, ?_, ?_, ?_, ?_⟩ <;> first | assumption | go_keep)
            clear hK K
            try simp only [Act.put, List.setIfInBounds_toArray, List.set_cons_zero, List.set_cons_succ]
            refine wpAnyH_take (i := 6) (oi := { dst := some 87, op := Op.unOp UnOp.not 4 (Operand.tmp 86), type := 4, pos := "law.go:110", after := #[{ on := 5, ground := Ground.data }, { on := 2, ground := Ground.guard }], guard := some (2, true) }) (v := (.bool false)) rfl (by kernel_rfl) (by kernel_rfl) (by kernel_rfl) (fun _ _ _ h => h) (Or.inl ⟨by rfl, ?_⟩) (by assumption) ?_
            · intro w hSw
              try dsimp only at hSw
              go_simp
            try simp only [Act.put, List.setIfInBounds_toArray, List.set_cons_zero, List.set_cons_succ]
            refine wpAnyH_take (i := 7) (oi := { dst := some 88, op := Op.move (Operand.tmp 87), type := 4, pos := "law.go:110", after := #[{ on := 6, ground := Ground.data }, { on := 5, ground := Ground.chain }, { on := 2, ground := Ground.guard }], guard := some (2, true) }) (v := (.bool false)) rfl (by kernel_rfl) (by kernel_rfl) (by kernel_rfl) (fun _ _ _ h => h) (Or.inl ⟨by rfl, ?_⟩) (by assumption) ?_
            · intro w hSw
              try dsimp only at hSw
              go_simp
            try simp only [Act.put, List.setIfInBounds_toArray, List.set_cons_zero, List.set_cons_succ]
            refine wpAnyH_take (i := 8) (oi := { dst := some 89, op := Op.load 24 (Operand.tmp 9), type := 24, pos := "law.go:110", after := #[{ on := 7, ground := Ground.guard }], guard := some (7, false) }) (v := (.agg #[(.slice mao MS.length mac), (.slice mbo MI.length mbc)])) rfl (by kernel_rfl) (by kernel_rfl) (by kernel_rfl) (fun _ _ _ h => h) (Or.inl ⟨by rfl, ?_⟩) (by assumption) ?_
            · intro w hSw
              try dsimp only at hSw
              go_simp
            try simp only [Act.put, List.setIfInBounds_toArray, List.set_cons_zero, List.set_cons_succ]
            refine wpAnyH_take (i := 9) (oi := { dst := some 90, op := Op.load 24 (Operand.tmp 4), type := 24, pos := "law.go:110", after := #[{ on := 7, ground := Ground.guard }], guard := some (7, false) }) (v := (.agg #[u2, x2])) rfl (by kernel_rfl) (by kernel_rfl) (by kernel_rfl) (fun _ _ _ h => h) (Or.inl ⟨by rfl, ?_⟩) (by assumption) ?_
            · intro w hSw
              try dsimp only at hSw
              go_simp
            try simp only [Act.put, List.setIfInBounds_toArray, List.set_cons_zero, List.set_cons_succ]
            refine wpAnyH_ready (rs := [10]) (by kernel_rfl) (by simp) ?_
            refine AllReadyH.cons (o := { dst := some 91, op := Op.call { callee := Callee.value (Operand.func 23), args := #[Operand.tmp 89, Operand.tmp 90], argTypes := #[24, 24] }, type := 4, pos := "law.go:110", after := #[{ on := 8, ground := Ground.data }, { on := 9, ground := Ground.data }, { on := 7, ground := Ground.chain }, { on := 7, ground := Ground.guard }], guard := some (7, false) }) rfl (fun K hK => ?_) AllReadyH.nil
            go_simp
            refine (Fmb.out _ HB.out).mono ?_
            clear c1 c2 c3 c4 c5 c6 j1 j2 e1 e2
            rintro e w' ⟨rfl, h'⟩
            have HBn := hid (HB.out.trans (h'.mono HB.out.size))
            clear HB h'
            have HB := HBn
            clear HBn
            obtain ⟨c1, c2⟩ := HV1.out.below HB.out
            obtain ⟨c3, c4⟩ := HV2.out.below HB.out
            obtain ⟨c5, c6⟩ := HV3.out.below HB.out
            obtain ⟨j1, j2⟩ := HJV.out.below HB.out
            obtain ⟨e1, e2⟩ := HMV.out.below HB.out
            try go_wp2_with fail
            refine hK.out _ _ ?_ (fun hHeld => ?_)
            · first | (refine ⟨?_, ?_, ?_, ?_, ?_, ?_, ?_, ?_⟩ <;> first | assumption | go_keep)
            clear hK K
            try simp only [Act.put, List.setIfInBounds_toArray, List.set_cons_zero, List.set_cons_succ]
            refine wpAnyH_take (i := 11) (oi := { dst := some 92, op := Op.unOp UnOp.not 4 (Operand.tmp 91), type := 4, pos := "law.go:110", after := #[{ on := 10, ground := Ground.data }, { on := 7, ground := Ground.guard }], guard := some (7, false) }) (v := (.bool false)) rfl (by kernel_rfl) (by kernel_rfl) (by kernel_rfl) (fun _ _ _ h => h) (Or.inl ⟨by rfl, ?_⟩) (by assumption) ?_
            · intro w hSw
              try dsimp only at hSw
              go_simp
            try simp only [Act.put, List.setIfInBounds_toArray, List.set_cons_zero, List.set_cons_succ]
            refine wpAnyH_take (i := 12) (oi := { dst := some 93, op := Op.pick (Operand.tmp 88) (Operand.const (Value.bool true)) (Operand.tmp 92), type := 4, pos := "law.go:110", after := #[{ on := 7, ground := Ground.data }, { on := 11, ground := Ground.data }, { on := 2, ground := Ground.guard }], guard := some (2, true) }) (v := (.bool false)) rfl (by kernel_rfl) (by kernel_rfl) (by kernel_rfl) (fun _ _ _ h => h) (Or.inl ⟨by rfl, ?_⟩) (by assumption) ?_
            · intro w hSw
              try dsimp only at hSw
              go_simp
            try simp only [Act.put, List.setIfInBounds_toArray, List.set_cons_zero, List.set_cons_succ]
            refine wpAnyH_take (i := 13) (oi := { dst := some 94, op := Op.move (Operand.tmp 93), type := 4, pos := "law.go:110", after := #[{ on := 12, ground := Ground.data }, { on := 10, ground := Ground.chain }, { on := 2, ground := Ground.guard }], guard := some (2, true) }) (v := (.bool false)) rfl (by kernel_rfl) (by kernel_rfl) (by kernel_rfl) (fun _ _ _ h => h) (Or.inl ⟨by rfl, ?_⟩) (by assumption) ?_
            · intro w hSw
              try dsimp only at hSw
              go_simp
            try simp only [Act.put, List.setIfInBounds_toArray, List.set_cons_zero, List.set_cons_succ]
            refine wpAnyH_take (i := 14) (oi := { dst := some 95, op := Op.load 24 (Operand.tmp 5), type := 24, pos := "law.go:110", after := #[{ on := 13, ground := Ground.guard }], guard := some (13, false) }) (v := (.agg #[u3, x3])) rfl (by kernel_rfl) (by kernel_rfl) (by kernel_rfl) (fun _ _ _ h => h) (Or.inl ⟨by rfl, ?_⟩) (by assumption) ?_
            · intro w hSw
              try dsimp only at hSw
              go_simp
            try simp only [Act.put, List.setIfInBounds_toArray, List.set_cons_zero, List.set_cons_succ]
            refine wpAnyH_take (i := 15) (oi := { dst := some 96, op := Op.load 24 (Operand.tmp 3), type := 24, pos := "law.go:110", after := #[{ on := 13, ground := Ground.guard }], guard := some (13, false) }) (v := (.agg #[u1, x1])) rfl (by kernel_rfl) (by kernel_rfl) (by kernel_rfl) (fun _ _ _ h => h) (Or.inl ⟨by rfl, ?_⟩) (by assumption) ?_
            · intro w hSw
              try dsimp only at hSw
              go_simp
            try simp only [Act.put, List.setIfInBounds_toArray, List.set_cons_zero, List.set_cons_succ]
            refine wpAnyH_take (i := 22) (oi := { dst := some 103, op := Op.load 24 (Operand.tmp 5), type := 24, pos := "law.go:110", after := #[{ on := 13, ground := Ground.guard }], guard := some (13, false) }) (v := (.agg #[u3, x3])) rfl (by kernel_rfl) (by kernel_rfl) (by kernel_rfl) (fun _ _ _ h => h) (Or.inl ⟨by rfl, ?_⟩) (by assumption) ?_
            · intro w hSw
              try dsimp only at hSw
              go_simp
            try simp only [Act.put, List.setIfInBounds_toArray, List.set_cons_zero, List.set_cons_succ]
            refine wpAnyH_take (i := 23) (oi := { dst := some 104, op := Op.load 24 (Operand.tmp 9), type := 24, pos := "law.go:110", after := #[{ on := 13, ground := Ground.guard }], guard := some (13, false) }) (v := (.agg #[(.slice mao MS.length mac), (.slice mbo MI.length mbc)])) rfl (by kernel_rfl) (by kernel_rfl) (by kernel_rfl) (fun _ _ _ h => h) (Or.inl ⟨by rfl, ?_⟩) (by assumption) ?_
            · intro w hSw
              try dsimp only at hSw
              go_simp
            try simp only [Act.put, List.setIfInBounds_toArray, List.set_cons_zero, List.set_cons_succ]
            refine wpAnyH_ready (rs := [16]) (by kernel_rfl) (by simp) ?_
            refine AllReadyH.cons (o := { dst := some 97, op := Op.call { callee := Callee.value (Operand.func 23), args := #[Operand.tmp 95, Operand.tmp 96], argTypes := #[24, 24] }, type := 4, pos := "law.go:110", after := #[{ on := 14, ground := Ground.data }, { on := 15, ground := Ground.data }, { on := 13, ground := Ground.chain }, { on := 13, ground := Ground.guard }], guard := some (13, false) }) rfl (fun K hK => ?_) AllReadyH.nil
            go_simp
            refine (Fca.out _ HB.out).mono ?_
            clear c1 c2 c3 c4 c5 c6 j1 j2 e1 e2
            rintro e w' ⟨rfl, h'⟩
            have HBn := hid (HB.out.trans (h'.mono HB.out.size))
            clear HB h'
            have HB := HBn
            clear HBn
            obtain ⟨c1, c2⟩ := HV1.out.below HB.out
            obtain ⟨c3, c4⟩ := HV2.out.below HB.out
            obtain ⟨c5, c6⟩ := HV3.out.below HB.out
            obtain ⟨j1, j2⟩ := HJV.out.below HB.out
            obtain ⟨e1, e2⟩ := HMV.out.below HB.out
            try go_wp2_with fail
            refine hK.out _ _ ?_ (fun hHeld => ?_)
            · first | (refine ⟨?_, ?_, ?_, ?_, ?_, ?_, ?_, ?_⟩ <;> first | assumption | go_keep)
            clear hK K
            try simp only [Act.put, List.setIfInBounds_toArray, List.set_cons_zero, List.set_cons_succ]
            refine wpAnyH_take (i := 17) (oi := { dst := some 98, op := Op.move (Operand.tmp 97), type := 4, pos := "law.go:110", after := #[{ on := 16, ground := Ground.data }, { on := 16, ground := Ground.chain }, { on := 13, ground := Ground.guard }], guard := some (13, false) }) (v := (.bool true)) rfl (by kernel_rfl) (by kernel_rfl) (by kernel_rfl) (fun _ _ _ h => h) (Or.inl ⟨by rfl, ?_⟩) (by assumption) ?_
            · intro w hSw
              try dsimp only at hSw
              go_simp
            try simp only [Act.put, List.setIfInBounds_toArray, List.set_cons_zero, List.set_cons_succ]
            refine wpAnyH_take (i := 18) (oi := { dst := some 99, op := Op.load 24 (Operand.tmp 5), type := 24, pos := "law.go:110", after := #[{ on := 17, ground := Ground.guard }], guard := some (17, true) }) (v := (.agg #[u3, x3])) rfl (by kernel_rfl) (by kernel_rfl) (by kernel_rfl) (fun _ _ _ h => h) (Or.inl ⟨by rfl, ?_⟩) (by assumption) ?_
            · intro w hSw
              try dsimp only at hSw
              go_simp
            try simp only [Act.put, List.setIfInBounds_toArray, List.set_cons_zero, List.set_cons_succ]
            refine wpAnyH_take (i := 19) (oi := { dst := some 100, op := Op.load 24 (Operand.tmp 4), type := 24, pos := "law.go:110", after := #[{ on := 17, ground := Ground.guard }], guard := some (17, true) }) (v := (.agg #[u2, x2])) rfl (by kernel_rfl) (by kernel_rfl) (by kernel_rfl) (fun _ _ _ h => h) (Or.inl ⟨by rfl, ?_⟩) (by assumption) ?_
            · intro w hSw
              try dsimp only at hSw
              go_simp
            try simp only [Act.put, List.setIfInBounds_toArray, List.set_cons_zero, List.set_cons_succ]
            refine wpAnyH_ready (rs := [20]) (by kernel_rfl) (by simp) ?_
            refine AllReadyH.cons (o := { dst := some 101, op := Op.call { callee := Callee.value (Operand.func 23), args := #[Operand.tmp 99, Operand.tmp 100], argTypes := #[24, 24] }, type := 4, pos := "law.go:110", after := #[{ on := 18, ground := Ground.data }, { on := 19, ground := Ground.data }, { on := 17, ground := Ground.chain }, { on := 17, ground := Ground.guard }], guard := some (17, true) }) rfl (fun K hK => ?_) AllReadyH.nil
            go_simp
            refine (Fcb.out _ HB.out).mono ?_
            clear c1 c2 c3 c4 c5 c6 j1 j2 e1 e2
            rintro e w' ⟨rfl, h'⟩
            have HBn := hid (HB.out.trans (h'.mono HB.out.size))
            clear HB h'
            have HB := HBn
            clear HBn
            obtain ⟨c1, c2⟩ := HV1.out.below HB.out
            obtain ⟨c3, c4⟩ := HV2.out.below HB.out
            obtain ⟨c5, c6⟩ := HV3.out.below HB.out
            obtain ⟨j1, j2⟩ := HJV.out.below HB.out
            obtain ⟨e1, e2⟩ := HMV.out.below HB.out
            try go_wp2_with fail
            refine hK.out _ _ ?_ (fun hHeld => ?_)
            · first | (refine ⟨?_, ?_, ?_, ?_, ?_, ?_, ?_, ?_⟩ <;> first | assumption | go_keep)
            clear hK K
            try simp only [Act.put, List.setIfInBounds_toArray, List.set_cons_zero, List.set_cons_succ]
            refine wpAnyH_take (i := 21) (oi := { dst := some 102, op := Op.pick (Operand.tmp 98) (Operand.tmp 101) (Operand.const (Value.bool false)), type := 4, pos := "law.go:110", after := #[{ on := 17, ground := Ground.data }, { on := 20, ground := Ground.data }, { on := 13, ground := Ground.guard }], guard := some (13, false) }) (v := (.bool false)) rfl (by kernel_rfl) (by kernel_rfl) (by kernel_rfl) (fun _ _ _ h => h) (Or.inl ⟨by rfl, ?_⟩) (by assumption) ?_
            · intro w hSw
              try dsimp only at hSw
              go_simp
            try simp only [Act.put, List.setIfInBounds_toArray, List.set_cons_zero, List.set_cons_succ]
            refine wpAnyH_ready (rs := [24]) (by kernel_rfl) (by simp) ?_
            refine AllReadyH.cons (o := { dst := some 105, op := Op.call { callee := Callee.value (Operand.func 23), args := #[Operand.tmp 103, Operand.tmp 104], argTypes := #[24, 24] }, type := 4, pos := "law.go:110", after := #[{ on := 22, ground := Ground.data }, { on := 23, ground := Ground.data }, { on := 20, ground := Ground.chain }, { on := 13, ground := Ground.guard }], guard := some (13, false) }) rfl (fun K hK => ?_) AllReadyH.nil
            go_simp
            refine (Fcm.out _ HB.out).mono ?_
            clear c1 c2 c3 c4 c5 c6 j1 j2 e1 e2
            rintro e w' ⟨rfl, h'⟩
            have HBn := hid (HB.out.trans (h'.mono HB.out.size))
            clear HB h'
            have HB := HBn
            clear HBn
            obtain ⟨c1, c2⟩ := HV1.out.below HB.out
            obtain ⟨c3, c4⟩ := HV2.out.below HB.out
            obtain ⟨c5, c6⟩ := HV3.out.below HB.out
            obtain ⟨j1, j2⟩ := HJV.out.below HB.out
            obtain ⟨e1, e2⟩ := HMV.out.below HB.out
            try go_wp2_with fail
            refine hK.out _ _ ?_ (fun hHeld => ?_)
            · first | (refine ⟨?_, ?_, ?_, ?_, ?_, ?_, ?_, ?_⟩ <;> first | assumption | go_keep)
            clear hK K
            try simp only [Act.put, List.setIfInBounds_toArray, List.set_cons_zero, List.set_cons_succ]
            refine wpAnyH_take (i := 25) (oi := { dst := some 106, op := Op.binOp BinOp.neq 4 (Operand.tmp 102) (Operand.tmp 105) 4, type := 4, pos := "law.go:110", after := #[{ on := 21, ground := Ground.data }, { on := 24, ground := Ground.data }, { on := 13, ground := Ground.guard }], guard := some (13, false) }) (v := (.bool false)) rfl (by kernel_rfl) (by kernel_rfl) (by kernel_rfl) (fun _ _ _ h => h) (Or.inl ⟨by rfl, ?_⟩) (by assumption) ?_
            · intro w hSw
              try dsimp only at hSw
              go_simp
            try simp only [Act.put, List.setIfInBounds_toArray, List.set_cons_zero, List.set_cons_succ]
            refine wpAnyH_take (i := 26) (oi := { dst := some 107, op := Op.pick (Operand.tmp 94) (Operand.const (Value.bool true)) (Operand.tmp 106), type := 4, pos := "law.go:110", after := #[{ on := 13, ground := Ground.data }, { on := 25, ground := Ground.data }, { on := 2, ground := Ground.guard }], guard := some (2, true) }) (v := (.bool false)) rfl (by kernel_rfl) (by kernel_rfl) (by kernel_rfl) (fun _ _ _ h => h) (Or.inl ⟨by rfl, ?_⟩) (by assumption) ?_
            · intro w hSw
              try dsimp only at hSw
              go_simp
            try simp only [Act.put, List.setIfInBounds_toArray, List.set_cons_zero, List.set_cons_succ]
            refine wpAnyH_take (i := 27) (oi := { dst := some 108, op := Op.pick (Operand.tmp 83) (Operand.tmp 107) (Operand.const (Value.bool false)), type := 4, pos := "law.go:110", after := #[{ on := 2, ground := Ground.data }, { on := 26, ground := Ground.data }], guard := none }) (v := (.bool false)) rfl (by kernel_rfl) (by kernel_rfl) (by kernel_rfl) (fun _ _ _ h => h) (Or.inl ⟨by rfl, ?_⟩) (by assumption) ?_
            · intro w hSw
              try dsimp only at hSw
              go_simp
            try simp only [Act.put, List.setIfInBounds_toArray, List.set_cons_zero, List.set_cons_succ]
            refine wpAnyH_done (by kernel_rfl) ?_ _
            refine NoPanic.normal ?_
            go_wp2_with fail
            go_meet
            exact ⟨rfl, HB.out⟩
          · obtain rfl : fcm = true := g3.symm
            have HBn := hid (Below.drew HB.out)
            clear HB
            have HB := HBn
            clear HBn
            refine wp_region_noPanic ?_
            refine wp_region_held_drew (S := (fun w' => w'.cell? ⟨w.heap.size, 0, none⟩ = some u1 ∧ w'.cell? ⟨w.heap.size, 1, none⟩ = some x1 ∧ w'.cell? ⟨w.heap.size + 1, 0, none⟩ = some u2 ∧ w'.cell? ⟨w.heap.size + 1, 1, none⟩ = some x2 ∧ w'.cell? ⟨w.heap.size + 1 + 1, 0, none⟩ = some u3 ∧ w'.cell? ⟨w.heap.size + 1 + 1, 1, none⟩ = some x3 ∧ w'.cell? ⟨pm, 0, none⟩ = some (.slice mao MS.length mac) ∧ w'.cell? ⟨pm, 1, none⟩ = some (.slice mbo MI.length mbc))) (by kernel_rfl) ?_ (fun hHeld => ?_)
            · first | (refine ⟨?_, ?_, ?_, ?_, ?_, ?_, ?_, ?_⟩ <;> first | assumption | go_keep)
            refine wpAnyH_take (i := 0) (oi := { dst := some 81, op := Op.move (Operand.tmp 10), type := 26, pos := "law.go:110", after := #[], guard := none }) (v := (.int .i64 0)) rfl (by kernel_rfl) (by kernel_rfl) (by kernel_rfl) (fun _ _ _ h => h) (Or.inl ⟨by rfl, ?_⟩) (by assumption) ?_
            · intro w hSw
              try dsimp only at hSw
              go_simp
            try simp only [Act.put, List.setIfInBounds_toArray, List.set_cons_zero, List.set_cons_succ]
            refine wpAnyH_take (i := 1) (oi := { dst := some 82, op := Op.binOp BinOp.eql 26 (Operand.tmp 81) (Operand.const (Value.int IntKind.i64 0)) 26, type := 4, pos := "law.go:110", after := #[{ on := 0, ground := Ground.data }], guard := none }) (v := (.bool true)) rfl (by kernel_rfl) (by kernel_rfl) (by kernel_rfl) (fun _ _ _ h => h) (Or.inl ⟨by rfl, ?_⟩) (by assumption) ?_
            · intro w hSw
              try dsimp only at hSw
              go_simp
            try simp only [Act.put, List.setIfInBounds_toArray, List.set_cons_zero, List.set_cons_succ]
            refine wpAnyH_take (i := 2) (oi := { dst := some 83, op := Op.move (Operand.tmp 82), type := 4, pos := "law.go:110", after := #[{ on := 1, ground := Ground.data }], guard := none }) (v := (.bool true)) rfl (by kernel_rfl) (by kernel_rfl) (by kernel_rfl) (fun _ _ _ h => h) (Or.inl ⟨by rfl, ?_⟩) (by assumption) ?_
            · intro w hSw
              try dsimp only at hSw
              go_simp
            try simp only [Act.put, List.setIfInBounds_toArray, List.set_cons_zero, List.set_cons_succ]
            refine wpAnyH_take (i := 3) (oi := { dst := some 84, op := Op.load 24 (Operand.tmp 9), type := 24, pos := "law.go:110", after := #[{ on := 2, ground := Ground.guard }], guard := some (2, true) }) (v := (.agg #[(.slice mao MS.length mac), (.slice mbo MI.length mbc)])) rfl (by kernel_rfl) (by kernel_rfl) (by kernel_rfl) (fun _ _ _ h => h) (Or.inl ⟨by rfl, ?_⟩) (by assumption) ?_
            · intro w hSw
              try dsimp only at hSw
              go_simp
            try simp only [Act.put, List.setIfInBounds_toArray, List.set_cons_zero, List.set_cons_succ]
            refine wpAnyH_take (i := 4) (oi := { dst := some 85, op := Op.load 24 (Operand.tmp 3), type := 24, pos := "law.go:110", after := #[{ on := 2, ground := Ground.guard }], guard := some (2, true) }) (v := (.agg #[u1, x1])) rfl (by kernel_rfl) (by kernel_rfl) (by kernel_rfl) (fun _ _ _ h => h) (Or.inl ⟨by rfl, ?_⟩) (by assumption) ?_
            · intro w hSw
              try dsimp only at hSw
              go_simp
            try simp only [Act.put, List.setIfInBounds_toArray, List.set_cons_zero, List.set_cons_succ]
            refine wpAnyH_ready (rs := [5]) (by kernel_rfl) (by simp) ?_
            refine AllReadyH.cons (o := { dst := some 86, op := Op.call { callee := Callee.value (Operand.func 23), args := #[Operand.tmp 84, Operand.tmp 85], argTypes := #[24, 24] }, type := 4, pos := "law.go:110", after := #[{ on := 3, ground := Ground.data }, { on := 4, ground := Ground.data }, { on := 2, ground := Ground.chain }, { on := 2, ground := Ground.guard }], guard := some (2, true) }) rfl (fun K hK => ?_) AllReadyH.nil
            go_simp
            refine (Fma.out _ HB.out).mono ?_
            clear c1 c2 c3 c4 c5 c6 j1 j2 e1 e2
            rintro e w' ⟨rfl, h'⟩
            have HBn := hid (HB.out.trans (h'.mono HB.out.size))
            clear HB h'
            have HB := HBn
            clear HBn
            obtain ⟨c1, c2⟩ := HV1.out.below HB.out
            obtain ⟨c3, c4⟩ := HV2.out.below HB.out
            obtain ⟨c5, c6⟩ := HV3.out.below HB.out
            obtain ⟨j1, j2⟩ := HJV.out.below HB.out
            obtain ⟨e1, e2⟩ := HMV.out.below HB.out
            try go_wp2_with fail
            refine hK.out _ _ ?_ (fun hHeld => ?_)
            · first | (refine ⟨?_, ?_, ?_, ?_, ?_, ?_, ?_, ?_⟩ <;> first | assumption | go_keep)
            clear hK K
            try simp only [Act.put, List.setIfInBounds_toArray, List.set_cons_zero, List.set_cons_succ]
            refine wpAnyH_take (i := 6) (oi := { dst := some 87, op := Op.unOp UnOp.not 4 (Operand.tmp 86), type := 4, pos := "law.go:110", after := #[{ on := 5, ground := Ground.data }, { on := 2, ground := Ground.guard }], guard := some (2, true) }) (v := (.bool false)) rfl (by kernel_rfl) (by kernel_rfl) (by kernel_rfl) (fun _ _ _ h => h) (Or.inl ⟨by rfl, ?_⟩) (by assumption) ?_
            · intro w hSw
              try dsimp only at hSw
              go_simp
            try simp only [Act.put, List.setIfInBounds_toArray, List.set_cons_zero, List.set_cons_succ]
            refine wpAnyH_take (i := 7) (oi := { dst := some 88, op := Op.move (Operand.tmp 87), type := 4, pos := "law.go:110", after := #[{ on := 6, ground := Ground.data }, { on := 5, ground := Ground.chain }, { on := 2, ground := Ground.guard }], guard := some (2, true) }) (v := (.bool false)) rfl (by kernel_rfl) (by kernel_rfl) (by kernel_rfl) (fun _ _ _ h => h) (Or.inl ⟨by rfl, ?_⟩) (by assumption) ?_
            · intro w hSw
              try dsimp only at hSw
              go_simp
            try simp only [Act.put, List.setIfInBounds_toArray, List.set_cons_zero, List.set_cons_succ]
            refine wpAnyH_take (i := 8) (oi := { dst := some 89, op := Op.load 24 (Operand.tmp 9), type := 24, pos := "law.go:110", after := #[{ on := 7, ground := Ground.guard }], guard := some (7, false) }) (v := (.agg #[(.slice mao MS.length mac), (.slice mbo MI.length mbc)])) rfl (by kernel_rfl) (by kernel_rfl) (by kernel_rfl) (fun _ _ _ h => h) (Or.inl ⟨by rfl, ?_⟩) (by assumption) ?_
            · intro w hSw
              try dsimp only at hSw
              go_simp
            try simp only [Act.put, List.setIfInBounds_toArray, List.set_cons_zero, List.set_cons_succ]
            refine wpAnyH_take (i := 9) (oi := { dst := some 90, op := Op.load 24 (Operand.tmp 4), type := 24, pos := "law.go:110", after := #[{ on := 7, ground := Ground.guard }], guard := some (7, false) }) (v := (.agg #[u2, x2])) rfl (by kernel_rfl) (by kernel_rfl) (by kernel_rfl) (fun _ _ _ h => h) (Or.inl ⟨by rfl, ?_⟩) (by assumption) ?_
            · intro w hSw
              try dsimp only at hSw
              go_simp
            try simp only [Act.put, List.setIfInBounds_toArray, List.set_cons_zero, List.set_cons_succ]
            refine wpAnyH_ready (rs := [10]) (by kernel_rfl) (by simp) ?_
            refine AllReadyH.cons (o := { dst := some 91, op := Op.call { callee := Callee.value (Operand.func 23), args := #[Operand.tmp 89, Operand.tmp 90], argTypes := #[24, 24] }, type := 4, pos := "law.go:110", after := #[{ on := 8, ground := Ground.data }, { on := 9, ground := Ground.data }, { on := 7, ground := Ground.chain }, { on := 7, ground := Ground.guard }], guard := some (7, false) }) rfl (fun K hK => ?_) AllReadyH.nil
            go_simp
            refine (Fmb.out _ HB.out).mono ?_
            clear c1 c2 c3 c4 c5 c6 j1 j2 e1 e2
            rintro e w' ⟨rfl, h'⟩
            have HBn := hid (HB.out.trans (h'.mono HB.out.size))
            clear HB h'
            have HB := HBn
            clear HBn
            obtain ⟨c1, c2⟩ := HV1.out.below HB.out
            obtain ⟨c3, c4⟩ := HV2.out.below HB.out
            obtain ⟨c5, c6⟩ := HV3.out.below HB.out
            obtain ⟨j1, j2⟩ := HJV.out.below HB.out
            obtain ⟨e1, e2⟩ := HMV.out.below HB.out
            try go_wp2_with fail
            refine hK.out _ _ ?_ (fun hHeld => ?_)
            · first | (refine ⟨?_, ?_, ?_, ?_, ?_, ?_, ?_, ?_⟩ <;> first | assumption | go_keep)
            clear hK K
            try simp only [Act.put, List.setIfInBounds_toArray, List.set_cons_zero, List.set_cons_succ]
            refine wpAnyH_take (i := 11) (oi := { dst := some 92, op := Op.unOp UnOp.not 4 (Operand.tmp 91), type := 4, pos := "law.go:110", after := #[{ on := 10, ground := Ground.data }, { on := 7, ground := Ground.guard }], guard := some (7, false) }) (v := (.bool false)) rfl (by kernel_rfl) (by kernel_rfl) (by kernel_rfl) (fun _ _ _ h => h) (Or.inl ⟨by rfl, ?_⟩) (by assumption) ?_
            · intro w hSw
              try dsimp only at hSw
              go_simp
            try simp only [Act.put, List.setIfInBounds_toArray, List.set_cons_zero, List.set_cons_succ]
            refine wpAnyH_take (i := 12) (oi := { dst := some 93, op := Op.pick (Operand.tmp 88) (Operand.const (Value.bool true)) (Operand.tmp 92), type := 4, pos := "law.go:110", after := #[{ on := 7, ground := Ground.data }, { on := 11, ground := Ground.data }, { on := 2, ground := Ground.guard }], guard := some (2, true) }) (v := (.bool false)) rfl (by kernel_rfl) (by kernel_rfl) (by kernel_rfl) (fun _ _ _ h => h) (Or.inl ⟨by rfl, ?_⟩) (by assumption) ?_
            · intro w hSw
              try dsimp only at hSw
              go_simp
            try simp only [Act.put, List.setIfInBounds_toArray, List.set_cons_zero, List.set_cons_succ]
            refine wpAnyH_take (i := 13) (oi := { dst := some 94, op := Op.move (Operand.tmp 93), type := 4, pos := "law.go:110", after := #[{ on := 12, ground := Ground.data }, { on := 10, ground := Ground.chain }, { on := 2, ground := Ground.guard }], guard := some (2, true) }) (v := (.bool false)) rfl (by kernel_rfl) (by kernel_rfl) (by kernel_rfl) (fun _ _ _ h => h) (Or.inl ⟨by rfl, ?_⟩) (by assumption) ?_
            · intro w hSw
              try dsimp only at hSw
              go_simp
            try simp only [Act.put, List.setIfInBounds_toArray, List.set_cons_zero, List.set_cons_succ]
            refine wpAnyH_take (i := 14) (oi := { dst := some 95, op := Op.load 24 (Operand.tmp 5), type := 24, pos := "law.go:110", after := #[{ on := 13, ground := Ground.guard }], guard := some (13, false) }) (v := (.agg #[u3, x3])) rfl (by kernel_rfl) (by kernel_rfl) (by kernel_rfl) (fun _ _ _ h => h) (Or.inl ⟨by rfl, ?_⟩) (by assumption) ?_
            · intro w hSw
              try dsimp only at hSw
              go_simp
            try simp only [Act.put, List.setIfInBounds_toArray, List.set_cons_zero, List.set_cons_succ]
            refine wpAnyH_take (i := 15) (oi := { dst := some 96, op := Op.load 24 (Operand.tmp 3), type := 24, pos := "law.go:110", after := #[{ on := 13, ground := Ground.guard }], guard := some (13, false) }) (v := (.agg #[u1, x1])) rfl (by kernel_rfl) (by kernel_rfl) (by kernel_rfl) (fun _ _ _ h => h) (Or.inl ⟨by rfl, ?_⟩) (by assumption) ?_
            · intro w hSw
              try dsimp only at hSw
              go_simp
            try simp only [Act.put, List.setIfInBounds_toArray, List.set_cons_zero, List.set_cons_succ]
            refine wpAnyH_take (i := 22) (oi := { dst := some 103, op := Op.load 24 (Operand.tmp 5), type := 24, pos := "law.go:110", after := #[{ on := 13, ground := Ground.guard }], guard := some (13, false) }) (v := (.agg #[u3, x3])) rfl (by kernel_rfl) (by kernel_rfl) (by kernel_rfl) (fun _ _ _ h => h) (Or.inl ⟨by rfl, ?_⟩) (by assumption) ?_
            · intro w hSw
              try dsimp only at hSw
              go_simp
            try simp only [Act.put, List.setIfInBounds_toArray, List.set_cons_zero, List.set_cons_succ]
            refine wpAnyH_take (i := 23) (oi := { dst := some 104, op := Op.load 24 (Operand.tmp 9), type := 24, pos := "law.go:110", after := #[{ on := 13, ground := Ground.guard }], guard := some (13, false) }) (v := (.agg #[(.slice mao MS.length mac), (.slice mbo MI.length mbc)])) rfl (by kernel_rfl) (by kernel_rfl) (by kernel_rfl) (fun _ _ _ h => h) (Or.inl ⟨by rfl, ?_⟩) (by assumption) ?_
            · intro w hSw
              try dsimp only at hSw
              go_simp
            try simp only [Act.put, List.setIfInBounds_toArray, List.set_cons_zero, List.set_cons_succ]
            refine wpAnyH_ready (rs := [16]) (by kernel_rfl) (by simp) ?_
            refine AllReadyH.cons (o := { dst := some 97, op := Op.call { callee := Callee.value (Operand.func 23), args := #[Operand.tmp 95, Operand.tmp 96], argTypes := #[24, 24] }, type := 4, pos := "law.go:110", after := #[{ on := 14, ground := Ground.data }, { on := 15, ground := Ground.data }, { on := 13, ground := Ground.chain }, { on := 13, ground := Ground.guard }], guard := some (13, false) }) rfl (fun K hK => ?_) AllReadyH.nil
            go_simp
            refine (Fca.out _ HB.out).mono ?_
            clear c1 c2 c3 c4 c5 c6 j1 j2 e1 e2
            rintro e w' ⟨rfl, h'⟩
            have HBn := hid (HB.out.trans (h'.mono HB.out.size))
            clear HB h'
            have HB := HBn
            clear HBn
            obtain ⟨c1, c2⟩ := HV1.out.below HB.out
            obtain ⟨c3, c4⟩ := HV2.out.below HB.out
            obtain ⟨c5, c6⟩ := HV3.out.below HB.out
            obtain ⟨j1, j2⟩ := HJV.out.below HB.out
            obtain ⟨e1, e2⟩ := HMV.out.below HB.out
            try go_wp2_with fail
            refine hK.out _ _ ?_ (fun hHeld => ?_)
            · first | (refine ⟨?_, ?_, ?_, ?_, ?_, ?_, ?_, ?_⟩ <;> first | assumption | go_keep)
            clear hK K
            try simp only [Act.put, List.setIfInBounds_toArray, List.set_cons_zero, List.set_cons_succ]
            refine wpAnyH_take (i := 17) (oi := { dst := some 98, op := Op.move (Operand.tmp 97), type := 4, pos := "law.go:110", after := #[{ on := 16, ground := Ground.data }, { on := 16, ground := Ground.chain }, { on := 13, ground := Ground.guard }], guard := some (13, false) }) (v := (.bool true)) rfl (by kernel_rfl) (by kernel_rfl) (by kernel_rfl) (fun _ _ _ h => h) (Or.inl ⟨by rfl, ?_⟩) (by assumption) ?_
            · intro w hSw
              try dsimp only at hSw
              go_simp
            try simp only [Act.put, List.setIfInBounds_toArray, List.set_cons_zero, List.set_cons_succ]
            refine wpAnyH_take (i := 18) (oi := { dst := some 99, op := Op.load 24 (Operand.tmp 5), type := 24, pos := "law.go:110", after := #[{ on := 17, ground := Ground.guard }], guard := some (17, true) }) (v := (.agg #[u3, x3])) rfl (by kernel_rfl) (by kernel_rfl) (by kernel_rfl) (fun _ _ _ h => h) (Or.inl ⟨by rfl, ?_⟩) (by assumption) ?_
            · intro w hSw
              try dsimp only at hSw
              go_simp
            try simp only [Act.put, List.setIfInBounds_toArray, List.set_cons_zero, List.set_cons_succ]
            refine wpAnyH_take (i := 19) (oi := { dst := some 100, op := Op.load 24 (Operand.tmp 4), type := 24, pos := "law.go:110", after := #[{ on := 17, ground := Ground.guard }], guard := some (17, true) }) (v := (.agg #[u2, x2])) rfl (by kernel_rfl) (by kernel_rfl) (by kernel_rfl) (fun _ _ _ h => h) (Or.inl ⟨by rfl, ?_⟩) (by assumption) ?_
            · intro w hSw
              try dsimp only at hSw
              go_simp
            try simp only [Act.put, List.setIfInBounds_toArray, List.set_cons_zero, List.set_cons_succ]
            refine wpAnyH_ready (rs := [20]) (by kernel_rfl) (by simp) ?_
            refine AllReadyH.cons (o := { dst := some 101, op := Op.call { callee := Callee.value (Operand.func 23), args := #[Operand.tmp 99, Operand.tmp 100], argTypes := #[24, 24] }, type := 4, pos := "law.go:110", after := #[{ on := 18, ground := Ground.data }, { on := 19, ground := Ground.data }, { on := 17, ground := Ground.chain }, { on := 17, ground := Ground.guard }], guard := some (17, true) }) rfl (fun K hK => ?_) AllReadyH.nil
            go_simp
            refine (Fcb.out _ HB.out).mono ?_
            clear c1 c2 c3 c4 c5 c6 j1 j2 e1 e2
            rintro e w' ⟨rfl, h'⟩
            have HBn := hid (HB.out.trans (h'.mono HB.out.size))
            clear HB h'
            have HB := HBn
            clear HBn
            obtain ⟨c1, c2⟩ := HV1.out.below HB.out
            obtain ⟨c3, c4⟩ := HV2.out.below HB.out
            obtain ⟨c5, c6⟩ := HV3.out.below HB.out
            obtain ⟨j1, j2⟩ := HJV.out.below HB.out
            obtain ⟨e1, e2⟩ := HMV.out.below HB.out
            try go_wp2_with fail
            refine hK.out _ _ ?_ (fun hHeld => ?_)
            · first | (refine ⟨?_, ?_, ?_, ?_, ?_, ?_, ?_, ?_⟩ <;> first | assumption | go_keep)
            clear hK K
            try simp only [Act.put, List.setIfInBounds_toArray, List.set_cons_zero, List.set_cons_succ]
            refine wpAnyH_take (i := 21) (oi := { dst := some 102, op := Op.pick (Operand.tmp 98) (Operand.tmp 101) (Operand.const (Value.bool false)), type := 4, pos := "law.go:110", after := #[{ on := 17, ground := Ground.data }, { on := 20, ground := Ground.data }, { on := 13, ground := Ground.guard }], guard := some (13, false) }) (v := (.bool true)) rfl (by kernel_rfl) (by kernel_rfl) (by kernel_rfl) (fun _ _ _ h => h) (Or.inl ⟨by rfl, ?_⟩) (by assumption) ?_
            · intro w hSw
              try dsimp only at hSw
              go_simp
            try simp only [Act.put, List.setIfInBounds_toArray, List.set_cons_zero, List.set_cons_succ]
            refine wpAnyH_ready (rs := [24]) (by kernel_rfl) (by simp) ?_
            refine AllReadyH.cons (o := { dst := some 105, op := Op.call { callee := Callee.value (Operand.func 23), args := #[Operand.tmp 103, Operand.tmp 104], argTypes := #[24, 24] }, type := 4, pos := "law.go:110", after := #[{ on := 22, ground := Ground.data }, { on := 23, ground := Ground.data }, { on := 20, ground := Ground.chain }, { on := 13, ground := Ground.guard }], guard := some (13, false) }) rfl (fun K hK => ?_) AllReadyH.nil
            go_simp
            refine (Fcm.out _ HB.out).mono ?_
            clear c1 c2 c3 c4 c5 c6 j1 j2 e1 e2
            rintro e w' ⟨rfl, h'⟩
            have HBn := hid (HB.out.trans (h'.mono HB.out.size))
            clear HB h'
            have HB := HBn
            clear HBn
            obtain ⟨c1, c2⟩ := HV1.out.below HB.out
            obtain ⟨c3, c4⟩ := HV2.out.below HB.out
            obtain ⟨c5, c6⟩ := HV3.out.below HB.out
            obtain ⟨j1, j2⟩ := HJV.out.below HB.out
            obtain ⟨e1, e2⟩ := HMV.out.below HB.out
            try go_wp2_with fail
            refine hK.out _ _ ?_ (fun hHeld => ?_)
            · first | (refine ⟨?_, ?_, ?_, ?_, ?_, ?_, ?_, ?_⟩ <;> first | assumption | go_keep)
            clear hK K
            try simp only [Act.put, List.setIfInBounds_toArray, List.set_cons_zero, List.set_cons_succ]
            refine wpAnyH_take (i := 25) (oi := { dst := some 106, op := Op.binOp BinOp.neq 4 (Operand.tmp 102) (Operand.tmp 105) 4, type := 4, pos := "law.go:110", after := #[{ on := 21, ground := Ground.data }, { on := 24, ground := Ground.data }, { on := 13, ground := Ground.guard }], guard := some (13, false) }) (v := (.bool false)) rfl (by kernel_rfl) (by kernel_rfl) (by kernel_rfl) (fun _ _ _ h => h) (Or.inl ⟨by rfl, ?_⟩) (by assumption) ?_
            · intro w hSw
              try dsimp only at hSw
              go_simp
            try simp only [Act.put, List.setIfInBounds_toArray, List.set_cons_zero, List.set_cons_succ]
            refine wpAnyH_take (i := 26) (oi := { dst := some 107, op := Op.pick (Operand.tmp 94) (Operand.const (Value.bool true)) (Operand.tmp 106), type := 4, pos := "law.go:110", after := #[{ on := 13, ground := Ground.data }, { on := 25, ground := Ground.data }, { on := 2, ground := Ground.guard }], guard := some (2, true) }) (v := (.bool false)) rfl (by kernel_rfl) (by kernel_rfl) (by kernel_rfl) (fun _ _ _ h => h) (Or.inl ⟨by rfl, ?_⟩) (by assumption) ?_
            · intro w hSw
              try dsimp only at hSw
              go_simp
            try simp only [Act.put, List.setIfInBounds_toArray, List.set_cons_zero, List.set_cons_succ]
            refine wpAnyH_take (i := 27) (oi := { dst := some 108, op := Op.pick (Operand.tmp 83) (Operand.tmp 107) (Operand.const (Value.bool false)), type := 4, pos := "law.go:110", after := #[{ on := 2, ground := Ground.data }, { on := 26, ground := Ground.data }], guard := none }) (v := (.bool false)) rfl (by kernel_rfl) (by kernel_rfl) (by kernel_rfl) (fun _ _ _ h => h) (Or.inl ⟨by rfl, ?_⟩) (by assumption) ?_
            · intro w hSw
              try dsimp only at hSw
              go_simp
            try simp only [Act.put, List.setIfInBounds_toArray, List.set_cons_zero, List.set_cons_succ]
            refine wpAnyH_done (by kernel_rfl) ?_ _
            refine NoPanic.normal ?_
            go_wp2_with fail
            go_meet
            exact ⟨rfl, HB.out⟩
      · have HBn := hid (Below.drew HB.out)
        clear HB
        have HB := HBn
        clear HBn
        refine wp_region_noPanic ?_
        refine wp_region_held_drew (S := (fun w' => w'.cell? ⟨w.heap.size, 0, none⟩ = some u1 ∧ w'.cell? ⟨w.heap.size, 1, none⟩ = some x1 ∧ w'.cell? ⟨w.heap.size + 1, 0, none⟩ = some u2 ∧ w'.cell? ⟨w.heap.size + 1, 1, none⟩ = some x2 ∧ w'.cell? ⟨w.heap.size + 1 + 1, 0, none⟩ = some u3 ∧ w'.cell? ⟨w.heap.size + 1 + 1, 1, none⟩ = some x3 ∧ w'.cell? ⟨pm, 0, none⟩ = some (.slice mao MS.length mac) ∧ w'.cell? ⟨pm, 1, none⟩ = some (.slice mbo MI.length mbc))) (by kernel_rfl) ?_ (fun hHeld => ?_)
        · first | (refine ⟨?_, ?_, ?_, ?_, ?_, ?_, ?_, ?_⟩ <;> first | assumption | go_keep)
        refine wpAnyH_take (i := 0) (oi := { dst := some 81, op := Op.move (Operand.tmp 10), type := 26, pos := "law.go:110", after := #[], guard := none }) (v := (.int .i64 2)) rfl (by kernel_rfl) (by kernel_rfl) (by kernel_rfl) (fun _ _ _ h => h) (Or.inl ⟨by rfl, ?_⟩) (by assumption) ?_
        · intro w hSw
          try dsimp only at hSw
          go_simp
        try simp only [Act.put, List.setIfInBounds_toArray, List.set_cons_zero, List.set_cons_succ]
        refine wpAnyH_take (i := 1) (oi := { dst := some 82, op := Op.binOp BinOp.eql 26 (Operand.tmp 81) (Operand.const (Value.int IntKind.i64 0)) 26, type := 4, pos := "law.go:110", after := #[{ on := 0, ground := Ground.data }], guard := none }) (v := (.bool false)) rfl (by kernel_rfl) (by kernel_rfl) (by kernel_rfl) (fun _ _ _ h => h) (Or.inl ⟨by rfl, ?_⟩) (by assumption) ?_
        · intro w hSw
          try dsimp only at hSw
          go_simp
        try simp only [Act.put, List.setIfInBounds_toArray, List.set_cons_zero, List.set_cons_succ]
        refine wpAnyH_take (i := 2) (oi := { dst := some 83, op := Op.move (Operand.tmp 82), type := 4, pos := "law.go:110", after := #[{ on := 1, ground := Ground.data }], guard := none }) (v := (.bool false)) rfl (by kernel_rfl) (by kernel_rfl) (by kernel_rfl) (fun _ _ _ h => h) (Or.inl ⟨by rfl, ?_⟩) (by assumption) ?_
        · intro w hSw
          try dsimp only at hSw
          go_simp
        try simp only [Act.put, List.setIfInBounds_toArray, List.set_cons_zero, List.set_cons_succ]
        refine wpAnyH_take (i := 3) (oi := { dst := some 84, op := Op.load 24 (Operand.tmp 9), type := 24, pos := "law.go:110", after := #[{ on := 2, ground := Ground.guard }], guard := some (2, true) }) (v := undef) rfl (by kernel_rfl) (by kernel_rfl) (by kernel_rfl) (fun _ _ _ h => h) (Or.inr ⟨by rfl, rfl⟩) (by assumption) ?_
        try simp only [Act.put, List.setIfInBounds_toArray, List.set_cons_zero, List.set_cons_succ]
        refine wpAnyH_take (i := 4) (oi := { dst := some 85, op := Op.load 24 (Operand.tmp 3), type := 24, pos := "law.go:110", after := #[{ on := 2, ground := Ground.guard }], guard := some (2, true) }) (v := undef) rfl (by kernel_rfl) (by kernel_rfl) (by kernel_rfl) (fun _ _ _ h => h) (Or.inr ⟨by rfl, rfl⟩) (by assumption) ?_
        try simp only [Act.put, List.setIfInBounds_toArray, List.set_cons_zero, List.set_cons_succ]
        refine wpAnyH_take (i := 5) (oi := { dst := some 86, op := Op.call { callee := Callee.value (Operand.func 23), args := #[Operand.tmp 84, Operand.tmp 85], argTypes := #[24, 24] }, type := 4, pos := "law.go:110", after := #[{ on := 3, ground := Ground.data }, { on := 4, ground := Ground.data }, { on := 2, ground := Ground.chain }, { on := 2, ground := Ground.guard }], guard := some (2, true) }) (v := undef) rfl (by kernel_rfl) (by kernel_rfl) (by kernel_rfl) (fun _ _ _ h => h) (Or.inr ⟨by rfl, rfl⟩) (by assumption) ?_
        try simp only [Act.put, List.setIfInBounds_toArray, List.set_cons_zero, List.set_cons_succ]
        refine wpAnyH_take (i := 6) (oi := { dst := some 87, op := Op.unOp UnOp.not 4 (Operand.tmp 86), type := 4, pos := "law.go:110", after := #[{ on := 5, ground := Ground.data }, { on := 2, ground := Ground.guard }], guard := some (2, true) }) (v := undef) rfl (by kernel_rfl) (by kernel_rfl) (by kernel_rfl) (fun _ _ _ h => h) (Or.inr ⟨by rfl, rfl⟩) (by assumption) ?_
        try simp only [Act.put, List.setIfInBounds_toArray, List.set_cons_zero, List.set_cons_succ]
        refine wpAnyH_take (i := 7) (oi := { dst := some 88, op := Op.move (Operand.tmp 87), type := 4, pos := "law.go:110", after := #[{ on := 6, ground := Ground.data }, { on := 5, ground := Ground.chain }, { on := 2, ground := Ground.guard }], guard := some (2, true) }) (v := undef) rfl (by kernel_rfl) (by kernel_rfl) (by kernel_rfl) (fun _ _ _ h => h) (Or.inr ⟨by rfl, rfl⟩) (by assumption) ?_
        try simp only [Act.put, List.setIfInBounds_toArray, List.set_cons_zero, List.set_cons_succ]
        refine wpAnyH_take (i := 8) (oi := { dst := some 89, op := Op.load 24 (Operand.tmp 9), type := 24, pos := "law.go:110", after := #[{ on := 7, ground := Ground.guard }], guard := some (7, false) }) (v := undef) rfl (by kernel_rfl) (by kernel_rfl) (by kernel_rfl) (fun _ _ _ h => h) (Or.inr ⟨by rfl, rfl⟩) (by assumption) ?_
        try simp only [Act.put, List.setIfInBounds_toArray, List.set_cons_zero, List.set_cons_succ]
        refine wpAnyH_take (i := 9) (oi := { dst := some 90, op := Op.load 24 (Operand.tmp 4), type := 24, pos := "law.go:110", after := #[{ on := 7, ground := Ground.guard }], guard := some (7, false) }) (v := undef) rfl (by kernel_rfl) (by kernel_rfl) (by kernel_rfl) (fun _ _ _ h => h) (Or.inr ⟨by rfl, rfl⟩) (by assumption) ?_
        try simp only [Act.put, List.setIfInBounds_toArray, List.set_cons_zero, List.set_cons_succ]
        refine wpAnyH_take (i := 10) (oi := { dst := some 91, op := Op.call { callee := Callee.value (Operand.func 23), args := #[Operand.tmp 89, Operand.tmp 90], argTypes := #[24, 24] }, type := 4, pos := "law.go:110", after := #[{ on := 8, ground := Ground.data }, { on := 9, ground := Ground.data }, { on := 7, ground := Ground.chain }, { on := 7, ground := Ground.guard }], guard := some (7, false) }) (v := undef) rfl (by kernel_rfl) (by kernel_rfl) (by kernel_rfl) (fun _ _ _ h => h) (Or.inr ⟨by rfl, rfl⟩) (by assumption) ?_
        try simp only [Act.put, List.setIfInBounds_toArray, List.set_cons_zero, List.set_cons_succ]
        refine wpAnyH_take (i := 11) (oi := { dst := some 92, op := Op.unOp UnOp.not 4 (Operand.tmp 91), type := 4, pos := "law.go:110", after := #[{ on := 10, ground := Ground.data }, { on := 7, ground := Ground.guard }], guard := some (7, false) }) (v := undef) rfl (by kernel_rfl) (by kernel_rfl) (by kernel_rfl) (fun _ _ _ h => h) (Or.inr ⟨by rfl, rfl⟩) (by assumption) ?_
        try simp only [Act.put, List.setIfInBounds_toArray, List.set_cons_zero, List.set_cons_succ]
        refine wpAnyH_take (i := 12) (oi := { dst := some 93, op := Op.pick (Operand.tmp 88) (Operand.const (Value.bool true)) (Operand.tmp 92), type := 4, pos := "law.go:110", after := #[{ on := 7, ground := Ground.data }, { on := 11, ground := Ground.data }, { on := 2, ground := Ground.guard }], guard := some (2, true) }) (v := undef) rfl (by kernel_rfl) (by kernel_rfl) (by kernel_rfl) (fun _ _ _ h => h) (Or.inr ⟨by rfl, rfl⟩) (by assumption) ?_
        try simp only [Act.put, List.setIfInBounds_toArray, List.set_cons_zero, List.set_cons_succ]
        refine wpAnyH_take (i := 13) (oi := { dst := some 94, op := Op.move (Operand.tmp 93), type := 4, pos := "law.go:110", after := #[{ on := 12, ground := Ground.data }, { on := 10, ground := Ground.chain }, { on := 2, ground := Ground.guard }], guard := some (2, true) }) (v := undef) rfl (by kernel_rfl) (by kernel_rfl) (by kernel_rfl) (fun _ _ _ h => h) (Or.inr ⟨by rfl, rfl⟩) (by assumption) ?_
        try simp only [Act.put, List.setIfInBounds_toArray, List.set_cons_zero, List.set_cons_succ]
        refine wpAnyH_take (i := 14) (oi := { dst := some 95, op := Op.load 24 (Operand.tmp 5), type := 24, pos := "law.go:110", after := #[{ on := 13, ground := Ground.guard }], guard := some (13, false) }) (v := undef) rfl (by kernel_rfl) (by kernel_rfl) (by kernel_rfl) (fun _ _ _ h => h) (Or.inr ⟨by rfl, rfl⟩) (by assumption) ?_
        try simp only [Act.put, List.setIfInBounds_toArray, List.set_cons_zero, List.set_cons_succ]
        refine wpAnyH_take (i := 15) (oi := { dst := some 96, op := Op.load 24 (Operand.tmp 3), type := 24, pos := "law.go:110", after := #[{ on := 13, ground := Ground.guard }], guard := some (13, false) }) (v := undef) rfl (by kernel_rfl) (by kernel_rfl) (by kernel_rfl) (fun _ _ _ h => h) (Or.inr ⟨by rfl, rfl⟩) (by assumption) ?_
        try simp only [Act.put, List.setIfInBounds_toArray, List.set_cons_zero, List.set_cons_succ]
        refine wpAnyH_take (i := 16) (oi := { dst := some 97, op := Op.call { callee := Callee.value (Operand.func 23), args := #[Operand.tmp 95, Operand.tmp 96], argTypes := #[24, 24] }, type := 4, pos := "law.go:110", after := #[{ on := 14, ground := Ground.data }, { on := 15, ground := Ground.data }, { on := 13, ground := Ground.chain }, { on := 13, ground := Ground.guard }], guard := some (13, false) }) (v := undef) rfl (by kernel_rfl) (by kernel_rfl) (by kernel_rfl) (fun _ _ _ h => h) (Or.inr ⟨by rfl, rfl⟩) (by assumption) ?_
        try simp only [Act.put, List.setIfInBounds_toArray, List.set_cons_zero, List.set_cons_succ]
        refine wpAnyH_take (i := 17) (oi := { dst := some 98, op := Op.move (Operand.tmp 97), type := 4, pos := "law.go:110", after := #[{ on := 16, ground := Ground.data }, { on := 16, ground := Ground.chain }, { on := 13, ground := Ground.guard }], guard := some (13, false) }) (v := undef) rfl (by kernel_rfl) (by kernel_rfl) (by kernel_rfl) (fun _ _ _ h => h) (Or.inr ⟨by rfl, rfl⟩) (by assumption) ?_
        try simp only [Act.put, List.setIfInBounds_toArray, List.set_cons_zero, List.set_cons_succ]
        refine wpAnyH_take (i := 18) (oi := { dst := some 99, op := Op.load 24 (Operand.tmp 5), type := 24, pos := "law.go:110", after := #[{ on := 17, ground := Ground.guard }], guard := some (17, true) }) (v := undef) rfl (by kernel_rfl) (by kernel_rfl) (by kernel_rfl) (fun _ _ _ h => h) (Or.inr ⟨by rfl, rfl⟩) (by assumption) ?_
        try simp only [Act.put, List.setIfInBounds_toArray, List.set_cons_zero, List.set_cons_succ]
        refine wpAnyH_take (i := 19) (oi := { dst := some 100, op := Op.load 24 (Operand.tmp 4), type := 24, pos := "law.go:110", after := #[{ on := 17, ground := Ground.guard }], guard := some (17, true) }) (v := undef) rfl (by kernel_rfl) (by kernel_rfl) (by kernel_rfl) (fun _ _ _ h => h) (Or.inr ⟨by rfl, rfl⟩) (by assumption) ?_
        try simp only [Act.put, List.setIfInBounds_toArray, List.set_cons_zero, List.set_cons_succ]
        refine wpAnyH_take (i := 20) (oi := { dst := some 101, op := Op.call { callee := Callee.value (Operand.func 23), args := #[Operand.tmp 99, Operand.tmp 100], argTypes := #[24, 24] }, type := 4, pos := "law.go:110", after := #[{ on := 18, ground := Ground.data }, { on := 19, ground := Ground.data }, { on := 17, ground := Ground.chain }, { on := 17, ground := Ground.guard }], guard := some (17, true) }) (v := undef) rfl (by kernel_rfl) (by kernel_rfl) (by kernel_rfl) (fun _ _ _ h => h) (Or.inr ⟨by rfl, rfl⟩) (by assumption) ?_
        try simp only [Act.put, List.setIfInBounds_toArray, List.set_cons_zero, List.set_cons_succ]
        refine wpAnyH_take (i := 21) (oi := { dst := some 102, op := Op.pick (Operand.tmp 98) (Operand.tmp 101) (Operand.const (Value.bool false)), type := 4, pos := "law.go:110", after := #[{ on := 17, ground := Ground.data }, { on := 20, ground := Ground.data }, { on := 13, ground := Ground.guard }], guard := some (13, false) }) (v := undef) rfl (by kernel_rfl) (by kernel_rfl) (by kernel_rfl) (fun _ _ _ h => h) (Or.inr ⟨by rfl, rfl⟩) (by assumption) ?_
        try simp only [Act.put, List.setIfInBounds_toArray, List.set_cons_zero, List.set_cons_succ]
        refine wpAnyH_take (i := 22) (oi := { dst := some 103, op := Op.load 24 (Operand.tmp 5), type := 24, pos := "law.go:110", after := #[{ on := 13, ground := Ground.guard }], guard := some (13, false) }) (v := undef) rfl (by kernel_rfl) (by kernel_rfl) (by kernel_rfl) (fun _ _ _ h => h) (Or.inr ⟨by rfl, rfl⟩) (by assumption) ?_
        try simp only [Act.put, List.setIfInBounds_toArray, List.set_cons_zero, List.set_cons_succ]
        refine wpAnyH_take (i := 23) (oi := { dst := some 104, op := Op.load 24 (Operand.tmp 9), type := 24, pos := "law.go:110", after := #[{ on := 13, ground := Ground.guard }], guard := some (13, false) }) (v := undef) rfl (by kernel_rfl) (by kernel_rfl) (by kernel_rfl) (fun _ _ _ h => h) (Or.inr ⟨by rfl, rfl⟩) (by assumption) ?_
        try simp only [Act.put, List.setIfInBounds_toArray, List.set_cons_zero, List.set_cons_succ]
        refine wpAnyH_take (i := 24) (oi := { dst := some 105, op := Op.call { callee := Callee.value (Operand.func 23), args := #[Operand.tmp 103, Operand.tmp 104], argTypes := #[24, 24] }, type := 4, pos := "law.go:110", after := #[{ on := 22, ground := Ground.data }, { on := 23, ground := Ground.data }, { on := 20, ground := Ground.chain }, { on := 13, ground := Ground.guard }], guard := some (13, false) }) (v := undef) rfl (by kernel_rfl) (by kernel_rfl) (by kernel_rfl) (fun _ _ _ h => h) (Or.inr ⟨by rfl, rfl⟩) (by assumption) ?_
        try simp only [Act.put, List.setIfInBounds_toArray, List.set_cons_zero, List.set_cons_succ]
        refine wpAnyH_take (i := 25) (oi := { dst := some 106, op := Op.binOp BinOp.neq 4 (Operand.tmp 102) (Operand.tmp 105) 4, type := 4, pos := "law.go:110", after := #[{ on := 21, ground := Ground.data }, { on := 24, ground := Ground.data }, { on := 13, ground := Ground.guard }], guard := some (13, false) }) (v := undef) rfl (by kernel_rfl) (by kernel_rfl) (by kernel_rfl) (fun _ _ _ h => h) (Or.inr ⟨by rfl, rfl⟩) (by assumption) ?_
        try simp only [Act.put, List.setIfInBounds_toArray, List.set_cons_zero, List.set_cons_succ]
        refine wpAnyH_take (i := 26) (oi := { dst := some 107, op := Op.pick (Operand.tmp 94) (Operand.const (Value.bool true)) (Operand.tmp 106), type := 4, pos := "law.go:110", after := #[{ on := 13, ground := Ground.data }, { on := 25, ground := Ground.data }, { on := 2, ground := Ground.guard }], guard := some (2, true) }) (v := undef) rfl (by kernel_rfl) (by kernel_rfl) (by kernel_rfl) (fun _ _ _ h => h) (Or.inr ⟨by rfl, rfl⟩) (by assumption) ?_
        try simp only [Act.put, List.setIfInBounds_toArray, List.set_cons_zero, List.set_cons_succ]
        refine wpAnyH_take (i := 27) (oi := { dst := some 108, op := Op.pick (Operand.tmp 83) (Operand.tmp 107) (Operand.const (Value.bool false)), type := 4, pos := "law.go:110", after := #[{ on := 2, ground := Ground.data }, { on := 26, ground := Ground.data }], guard := none }) (v := (.bool false)) rfl (by kernel_rfl) (by kernel_rfl) (by kernel_rfl) (fun _ _ _ h => h) (Or.inl ⟨by rfl, ?_⟩) (by assumption) ?_
        · intro w hSw
          try dsimp only at hSw
          go_simp
        try simp only [Act.put, List.setIfInBounds_toArray, List.set_cons_zero, List.set_cons_succ]
        refine wpAnyH_done (by kernel_rfl) ?_ _
        refine NoPanic.normal ?_
        go_wp2_with fail
        go_meet
        exact ⟨rfl, HB.out⟩
    case rest =>
      obtain ⟨rfl, hcb⟩ := hcut
      have HBn := hid hcb
      clear c1 c2 c3 c4 c5 c6 j1 j2 e1 e2
      clear HB hcb
      have HB := HBn
      clear HBn
      obtain ⟨c1, c2⟩ := HV1.out.below HB.out
      obtain ⟨c3, c4⟩ := HV2.out.below HB.out
      obtain ⟨c5, c6⟩ := HV3.out.below HB.out
      obtain ⟨j1, j2⟩ := HJV.out.below HB.out
      obtain ⟨e1, e2⟩ := HMV.out.below HB.out
      rcases KJ.out with ⟨rfl, f1, f2, f3⟩ | rfl
      · rcases KM.out with ⟨rfl, g1, g2, g3⟩ | rfl
        · go_wp2_with fail
          refine (Awa.out _ HB.out).mono ?_
          clear c1 c2 c3 c4 c5 c6 j1 j2 e1 e2
          rintro e w' ⟨rfl, h'⟩
          have HBn := hid (HB.out.trans (h'.mono HB.out.size))
          clear HB h'
          have HB := HBn
          clear HBn
          obtain ⟨c1, c2⟩ := HV1.out.below HB.out
          obtain ⟨c3, c4⟩ := HV2.out.below HB.out
          obtain ⟨c5, c6⟩ := HV3.out.below HB.out
          obtain ⟨j1, j2⟩ := HJV.out.below HB.out
          obtain ⟨e1, e2⟩ := HMV.out.below HB.out
          go_wp2
          go_ret
          exact ⟨rfl, HZV.out.trans (HB.out.mono hVs)⟩
        · go_wp2_with fail
          refine (Awa.out _ HB.out).mono ?_
          clear c1 c2 c3 c4 c5 c6 j1 j2 e1 e2
          rintro e w' ⟨rfl, h'⟩
          have HBn := hid (HB.out.trans (h'.mono HB.out.size))
          clear HB h'
          have HB := HBn
          clear HBn
          obtain ⟨c1, c2⟩ := HV1.out.below HB.out
          obtain ⟨c3, c4⟩ := HV2.out.below HB.out
          obtain ⟨c5, c6⟩ := HV3.out.below HB.out
          obtain ⟨j1, j2⟩ := HJV.out.below HB.out
          obtain ⟨e1, e2⟩ := HMV.out.below HB.out
          go_wp2
          go_ret
          exact ⟨rfl, HZV.out.trans (HB.out.mono hVs)⟩
      · rcases KM.out with ⟨rfl, g1, g2, g3⟩ | rfl
        · go_wp2_with fail
          refine (Awa.out _ HB.out).mono ?_
          clear c1 c2 c3 c4 c5 c6 j1 j2 e1 e2
          rintro e w' ⟨rfl, h'⟩
          have HBn := hid (HB.out.trans (h'.mono HB.out.size))
          clear HB h'
          have HB := HBn
          clear HBn
          obtain ⟨c1, c2⟩ := HV1.out.below HB.out
          obtain ⟨c3, c4⟩ := HV2.out.below HB.out
          obtain ⟨c5, c6⟩ := HV3.out.below HB.out
          obtain ⟨j1, j2⟩ := HJV.out.below HB.out
          obtain ⟨e1, e2⟩ := HMV.out.below HB.out
          go_wp2
          go_ret
          exact ⟨rfl, HZV.out.trans (HB.out.mono hVs)⟩
        · go_wp2_with fail
          refine (Awa.out _ HB.out).mono ?_
          clear c1 c2 c3 c4 c5 c6 j1 j2 e1 e2
          rintro e w' ⟨rfl, h'⟩
          have HBn := hid (HB.out.trans (h'.mono HB.out.size))
          clear HB h'
          have HB := HBn
          clear HBn
          obtain ⟨c1, c2⟩ := HV1.out.below HB.out
          obtain ⟨c3, c4⟩ := HV2.out.below HB.out
          obtain ⟨c5, c6⟩ := HV3.out.below HB.out
          obtain ⟨j1, j2⟩ := HJV.out.below HB.out
          obtain ⟨e1, e2⟩ := HMV.out.below HB.out
          go_wp2
          go_ret
          exact ⟨rfl, HZV.out.trans (HB.out.mono hVs)⟩

end Go.Proofs.Ytjgohajlabdloaa
