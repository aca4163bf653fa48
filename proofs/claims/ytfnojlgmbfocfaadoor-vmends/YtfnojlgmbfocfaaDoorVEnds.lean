/-
  The walk of the law VmEnds.
-/
import Derived.Test.YtfnojlgmbfocfaaDoorVWork
namespace Go.Proofs.YtfnojlgmbfocfaaDoor
open Go.RowKit
set_option linter.unusedVariables false
set_option linter.unusedSimpArgs false

set_option maxRecDepth 20000 in
set_option maxHeartbeats 8000000 in
theorem ends_walk (v : Value) (l : List InsL) (c : Value) (s : StL) (vs vk : Value) (m : ByteArray) (fuel : Int) (w : World) (hS : SeesW w v l c s vs vk m) (hT : Tabs w) :
    Calls Tryd.prog 5 #[v, .int .i64 fuel] w fun e w' => e = .returned (.bool true) ∧ Below w.heap.size w w' := by
  have hS0 := hS
  obtain ⟨rfl, hc, hst, hcl, hml⟩ := hS
  obtain ⟨W, hW⟩ : ∃ W, W = w.alloc (.cells #[c, .int .i64 s.pc, vs, vk, .string m] 27) := ⟨_, rfl⟩
  have hb : Below w.heap.size w W := by rw [hW]; exact below_alloc w _
  have hz : WorkAt W w.heap.size c s.pc vs vk m := ⟨by rw [hW]; exact heap_alloc_new w _⟩
  have hTW := hT.below hb
  have h2W : 2 ≤ W.heap.size := by
    have := hTW.lt.2
    have e : 1 = 1 := rfl
    omega
  have HCW := hid (hc.below hb)
  have HSW := hid (hst.below hb)
  have HTW := hid hTW
  have HZ := hid (fun w1 (h : Below W.heap.size W w1) => hz.below h)
  have HAW := hid (fun w1 (h : Below W.heap.size W w1) => awake_any w1 (hTW.below h))
  have HCK := hid (fun w1 (h : Below W.heap.size W w1) => rcheck_any c l w1 ((hc.below hb).below h) hcl)
  have HMY := hid (fun w1 (h : Below W.heap.size W w1) => rMayS_any _ s vs vk l.length w1 ((hst.below hb).below h))
  obtain ⟨g0, g1, g2, g3, g4⟩ := hz.cells
  have HB := hid hb
  obtain ⟨cb, co, ca, ccap, hcv, _⟩ := hc
  subst hcv
  clear hS0 hst hb hz hTW hT
  by_cases hf0 : fuel < 0
  · have haw := HAW.out W (Below.refl _ _)
    go_enter Tryd.func5, Tryd.ntmps5
    iterate 6 (first | go_values | go_skip | go_guarded | go_step | go_upon | go_back | go_simp)
    rw [← hW]
    clear hW
    go_wp2_with fail
    refine haw.mono ?_
    rintro e w1 ⟨rfl, b1⟩
    have HB1 := hid (HB.out.trans (b1.mono HB.out.size))
    clear haw b1
    go_wp2
    go_ret
    exact ⟨rfl, HB1.out⟩
  have hf0' : decide (fuel < 0) = false := decide_eq_false hf0
  by_cases hf1 : 2000 < fuel
  · have haw := HAW.out W (Below.refl _ _)
    go_enter Tryd.func5, Tryd.ntmps5
    iterate 6 (first | go_values | go_skip | go_guarded | go_step | go_upon | go_back | go_simp)
    rw [← hW]
    clear hW
    go_wp2_with fail
    refine haw.mono ?_
    rintro e w1 ⟨rfl, b1⟩
    have HB1 := hid (HB.out.trans (b1.mono HB.out.size))
    clear haw b1
    go_wp2
    go_ret
    exact ⟨rfl, HB1.out⟩
  obtain ⟨n, rfl⟩ := Int.eq_ofNat_of_zero_le (show 0 ≤ fuel by omega)
  have hfl := filled_any m W hml
  go_enter Tryd.func5, Tryd.ntmps5
  iterate 6 (first | go_values | go_skip | go_guarded | go_step | go_upon | go_back | go_simp)
  rw [← hW]
  clear hW
  unfold FilR at hfl
  go_wp2_with fail
  refine hfl.mono ?_
  rintro e w1 ⟨q, r, vb, rfl, m1, q1, r1, rl1, b1⟩
  obtain ⟨e0, e1, e2, e3, e4⟩ := (HZ.out w1 b1).cells
  have hs1 := b1.size
  by_cases hE : refL l s true (n : Int) = 0
  · have hrun := run_good (.slice ca l.length ccap) l _ s vs vk vb n q r _ 0 0 w1 (HCW.out.below b1) (HTW.out.below b1) (HSW.out.below b1) hcl hE m1 rl1 (by omega) (by omega) (by rw [bytesOf_len]; omega) (by decide)
    have hchk : (checkL l).1 = 0 ∧ OkS l.length s := by
      unfold refL at hE
      by_cases h1 : (checkL l).1 = 0
      · rw [if_pos h1] at hE
        by_cases h2 : okS l.length s = true ∧ true = true ∧ 0 ≤ (n : Int) ∧ (n : Int) ≤ 1048576
        · exact ⟨h1, okS_iff.1 h2.1⟩
        · rw [if_neg h2] at hE; simp at hE
      · rw [if_neg h1] at hE; exact absurd hE h1
    have hall : ∀ i ∈ l, mayI l.length i = true := by
      rcases check_cases l with h | ⟨h, _, _⟩ | ⟨h, h2, h3, h4⟩
      · rw [h] at hchk; simp at hchk
      · rw [h] at hchk; simp at hchk
      · exact badAt_all h2
    have hk := run_kind hall n 0 s (bytesOf m)
    have hro := (run_ok hall n 0 s (bytesOf m) hchk.2).1
    unfold GoodR stopV memV at hrun
    obtain ⟨⟨⟨kd, tr, us⟩, sR, bR⟩, hR⟩ : ∃ R, R = runL l n 0 s (bytesOf m) := ⟨_, rfl⟩
    rw [← hR] at hrun hk hro
    simp only [Nat.zero_add] at hrun hk hro
    have HK := hid hk
    have HRO := hid hro
    have HBB := hid b1
    clear hfl m1 hE hchk hall hk hro hR g0 g1 g2 g3 g4
    go_wp2_with fail
    refine hrun.mono ?_
    rintro e w2 ⟨us2, uk2, rfl, o1, o2, od, ld, st, m2, a2, kp2⟩
    obtain ⟨a1, h1⟩ := o1.shape
    obtain ⟨a3, h3⟩ := o2.shape
    have hs2 := o1.sees
    have hs3 := o2.sees
    subst h1
    subst h3
    obtain ⟨L1, hL1⟩ : ∃ L, L = sR.st.length := ⟨_, rfl⟩
    obtain ⟨L2, hL2⟩ : ∃ L, L = sR.ca.length := ⟨_, rfl⟩
    rw [← hL1] at hs2
    rw [← hL2] at hs3
    rw [← hL1, ← hL2]
    obtain ⟨W2, hW2⟩ : ∃ W2, W2 = (w2.alloc (.cells #[.int .i64 sR.pc, .slice a1 L1 L1, .slice a3 L2 L2] 25)).alloc (.cells #[.int .i64 kd, .int .i64 tr, .int .i64 (us : Int)] 33) := ⟨_, rfl⟩
    have hbw2 : Below w2.heap.size w2 W2 := by rw [hW2]; exact below_alloc2 w2 _ _
    have z1 : W2.heap[w2.heap.size]? = some (.cells #[.int .i64 sR.pc, .slice a1 L1 L1, .slice a3 L2 L2] 25 (0, 0)) := by rw [hW2, Below.heap_alloc _ _ _ (by simp)]; exact heap_alloc_new w2 _
    have z2 : W2.heap[w2.heap.size + 1]? = some (.cells #[.int .i64 kd, .int .i64 tr, .int .i64 (us : Int)] 33 (0, 0)) := by
      rw [hW2]
      have := heap_alloc_new (w2.alloc (.cells #[.int .i64 sR.pc, .slice a1 L1 L1, .slice a3 L2 L2] 25)) (.cells #[.int .i64 kd, .int .i64 tr, .int .i64 (us : Int)] 33)
      simpa using this
    have hB2 : Below W.heap.size W W2 := (HBB.out.trans (kp2.below hs1 (by omega) (by omega))).trans (hbw2.mono (Nat.le_trans hs1 kp2.size))
    have hm2 := m2.below hbw2
    have hss : SeesS W2 (.agg #[.int .i64 sR.pc, .slice a1 L1 L1, .slice a3 L2 L2]) sR (.slice a1 L1 L1) (.slice a3 L2 L2) := ⟨rfl, hs2.below hbw2, hs3.below hbw2, by have := HRO.out.st; omega, by have := HRO.out.cl; omega⟩
    have HSS := hid hss
    have HM2 := hid hm2
    have HB2 := hid hB2
    have HZ1 := hid z1
    have HZ2 := hid z2
    have HA2 := hid a2
    have HOKR : Hid (okS l.length sR = true) := okS_iff.2 HRO.out
    clear hrun o1 o2 od m2 kp2 hs2 hs3 hbw2 z1 z2 hB2 hm2 hss hL1 hL2 e0 e1 e2 e3 e4
    have ha := HA2.out
    have hsum : (ld : Int) + (st : Int) ≤ (us : Int) := by omega
    have hsumd : decide ((ld : Int) + (st : Int) ≤ (us : Int)) = true := decide_eq_true hsum
    have hun : us ≤ 2000 := by
      rcases HK.out with hk | ⟨_, hk2, _⟩
      · simp only [Prod.mk.injEq] at hk; omega
      · have hk2 : us ≤ n := by simpa using hk2
        omega
    have hwr : IntKind.i64.wrap ((ld : Int) + (st : Int)) = (ld : Int) + (st : Int) := by
      have := wrap_i64_nat (ld + st) (by omega)
      simpa using this
    have u0 : decide ((us : Int) < 0) = false := decide_eq_false (by omega)
    rcases HK.out with hk | ⟨hk1, hk2, ⟨hkd, hk3⟩ | ⟨hkd, hk3⟩⟩
    · simp only [Prod.mk.injEq] at hk
      obtain ⟨rfl, rfl, hus⟩ := hk
      subst hus
      have u1 : decide ((us : Int) < (us : Int)) = false := decide_eq_false (by omega)
      clear HK a2 ha
      have HSX : Hid (∀ X, Below W2.heap.size W2 X → (Below W2.heap.size W2 X ∧ X.cell? ⟨w2.heap.size, 0, none⟩ = some (.int .i64 sR.pc) ∧ X.cell? ⟨w2.heap.size, 1, none⟩ = some (.slice a1 L1 L1) ∧ X.cell? ⟨w2.heap.size, 2, none⟩ = some (.slice a3 L2 L2) ∧ X.cell? ⟨w2.heap.size + 1, 0, none⟩ = some (.int .i64 1) ∧ X.cell? ⟨w2.heap.size + 1, 1, none⟩ = some (.int .i64 0) ∧ X.cell? ⟨w2.heap.size + 1, 2, none⟩ = some (.int .i64 (us : Int)) ∧ X.cell? ⟨w.heap.size, 0, none⟩ = some (.slice ca l.length ccap) ∧ X.cell? ⟨q, 1, none⟩ = some (.int .i64 (ld : Int)) ∧ X.cell? ⟨q, 2, none⟩ = some (.int .i64 (st : Int)))) := fun X hX => by
        have i1 : X.heap[w2.heap.size]? = some (.cells #[.int .i64 sR.pc, .slice a1 L1 L1, .slice a3 L2 L2] 25 (0, 0)) := by rw [hX.block _ (by have := (Array.getElem?_eq_some_iff.1 HZ2.out).1; omega)]; exact HZ1.out
        have i2 : X.heap[w2.heap.size + 1]? = some (.cells #[.int .i64 1, .int .i64 0, .int .i64 (us : Int)] 33 (0, 0)) := by rw [hX.block _ (Array.getElem?_eq_some_iff.1 HZ2.out).1]; exact HZ2.out
        obtain ⟨_, j1, j2, _, _⟩ := (HM2.out.below hX).cells
        exact ⟨hX, by simp [World.cell?, i1], by simp [World.cell?, i1], by simp [World.cell?, i1], by simp [World.cell?, i2], by simp [World.cell?, i2], by simp [World.cell?, i2], (HZ.out X (HB2.out.trans (hX.mono HB2.out.size))).cells.1, j1, j2⟩
      have HKB : Hid (∀ X Y : World, Below X.heap.size X Y → (Below W2.heap.size W2 X ∧ X.cell? ⟨w2.heap.size, 0, none⟩ = some (.int .i64 sR.pc) ∧ X.cell? ⟨w2.heap.size, 1, none⟩ = some (.slice a1 L1 L1) ∧ X.cell? ⟨w2.heap.size, 2, none⟩ = some (.slice a3 L2 L2) ∧ X.cell? ⟨w2.heap.size + 1, 0, none⟩ = some (.int .i64 1) ∧ X.cell? ⟨w2.heap.size + 1, 1, none⟩ = some (.int .i64 0) ∧ X.cell? ⟨w2.heap.size + 1, 2, none⟩ = some (.int .i64 (us : Int)) ∧ X.cell? ⟨w.heap.size, 0, none⟩ = some (.slice ca l.length ccap) ∧ X.cell? ⟨q, 1, none⟩ = some (.int .i64 (ld : Int)) ∧ X.cell? ⟨q, 2, none⟩ = some (.int .i64 (st : Int))) → (Below W2.heap.size W2 Y ∧ Y.cell? ⟨w2.heap.size, 0, none⟩ = some (.int .i64 sR.pc) ∧ Y.cell? ⟨w2.heap.size, 1, none⟩ = some (.slice a1 L1 L1) ∧ Y.cell? ⟨w2.heap.size, 2, none⟩ = some (.slice a3 L2 L2) ∧ Y.cell? ⟨w2.heap.size + 1, 0, none⟩ = some (.int .i64 1) ∧ Y.cell? ⟨w2.heap.size + 1, 1, none⟩ = some (.int .i64 0) ∧ Y.cell? ⟨w2.heap.size + 1, 2, none⟩ = some (.int .i64 (us : Int)) ∧ Y.cell? ⟨w.heap.size, 0, none⟩ = some (.slice ca l.length ccap) ∧ Y.cell? ⟨q, 1, none⟩ = some (.int .i64 (ld : Int)) ∧ Y.cell? ⟨q, 2, none⟩ = some (.int .i64 (st : Int)))) := fun X Y hb hs => HSX.out Y (hs.1.trans (hb.mono hs.1.size))
      have HMR := hid (fun X (hs : (Below W2.heap.size W2 X ∧ X.cell? ⟨w2.heap.size, 0, none⟩ = some (.int .i64 sR.pc) ∧ X.cell? ⟨w2.heap.size, 1, none⟩ = some (.slice a1 L1 L1) ∧ X.cell? ⟨w2.heap.size, 2, none⟩ = some (.slice a3 L2 L2) ∧ X.cell? ⟨w2.heap.size + 1, 0, none⟩ = some (.int .i64 1) ∧ X.cell? ⟨w2.heap.size + 1, 1, none⟩ = some (.int .i64 0) ∧ X.cell? ⟨w2.heap.size + 1, 2, none⟩ = some (.int .i64 (us : Int)) ∧ X.cell? ⟨w.heap.size, 0, none⟩ = some (.slice ca l.length ccap) ∧ X.cell? ⟨q, 1, none⟩ = some (.int .i64 (ld : Int)) ∧ X.cell? ⟨q, 2, none⟩ = some (.int .i64 (st : Int)))) => rMayS_any _ sR _ _ l.length X (HSS.out.below hs.1))
      rw [HOKR.out] at HMR
      have HAR := hid (fun X (hs : (Below W2.heap.size W2 X ∧ X.cell? ⟨w2.heap.size, 0, none⟩ = some (.int .i64 sR.pc) ∧ X.cell? ⟨w2.heap.size, 1, none⟩ = some (.slice a1 L1 L1) ∧ X.cell? ⟨w2.heap.size, 2, none⟩ = some (.slice a3 L2 L2) ∧ X.cell? ⟨w2.heap.size + 1, 0, none⟩ = some (.int .i64 1) ∧ X.cell? ⟨w2.heap.size + 1, 1, none⟩ = some (.int .i64 0) ∧ X.cell? ⟨w2.heap.size + 1, 2, none⟩ = some (.int .i64 (us : Int)) ∧ X.cell? ⟨w.heap.size, 0, none⟩ = some (.slice ca l.length ccap) ∧ X.cell? ⟨q, 1, none⟩ = some (.int .i64 (ld : Int)) ∧ X.cell? ⟨q, 2, none⟩ = some (.int .i64 (st : Int)))) => HAW.out X (HB2.out.trans (hs.1.mono HB2.out.size)))
      have HFR := hid (fun X (hs : (Below W2.heap.size W2 X ∧ X.cell? ⟨w2.heap.size, 0, none⟩ = some (.int .i64 sR.pc) ∧ X.cell? ⟨w2.heap.size, 1, none⟩ = some (.slice a1 L1 L1) ∧ X.cell? ⟨w2.heap.size, 2, none⟩ = some (.slice a3 L2 L2) ∧ X.cell? ⟨w2.heap.size + 1, 0, none⟩ = some (.int .i64 1) ∧ X.cell? ⟨w2.heap.size + 1, 1, none⟩ = some (.int .i64 0) ∧ X.cell? ⟨w2.heap.size + 1, 2, none⟩ = some (.int .i64 (us : Int)) ∧ X.cell? ⟨w.heap.size, 0, none⟩ = some (.slice ca l.length ccap) ∧ X.cell? ⟨q, 1, none⟩ = some (.int .i64 (ld : Int)) ∧ X.cell? ⟨q, 2, none⟩ = some (.int .i64 (st : Int)))) => HB.out.trans ((HB2.out.trans (hs.1.mono HB2.out.size)).mono HB.out.size))
      have k0 := HSX.out W2.drew (Below.drew (Below.refl _ _))
      go_wp2_with fail
      rw [← hW2]
      clear hW2
      go_region_held3 (fun X => (Below W2.heap.size W2 X ∧ X.cell? ⟨w2.heap.size, 0, none⟩ = some (.int .i64 sR.pc) ∧ X.cell? ⟨w2.heap.size, 1, none⟩ = some (.slice a1 L1 L1) ∧ X.cell? ⟨w2.heap.size, 2, none⟩ = some (.slice a3 L2 L2) ∧ X.cell? ⟨w2.heap.size + 1, 0, none⟩ = some (.int .i64 1) ∧ X.cell? ⟨w2.heap.size + 1, 1, none⟩ = some (.int .i64 0) ∧ X.cell? ⟨w2.heap.size + 1, 2, none⟩ = some (.int .i64 (us : Int)) ∧ X.cell? ⟨w.heap.size, 0, none⟩ = some (.slice ca l.length ccap) ∧ X.cell? ⟨q, 1, none⟩ = some (.int .i64 (ld : Int)) ∧ X.cell? ⟨q, 2, none⟩ = some (.int .i64 (st : Int))))
        (first | (with_reducible exact k0) | (exact HKB.out _ _ (by assumption) (by assumption)))
        (first
          | (go_at_call 17
             refine (HMR.out _ (by assumption)).mono ?_
             rintro e w3 ⟨rfl, b3⟩)
          | (go_at_call 10
             refine (HAR.out _ (by assumption)).mono ?_
             rintro e w4 ⟨rfl, b4⟩))
      all_goals
        have HBF := hid (HFR.out _ (by assumption))
        clear HMR HAR HKB HSX HFR
        go_wp2
        go_ret
        exact ⟨by first | rfl | simp, HBF.out⟩
    · have hk1 : 0 < us := hk1
      have hk2 : us ≤ n := by simpa using hk2
      have hkd := hkd
      subst hkd
      have u1 : decide ((n : Int) < (us : Int)) = false := decide_eq_false (by omega)
      have u2 : decide ((us : Int) < 1) = false := decide_eq_false (by omega)
      have u3 : (tr != 0) = true := by simp; omega
      clear HK a2 ha
      have HSX : Hid (∀ X, Below W2.heap.size W2 X → (Below W2.heap.size W2 X ∧ X.cell? ⟨w2.heap.size, 0, none⟩ = some (.int .i64 sR.pc) ∧ X.cell? ⟨w2.heap.size, 1, none⟩ = some (.slice a1 L1 L1) ∧ X.cell? ⟨w2.heap.size, 2, none⟩ = some (.slice a3 L2 L2) ∧ X.cell? ⟨w2.heap.size + 1, 0, none⟩ = some (.int .i64 2) ∧ X.cell? ⟨w2.heap.size + 1, 1, none⟩ = some (.int .i64 tr) ∧ X.cell? ⟨w2.heap.size + 1, 2, none⟩ = some (.int .i64 (us : Int)) ∧ X.cell? ⟨w.heap.size, 0, none⟩ = some (.slice ca l.length ccap) ∧ X.cell? ⟨q, 1, none⟩ = some (.int .i64 (ld : Int)) ∧ X.cell? ⟨q, 2, none⟩ = some (.int .i64 (st : Int)))) := fun X hX => by
        have i1 : X.heap[w2.heap.size]? = some (.cells #[.int .i64 sR.pc, .slice a1 L1 L1, .slice a3 L2 L2] 25 (0, 0)) := by rw [hX.block _ (by have := (Array.getElem?_eq_some_iff.1 HZ2.out).1; omega)]; exact HZ1.out
        have i2 : X.heap[w2.heap.size + 1]? = some (.cells #[.int .i64 2, .int .i64 tr, .int .i64 (us : Int)] 33 (0, 0)) := by rw [hX.block _ (Array.getElem?_eq_some_iff.1 HZ2.out).1]; exact HZ2.out
        obtain ⟨_, j1, j2, _, _⟩ := (HM2.out.below hX).cells
        exact ⟨hX, by simp [World.cell?, i1], by simp [World.cell?, i1], by simp [World.cell?, i1], by simp [World.cell?, i2], by simp [World.cell?, i2], by simp [World.cell?, i2], (HZ.out X (HB2.out.trans (hX.mono HB2.out.size))).cells.1, j1, j2⟩
      have HKB : Hid (∀ X Y : World, Below X.heap.size X Y → (Below W2.heap.size W2 X ∧ X.cell? ⟨w2.heap.size, 0, none⟩ = some (.int .i64 sR.pc) ∧ X.cell? ⟨w2.heap.size, 1, none⟩ = some (.slice a1 L1 L1) ∧ X.cell? ⟨w2.heap.size, 2, none⟩ = some (.slice a3 L2 L2) ∧ X.cell? ⟨w2.heap.size + 1, 0, none⟩ = some (.int .i64 2) ∧ X.cell? ⟨w2.heap.size + 1, 1, none⟩ = some (.int .i64 tr) ∧ X.cell? ⟨w2.heap.size + 1, 2, none⟩ = some (.int .i64 (us : Int)) ∧ X.cell? ⟨w.heap.size, 0, none⟩ = some (.slice ca l.length ccap) ∧ X.cell? ⟨q, 1, none⟩ = some (.int .i64 (ld : Int)) ∧ X.cell? ⟨q, 2, none⟩ = some (.int .i64 (st : Int))) → (Below W2.heap.size W2 Y ∧ Y.cell? ⟨w2.heap.size, 0, none⟩ = some (.int .i64 sR.pc) ∧ Y.cell? ⟨w2.heap.size, 1, none⟩ = some (.slice a1 L1 L1) ∧ Y.cell? ⟨w2.heap.size, 2, none⟩ = some (.slice a3 L2 L2) ∧ Y.cell? ⟨w2.heap.size + 1, 0, none⟩ = some (.int .i64 2) ∧ Y.cell? ⟨w2.heap.size + 1, 1, none⟩ = some (.int .i64 tr) ∧ Y.cell? ⟨w2.heap.size + 1, 2, none⟩ = some (.int .i64 (us : Int)) ∧ Y.cell? ⟨w.heap.size, 0, none⟩ = some (.slice ca l.length ccap) ∧ Y.cell? ⟨q, 1, none⟩ = some (.int .i64 (ld : Int)) ∧ Y.cell? ⟨q, 2, none⟩ = some (.int .i64 (st : Int)))) := fun X Y hb hs => HSX.out Y (hs.1.trans (hb.mono hs.1.size))
      have HMR := hid (fun X (hs : (Below W2.heap.size W2 X ∧ X.cell? ⟨w2.heap.size, 0, none⟩ = some (.int .i64 sR.pc) ∧ X.cell? ⟨w2.heap.size, 1, none⟩ = some (.slice a1 L1 L1) ∧ X.cell? ⟨w2.heap.size, 2, none⟩ = some (.slice a3 L2 L2) ∧ X.cell? ⟨w2.heap.size + 1, 0, none⟩ = some (.int .i64 2) ∧ X.cell? ⟨w2.heap.size + 1, 1, none⟩ = some (.int .i64 tr) ∧ X.cell? ⟨w2.heap.size + 1, 2, none⟩ = some (.int .i64 (us : Int)) ∧ X.cell? ⟨w.heap.size, 0, none⟩ = some (.slice ca l.length ccap) ∧ X.cell? ⟨q, 1, none⟩ = some (.int .i64 (ld : Int)) ∧ X.cell? ⟨q, 2, none⟩ = some (.int .i64 (st : Int)))) => rMayS_any _ sR _ _ l.length X (HSS.out.below hs.1))
      rw [HOKR.out] at HMR
      have HAR := hid (fun X (hs : (Below W2.heap.size W2 X ∧ X.cell? ⟨w2.heap.size, 0, none⟩ = some (.int .i64 sR.pc) ∧ X.cell? ⟨w2.heap.size, 1, none⟩ = some (.slice a1 L1 L1) ∧ X.cell? ⟨w2.heap.size, 2, none⟩ = some (.slice a3 L2 L2) ∧ X.cell? ⟨w2.heap.size + 1, 0, none⟩ = some (.int .i64 2) ∧ X.cell? ⟨w2.heap.size + 1, 1, none⟩ = some (.int .i64 tr) ∧ X.cell? ⟨w2.heap.size + 1, 2, none⟩ = some (.int .i64 (us : Int)) ∧ X.cell? ⟨w.heap.size, 0, none⟩ = some (.slice ca l.length ccap) ∧ X.cell? ⟨q, 1, none⟩ = some (.int .i64 (ld : Int)) ∧ X.cell? ⟨q, 2, none⟩ = some (.int .i64 (st : Int)))) => HAW.out X (HB2.out.trans (hs.1.mono HB2.out.size)))
      have HFR := hid (fun X (hs : (Below W2.heap.size W2 X ∧ X.cell? ⟨w2.heap.size, 0, none⟩ = some (.int .i64 sR.pc) ∧ X.cell? ⟨w2.heap.size, 1, none⟩ = some (.slice a1 L1 L1) ∧ X.cell? ⟨w2.heap.size, 2, none⟩ = some (.slice a3 L2 L2) ∧ X.cell? ⟨w2.heap.size + 1, 0, none⟩ = some (.int .i64 2) ∧ X.cell? ⟨w2.heap.size + 1, 1, none⟩ = some (.int .i64 tr) ∧ X.cell? ⟨w2.heap.size + 1, 2, none⟩ = some (.int .i64 (us : Int)) ∧ X.cell? ⟨w.heap.size, 0, none⟩ = some (.slice ca l.length ccap) ∧ X.cell? ⟨q, 1, none⟩ = some (.int .i64 (ld : Int)) ∧ X.cell? ⟨q, 2, none⟩ = some (.int .i64 (st : Int)))) => HB.out.trans ((HB2.out.trans (hs.1.mono HB2.out.size)).mono HB.out.size))
      have k0 := HSX.out W2.drew (Below.drew (Below.refl _ _))
      go_wp2_with fail
      rw [← hW2]
      clear hW2
      go_region_held3 (fun X => (Below W2.heap.size W2 X ∧ X.cell? ⟨w2.heap.size, 0, none⟩ = some (.int .i64 sR.pc) ∧ X.cell? ⟨w2.heap.size, 1, none⟩ = some (.slice a1 L1 L1) ∧ X.cell? ⟨w2.heap.size, 2, none⟩ = some (.slice a3 L2 L2) ∧ X.cell? ⟨w2.heap.size + 1, 0, none⟩ = some (.int .i64 2) ∧ X.cell? ⟨w2.heap.size + 1, 1, none⟩ = some (.int .i64 tr) ∧ X.cell? ⟨w2.heap.size + 1, 2, none⟩ = some (.int .i64 (us : Int)) ∧ X.cell? ⟨w.heap.size, 0, none⟩ = some (.slice ca l.length ccap) ∧ X.cell? ⟨q, 1, none⟩ = some (.int .i64 (ld : Int)) ∧ X.cell? ⟨q, 2, none⟩ = some (.int .i64 (st : Int))))
        (first | (with_reducible exact k0) | (exact HKB.out _ _ (by assumption) (by assumption)))
        (first
          | (go_at_call 17
             refine (HMR.out _ (by assumption)).mono ?_
             rintro e w3 ⟨rfl, b3⟩)
          | (go_at_call 10
             refine (HAR.out _ (by assumption)).mono ?_
             rintro e w4 ⟨rfl, b4⟩))
      all_goals
        have HBF := hid (HFR.out _ (by assumption))
        clear HMR HAR HKB HSX HFR
        go_wp2
        go_ret
        exact ⟨by first | rfl | simp, HBF.out⟩
    · have hk1 : 0 < us := hk1
      have hk2 : us ≤ n := by simpa using hk2
      have hkd := hkd
      subst hk3
      have u1 : decide ((n : Int) < (us : Int)) = false := decide_eq_false (by omega)
      have u2 : decide ((us : Int) < 1) = false := decide_eq_false (by omega)
      have u3 : (kd == 1) = false := by rw [beq_eq_false_iff_ne]; omega
      have u5 : (kd != 1) = true := by simp; omega
      have u4 : (kd == 2) = false := by rw [beq_eq_false_iff_ne]; omega
      clear HK a2 ha hkd
      have HSX : Hid (∀ X, Below W2.heap.size W2 X → (Below W2.heap.size W2 X ∧ X.cell? ⟨w2.heap.size, 0, none⟩ = some (.int .i64 sR.pc) ∧ X.cell? ⟨w2.heap.size, 1, none⟩ = some (.slice a1 L1 L1) ∧ X.cell? ⟨w2.heap.size, 2, none⟩ = some (.slice a3 L2 L2) ∧ X.cell? ⟨w2.heap.size + 1, 0, none⟩ = some (.int .i64 kd) ∧ X.cell? ⟨w2.heap.size + 1, 1, none⟩ = some (.int .i64 0) ∧ X.cell? ⟨w2.heap.size + 1, 2, none⟩ = some (.int .i64 (us : Int)) ∧ X.cell? ⟨w.heap.size, 0, none⟩ = some (.slice ca l.length ccap) ∧ X.cell? ⟨q, 1, none⟩ = some (.int .i64 (ld : Int)) ∧ X.cell? ⟨q, 2, none⟩ = some (.int .i64 (st : Int)))) := fun X hX => by
        have i1 : X.heap[w2.heap.size]? = some (.cells #[.int .i64 sR.pc, .slice a1 L1 L1, .slice a3 L2 L2] 25 (0, 0)) := by rw [hX.block _ (by have := (Array.getElem?_eq_some_iff.1 HZ2.out).1; omega)]; exact HZ1.out
        have i2 : X.heap[w2.heap.size + 1]? = some (.cells #[.int .i64 kd, .int .i64 0, .int .i64 (us : Int)] 33 (0, 0)) := by rw [hX.block _ (Array.getElem?_eq_some_iff.1 HZ2.out).1]; exact HZ2.out
        obtain ⟨_, j1, j2, _, _⟩ := (HM2.out.below hX).cells
        exact ⟨hX, by simp [World.cell?, i1], by simp [World.cell?, i1], by simp [World.cell?, i1], by simp [World.cell?, i2], by simp [World.cell?, i2], by simp [World.cell?, i2], (HZ.out X (HB2.out.trans (hX.mono HB2.out.size))).cells.1, j1, j2⟩
      have HKB : Hid (∀ X Y : World, Below X.heap.size X Y → (Below W2.heap.size W2 X ∧ X.cell? ⟨w2.heap.size, 0, none⟩ = some (.int .i64 sR.pc) ∧ X.cell? ⟨w2.heap.size, 1, none⟩ = some (.slice a1 L1 L1) ∧ X.cell? ⟨w2.heap.size, 2, none⟩ = some (.slice a3 L2 L2) ∧ X.cell? ⟨w2.heap.size + 1, 0, none⟩ = some (.int .i64 kd) ∧ X.cell? ⟨w2.heap.size + 1, 1, none⟩ = some (.int .i64 0) ∧ X.cell? ⟨w2.heap.size + 1, 2, none⟩ = some (.int .i64 (us : Int)) ∧ X.cell? ⟨w.heap.size, 0, none⟩ = some (.slice ca l.length ccap) ∧ X.cell? ⟨q, 1, none⟩ = some (.int .i64 (ld : Int)) ∧ X.cell? ⟨q, 2, none⟩ = some (.int .i64 (st : Int))) → (Below W2.heap.size W2 Y ∧ Y.cell? ⟨w2.heap.size, 0, none⟩ = some (.int .i64 sR.pc) ∧ Y.cell? ⟨w2.heap.size, 1, none⟩ = some (.slice a1 L1 L1) ∧ Y.cell? ⟨w2.heap.size, 2, none⟩ = some (.slice a3 L2 L2) ∧ Y.cell? ⟨w2.heap.size + 1, 0, none⟩ = some (.int .i64 kd) ∧ Y.cell? ⟨w2.heap.size + 1, 1, none⟩ = some (.int .i64 0) ∧ Y.cell? ⟨w2.heap.size + 1, 2, none⟩ = some (.int .i64 (us : Int)) ∧ Y.cell? ⟨w.heap.size, 0, none⟩ = some (.slice ca l.length ccap) ∧ Y.cell? ⟨q, 1, none⟩ = some (.int .i64 (ld : Int)) ∧ Y.cell? ⟨q, 2, none⟩ = some (.int .i64 (st : Int)))) := fun X Y hb hs => HSX.out Y (hs.1.trans (hb.mono hs.1.size))
      have HMR := hid (fun X (hs : (Below W2.heap.size W2 X ∧ X.cell? ⟨w2.heap.size, 0, none⟩ = some (.int .i64 sR.pc) ∧ X.cell? ⟨w2.heap.size, 1, none⟩ = some (.slice a1 L1 L1) ∧ X.cell? ⟨w2.heap.size, 2, none⟩ = some (.slice a3 L2 L2) ∧ X.cell? ⟨w2.heap.size + 1, 0, none⟩ = some (.int .i64 kd) ∧ X.cell? ⟨w2.heap.size + 1, 1, none⟩ = some (.int .i64 0) ∧ X.cell? ⟨w2.heap.size + 1, 2, none⟩ = some (.int .i64 (us : Int)) ∧ X.cell? ⟨w.heap.size, 0, none⟩ = some (.slice ca l.length ccap) ∧ X.cell? ⟨q, 1, none⟩ = some (.int .i64 (ld : Int)) ∧ X.cell? ⟨q, 2, none⟩ = some (.int .i64 (st : Int)))) => rMayS_any _ sR _ _ l.length X (HSS.out.below hs.1))
      rw [HOKR.out] at HMR
      have HAR := hid (fun X (hs : (Below W2.heap.size W2 X ∧ X.cell? ⟨w2.heap.size, 0, none⟩ = some (.int .i64 sR.pc) ∧ X.cell? ⟨w2.heap.size, 1, none⟩ = some (.slice a1 L1 L1) ∧ X.cell? ⟨w2.heap.size, 2, none⟩ = some (.slice a3 L2 L2) ∧ X.cell? ⟨w2.heap.size + 1, 0, none⟩ = some (.int .i64 kd) ∧ X.cell? ⟨w2.heap.size + 1, 1, none⟩ = some (.int .i64 0) ∧ X.cell? ⟨w2.heap.size + 1, 2, none⟩ = some (.int .i64 (us : Int)) ∧ X.cell? ⟨w.heap.size, 0, none⟩ = some (.slice ca l.length ccap) ∧ X.cell? ⟨q, 1, none⟩ = some (.int .i64 (ld : Int)) ∧ X.cell? ⟨q, 2, none⟩ = some (.int .i64 (st : Int)))) => HAW.out X (HB2.out.trans (hs.1.mono HB2.out.size)))
      have HFR := hid (fun X (hs : (Below W2.heap.size W2 X ∧ X.cell? ⟨w2.heap.size, 0, none⟩ = some (.int .i64 sR.pc) ∧ X.cell? ⟨w2.heap.size, 1, none⟩ = some (.slice a1 L1 L1) ∧ X.cell? ⟨w2.heap.size, 2, none⟩ = some (.slice a3 L2 L2) ∧ X.cell? ⟨w2.heap.size + 1, 0, none⟩ = some (.int .i64 kd) ∧ X.cell? ⟨w2.heap.size + 1, 1, none⟩ = some (.int .i64 0) ∧ X.cell? ⟨w2.heap.size + 1, 2, none⟩ = some (.int .i64 (us : Int)) ∧ X.cell? ⟨w.heap.size, 0, none⟩ = some (.slice ca l.length ccap) ∧ X.cell? ⟨q, 1, none⟩ = some (.int .i64 (ld : Int)) ∧ X.cell? ⟨q, 2, none⟩ = some (.int .i64 (st : Int)))) => HB.out.trans ((HB2.out.trans (hs.1.mono HB2.out.size)).mono HB.out.size))
      have k0 := HSX.out W2.drew (Below.drew (Below.refl _ _))
      go_wp2_with fail
      rw [← hW2]
      clear hW2
      go_region_held3 (fun X => (Below W2.heap.size W2 X ∧ X.cell? ⟨w2.heap.size, 0, none⟩ = some (.int .i64 sR.pc) ∧ X.cell? ⟨w2.heap.size, 1, none⟩ = some (.slice a1 L1 L1) ∧ X.cell? ⟨w2.heap.size, 2, none⟩ = some (.slice a3 L2 L2) ∧ X.cell? ⟨w2.heap.size + 1, 0, none⟩ = some (.int .i64 kd) ∧ X.cell? ⟨w2.heap.size + 1, 1, none⟩ = some (.int .i64 0) ∧ X.cell? ⟨w2.heap.size + 1, 2, none⟩ = some (.int .i64 (us : Int)) ∧ X.cell? ⟨w.heap.size, 0, none⟩ = some (.slice ca l.length ccap) ∧ X.cell? ⟨q, 1, none⟩ = some (.int .i64 (ld : Int)) ∧ X.cell? ⟨q, 2, none⟩ = some (.int .i64 (st : Int))))
        (first | (with_reducible exact k0) | (exact HKB.out _ _ (by assumption) (by assumption)))
        (first
          | (go_at_call 17
             refine (HMR.out _ (by assumption)).mono ?_
             rintro e w3 ⟨rfl, b3⟩)
          | (go_at_call 10
             refine (HAR.out _ (by assumption)).mono ?_
             rintro e w4 ⟨rfl, b4⟩))
      all_goals
        have HBF := hid (HFR.out _ (by assumption))
        clear HMR HAR HKB HSX HFR
        go_wp2
        go_ret
        exact ⟨by first | rfl | simp, HBF.out⟩
  · have hrb := run_bad (.slice ca l.length ccap) l _ s vs vk (n : Int) (memV q) true (Or.inl ⟨rfl, q, rfl⟩) w1 (HCW.out.below b1) (HTW.out.below b1) (HSW.out.below b1) hcl hE
    have hcase : (¬ (checkL l).1 = 0 ∧ refL l s true (n : Int) = (checkL l).1) ∨ ((checkL l).1 = 0 ∧ refL l s true (n : Int) = 1 ∧ okS l.length s = false) := by
      unfold refL at hE ⊢
      by_cases h1 : (checkL l).1 = 0
      · rw [if_pos h1] at hE ⊢
        by_cases h2 : okS l.length s = true
        · exact absurd (if_pos ⟨h2, rfl, by omega, by omega⟩) hE
        · rw [if_neg (fun h => h2 h.1)]
          exact Or.inr ⟨h1, rfl, by simpa using h2⟩
      · rw [if_neg h1]
        exact Or.inl ⟨h1, rfl⟩
    obtain ⟨E, hEE⟩ : ∃ E, E = refL l s true (n : Int) := ⟨_, rfl⟩
    obtain ⟨CE, hCE⟩ : ∃ CE, CE = (checkL l).1 := ⟨_, rfl⟩
    obtain ⟨CK, hCK⟩ : ∃ CK, CK = (checkL l).2 := ⟨_, rfl⟩
    rw [← hEE] at hrb hcase hE
    rw [← hCE] at hcase
    have HCE := hid hCE
    have HCK2 := hid hCK
    have hE' : (E != 0) = true := by simpa using hE
    have HBB := hid b1
    unfold memV at hrb
    clear hfl m1 hEE hCE hCK g0 g1 g2 g3 g4 hE
    go_wp2_with fail
    refine hrb.mono ?_
    rintro e w2 ⟨rfl, b2⟩
    obtain ⟨W2, hW2⟩ : ∃ W2, W2 = (w2.alloc (.cells #[.int .i64 0, .slice none 0 0, .slice none 0 0] 25)).alloc (.cells #[.int .i64 0, .int .i64 0, .int .i64 0] 33) := ⟨_, rfl⟩
    have hbw2 : Below w2.heap.size w2 W2 := by rw [hW2]; exact below_alloc2 w2 _ _
    have hb2' := HBB.out.trans (b2.mono hs1)
    have hB2 : Below W.heap.size W W2 := hb2'.trans (hbw2.mono hb2'.size)
    have hck := HCK.out W2 hB2
    rw [← HCE.out, ← HCK2.out] at hck
    obtain ⟨x0, x1, x2, x3, x4⟩ := (HZ.out w2 hb2').cells
    have hx : w.heap.size < w2.heap.size := (HZ.out w2 hb2').lt
    have HB2 := hid hB2
    clear hrb b2 hbw2 hb2' hB2 e0 e1 e2 e3 e4
    go_wp2_with fail
    rw [← hW2]
    clear hW2
    refine hck.mono ?_
    rintro e w3 ⟨rfl, b3⟩
    have hB3 := HB2.out.trans (b3.mono HB2.out.size)
    obtain ⟨f0, f1, f2, f3, f4⟩ := (HZ.out w3 hB3).cells
    have HB3 := hid hB3
    have hmy := HMY.out w3 hB3
    have haw := HAW.out w3 hB3
    have HAW4 := hid (fun w4 (h : Below w3.heap.size w3 w4) => HAW.out w4 (hB3.trans (h.mono hB3.size)))
    clear hck b3 hB3 x0 x1 x2 x3 x4
    rcases hcase with ⟨h1, rfl⟩ | ⟨rfl, rfl, h3⟩
    · have hee : (E == E) = true := by simp
      go_wp2_with fail
      refine haw.mono ?_
      rintro e w4 ⟨rfl, b4⟩
      have HB4 := hid (HB.out.trans ((HB3.out.trans (b4.mono HB3.out.size)).mono HB.out.size))
      clear haw b4
      go_wp2
      go_ret
      exact ⟨by first | rfl | simp, HB4.out⟩
    · rw [h3] at hmy
      go_wp2_with fail
      refine hmy.mono ?_
      rintro e w4 ⟨rfl, b4⟩
      have haw4 := HAW4.out w4 b4
      have HB4 := hid (HB3.out.trans (b4.mono HB3.out.size))
      clear hmy haw b4
      go_wp2_with fail
      refine haw4.mono ?_
      rintro e w5 ⟨rfl, b5⟩
      have HB5 := hid (HB.out.trans ((HB4.out.trans (b5.mono HB4.out.size)).mono HB.out.size))
      clear haw4 b5
      go_wp2
      go_ret
      exact ⟨by first | rfl | simp, HB5.out⟩
end Go.Proofs.YtfnojlgmbfocfaaDoor
