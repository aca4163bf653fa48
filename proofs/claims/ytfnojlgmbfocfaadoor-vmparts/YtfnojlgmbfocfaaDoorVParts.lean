/-
  The walk of the law VmParts.
-/
import Derived.Test.YtfnojlgmbfocfaaDoorVWork
namespace Go.Proofs.YtfnojlgmbfocfaaDoor
open Go.RowKit
set_option linter.unusedVariables false
set_option linter.unusedSimpArgs false

theorem MemAt.conv {w : World} {q r : Nat} {b : List Nat} {ld st : Nat} {vb : Value} (h : MemAt w q r b ld st vb) : (convert 37 9 vb).run Tryd.prog w = .ok (.string (strOf b)) w := conv_own h.own
theorem MemAt.kp {w w' : World} {q r q2 r2 B : Nat} {b : List Nat} {ld st : Nat} {vb : Value} (h : MemAt w q r b ld st vb) (hk : Kp B q2 r2 w w') (hB : w.heap.size ≤ B) (h1 : q ≠ q2) (h2 : q ≠ r2) (h3 : r ≠ q2) (h4 : r ≠ r2) : MemAt w' q r b ld st vb :=
  h.same (hk.block q (by have := h.lt; omega) h1 h2) (fun j hj => by have e := (h.at_ j hj).1; subst e; exact hk.block j (by have := h.rlt j hj; omega) h3 h4)
theorem OwnC.kp {w w' : World} {B C q r : Nat} {v : Value} {xs : List Int} (h : OwnC w B v xs) (hk : Kp C q r w w') (hC : w.heap.size ≤ C) (hq : q < B) (hr : r < B) : OwnC w' B v xs :=
  h.same (fun j hj => by have := h.lt j hj; exact hk.block j (by omega) (by omega) (by omega))
/-- Two memories of the same bytes. -/
structure TwoM (W w1 : World) (m : ByteArray) (q r q2 r2 : Nat) (vb vb2 : Value) : Prop where
  m1 : MemAt w1 q r (bytesOf m) 0 0 vb
  m2 : MemAt w1 q2 r2 (bytesOf m) 0 0 vb2
  a1 : W.heap.size ≤ q
  a2 : W.heap.size ≤ r
  a3 : W.heap.size ≤ q2
  a4 : W.heap.size ≤ r2
  n1 : q ≠ q2
  n2 : q ≠ r2
  n3 : r ≠ q2
  n4 : r ≠ r2
  l1 : r < w1.heap.size
  l2 : r2 < w1.heap.size
  b : Below W.heap.size W w1
theorem TwoM.of {W w3 w4 w5 : World} {m : ByteArray} {q r q2 r2 : Nat} {vb vb2 : Value} (hb3 : Below W.heap.size W w3) (m1 : MemAt w4 q r (bytesOf m) 0 0 vb) (h1 : w3.heap.size ≤ q) (h2 : w3.heap.size ≤ r) (h3 : r < w4.heap.size) (b4 : Below w3.heap.size w3 w4)
    (m2 : MemAt w5 q2 r2 (bytesOf m) 0 0 vb2) (h4 : w4.heap.size ≤ q2) (h5 : w4.heap.size ≤ r2) (h6 : r2 < w5.heap.size) (b5 : Below w4.heap.size w4 w5) : TwoM W w5 m q r q2 r2 vb vb2 := by
  have s3 := hb3.size
  have s4 := b4.size
  have s5 := b5.size
  have l1 := m1.lt
  exact ⟨m1.below b5, m2, by omega, by omega, by omega, by omega, by omega, by omega, by omega, by omega, by omega, h6, (hb3.trans (b4.mono s3)).trans (b5.mono (by omega))⟩

theorem refL_same {l : List InsL} {s : StL} {a b : Int} (ha : 0 ≤ a ∧ a ≤ 1048576) (hb : 0 ≤ b ∧ b ≤ 1048576) : refL l s true a = refL l s true b := by
  unfold refL
  split
  · by_cases h : okS l.length s = true
    · rw [if_pos ⟨h, rfl, ha⟩, if_pos ⟨h, rfl, hb⟩]
    · rw [if_neg (fun x => h x.1), if_neg (fun x => h x.1)]
  · rfl
theorem refL_parts {l : List InsL} {s : StL} {a : Int} (h : refL l s true a = 0) : (checkL l).1 = 0 ∧ OkS l.length s := by
  unfold refL at h
  by_cases h1 : (checkL l).1 = 0
  · rw [if_pos h1] at h
    by_cases h2 : okS l.length s = true ∧ true = true ∧ 0 ≤ a ∧ a ≤ 1048576
    · exact ⟨h1, okS_iff.1 h2.1⟩
    · rw [if_neg h2] at h; simp at h
  · rw [if_neg h1] at h; exact absurd h h1
theorem refL_ok {l : List InsL} {s : StL} {a : Int} (h1 : (checkL l).1 = 0) (h2 : OkS l.length s) (ha : 0 ≤ a ∧ a ≤ 1048576) : refL l s true a = 0 := by
  unfold refL
  rw [if_pos h1, if_pos ⟨okS_iff.2 h2, rfl, ha⟩]
theorem check_all {l : List InsL} (h : (checkL l).1 = 0) : ∀ i ∈ l, mayI l.length i = true := by
  rcases check_cases l with h1 | ⟨h1, _, _⟩ | ⟨h1, h2, h3, h4⟩
  · rw [h1] at h; simp at h
  · rw [h1] at h; simp at h
  · exact badAt_all h2

set_option maxRecDepth 20000 in
set_option maxHeartbeats 8000000 in
theorem parts_walk (v : Value) (l : List InsL) (c : Value) (s : StL) (vs vk : Value) (m : ByteArray) (fa fb : Int) (w : World) (hS : SeesW w v l c s vs vk m) (hT : Tabs w) :
    Calls Tryd.prog 4 #[v, .int .i64 fa, .int .i64 fb] w fun e w' => e = .returned (.bool true) ∧ Below w.heap.size w w' := by
  have hS0 := hS
  obtain ⟨rfl, hc, hst, hcl, hml⟩ := hS
  obtain ⟨W, hW⟩ : ∃ W, W = w.alloc (.cells #[c, .int .i64 s.pc, vs, vk, .string m] 27) := ⟨_, rfl⟩
  have hb : Below w.heap.size w W := by rw [hW]; exact below_alloc w _
  have hz : WorkAt W w.heap.size c s.pc vs vk m := ⟨by rw [hW]; exact heap_alloc_new w _⟩
  have hTW := hT.below hb
  have h2W : 2 ≤ W.heap.size := by
    have := hTW.lt.2
    have e : 1 = 1 := rfl
    omega
  have HCW := hid (hc.below hb)
  have HSW := hid (hst.below hb)
  have HTW := hid hTW
  have HZ := hid (fun w1 (h : Below W.heap.size W w1) => hz.below h)
  have HAW := hid (fun w1 (h : Below W.heap.size W w1) => awake_any w1 (hTW.below h))
  obtain ⟨g0, g1, g2, g3, g4⟩ := hz.cells
  have HB := hid hb
  obtain ⟨cb, co, ca, ccap, hcv, _⟩ := hc
  subst hcv
  clear hS0 hst hb hz hTW hT
  by_cases ha0 : fa < 0
  · have haw := HAW.out W (Below.refl _ _)
    go_enter Tryd.func4, Tryd.ntmps4
    iterate 6 (first | go_values | go_skip | go_guarded | go_step | go_upon | go_back | go_simp)
    rw [← hW]
    clear hW
    go_wp2_with fail
    refine haw.mono ?_
    rintro e w1 ⟨rfl, b1⟩
    have HB1 := hid (HB.out.trans (b1.mono HB.out.size))
    clear haw b1
    go_wp2
    go_ret
    exact ⟨rfl, HB1.out⟩
  have ha0' : decide (fa < 0) = false := decide_eq_false ha0
  by_cases hb0 : fb < 0
  · have haw := HAW.out W (Below.refl _ _)
    go_enter Tryd.func4, Tryd.ntmps4
    iterate 6 (first | go_values | go_skip | go_guarded | go_step | go_upon | go_back | go_simp)
    rw [← hW]
    clear hW
    go_wp2_with fail
    refine haw.mono ?_
    rintro e w1 ⟨rfl, b1⟩
    have HB1 := hid (HB.out.trans (b1.mono HB.out.size))
    clear haw b1
    go_wp2
    go_ret
    exact ⟨rfl, HB1.out⟩
  have hb0' : decide (fb < 0) = false := decide_eq_false hb0
  by_cases ha1 : 2000 < fa
  · have haw := HAW.out W (Below.refl _ _)
    go_enter Tryd.func4, Tryd.ntmps4
    iterate 6 (first | go_values | go_skip | go_guarded | go_step | go_upon | go_back | go_simp)
    rw [← hW]
    clear hW
    go_wp2_with fail
    refine haw.mono ?_
    rintro e w1 ⟨rfl, b1⟩
    have HB1 := hid (HB.out.trans (b1.mono HB.out.size))
    clear haw b1
    go_wp2
    go_ret
    exact ⟨rfl, HB1.out⟩
  have ha1' : decide (2000 < fa) = false := decide_eq_false ha1
  by_cases hb1 : 2000 < fb
  · have haw := HAW.out W (Below.refl _ _)
    go_enter Tryd.func4, Tryd.ntmps4
    iterate 6 (first | go_values | go_skip | go_guarded | go_step | go_upon | go_back | go_simp)
    rw [← hW]
    clear hW
    go_wp2_with fail
    refine haw.mono ?_
    rintro e w1 ⟨rfl, b1⟩
    have HB1 := hid (HB.out.trans (b1.mono HB.out.size))
    clear haw b1
    go_wp2
    go_ret
    exact ⟨rfl, HB1.out⟩
  have hb1' : decide (2000 < fb) = false := decide_eq_false hb1
  obtain ⟨a, rfl⟩ := Int.eq_ofNat_of_zero_le (show 0 ≤ fa by omega)
  obtain ⟨b, rfl⟩ := Int.eq_ofNat_of_zero_le (show 0 ≤ fb by omega)
  have hfl := hid (fun X => filled_any m X hml)
  have HSX : Hid (∀ X, Below W.heap.size W X → (Below W.heap.size W X ∧ X.cell? ⟨w.heap.size, 4, none⟩ = some (.string m))) := fun X hX => ⟨hX, (HZ.out X hX).cells.2.2.2.2⟩
  have HKB : Hid (∀ X Y : World, Below X.heap.size X Y → (Below W.heap.size W X ∧ X.cell? ⟨w.heap.size, 4, none⟩ = some (.string m)) → (Below W.heap.size W Y ∧ Y.cell? ⟨w.heap.size, 4, none⟩ = some (.string m))) := fun X Y hb hs => HSX.out Y (hs.1.trans (hb.mono hs.1.size))
  have k0 := HSX.out W.drew (Below.drew (Below.refl _ _))
  have tok : Hid True := hid trivial
  have hdr : Below W.heap.size W W.drew := Below.drew (Below.refl _ _)
  have HDR := hid hdr
  clear hdr
  unfold FilR at hfl
  go_enter Tryd.func4, Tryd.ntmps4
  iterate 6 (first | go_values | go_skip | go_guarded | go_step | go_upon | go_back | go_simp)
  rw [← hW]
  clear hW
  go_wp2_with fail
  go_cut [7, 8] (fun x7 x8 wx => ∃ q r vb q2 r2 vb2, x7 = .pointer (some ⟨q, 0, none⟩) ∧ x8 = .pointer (some ⟨q2, 0, none⟩) ∧ Hid (TwoM W wx m q r q2 r2 vb vb2))
  case first =>
    go_region_held3 (fun X => (Below W.heap.size W X ∧ X.cell? ⟨w.heap.size, 4, none⟩ = some (.string m)))
      (first | (with_reducible exact k0) | (exact HKB.out _ _ (by assumption) (by assumption)))
      (first
        | (go_at_call 11
           clear tok
           refine (hfl.out _).mono ?_
           rintro e w4 ⟨q, r, vb, rfl, m1, x1, x2, x3, b4⟩)
        | (go_at_call 11
           refine (hfl.out _).mono ?_
           rintro e w5 ⟨q2, r2, vb2, rfl, m2, y1, y2, y3, b5⟩))
    all_goals
      have HF := hid (TwoM.of HDR.out m1 x1 x2 x3 b4 m2 y1 y2 y3 b5)
      clear m1 x1 x2 x3 b4 m2 y1 y2 y3 b5 hfl HKB HSX
      go_wp2
      go_meet
      case rel => exact ⟨q, r, vb, q2, r2, vb2, rfl, rfl, HF⟩
  case rest =>
    obtain ⟨q, r, vb, q2, r2, vb2, rfl, rfl, HTM⟩ := hcut
    have ha : a ≤ 2000 := by have := of_decide_eq_false ha1'; omega
    have hbb : b ≤ 2000 := by have := of_decide_eq_false hb1'; omega
    clear hfl HSX HKB k0 tok HDR g0 g1 g2 g3 g4 ha0' ha1' hb0' hb1'
    obtain ⟨m1, m2, p1, p2, p3, p4, n1, n2, n3, n4, l1, l2, b1⟩ := HTM.out
    have lq1 := m1.lt
    have lq2 := m2.lt
    obtain ⟨e0, e1, e2, e3, e4⟩ := (HZ.out wc b1).cells
    have hs1 := b1.size
    obtain ⟨N, hN⟩ : ∃ N, N = a + b := ⟨_, rfl⟩
    have hwr : IntKind.i64.wrap ((a : Int) + (b : Int)) = (N : Int) := by
      have := wrap_i64_nat (a + b) (by omega)
      rw [hN]
      simpa using this
    by_cases hE : refL l s true (a : Int) = 0
    · obtain ⟨hck, hok⟩ := refL_parts hE
      have hall := check_all hck
      have hEN : refL l s true (N : Int) = 0 := refL_ok hck hok ⟨by omega, by omega⟩
      have hmore := run_more (code := l) a b 0 s (bytesOf m)
      have hused := run_used (code := l) b 0 a
      have hkind := run_kind hall a 0 s (bytesOf m)
      have hkN := run_kind hall N 0 s (bytesOf m)
      have hro := run_ok hall a 0 s (bytesOf m) hok
      have hro2 := run_ok hall N 0 s (bytesOf m) hok
      have HRO3 := hid (fun s1 bs (h : OkS l.length s1) => run_ok hall b 0 s1 bs h)
      have hrun := run_good (.slice ca l.length ccap) l _ s vs vk vb a q r _ 0 0 wc (HCW.out.below b1) (HTW.out.below b1) (HSW.out.below b1) hcl hE m1 l1 (by omega) (by omega) (by rw [bytesOf_len]; omega) (by decide)
      have HR2 := hid (fun X (hX : Below W.heap.size W X) (hm : MemAt X q2 r2 (bytesOf m) 0 0 vb2) (hr : r2 < X.heap.size) => run_good (.slice ca l.length ccap) l _ s vs vk vb2 N q2 r2 _ 0 0 X (HCW.out.below hX) (HTW.out.below hX) (HSW.out.below hX) hcl hEN hm hr (by omega) (by omega) (by rw [bytesOf_len]; omega) (by decide))
      have HR3 := hid (fun (s1 : StL) (us uk : Value) (bs : List Nat) (ld st : Nat) (X : World) (hX : Below W.heap.size W X) (hss : SeesS X (.agg #[.int .i64 s1.pc, us, uk]) s1 us uk) (hok1 : OkS l.length s1) (hm : MemAt X q r bs ld st vb) (hr : r < X.heap.size) (hbl : bs.length = (bytesOf m).length) (hle : ld + st ≤ 2000) => run_good (.slice ca l.length ccap) l _ s1 us uk vb b q r bs ld st X (HCW.out.below hX) (HTW.out.below hX) hss hcl (refL_ok hck hok1 ⟨by omega, by omega⟩) hm hr (by omega) (by omega) (by rw [hbl, bytesOf_len]; omega) (by omega))
      rw [← hN] at hmore
      have HN := hid hN
      clear hN
      unfold GoodR stopV memV at hrun HR2 HR3
      obtain ⟨⟨⟨kd, tr, us⟩, sR, bR⟩, hR⟩ : ∃ R, R = runL l a 0 s (bytesOf m) := ⟨_, rfl⟩
      obtain ⟨⟨⟨kd2, tr2, us2⟩, sR2, bR2⟩, hR2⟩ : ∃ R, R = runL l N 0 s (bytesOf m) := ⟨_, rfl⟩
      rw [← hR] at hrun hkind hro hmore
      rw [← hR2] at HR2 hmore hro2 hkN
      simp only [Nat.zero_add] at hrun hkind hro hmore HR2 hused
      have HMORE := hid hmore
      have HUSED := hid hused
      have HK := hid hkind
      have HUB : Hid (us2 ≤ 4000) := hid (by
        have hn := HN.out
        rcases hkN with h | ⟨_, h, _⟩
        · simp only [Prod.mk.injEq] at h; omega
        · have h : us2 ≤ 0 + N := h
          omega)
      have HRO := hid hro
      have HRO2 := hid hro2
      have HBB := hid b1
      have HM2 := hid m2
      clear hmore hused hkind hkN hro hro2 m1 m2 hE hEN hck hok hall hR hR2 HTM
      go_wp2_with fail
      refine hrun.mono ?_
      rintro e w2 ⟨v1, v2, rfl, o1, o2, od, ld, st, m12, a2, kp2⟩
      obtain ⟨i1, h1⟩ := o1.shape
      obtain ⟨i2, h2⟩ := o2.shape
      subst h1
      subst h2
      obtain ⟨L1, hL1⟩ : ∃ L, L = sR.st.length := ⟨_, rfl⟩
      obtain ⟨L2, hL2⟩ : ∃ L, L = sR.ca.length := ⟨_, rfl⟩
      rw [← hL1] at o1 od ⊢
      rw [← hL2] at o2 od ⊢
      have HL1 := hid hL1
      have HL2 := hid hL2
      clear hL1 hL2
      obtain ⟨W2, hW2⟩ : ∃ W2, W2 = (w2.alloc (.cells #[.int .i64 sR.pc, .slice i1 L1 L1, .slice i2 L2 L2] 25)).alloc (.cells #[.int .i64 kd, .int .i64 tr, .int .i64 (us : Int)] 33) := ⟨_, rfl⟩
      have hbw2 : Below w2.heap.size w2 W2 := by rw [hW2]; exact below_alloc2 w2 _ _
      have za2 : W2.heap[w2.heap.size]? = some (.cells #[.int .i64 sR.pc, .slice i1 L1 L1, .slice i2 L2 L2] 25 (0, 0)) := by rw [hW2, Below.heap_alloc _ _ _ (by simp)]; exact heap_alloc_new w2 _
      have zb2 : W2.heap[w2.heap.size + 1]? = some (.cells #[.int .i64 kd, .int .i64 tr, .int .i64 (us : Int)] 33 (0, 0)) := by
        rw [hW2]
        have := heap_alloc_new (w2.alloc (.cells #[.int .i64 sR.pc, .slice i1 L1 L1, .slice i2 L2 L2] 25)) (.cells #[.int .i64 kd, .int .i64 tr, .int .i64 (us : Int)] 33)
        simpa using this
      have hzl2 := (Array.getElem?_eq_some_iff.1 zb2).1
      have hs2 := kp2.size
      have hb2 : Below W.heap.size W w2 := HBB.out.trans (kp2.below hs1 (by omega) (by omega))
      have hB2 : Below W.heap.size W W2 := hb2.trans (hbw2.mono hb2.size)
      have hs2' := hbw2.size
      have hm1 : MemAt W2 q r bR ld st vb := m12.below hbw2
      have hm2 : MemAt W2 q2 r2 (bytesOf m) 0 0 vb2 := (HM2.out.kp kp2 (Nat.le_refl _) (by omega) (by omega) (by omega) (by omega)).below hbw2
      have hr2 := HR2.out W2 hB2 hm2 (by omega)
      obtain ⟨x0, x1, x2, x3, x4⟩ := (HZ.out w2 hb2).cells
      have hx2 : w.heap.size < w2.heap.size := (HZ.out w2 hb2).lt
      have HO1 := hid (o1.below hbw2)
      have HO2 := hid (o2.below hbw2)
      have HB2 := hid hB2
      have HM1 := hid hm1
      have HZA2 := hid za2
      have HZB2 := hid zb2
      have HA2 := hid a2
      clear hrun HR2 HM2 o1 o2 od m12 a2 kp2 za2 zb2 hb2 hB2 hbw2 hm1 hm2 e0 e1 e2 e3 e4
      go_wp2_with fail
      rw [← hW2]
      clear hW2
      refine hr2.mono ?_
      rintro e w3 ⟨v3, v4, rfl, o3, o4, od3, ld2, st2, m23, a3, kp3⟩
      obtain ⟨i3, h3⟩ := o3.shape
      obtain ⟨i4, h4⟩ := o4.shape
      subst h3
      subst h4
      obtain ⟨L3, hL3⟩ : ∃ L, L = sR2.st.length := ⟨_, rfl⟩
      obtain ⟨L4, hL4⟩ : ∃ L, L = sR2.ca.length := ⟨_, rfl⟩
      rw [← hL3] at o3 od3 ⊢
      rw [← hL4] at o4 od3 ⊢
      have HL3 := hid hL3
      have HL4 := hid hL4
      clear hL3 hL4
      obtain ⟨W3, hW3⟩ : ∃ W3, W3 = (w3.alloc (.cells #[.int .i64 sR2.pc, .slice i3 L3 L3, .slice i4 L4 L4] 25)).alloc (.cells #[.int .i64 kd2, .int .i64 tr2, .int .i64 (us2 : Int)] 33) := ⟨_, rfl⟩
      have hbw3 : Below w3.heap.size w3 W3 := by rw [hW3]; exact below_alloc2 w3 _ _
      have za3 : W3.heap[w3.heap.size]? = some (.cells #[.int .i64 sR2.pc, .slice i3 L3 L3, .slice i4 L4 L4] 25 (0, 0)) := by rw [hW3, Below.heap_alloc _ _ _ (by simp)]; exact heap_alloc_new w3 _
      have zb3 : W3.heap[w3.heap.size + 1]? = some (.cells #[.int .i64 kd2, .int .i64 tr2, .int .i64 (us2 : Int)] 33 (0, 0)) := by
        rw [hW3]
        have := heap_alloc_new (w3.alloc (.cells #[.int .i64 sR2.pc, .slice i3 L3 L3, .slice i4 L4 L4] 25)) (.cells #[.int .i64 kd2, .int .i64 tr2, .int .i64 (us2 : Int)] 33)
        simpa using this
      have hzl3 := (Array.getElem?_eq_some_iff.1 zb3).1
      have hs3 := kp3.size
      have hs3' := hbw3.size
      have hb3 : Below W.heap.size W w3 := HB2.out.trans (kp3.below (Nat.le_trans hs1 (by omega)) (by omega) (by omega))
      have hB3 : Below W.heap.size W W3 := hb3.trans (hbw3.mono hb3.size)
      have hm1 : MemAt W3 q r bR ld st vb := (HM1.out.kp kp3 (Nat.le_refl _) (by omega) (by omega) (by omega) (by omega)).below hbw3
      have hm2 : MemAt W3 q2 r2 bR2 ld2 st2 vb2 := m23.below hbw3
      have ho1 := (HO1.out.kp kp3 (Nat.le_refl _) (by omega) (by omega)).below hbw3
      have ho2 := (HO2.out.kp kp3 (Nat.le_refl _) (by omega) (by omega)).below hbw3
      have ho3 := o3.below hbw3
      have ho4 := o4.below hbw3
      have ua2 := (kp3.block w2.heap.size (by omega) (by omega) (by omega)).trans HZA2.out
      have ub2 := (kp3.block (w2.heap.size + 1) (by omega) (by omega) (by omega)).trans HZB2.out
      have ya2 := (hbw3.block w2.heap.size (by omega)).trans ua2
      have yb2 := (hbw3.block (w2.heap.size + 1) (by omega)).trans ub2
      have kd0 : w3.cell? ⟨w2.heap.size + 1, 0, none⟩ = some (.int .i64 kd) := by simp [World.cell?, ub2]
      have hx3 : w2.heap.size + 1 < w3.heap.size := by omega
      have hx3' : w2.heap.size < w3.heap.size := by omega
      have HO1 := hid ho1
      have HO2 := hid ho2
      have HO3 := hid ho3
      have HO4 := hid ho4
      have HM1 := hid hm1
      have HM2 := hid hm2
      have HB3 := hid hB3
      have HYA2 := hid ya2
      have HYB2 := hid yb2
      have HYA3 := hid za3
      have HYB3 := hid zb3
      have HUA2 := hid ua2
      have HLT := hid (And.intro (show w2.heap.size < W3.heap.size by omega) (And.intro (show w2.heap.size + 1 < W3.heap.size by omega) hzl3))
      have hlr : r < W3.heap.size := by omega
      have hgc : wc.heap.size ≤ w2.heap.size := hs2
      obtain ⟨X0, X1, X2, X3, X4⟩ := (HZ.out w3 hb3).cells
      have hx4 : w.heap.size < w3.heap.size := (HZ.out w3 hb3).lt
      clear hr2 hbw3 kp3 ho1 ho2 ho3 ho4 hm1 hm2 ya2 yb2 za3 zb3 ub2 ua2 o3 o4 od3 m23 a3 hb3 hB3 x0 x1 x2 x3 x4 hs2 hs2' hs3 hs3' HZA2 HZB2
      have hG := guardSt
      have hEQ := eqlSt
      by_cases hkd : kd = 1
      · have hmo := HMORE.out
        rw [if_pos hkd] at hmo
        have husa : us = a := by
          rcases HK.out with h | ⟨_, _, ⟨h, _⟩ | ⟨h, _⟩⟩
          · simp only [Prod.mk.injEq] at h; exact h.2.2
          · have h : kd = 2 := h
            omega
          · have h : kd = 3 ∨ kd = 4 := h
            omega
        subst hkd
        have hus := HUSED.out sR bR
        have hmo2 := hmo.trans hus
        have hle : ld + st ≤ 2000 := by
          have h := HA2.out
          omega
        have hr3 := HR3.out sR (.slice i1 L1 L1) (.slice i2 L2 L2) bR ld st W3 HB3.out ⟨rfl, HO1.out.sees, HO2.out.sees, by have := HRO.out.1.st; have := HL1.out; omega, by have := HRO.out.1.cl; have := HL2.out; omega⟩ HRO.out.1 HM1.out hlr HRO.out.2 hle
        have hro3 := HRO3.out sR bR HRO.out.1
        obtain ⟨⟨⟨kd3, tr3, us3⟩, sR3, bR3⟩, hR3⟩ : ∃ R, R = runL l b 0 sR bR := ⟨_, rfl⟩
        rw [← hR3] at hmo2 hr3 hro3
        clear hmo hus HMORE HUSED HR3 HRO3 HK hR3
        simp only [Prod.mk.injEq] at hmo2
        obtain ⟨⟨rfl, rfl, hu⟩, rfl, rfl⟩ := hmo2
        have HRO3 := hid hro3
        have hwr3 : IntKind.i64.wrap ((us3 : Int) + (a : Int)) = (us2 : Int) := by
          have hu2 : us2 ≤ 4000 := by have := HUB.out; omega
          have := wrap_i64_nat (us3 + a) (by omega)
          rw [hu]
          simpa using this
        have hua := HUA2.out
        have c0 : w3.cell? ⟨w2.heap.size, 0, none⟩ = some (.int .i64 sR.pc) := by simp [World.cell?, hua]
        have c1 : w3.cell? ⟨w2.heap.size, 1, none⟩ = some (.slice i1 L1 L1) := by simp [World.cell?, hua]
        have c2 : w3.cell? ⟨w2.heap.size, 2, none⟩ = some (.slice i2 L2 L2) := by simp [World.cell?, hua]
        clear hro3 hua husa
        have HU := hid hu
        clear hu
        go_wp2_with fail
        rw [← hW3]
        clear hW3
        refine hr3.mono ?_
        rintro e w4 ⟨v5, v6, rfl, o5, o6, od5, ld3, st3, m34, a4, kp4⟩
        obtain ⟨i5, h5⟩ := o5.shape
        obtain ⟨i6, h6⟩ := o6.shape
        subst h5
        subst h6
        obtain ⟨L5, hL5⟩ : ∃ L, L = sR2.st.length := ⟨_, rfl⟩
        obtain ⟨L6, hL6⟩ : ∃ L, L = sR2.ca.length := ⟨_, rfl⟩
        rw [← hL5] at o5 od5 ⊢
        rw [← hL6] at o6 od5 ⊢
        have HL5 := hid hL5
        have HL6 := hid hL6
        clear hL5 hL6 hr3 c0 c1 c2 X0 X1 X2 X3 X4 kd0
        obtain ⟨W4, hW4⟩ : ∃ W4, W4 = (w4.alloc (.cells #[.int .i64 sR2.pc, .slice i5 L5 L5, .slice i6 L6 L6] 25)).alloc (.cells #[.int .i64 kd2, .int .i64 tr2, .int .i64 (us2 : Int)] 33) := ⟨_, rfl⟩
        have hbw4 : Below w4.heap.size w4 W4 := by rw [hW4]; exact below_alloc2 w4 _ _
        have za4 : W4.heap[w4.heap.size]? = some (.cells #[.int .i64 sR2.pc, .slice i5 L5 L5, .slice i6 L6 L6] 25 (0, 0)) := by rw [hW4, Below.heap_alloc _ _ _ (by simp)]; exact heap_alloc_new w4 _
        have zb4 : W4.heap[w4.heap.size + 1]? = some (.cells #[.int .i64 kd2, .int .i64 tr2, .int .i64 (us2 : Int)] 33 (0, 0)) := by
                  rw [hW4]
                  have := heap_alloc_new (w4.alloc (.cells #[.int .i64 sR2.pc, .slice i5 L5 L5, .slice i6 L6 L6] 25)) (.cells #[.int .i64 kd2, .int .i64 tr2, .int .i64 (us2 : Int)] 33)
                  simpa using this
        have hzl4 := (Array.getElem?_eq_some_iff.1 zb4).1
        have hs4 := kp4.size
        have hs4' := hbw4.size
        have hb4 : Below W.heap.size W w4 := HB3.out.trans (kp4.below HB3.out.size (by omega) (by omega))
        have hB4 : Below W.heap.size W W4 := hb4.trans (hbw4.mono hb4.size)
        have hm1 : MemAt W4 q r bR2 ld3 st3 vb := m34.below hbw4
        have hm2 : MemAt W4 q2 r2 bR2 ld2 st2 vb2 := (HM2.out.kp kp4 (Nat.le_refl _) (by omega) (by omega) (by omega) (by omega)).below hbw4
        have ho3 := (HO3.out.kp kp4 (Nat.le_refl _) (by omega) (by omega)).below hbw4
        have ho4 := (HO4.out.kp kp4 (Nat.le_refl _) (by omega) (by omega)).below hbw4
        have ho5 := o5.below hbw4
        have ho6 := o6.below hbw4
        have ya3 := (hbw4.block w3.heap.size (by omega)).trans ((kp4.block w3.heap.size (by omega) (by omega) (by omega)).trans HYA3.out)
        have yb3 := (hbw4.block (w3.heap.size + 1) (by omega)).trans ((kp4.block (w3.heap.size + 1) (by omega) (by omega) (by omega)).trans HYB3.out)
        have hlt3 : w3.heap.size + 1 < W4.heap.size := by omega
        have HSS1 : Hid (SeesS W4 (.agg #[.int .i64 sR2.pc, .slice i3 L3 L3, .slice i4 L4 L4]) sR2 (.slice i3 L3 L3) (.slice i4 L4 L4)) := hid ⟨rfl, ho3.sees, ho4.sees, by have := HRO2.out.1.st; omega, by have := HRO2.out.1.cl; omega⟩
        have HSS2 : Hid (SeesS W4 (.agg #[.int .i64 sR2.pc, .slice i5 L5 L5, .slice i6 L6 L6]) sR2 (.slice i5 L5 L5) (.slice i6 L6 L6)) := hid ⟨rfl, ho5.sees, ho6.sees, by have := HRO2.out.1.st; omega, by have := HRO2.out.1.cl; omega⟩
        have u2 : (kd2 == kd2) = true := by simp
        have u3 : (tr2 == tr2) = true := by simp
        have u4 : ((us2 : Int) == (us2 : Int)) = true := by simp
        have HM1 := hid hm1
        have HM2 := hid hm2
        have HB4 := hid hB4
        have HYA3 := hid ya3
        have HYB3 := hid yb3
        have HYA4 := hid za4
        have HYB4 := hid zb4
        have HSX : Hid (∀ X, Below W4.heap.size W4 X → (Below W4.heap.size W4 X ∧ X.cell? ⟨w3.heap.size, 0, none⟩ = some (.int .i64 sR2.pc) ∧ X.cell? ⟨w3.heap.size, 1, none⟩ = some (.slice i3 L3 L3) ∧ X.cell? ⟨w3.heap.size, 2, none⟩ = some (.slice i4 L4 L4) ∧ X.cell? ⟨w3.heap.size + 1, 0, none⟩ = some (.int .i64 kd2) ∧ X.cell? ⟨w3.heap.size + 1, 1, none⟩ = some (.int .i64 tr2) ∧ X.cell? ⟨w3.heap.size + 1, 2, none⟩ = some (.int .i64 (us2 : Int)) ∧ X.cell? ⟨w4.heap.size, 0, none⟩ = some (.int .i64 sR2.pc) ∧ X.cell? ⟨w4.heap.size, 1, none⟩ = some (.slice i5 L5 L5) ∧ X.cell? ⟨w4.heap.size, 2, none⟩ = some (.slice i6 L6 L6) ∧ X.cell? ⟨w4.heap.size + 1, 0, none⟩ = some (.int .i64 kd2) ∧ X.cell? ⟨w4.heap.size + 1, 1, none⟩ = some (.int .i64 tr2) ∧ X.cell? ⟨w4.heap.size + 1, 2, none⟩ = some (.int .i64 (us2 : Int)) ∧ X.cell? ⟨q, 0, none⟩ = some (vb) ∧ X.cell? ⟨q2, 0, none⟩ = some (vb2) ∧ (convert 37 9 vb).run Tryd.prog X = .ok (.string (strOf bR2)) X ∧ (convert 37 9 vb2).run Tryd.prog X = .ok (.string (strOf bR2)) X)) := fun X hX => by
          have t1 := (hX.block w3.heap.size (by omega)).trans HYA3.out
          have t2 := (hX.block (w3.heap.size + 1) hlt3).trans HYB3.out
          have t3 := (hX.block w4.heap.size (by omega)).trans HYA4.out
          have t4 := (hX.block (w4.heap.size + 1) hzl4).trans HYB4.out
          exact ⟨hX, by simp [World.cell?, t1], by simp [World.cell?, t1], by simp [World.cell?, t1], by simp [World.cell?, t2], by simp [World.cell?, t2], by simp [World.cell?, t2], by simp [World.cell?, t3], by simp [World.cell?, t3], by simp [World.cell?, t3], by simp [World.cell?, t4], by simp [World.cell?, t4], by simp [World.cell?, t4], (HM1.out.below hX).cells.1, (HM2.out.below hX).cells.1, (HM1.out.below hX).conv, (HM2.out.below hX).conv⟩
        have HKB : Hid (∀ X Y : World, Below X.heap.size X Y → (Below W4.heap.size W4 X ∧ X.cell? ⟨w3.heap.size, 0, none⟩ = some (.int .i64 sR2.pc) ∧ X.cell? ⟨w3.heap.size, 1, none⟩ = some (.slice i3 L3 L3) ∧ X.cell? ⟨w3.heap.size, 2, none⟩ = some (.slice i4 L4 L4) ∧ X.cell? ⟨w3.heap.size + 1, 0, none⟩ = some (.int .i64 kd2) ∧ X.cell? ⟨w3.heap.size + 1, 1, none⟩ = some (.int .i64 tr2) ∧ X.cell? ⟨w3.heap.size + 1, 2, none⟩ = some (.int .i64 (us2 : Int)) ∧ X.cell? ⟨w4.heap.size, 0, none⟩ = some (.int .i64 sR2.pc) ∧ X.cell? ⟨w4.heap.size, 1, none⟩ = some (.slice i5 L5 L5) ∧ X.cell? ⟨w4.heap.size, 2, none⟩ = some (.slice i6 L6 L6) ∧ X.cell? ⟨w4.heap.size + 1, 0, none⟩ = some (.int .i64 kd2) ∧ X.cell? ⟨w4.heap.size + 1, 1, none⟩ = some (.int .i64 tr2) ∧ X.cell? ⟨w4.heap.size + 1, 2, none⟩ = some (.int .i64 (us2 : Int)) ∧ X.cell? ⟨q, 0, none⟩ = some (vb) ∧ X.cell? ⟨q2, 0, none⟩ = some (vb2) ∧ (convert 37 9 vb).run Tryd.prog X = .ok (.string (strOf bR2)) X ∧ (convert 37 9 vb2).run Tryd.prog X = .ok (.string (strOf bR2)) X) → (Below W4.heap.size W4 Y ∧ Y.cell? ⟨w3.heap.size, 0, none⟩ = some (.int .i64 sR2.pc) ∧ Y.cell? ⟨w3.heap.size, 1, none⟩ = some (.slice i3 L3 L3) ∧ Y.cell? ⟨w3.heap.size, 2, none⟩ = some (.slice i4 L4 L4) ∧ Y.cell? ⟨w3.heap.size + 1, 0, none⟩ = some (.int .i64 kd2) ∧ Y.cell? ⟨w3.heap.size + 1, 1, none⟩ = some (.int .i64 tr2) ∧ Y.cell? ⟨w3.heap.size + 1, 2, none⟩ = some (.int .i64 (us2 : Int)) ∧ Y.cell? ⟨w4.heap.size, 0, none⟩ = some (.int .i64 sR2.pc) ∧ Y.cell? ⟨w4.heap.size, 1, none⟩ = some (.slice i5 L5 L5) ∧ Y.cell? ⟨w4.heap.size, 2, none⟩ = some (.slice i6 L6 L6) ∧ Y.cell? ⟨w4.heap.size + 1, 0, none⟩ = some (.int .i64 kd2) ∧ Y.cell? ⟨w4.heap.size + 1, 1, none⟩ = some (.int .i64 tr2) ∧ Y.cell? ⟨w4.heap.size + 1, 2, none⟩ = some (.int .i64 (us2 : Int)) ∧ Y.cell? ⟨q, 0, none⟩ = some (vb) ∧ Y.cell? ⟨q2, 0, none⟩ = some (vb2) ∧ (convert 37 9 vb).run Tryd.prog Y = .ok (.string (strOf bR2)) Y ∧ (convert 37 9 vb2).run Tryd.prog Y = .ok (.string (strOf bR2)) Y)) := fun X Y hb hs => HSX.out Y (hs.1.trans (hb.mono hs.1.size))
        have HMR := hid (fun X (hs : (Below W4.heap.size W4 X ∧ X.cell? ⟨w3.heap.size, 0, none⟩ = some (.int .i64 sR2.pc) ∧ X.cell? ⟨w3.heap.size, 1, none⟩ = some (.slice i3 L3 L3) ∧ X.cell? ⟨w3.heap.size, 2, none⟩ = some (.slice i4 L4 L4) ∧ X.cell? ⟨w3.heap.size + 1, 0, none⟩ = some (.int .i64 kd2) ∧ X.cell? ⟨w3.heap.size + 1, 1, none⟩ = some (.int .i64 tr2) ∧ X.cell? ⟨w3.heap.size + 1, 2, none⟩ = some (.int .i64 (us2 : Int)) ∧ X.cell? ⟨w4.heap.size, 0, none⟩ = some (.int .i64 sR2.pc) ∧ X.cell? ⟨w4.heap.size, 1, none⟩ = some (.slice i5 L5 L5) ∧ X.cell? ⟨w4.heap.size, 2, none⟩ = some (.slice i6 L6 L6) ∧ X.cell? ⟨w4.heap.size + 1, 0, none⟩ = some (.int .i64 kd2) ∧ X.cell? ⟨w4.heap.size + 1, 1, none⟩ = some (.int .i64 tr2) ∧ X.cell? ⟨w4.heap.size + 1, 2, none⟩ = some (.int .i64 (us2 : Int)) ∧ X.cell? ⟨q, 0, none⟩ = some (vb) ∧ X.cell? ⟨q2, 0, none⟩ = some (vb2) ∧ (convert 37 9 vb).run Tryd.prog X = .ok (.string (strOf bR2)) X ∧ (convert 37 9 vb2).run Tryd.prog X = .ok (.string (strOf bR2)) X)) => sameS_any _ _ sR2 sR2 _ _ _ _ X (HSS1.out.below hs.1) (HSS2.out.below hs.1))
        rw [eqS_self] at HMR
        have HAR := hid (fun X (hs : (Below W4.heap.size W4 X ∧ X.cell? ⟨w3.heap.size, 0, none⟩ = some (.int .i64 sR2.pc) ∧ X.cell? ⟨w3.heap.size, 1, none⟩ = some (.slice i3 L3 L3) ∧ X.cell? ⟨w3.heap.size, 2, none⟩ = some (.slice i4 L4 L4) ∧ X.cell? ⟨w3.heap.size + 1, 0, none⟩ = some (.int .i64 kd2) ∧ X.cell? ⟨w3.heap.size + 1, 1, none⟩ = some (.int .i64 tr2) ∧ X.cell? ⟨w3.heap.size + 1, 2, none⟩ = some (.int .i64 (us2 : Int)) ∧ X.cell? ⟨w4.heap.size, 0, none⟩ = some (.int .i64 sR2.pc) ∧ X.cell? ⟨w4.heap.size, 1, none⟩ = some (.slice i5 L5 L5) ∧ X.cell? ⟨w4.heap.size, 2, none⟩ = some (.slice i6 L6 L6) ∧ X.cell? ⟨w4.heap.size + 1, 0, none⟩ = some (.int .i64 kd2) ∧ X.cell? ⟨w4.heap.size + 1, 1, none⟩ = some (.int .i64 tr2) ∧ X.cell? ⟨w4.heap.size + 1, 2, none⟩ = some (.int .i64 (us2 : Int)) ∧ X.cell? ⟨q, 0, none⟩ = some (vb) ∧ X.cell? ⟨q2, 0, none⟩ = some (vb2) ∧ (convert 37 9 vb).run Tryd.prog X = .ok (.string (strOf bR2)) X ∧ (convert 37 9 vb2).run Tryd.prog X = .ok (.string (strOf bR2)) X)) => HAW.out X (HB4.out.trans (hs.1.mono HB4.out.size)))
        have HFR := hid (fun X (hs : (Below W4.heap.size W4 X ∧ X.cell? ⟨w3.heap.size, 0, none⟩ = some (.int .i64 sR2.pc) ∧ X.cell? ⟨w3.heap.size, 1, none⟩ = some (.slice i3 L3 L3) ∧ X.cell? ⟨w3.heap.size, 2, none⟩ = some (.slice i4 L4 L4) ∧ X.cell? ⟨w3.heap.size + 1, 0, none⟩ = some (.int .i64 kd2) ∧ X.cell? ⟨w3.heap.size + 1, 1, none⟩ = some (.int .i64 tr2) ∧ X.cell? ⟨w3.heap.size + 1, 2, none⟩ = some (.int .i64 (us2 : Int)) ∧ X.cell? ⟨w4.heap.size, 0, none⟩ = some (.int .i64 sR2.pc) ∧ X.cell? ⟨w4.heap.size, 1, none⟩ = some (.slice i5 L5 L5) ∧ X.cell? ⟨w4.heap.size, 2, none⟩ = some (.slice i6 L6 L6) ∧ X.cell? ⟨w4.heap.size + 1, 0, none⟩ = some (.int .i64 kd2) ∧ X.cell? ⟨w4.heap.size + 1, 1, none⟩ = some (.int .i64 tr2) ∧ X.cell? ⟨w4.heap.size + 1, 2, none⟩ = some (.int .i64 (us2 : Int)) ∧ X.cell? ⟨q, 0, none⟩ = some (vb) ∧ X.cell? ⟨q2, 0, none⟩ = some (vb2) ∧ (convert 37 9 vb).run Tryd.prog X = .ok (.string (strOf bR2)) X ∧ (convert 37 9 vb2).run Tryd.prog X = .ok (.string (strOf bR2)) X)) => HB.out.trans ((HB4.out.trans (hs.1.mono HB4.out.size)).mono HB.out.size))
        have k0 := HSX.out W4.drew (Below.drew (Below.refl _ _))
        clear o5 o6 od5 m34 a4 kp4 hbw4 hb4 hB4 hm1 hm2 ho3 ho4 ho5 ho6 ya3 yb3 za4 zb4 hs4 hs4' HRO HRO2 HRO3
        go_wp2_with fail
        rw [← hW4]
        clear hW4
        go_region_held3 (fun X => (Below W4.heap.size W4 X ∧ X.cell? ⟨w3.heap.size, 0, none⟩ = some (.int .i64 sR2.pc) ∧ X.cell? ⟨w3.heap.size, 1, none⟩ = some (.slice i3 L3 L3) ∧ X.cell? ⟨w3.heap.size, 2, none⟩ = some (.slice i4 L4 L4) ∧ X.cell? ⟨w3.heap.size + 1, 0, none⟩ = some (.int .i64 kd2) ∧ X.cell? ⟨w3.heap.size + 1, 1, none⟩ = some (.int .i64 tr2) ∧ X.cell? ⟨w3.heap.size + 1, 2, none⟩ = some (.int .i64 (us2 : Int)) ∧ X.cell? ⟨w4.heap.size, 0, none⟩ = some (.int .i64 sR2.pc) ∧ X.cell? ⟨w4.heap.size, 1, none⟩ = some (.slice i5 L5 L5) ∧ X.cell? ⟨w4.heap.size, 2, none⟩ = some (.slice i6 L6 L6) ∧ X.cell? ⟨w4.heap.size + 1, 0, none⟩ = some (.int .i64 kd2) ∧ X.cell? ⟨w4.heap.size + 1, 1, none⟩ = some (.int .i64 tr2) ∧ X.cell? ⟨w4.heap.size + 1, 2, none⟩ = some (.int .i64 (us2 : Int)) ∧ X.cell? ⟨q, 0, none⟩ = some (vb) ∧ X.cell? ⟨q2, 0, none⟩ = some (vb2) ∧ (convert 37 9 vb).run Tryd.prog X = .ok (.string (strOf bR2)) X ∧ (convert 37 9 vb2).run Tryd.prog X = .ok (.string (strOf bR2)) X))
          (first | (with_reducible exact k0) | (exact HKB.out _ _ (by assumption) (by assumption)))
          (first
            | (go_at_call 15
               refine (HMR.out _ (by assumption)).mono ?_
               rintro e w5 ⟨rfl, b5⟩)
            | (go_at_call 10
               refine (HAR.out _ (by assumption)).mono ?_
               rintro e w6 ⟨rfl, b6⟩))
        all_goals
          have HBF := hid (HFR.out _ (by assumption))
          clear HMR HAR HKB HSX HFR
          go_wp2
          go_ret
          exact ⟨by first | rfl | simp, HBF.out⟩
      · have hmo := HMORE.out
        rw [if_neg hkd] at hmo
        simp only [Prod.mk.injEq] at hmo
        obtain ⟨⟨rfl, rfl, rfl⟩, rfl, rfl⟩ := hmo
        have u1 : (kd2 != 1) = true := by simpa using hkd
        have u2 : (kd2 == kd2) = true := by simp
        have u3 : (tr2 == tr2) = true := by simp
        have u4 : ((us2 : Int) == (us2 : Int)) = true := by simp
        have HSS1 : Hid (SeesS W3 (.agg #[.int .i64 sR2.pc, .slice i1 L1 L1, .slice i2 L2 L2]) sR2 (.slice i1 L1 L1) (.slice i2 L2 L2)) := hid ⟨rfl, HO1.out.sees, HO2.out.sees, by have := HRO.out.1.st; have := HL1.out; omega, by have := HRO.out.1.cl; have := HL2.out; omega⟩
        have HSS2 : Hid (SeesS W3 (.agg #[.int .i64 sR2.pc, .slice i3 L3 L3, .slice i4 L4 L4]) sR2 (.slice i3 L3 L3) (.slice i4 L4 L4)) := hid ⟨rfl, HO3.out.sees, HO4.out.sees, by have := HRO.out.1.st; omega, by have := HRO.out.1.cl; omega⟩
        clear hkd HMORE
        have HSX : Hid (∀ X, Below W3.heap.size W3 X → (Below W3.heap.size W3 X ∧ X.cell? ⟨w2.heap.size, 0, none⟩ = some (.int .i64 sR2.pc) ∧ X.cell? ⟨w2.heap.size, 1, none⟩ = some (.slice i1 L1 L1) ∧ X.cell? ⟨w2.heap.size, 2, none⟩ = some (.slice i2 L2 L2) ∧ X.cell? ⟨w2.heap.size + 1, 0, none⟩ = some (.int .i64 kd2) ∧ X.cell? ⟨w2.heap.size + 1, 1, none⟩ = some (.int .i64 tr2) ∧ X.cell? ⟨w2.heap.size + 1, 2, none⟩ = some (.int .i64 (us2 : Int)) ∧ X.cell? ⟨w3.heap.size, 0, none⟩ = some (.int .i64 sR2.pc) ∧ X.cell? ⟨w3.heap.size, 1, none⟩ = some (.slice i3 L3 L3) ∧ X.cell? ⟨w3.heap.size, 2, none⟩ = some (.slice i4 L4 L4) ∧ X.cell? ⟨w3.heap.size + 1, 0, none⟩ = some (.int .i64 kd2) ∧ X.cell? ⟨w3.heap.size + 1, 1, none⟩ = some (.int .i64 tr2) ∧ X.cell? ⟨w3.heap.size + 1, 2, none⟩ = some (.int .i64 (us2 : Int)) ∧ X.cell? ⟨q, 0, none⟩ = some (vb) ∧ X.cell? ⟨q2, 0, none⟩ = some (vb2) ∧ (convert 37 9 vb).run Tryd.prog X = .ok (.string (strOf bR2)) X ∧ (convert 37 9 vb2).run Tryd.prog X = .ok (.string (strOf bR2)) X)) := fun X hX => by
          have t1 : X.heap[w2.heap.size]? = _ := (hX.block _ HLT.out.1).trans HYA2.out
          have t2 : X.heap[w2.heap.size + 1]? = _ := (hX.block _ HLT.out.2.1).trans HYB2.out
          have t3 : X.heap[w3.heap.size]? = _ := (hX.block _ (by have := HLT.out.2.2; omega)).trans HYA3.out
          have t4 : X.heap[w3.heap.size + 1]? = _ := (hX.block _ HLT.out.2.2).trans HYB3.out
          exact ⟨hX, by simp [World.cell?, t1], by simp [World.cell?, t1], by simp [World.cell?, t1], by simp [World.cell?, t2], by simp [World.cell?, t2], by simp [World.cell?, t2], by simp [World.cell?, t3], by simp [World.cell?, t3], by simp [World.cell?, t3], by simp [World.cell?, t4], by simp [World.cell?, t4], by simp [World.cell?, t4], (HM1.out.below hX).cells.1, (HM2.out.below hX).cells.1, (HM1.out.below hX).conv, (HM2.out.below hX).conv⟩
        have HKB : Hid (∀ X Y : World, Below X.heap.size X Y → (Below W3.heap.size W3 X ∧ X.cell? ⟨w2.heap.size, 0, none⟩ = some (.int .i64 sR2.pc) ∧ X.cell? ⟨w2.heap.size, 1, none⟩ = some (.slice i1 L1 L1) ∧ X.cell? ⟨w2.heap.size, 2, none⟩ = some (.slice i2 L2 L2) ∧ X.cell? ⟨w2.heap.size + 1, 0, none⟩ = some (.int .i64 kd2) ∧ X.cell? ⟨w2.heap.size + 1, 1, none⟩ = some (.int .i64 tr2) ∧ X.cell? ⟨w2.heap.size + 1, 2, none⟩ = some (.int .i64 (us2 : Int)) ∧ X.cell? ⟨w3.heap.size, 0, none⟩ = some (.int .i64 sR2.pc) ∧ X.cell? ⟨w3.heap.size, 1, none⟩ = some (.slice i3 L3 L3) ∧ X.cell? ⟨w3.heap.size, 2, none⟩ = some (.slice i4 L4 L4) ∧ X.cell? ⟨w3.heap.size + 1, 0, none⟩ = some (.int .i64 kd2) ∧ X.cell? ⟨w3.heap.size + 1, 1, none⟩ = some (.int .i64 tr2) ∧ X.cell? ⟨w3.heap.size + 1, 2, none⟩ = some (.int .i64 (us2 : Int)) ∧ X.cell? ⟨q, 0, none⟩ = some (vb) ∧ X.cell? ⟨q2, 0, none⟩ = some (vb2) ∧ (convert 37 9 vb).run Tryd.prog X = .ok (.string (strOf bR2)) X ∧ (convert 37 9 vb2).run Tryd.prog X = .ok (.string (strOf bR2)) X) → (Below W3.heap.size W3 Y ∧ Y.cell? ⟨w2.heap.size, 0, none⟩ = some (.int .i64 sR2.pc) ∧ Y.cell? ⟨w2.heap.size, 1, none⟩ = some (.slice i1 L1 L1) ∧ Y.cell? ⟨w2.heap.size, 2, none⟩ = some (.slice i2 L2 L2) ∧ Y.cell? ⟨w2.heap.size + 1, 0, none⟩ = some (.int .i64 kd2) ∧ Y.cell? ⟨w2.heap.size + 1, 1, none⟩ = some (.int .i64 tr2) ∧ Y.cell? ⟨w2.heap.size + 1, 2, none⟩ = some (.int .i64 (us2 : Int)) ∧ Y.cell? ⟨w3.heap.size, 0, none⟩ = some (.int .i64 sR2.pc) ∧ Y.cell? ⟨w3.heap.size, 1, none⟩ = some (.slice i3 L3 L3) ∧ Y.cell? ⟨w3.heap.size, 2, none⟩ = some (.slice i4 L4 L4) ∧ Y.cell? ⟨w3.heap.size + 1, 0, none⟩ = some (.int .i64 kd2) ∧ Y.cell? ⟨w3.heap.size + 1, 1, none⟩ = some (.int .i64 tr2) ∧ Y.cell? ⟨w3.heap.size + 1, 2, none⟩ = some (.int .i64 (us2 : Int)) ∧ Y.cell? ⟨q, 0, none⟩ = some (vb) ∧ Y.cell? ⟨q2, 0, none⟩ = some (vb2) ∧ (convert 37 9 vb).run Tryd.prog Y = .ok (.string (strOf bR2)) Y ∧ (convert 37 9 vb2).run Tryd.prog Y = .ok (.string (strOf bR2)) Y)) := fun X Y hb hs => HSX.out Y (hs.1.trans (hb.mono hs.1.size))
        have HMR := hid (fun X (hs : (Below W3.heap.size W3 X ∧ X.cell? ⟨w2.heap.size, 0, none⟩ = some (.int .i64 sR2.pc) ∧ X.cell? ⟨w2.heap.size, 1, none⟩ = some (.slice i1 L1 L1) ∧ X.cell? ⟨w2.heap.size, 2, none⟩ = some (.slice i2 L2 L2) ∧ X.cell? ⟨w2.heap.size + 1, 0, none⟩ = some (.int .i64 kd2) ∧ X.cell? ⟨w2.heap.size + 1, 1, none⟩ = some (.int .i64 tr2) ∧ X.cell? ⟨w2.heap.size + 1, 2, none⟩ = some (.int .i64 (us2 : Int)) ∧ X.cell? ⟨w3.heap.size, 0, none⟩ = some (.int .i64 sR2.pc) ∧ X.cell? ⟨w3.heap.size, 1, none⟩ = some (.slice i3 L3 L3) ∧ X.cell? ⟨w3.heap.size, 2, none⟩ = some (.slice i4 L4 L4) ∧ X.cell? ⟨w3.heap.size + 1, 0, none⟩ = some (.int .i64 kd2) ∧ X.cell? ⟨w3.heap.size + 1, 1, none⟩ = some (.int .i64 tr2) ∧ X.cell? ⟨w3.heap.size + 1, 2, none⟩ = some (.int .i64 (us2 : Int)) ∧ X.cell? ⟨q, 0, none⟩ = some (vb) ∧ X.cell? ⟨q2, 0, none⟩ = some (vb2) ∧ (convert 37 9 vb).run Tryd.prog X = .ok (.string (strOf bR2)) X ∧ (convert 37 9 vb2).run Tryd.prog X = .ok (.string (strOf bR2)) X)) => sameS_any _ _ sR2 sR2 _ _ _ _ X (HSS1.out.below hs.1) (HSS2.out.below hs.1))
        rw [eqS_self] at HMR
        have HAR := hid (fun X (hs : (Below W3.heap.size W3 X ∧ X.cell? ⟨w2.heap.size, 0, none⟩ = some (.int .i64 sR2.pc) ∧ X.cell? ⟨w2.heap.size, 1, none⟩ = some (.slice i1 L1 L1) ∧ X.cell? ⟨w2.heap.size, 2, none⟩ = some (.slice i2 L2 L2) ∧ X.cell? ⟨w2.heap.size + 1, 0, none⟩ = some (.int .i64 kd2) ∧ X.cell? ⟨w2.heap.size + 1, 1, none⟩ = some (.int .i64 tr2) ∧ X.cell? ⟨w2.heap.size + 1, 2, none⟩ = some (.int .i64 (us2 : Int)) ∧ X.cell? ⟨w3.heap.size, 0, none⟩ = some (.int .i64 sR2.pc) ∧ X.cell? ⟨w3.heap.size, 1, none⟩ = some (.slice i3 L3 L3) ∧ X.cell? ⟨w3.heap.size, 2, none⟩ = some (.slice i4 L4 L4) ∧ X.cell? ⟨w3.heap.size + 1, 0, none⟩ = some (.int .i64 kd2) ∧ X.cell? ⟨w3.heap.size + 1, 1, none⟩ = some (.int .i64 tr2) ∧ X.cell? ⟨w3.heap.size + 1, 2, none⟩ = some (.int .i64 (us2 : Int)) ∧ X.cell? ⟨q, 0, none⟩ = some (vb) ∧ X.cell? ⟨q2, 0, none⟩ = some (vb2) ∧ (convert 37 9 vb).run Tryd.prog X = .ok (.string (strOf bR2)) X ∧ (convert 37 9 vb2).run Tryd.prog X = .ok (.string (strOf bR2)) X)) => HAW.out X (HB3.out.trans (hs.1.mono HB3.out.size)))
        have HFR := hid (fun X (hs : (Below W3.heap.size W3 X ∧ X.cell? ⟨w2.heap.size, 0, none⟩ = some (.int .i64 sR2.pc) ∧ X.cell? ⟨w2.heap.size, 1, none⟩ = some (.slice i1 L1 L1) ∧ X.cell? ⟨w2.heap.size, 2, none⟩ = some (.slice i2 L2 L2) ∧ X.cell? ⟨w2.heap.size + 1, 0, none⟩ = some (.int .i64 kd2) ∧ X.cell? ⟨w2.heap.size + 1, 1, none⟩ = some (.int .i64 tr2) ∧ X.cell? ⟨w2.heap.size + 1, 2, none⟩ = some (.int .i64 (us2 : Int)) ∧ X.cell? ⟨w3.heap.size, 0, none⟩ = some (.int .i64 sR2.pc) ∧ X.cell? ⟨w3.heap.size, 1, none⟩ = some (.slice i3 L3 L3) ∧ X.cell? ⟨w3.heap.size, 2, none⟩ = some (.slice i4 L4 L4) ∧ X.cell? ⟨w3.heap.size + 1, 0, none⟩ = some (.int .i64 kd2) ∧ X.cell? ⟨w3.heap.size + 1, 1, none⟩ = some (.int .i64 tr2) ∧ X.cell? ⟨w3.heap.size + 1, 2, none⟩ = some (.int .i64 (us2 : Int)) ∧ X.cell? ⟨q, 0, none⟩ = some (vb) ∧ X.cell? ⟨q2, 0, none⟩ = some (vb2) ∧ (convert 37 9 vb).run Tryd.prog X = .ok (.string (strOf bR2)) X ∧ (convert 37 9 vb2).run Tryd.prog X = .ok (.string (strOf bR2)) X)) => HB.out.trans ((HB3.out.trans (hs.1.mono HB3.out.size)).mono HB.out.size))
        have k0 := HSX.out W3.drew (Below.drew (Below.refl _ _))
        clear X0 X1 X2 X3 X4 HR3 HRO HRO2 HRO3 HUSED HK
        go_wp2_with fail
        rw [← hW3]
        clear hW3
        go_region_held3 (fun X => (Below W3.heap.size W3 X ∧ X.cell? ⟨w2.heap.size, 0, none⟩ = some (.int .i64 sR2.pc) ∧ X.cell? ⟨w2.heap.size, 1, none⟩ = some (.slice i1 L1 L1) ∧ X.cell? ⟨w2.heap.size, 2, none⟩ = some (.slice i2 L2 L2) ∧ X.cell? ⟨w2.heap.size + 1, 0, none⟩ = some (.int .i64 kd2) ∧ X.cell? ⟨w2.heap.size + 1, 1, none⟩ = some (.int .i64 tr2) ∧ X.cell? ⟨w2.heap.size + 1, 2, none⟩ = some (.int .i64 (us2 : Int)) ∧ X.cell? ⟨w3.heap.size, 0, none⟩ = some (.int .i64 sR2.pc) ∧ X.cell? ⟨w3.heap.size, 1, none⟩ = some (.slice i3 L3 L3) ∧ X.cell? ⟨w3.heap.size, 2, none⟩ = some (.slice i4 L4 L4) ∧ X.cell? ⟨w3.heap.size + 1, 0, none⟩ = some (.int .i64 kd2) ∧ X.cell? ⟨w3.heap.size + 1, 1, none⟩ = some (.int .i64 tr2) ∧ X.cell? ⟨w3.heap.size + 1, 2, none⟩ = some (.int .i64 (us2 : Int)) ∧ X.cell? ⟨q, 0, none⟩ = some (vb) ∧ X.cell? ⟨q2, 0, none⟩ = some (vb2) ∧ (convert 37 9 vb).run Tryd.prog X = .ok (.string (strOf bR2)) X ∧ (convert 37 9 vb2).run Tryd.prog X = .ok (.string (strOf bR2)) X))
          (first | (with_reducible exact k0) | (exact HKB.out _ _ (by assumption) (by assumption)))
          (first
            | (go_at_call 15
               refine (HMR.out _ (by assumption)).mono ?_
               rintro e w5 ⟨rfl, b5⟩)
            | (go_at_call 10
               refine (HAR.out _ (by assumption)).mono ?_
               rintro e w6 ⟨rfl, b6⟩))
        all_goals
          have HBF := hid (HFR.out _ (by assumption))
          clear HMR HAR HKB HSX HFR
          go_wp2
          go_ret
          exact ⟨by first | rfl | simp, HBF.out⟩
    · have hEN : refL l s true (N : Int) = refL l s true (a : Int) := refL_same ⟨by omega, by omega⟩ ⟨by omega, by omega⟩
      have hrb := run_bad (.slice ca l.length ccap) l _ s vs vk (a : Int) (memV q) true (Or.inl ⟨rfl, q, rfl⟩) wc (HCW.out.below b1) (HTW.out.below b1) (HSW.out.below b1) hcl hE
      have HRB := hid (fun X (hX : Below W.heap.size W X) => run_bad (.slice ca l.length ccap) l _ s vs vk (N : Int) (memV q2) true (Or.inl ⟨rfl, q2, rfl⟩) X (HCW.out.below hX) (HTW.out.below hX) (HSW.out.below hX) hcl (by rw [hEN]; exact hE))
      rw [hEN] at HRB
      obtain ⟨E, hEE⟩ : ∃ E, E = refL l s true (a : Int) := ⟨_, rfl⟩
      rw [← hEE] at hrb HRB hE
      have hE' : (E != 0) = true := by simpa using hE
      have hE2 : (E == E) = true := by simp
      have HBB := hid b1
      unfold memV at hrb HRB
      clear hEE hEN hE m1 m2 b1 HTM hN
      go_wp2_with fail
      refine hrb.mono ?_
      rintro e w2 ⟨rfl, b2⟩
      obtain ⟨W2, hW2⟩ : ∃ W2, W2 = (w2.alloc (.cells #[.int .i64 0, .slice none 0 0, .slice none 0 0] 25)).alloc (.cells #[.int .i64 0, .int .i64 0, .int .i64 0] 33) := ⟨_, rfl⟩
      have hbw2 : Below w2.heap.size w2 W2 := by rw [hW2]; exact below_alloc2 w2 _ _
      have hb2' := HBB.out.trans (b2.mono hs1)
      have hB2 : Below W.heap.size W W2 := hb2'.trans (hbw2.mono hb2'.size)
      have hck := HRB.out W2 hB2
      obtain ⟨x0, x1, x2, x3, x4⟩ := (HZ.out w2 hb2').cells
      have hx : w.heap.size < w2.heap.size := (HZ.out w2 hb2').lt
      have HB2 := hid hB2
      clear hrb b2 hbw2 hb2' hB2 e0 e1 e2 e3 e4
      go_wp2_with fail
      rw [← hW2]
      clear hW2
      refine hck.mono ?_
      rintro e w3 ⟨rfl, b3⟩
      obtain ⟨W3, hW3⟩ : ∃ W3, W3 = (w3.alloc (.cells #[.int .i64 0, .slice none 0 0, .slice none 0 0] 25)).alloc (.cells #[.int .i64 0, .int .i64 0, .int .i64 0] 33) := ⟨_, rfl⟩
      have hbw3 : Below w3.heap.size w3 W3 := by rw [hW3]; exact below_alloc2 w3 _ _
      have hb3' := HB2.out.trans (b3.mono HB2.out.size)
      have hB3 : Below W.heap.size W W3 := hb3'.trans (hbw3.mono hb3'.size)
      have haw := HAW.out W3 hB3
      have HB3 := hid hB3
      clear hck b3 hbw3 hb3' hB3 x0 x1 x2 x3 x4
      go_wp2_with fail
      rw [← hW3]
      clear hW3
      refine haw.mono ?_
      rintro e w4 ⟨rfl, b4⟩
      have HB4 := hid (HB.out.trans ((HB3.out.trans (b4.mono HB3.out.size)).mono HB.out.size))
      clear haw b4
      go_wp2
      go_ret
      exact ⟨by first | rfl | simp, HB4.out⟩
end Go.Proofs.YtfnojlgmbfocfaaDoor
