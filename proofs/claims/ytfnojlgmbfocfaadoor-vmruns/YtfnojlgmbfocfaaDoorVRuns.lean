/-
  The walk of the law VmRuns.
-/
import Derived.Test.YtfnojlgmbfocfaaDoorVConv
import Derived.Deep.RegionHeld3
namespace Go.Proofs.YtfnojlgmbfocfaaDoor
open Go.RowKit
set_option linter.unusedVariables false
set_option linter.unusedSimpArgs false
set_option maxRecDepth 100000

/-- What lies while the answer's stack is written over. -/
structure SpW (w w' : World) (v : Value) (L : Nat) : Prop where
  os : w'.os = w.os
  tape : w'.tape = w.tape
  output : w'.output = w.output
  size : w'.heap.size = w.heap.size
  far : ∀ j, v.ownBlock ≠ some j → w'.heap[j]? = w.heap[j]?
  row : ∀ g, v.ownBlock = some g → ∃ cur, w'.heap[g]? = some (.cells cur 3 (0, 0)) ∧ L ≤ cur.size
theorem SpW.start {w : World} {B : Nat} {v : Value} {xs : List Int} (h : OwnC w B v xs) : SpW w w v xs.length := by
  refine ⟨rfl, rfl, rfl, rfl, fun _ _ => rfl, fun g hg => ?_⟩
  rcases h with ⟨rfl, _⟩ | ⟨g', cur, rfl, hb, hg', hl, ht⟩
  · simp [Value.ownBlock] at hg
  · simp only [Value.ownBlock, Option.some.injEq] at hg
    subst hg
    exact ⟨cur, hg', hl⟩
theorem SpW.at_ {w w' w0 : World} {B L : Nat} {ua : Option Addr} {xs : List Int} (h : SpW w w' (.slice ua L L) L) (hL : 0 < L) (ho : OwnC w0 B (.slice ua L L) xs) (hx : L = xs.length) : ∃ g cur, ua = some ⟨g, 0, none⟩ ∧ w'.heap[g]? = some (.cells cur 3 (0, 0)) ∧ L ≤ cur.size := by
  rcases ho with ⟨e, hn⟩ | ⟨g, cur, e, hb, hg, hl, ht⟩
  · simp only [Value.slice.injEq] at e
    omega
  · simp only [Value.slice.injEq] at e
    obtain ⟨rfl, _⟩ := e
    obtain ⟨cur2, h1, h2⟩ := h.row g rfl
    exact ⟨g, cur2, rfl, h1, h2⟩
theorem SpW.set {w w' : World} {v : Value} {L g : Nat} (h : SpW w w' v L) (hg : v.ownBlock = some g) (k : Nat) (x : Value) : SpW w (w'.setCell ⟨g, k, none⟩ x) v L := by
  refine ⟨h.os, h.tape, h.output, by simp [World.setCell, h.size], fun j hj => ?_, fun g' hg' => ?_⟩
  · rw [far_set (fun e => hj (by rw [e]; exact hg))]
    exact h.far j hj
  · rw [hg] at hg'
    cases hg'
    obtain ⟨cur, h1, h2⟩ := h.row g hg
    exact ⟨_, heap_setCell_same w' g k _ _ x h1, by simpa using h2⟩
theorem SpW.below {w w' : World} {v : Value} {L B : Nat} (h : SpW w w' v L) (hB : ∀ j, v.ownBlock = some j → B ≤ j) (hs : B ≤ w.heap.size) : Below B w w' :=
  ⟨h.os, h.tape, h.output, by rw [h.size]; exact Nat.le_refl _, fun k hk => h.far k (fun e => by have := hB k e; omega)⟩
theorem MemAt.conv {w : World} {q r : Nat} {b : List Nat} {ld st : Nat} {vb : Value} (h : MemAt w q r b ld st vb) : (convert 37 9 vb).run Tryd.prog w = .ok (.string (strOf b)) w := conv_own h.own
theorem outc_len (l : List InsL) (s : StL) (b : List Nat) (fuel : Int) : (outc l s b fuel).2.2.1.st.length ≤ 140737488355328 ∧ (outc l s b fuel).2.2.1.ca.length ≤ 140737488355328 := by
  unfold outc
  by_cases hE : refL l s true fuel = 0
  · rw [if_pos hE]
    have h1 : (checkL l).1 = 0 ∧ OkS l.length s := by
      unfold refL at hE
      by_cases h1 : (checkL l).1 = 0
      · rw [if_pos h1] at hE
        by_cases h2 : okS l.length s = true ∧ true = true ∧ 0 ≤ fuel ∧ fuel ≤ 1048576
        · exact ⟨h1, okS_iff.1 h2.1⟩
        · rw [if_neg h2] at hE; simp at hE
      · rw [if_neg h1] at hE; exact absurd hE h1
    have hall : ∀ i ∈ l, mayI l.length i = true := by
      rcases check_cases l with h | ⟨h, _⟩ | ⟨_, hb, _, h⟩
      · rw [h] at h1; cases h1.1
      · rw [h] at h1; cases h1.1
      · exact badAt_all hb
    have hro := run_ok hall fuel.toNat 0 s b h1.2
    have a1 := hro.1.st
    have a2 := hro.1.cl
    exact ⟨by show (runL l fuel.toNat 0 s b).2.1.st.length ≤ _; omega, by show (runL l fuel.toNat 0 s b).2.1.ca.length ≤ _; omega⟩
  · rw [if_neg hE]
    exact ⟨by simp, by simp⟩
set_option maxHeartbeats 8000000 in
theorem region6a {Q : Exit → Act → World → Prop} (act : Act) (W : World) (z : Nat) (c : Value) (pc : Int) (vs vk : Value) (m : ByteArray) (fuel E kd tr : Int) (un : Nat) (pc2 : Int) (st2 ca2 : List Int) (b2 : List Nat) (HC : CtxR W z c pc vs vk m fuel E kd tr un pc2 st2 ca2 b2)
    (hact : act = { tmps := #[act.tmps.getD 0 undef, .int .i64 fuel, .pointer (some ⟨z, 0, none⟩), act.tmps.getD 3 undef, act.tmps.getD 4 undef, act.tmps.getD 5 undef, act.tmps.getD 6 undef, act.tmps.getD 7 undef, act.tmps.getD 8 undef, act.tmps.getD 9 undef, act.tmps.getD 10 undef, act.tmps.getD 11 undef, act.tmps.getD 12 undef, act.tmps.getD 13 undef, act.tmps.getD 14 undef, act.tmps.getD 15 undef, act.tmps.getD 16 undef, act.tmps.getD 17 undef, act.tmps.getD 18 undef, act.tmps.getD 19 undef, act.tmps.getD 20 undef, act.tmps.getD 21 undef, act.tmps.getD 22 undef, act.tmps.getD 23 undef, act.tmps.getD 24 undef, act.tmps.getD 25 undef, act.tmps.getD 26 undef, act.tmps.getD 27 undef, act.tmps.getD 28 undef, act.tmps.getD 29 undef, act.tmps.getD 30 undef, act.tmps.getD 31 undef, act.tmps.getD 32 undef, act.tmps.getD 33 undef, act.tmps.getD 34 undef, act.tmps.getD 35 undef, act.tmps.getD 36 undef, act.tmps.getD 37 undef, act.tmps.getD 38 undef, act.tmps.getD 39 undef, act.tmps.getD 40 undef, act.tmps.getD 41 undef, act.tmps.getD 42 undef, act.tmps.getD 43 undef, act.tmps.getD 44 undef, act.tmps.getD 45 undef, act.tmps.getD 46 undef, act.tmps.getD 47 undef, act.tmps.getD 48 undef, act.tmps.getD 49 undef, act.tmps.getD 50 undef, act.tmps.getD 51 undef, act.tmps.getD 52 undef, act.tmps.getD 53 undef, act.tmps.getD 54 undef, act.tmps.getD 55 undef, act.tmps.getD 56 undef, act.tmps.getD 57 undef, act.tmps.getD 58 undef, act.tmps.getD 59 undef, act.tmps.getD 60 undef, act.tmps.getD 61 undef, act.tmps.getD 62 undef, act.tmps.getD 63 undef, act.tmps.getD 64 undef, act.tmps.getD 65 undef, act.tmps.getD 66 undef, act.tmps.getD 67 undef, act.tmps.getD 68 undef, act.tmps.getD 69 undef, act.tmps.getD 70 undef, act.tmps.getD 71 undef, act.tmps.getD 72 undef, act.tmps.getD 73 undef, act.tmps.getD 74 undef, act.tmps.getD 75 undef, act.tmps.getD 76 undef, act.tmps.getD 77 undef, act.tmps.getD 78 undef, act.tmps.getD 79 undef, act.tmps.getD 80 undef, act.tmps.getD 81 undef, act.tmps.getD 82 undef, act.tmps.getD 83 undef, act.tmps.getD 84 undef, act.tmps.getD 85 undef, act.tmps.getD 86 undef, act.tmps.getD 87 undef, act.tmps.getD 88 undef, act.tmps.getD 89 undef, act.tmps.getD 90 undef, act.tmps.getD 91 undef, act.tmps.getD 92 undef, act.tmps.getD 93 undef, act.tmps.getD 94 undef, act.tmps.getD 95 undef, act.tmps.getD 96 undef, act.tmps.getD 97 undef, act.tmps.getD 98 undef, act.tmps.getD 99 undef, act.tmps.getD 100 undef, act.tmps.getD 101 undef, act.tmps.getD 102 undef, act.tmps.getD 103 undef, act.tmps.getD 104 undef, act.tmps.getD 105 undef, act.tmps.getD 106 undef, act.tmps.getD 107 undef, act.tmps.getD 108 undef], defers := [] }) (HQ : FinR Q (fun k => act.tmps.getD k undef) W z c pc vs vk m fuel E kd tr un pc2 st2 ca2 b2) : (Code.region 6 opsR true).wp Tryd.prog Q act W := by
  rw [hact]
  exact region6 (fun k => act.tmps.getD k undef) W z c pc vs vk m fuel E kd tr un pc2 st2 ca2 b2 HC HQ _ _ _ _ _ _ _ _ _ _ _ _ _ _ _ _ _ _ _ _ _ _
set_option maxHeartbeats 64000000 in
theorem runs_walk (v : Value) (l : List InsL) (c : Value) (s : StL) (vs vk : Value) (m : ByteArray) (fuel : Int) (w : World) (hS : SeesW w v l c s vs vk m) (hT : Tabs w) (h8s : s.st.length * 8 ≤ 140737488355328) (h8k : s.ca.length * 8 ≤ 140737488355328) :
    Calls Tryd.prog 3 #[v, .int .i64 fuel] w fun e w' => e = .returned (.bool true) ∧ Below w.heap.size w w' := by
  have hS0 := hS
  obtain ⟨rfl, hc, hst, hcl, hml⟩ := hS
  obtain ⟨W, hW⟩ : ∃ W, W = w.alloc (.cells #[c, .int .i64 s.pc, vs, vk, .string m] 27) := ⟨_, rfl⟩
  have hb : Below w.heap.size w W := by rw [hW]; exact below_alloc w _
  have hz : WorkAt W w.heap.size c s.pc vs vk m := ⟨by rw [hW]; exact heap_alloc_new w _⟩
  have hTW := hT.below hb
  have h2W : 2 ≤ W.heap.size := by
    have := hTW.lt.2
    have e : 1 = 1 := rfl
    omega
  have HCW := hid (hc.below hb)
  have HSW := hid (hst.below hb)
  have HTW := hid hTW
  have HZ := hid (fun w1 (h : Below W.heap.size W w1) => hz.below h)
  have HAW := hid (fun w1 (h : Below W.heap.size W w1) => awake_any w1 (hTW.below h))
  obtain ⟨g0, g1, g2, g3, g4⟩ := hz.cells
  have HB := hid hb
  obtain ⟨cb, co, ca, ccap, hcv, _⟩ := hc
  subst hcv
  have hzW : w.heap.size < W.heap.size := hz.lt
  clear hS0 hst hb hz hTW hT
  by_cases hbig : 4096 < fuel ∧ fuel ≤ 1048576
  · obtain ⟨hb1, hb2⟩ := hbig
    have haw := HAW.out W (Below.refl _ _)
    go_enter Tryd.func3, Tryd.ntmps3
    go_upto_region 1 with fail
    rw [← hW]
    clear hW
    go_wp2_with fail
    refine haw.mono ?_
    rintro e w1 ⟨rfl, b1⟩
    have HB1 := hid (HB.out.trans (b1.mono HB.out.size))
    clear haw b1
    go_wp2
    go_ret
    exact ⟨rfl, HB1.out⟩
  have hng : decide (4096 < fuel) = false ∨ decide (fuel ≤ 1048576) = false := by
    by_cases h1 : 4096 < fuel
    · exact Or.inr (decide_eq_false (fun h2 => hbig ⟨h1, h2⟩))
    · exact Or.inl (decide_eq_false h1)
  obtain ⟨E, hE⟩ : ∃ E, E = (outc l s (bytesOf m) fuel).1 := ⟨_, rfl⟩
  obtain ⟨⟨⟨kd, tr, un⟩, ⟨pc2, st2, ca2⟩, b2⟩, hR⟩ : ∃ R, R = (outc l s (bytesOf m) fuel).2 := ⟨_, rfl⟩
  have hfl := hid (fun X => filled_any m X hml)
  have HLN := hid (outc_len l s (bytesOf m) fuel)
  rw [← hR] at HLN
  have HCD := hid (fun (vs' vk' vb : Value) (q r : Nat) (X : World) (hX : Below W.heap.size W X) (hS' : SeesS X (.agg #[.int .i64 s.pc, vs', vk']) s vs' vk') (hm : MemAt X q r (bytesOf m) 0 0 vb) (hr : r < X.heap.size) (h1 : 2 ≤ q) (h2 : 2 ≤ r) => code_any (.slice ca l.length ccap) l s vs' vk' vb fuel q r (bytesOf m) X (HCW.out.below hX) (HTW.out.below hX) hS' hcl hm hr h1 h2 (by rw [bytesOf_len]; omega))
  have HDC := hid (fun (vb : Value) (X : World) (hX : Below W.heap.size W X) (hbs : SeesN .u8 X vb (bytesOf m)) (hby : ∀ y ∈ bytesOf m, y < 256) => doc_any (.slice ca l.length ccap) l s vs vk vb (bytesOf m) fuel X (HCW.out.below hX) (HSW.out.below hX) hbs hcl hby (by rw [bytesOf_len]; omega))
  rw [← hE, ← hR] at HCD HDC
  have HCP := hid (fun (X : World) (hX : Below W.heap.size W X) => rcopy_any _ s vs vk X (HSW.out.below hX) h8s h8k)
  unfold CodeR memV at HCD
  unfold FilR at hfl
  clear hE hR hbig
  go_enter Tryd.func3, Tryd.ntmps3
  go_upto_region 1 with fail
  rw [← hW]
  clear hW
  go_cut [21] (fun x21 wx => x21 = .bool false ∧ wx = W)
  case first =>
    rcases hng with h | h
    · go_wp2
      go_meet
      case rel => exact ⟨by simp [h], rfl⟩
    · by_cases h1 : 4096 < fuel
      · go_wp2
        go_meet
        case rel => exact ⟨by simp [h], rfl⟩
      · go_wp2
        go_meet
        case rel => exact ⟨by simp [h], rfl⟩
  case rest =>
    obtain ⟨h21, hcw⟩ := hcut
    subst h21
    rw [hcw]
    clear hcw
    go_wp2_with fail
    refine (hfl.out _).mono ?_
    rintro e w1 ⟨q, r, vb, rfl, m1, x1, x2, x3, b1⟩
    have hs1 := b1.size
    obtain ⟨e0, e1, e2, e3, e4⟩ := (HZ.out w1 b1).cells
    have HB1 := hid b1
    have HM1 := hid m1
    clear m1 b1
    go_wp2_with fail
    refine (HCP.out w1 HB1.out).mono ?_
    rintro e w2 ⟨ou, ok, rfl, o1, o2, _, b2'⟩
    obtain ⟨oa1, od1, oe1, _⟩ := o1.shape
    obtain ⟨oa2, od2, oe2, _⟩ := o2.shape
    obtain ⟨L1, hL1⟩ : ∃ L, L = s.st.length := ⟨_, rfl⟩
    obtain ⟨L2, hL2⟩ : ∃ L, L = s.ca.length := ⟨_, rfl⟩
    rw [← hL1] at oe1
    rw [← hL2] at oe2
    subst oe1 oe2
    have HL1 := hid hL1
    have HL2 := hid hL2
    clear hL1 hL2
    obtain ⟨W4, hW4⟩ : ∃ W4, W4 = w2.alloc (.cells #[.int .i64 s.pc, .slice oa1 L1 od1, .slice oa2 L2 od2] 25) := ⟨_, rfl⟩
    have b4 : Below w2.heap.size w2 W4 := by rw [hW4]; exact below_alloc w2 _
    have hs2 := b2'.size
    have hs4 : W4.heap.size = w2.heap.size + 1 := by rw [hW4]; simp
    have hB4 : Below W.heap.size W W4 := (HB1.out.trans (b2'.mono HB1.out.size)).trans (b4.mono (by omega))
    have hq1 := HM1.out.lt
    have hcd := HCD.out (.slice oa1 L1 od1) (.slice oa2 L2 od2) vb q r W4 hB4 ⟨rfl, (o1.below b4).sees, (o2.below b4).sees, by omega, by omega⟩ ((HM1.out.below b2').below b4) (by omega) (by omega) (by omega)
    have zo : W4.heap[w2.heap.size]? = some (.cells #[.int .i64 s.pc, .slice oa1 L1 od1, .slice oa2 L2 od2] 25 (0, 0)) := by rw [hW4]; exact heap_alloc_new w2 _
    have p0 : W4.cell? ⟨w2.heap.size, 0, none⟩ = some (.int .i64 s.pc) := by simp [World.cell?, zo]
    have p1 : W4.cell? ⟨w2.heap.size, 1, none⟩ = some (.slice oa1 L1 od1) := by simp [World.cell?, zo]
    have p2 : W4.cell? ⟨w2.heap.size, 2, none⟩ = some (.slice oa2 L2 od2) := by simp [World.cell?, zo]
    obtain ⟨i0, i1, i2, i3, i4⟩ := (HZ.out W4 hB4).cells
    have HB2 := hid b2'
    have HO1 := hid o1
    have HO2 := hid o2
    have HW4 := hid hW4
    have HCD2 := hid hcd
    clear b2' o1 o2 b4 zo HCD e0 e1 e2 e3 e4
    go_upto_region 5 with fail
    rw [← hW4]
    clear hW4
    go_wp2_with fail
    refine hcd.mono ?_
    clear hcd HCD2
    rintro e w5 ⟨us, uk, rfl, c1, c2, ld, st, hm, hk⟩
    obtain ⟨ua1, ue1⟩ := c1.shape
    obtain ⟨ua2, ue2⟩ := c2.shape
    change us = .slice ua1 st2.length st2.length at ue1
    change uk = .slice ua2 ca2.length ca2.length at ue2
    obtain ⟨L3, hL3⟩ : ∃ L, L = st2.length := ⟨_, rfl⟩
    obtain ⟨L4, hL4⟩ : ∃ L, L = ca2.length := ⟨_, rfl⟩
    rw [← hL3] at ue1
    rw [← hL4] at ue2
    subst ue1 ue2
    have HL3 := hid hL3
    have HL4 := hid hL4
    clear hL3 hL4
    obtain ⟨W5, hW5⟩ : ∃ W5, W5 = (w5.alloc (.cells #[.int .i64 pc2, .slice ua1 L3 L3, .slice ua2 L4 L4] 25)).alloc (.cells #[.int .i64 kd, .int .i64 tr, .int .i64 (un : Nat)] 33) := ⟨_, rfl⟩
    have hA := aftC_of (R := ((kd, tr, un), ⟨pc2, st2, ca2⟩, b2)) (HZ.out W (Below.refl _ _)) HB1.out x1 x2 (by omega) x3 HO1.out HO2.out HB2.out HW4.out c1 c2 hm hk hW5
    have HA := hid hA
    clear c1 c2 hm hk hA HO1 HO2 HB2 HW4 HM1 p0 p1 p2 i0 i1 i2 i3 i4 hB4
    go_upto_region 6 with fail
    rw [← hW5]
    clear hW5
    have HCX : Hid (CtxR W5 w.heap.size (.slice ca l.length ccap) s.pc vs vk m fuel E kd tr un pc2 st2 ca2 b2) := hid ⟨HA.out.work, fun X => hfl.out X, fun vb X hX hbs => HDC.out vb X (HA.out.bel.trans (hX.mono HA.out.bel.size)) hbs (bytesOf_lt m), fun Y hY => (HA.out.work.below hY).cells.1⟩
    go_cut [10, 11, 12, 13] (fun x10 x11 x12 x13 wx => ∃ a n y ut vt ub, x10 = .pointer (some ⟨a, 0, none⟩) ∧ x11 = .pointer (some ⟨n, 0, none⟩) ∧ x12 = .pointer (some ⟨y, 0, none⟩) ∧ x13 = .int .i64 E ∧ Hid (AftD W5 wx a n y ut vt ub ((kd, tr, un), ⟨pc2, st2, ca2⟩, b2)))
    case first =>
      refine region6a _ W5 w.heap.size (.slice ca l.length ccap) s.pc vs vk m fuel E kd tr un pc2 st2 ca2 b2 HCX.out rfl ?_
      intro a n y q' vn vc2 va ut vt ub X hD
      have HDD := hid hD
      clear hD
      simp only [Array.getD_eq_getD_getElem?, List.getElem?_toArray, List.getElem?_cons_succ, List.getElem?_cons_zero, Option.getD_some]
      go_wp2
      go_meet
      case rel => exact ⟨a, n, y, ut, vt, ub, rfl, rfl, rfl, rfl, HDD⟩
    case rest =>
      generalize wc = X6 at hcut ⊢
      obtain ⟨a, n, y, ut, vt, ub, h10, h11, h12, h13, HD⟩ := hcut
      subst h10 h11 h12 h13
      clear HCX
      obtain ⟨ld, stt, hM5⟩ := HA.out.mem
      have HM := hid (hM5.below HD.out.bel)
      have hB5 := hid (HA.out.bel.trans (HD.out.bel.mono HA.out.bel.size))
      clear hM5
      have la := (Array.getElem?_eq_some_iff.1 HD.out.aft).1
      have ln := (Array.getElem?_eq_some_iff.1 HD.out.mem).1
      have ly := (Array.getElem?_eq_some_iff.1 HD.out.stop).1
      have l5 := HA.out.lx
      have lo := (Array.getElem?_eq_some_iff.1 HA.out.own).1
      have lz := HA.out.work.lt
      have sD := HD.out.bel.size
      have HSX : Hid (∀ X, Below X6.heap.size X6 X → (Below X6.heap.size X6 X ∧ X.cell? ⟨w5.heap.size, 0, none⟩ = some (.int .i64 pc2) ∧ X.cell? ⟨w5.heap.size, 1, none⟩ = some (.slice ua1 L3 L3) ∧ X.cell? ⟨w5.heap.size, 2, none⟩ = some (.slice ua2 L4 L4) ∧ X.cell? ⟨w5.heap.size + 1, 0, none⟩ = some (.int .i64 kd) ∧ X.cell? ⟨w5.heap.size + 1, 1, none⟩ = some (.int .i64 tr) ∧ X.cell? ⟨w5.heap.size + 1, 2, none⟩ = some (.int .i64 (un : Int)) ∧ X.cell? ⟨a, 0, none⟩ = some (.int .i64 pc2) ∧ X.cell? ⟨a, 1, none⟩ = some ut ∧ X.cell? ⟨a, 2, none⟩ = some vt ∧ X.cell? ⟨y, 0, none⟩ = some (.int .i64 kd) ∧ X.cell? ⟨y, 1, none⟩ = some (.int .i64 tr) ∧ X.cell? ⟨y, 2, none⟩ = some (.int .i64 (un : Int)) ∧ X.cell? ⟨q, 0, none⟩ = some vb ∧ X.cell? ⟨n, 0, none⟩ = some ub ∧ X.cell? ⟨w2.heap.size, 0, none⟩ = some (.int .i64 s.pc) ∧ X.cell? ⟨w2.heap.size, 1, none⟩ = some (.slice oa1 L1 od1) ∧ X.cell? ⟨w2.heap.size, 2, none⟩ = some (.slice oa2 L2 od2) ∧ X.cell? ⟨w.heap.size, 1, none⟩ = some (.int .i64 s.pc) ∧ X.cell? ⟨w.heap.size, 2, none⟩ = some vs ∧ X.cell? ⟨w.heap.size, 3, none⟩ = some vk ∧ (convert 37 9 vb).run Tryd.prog X = .ok (.string (strOf b2)) X ∧ (convert 37 9 ub).run Tryd.prog X = .ok (.string (strOf b2)) X)) := fun X hX => by
        have hX5 : Below W5.heap.size W5 X := HD.out.bel.trans (hX.mono sD)
        have t1 := (hX5.block w5.heap.size HA.out.la).trans HA.out.aft
        have t2 := (hX5.block (w5.heap.size + 1) l5).trans HA.out.stop
        have t3 := (hX.block a la).trans HD.out.aft
        have t4 := (hX.block y ly).trans HD.out.stop
        have t5 := (hX.block n ln).trans HD.out.mem
        have t6 := (hX5.block w2.heap.size lo).trans HA.out.own
        have t7 := (HA.out.work.below hX5).cells
        exact ⟨hX, by simp [World.cell?, t1], by simp [World.cell?, t1], by simp [World.cell?, t1], by simp [World.cell?, t2], by simp [World.cell?, t2], by simp [World.cell?, t2], by simp [World.cell?, t3], by simp [World.cell?, t3], by simp [World.cell?, t3], by simp [World.cell?, t4], by simp [World.cell?, t4], by simp [World.cell?, t4], (HM.out.below hX).cells.1, by simp [World.cell?, t5], by simp [World.cell?, t6], by simp [World.cell?, t6], by simp [World.cell?, t6], t7.2.1, t7.2.2.1, t7.2.2.2.1, (HM.out.below hX).conv, conv_sees (HD.out.uby.below hX)⟩
      have HKB : Hid (∀ X Y : World, Below X.heap.size X Y → (Below X6.heap.size X6 X ∧ X.cell? ⟨w5.heap.size, 0, none⟩ = some (.int .i64 pc2) ∧ X.cell? ⟨w5.heap.size, 1, none⟩ = some (.slice ua1 L3 L3) ∧ X.cell? ⟨w5.heap.size, 2, none⟩ = some (.slice ua2 L4 L4) ∧ X.cell? ⟨w5.heap.size + 1, 0, none⟩ = some (.int .i64 kd) ∧ X.cell? ⟨w5.heap.size + 1, 1, none⟩ = some (.int .i64 tr) ∧ X.cell? ⟨w5.heap.size + 1, 2, none⟩ = some (.int .i64 (un : Int)) ∧ X.cell? ⟨a, 0, none⟩ = some (.int .i64 pc2) ∧ X.cell? ⟨a, 1, none⟩ = some ut ∧ X.cell? ⟨a, 2, none⟩ = some vt ∧ X.cell? ⟨y, 0, none⟩ = some (.int .i64 kd) ∧ X.cell? ⟨y, 1, none⟩ = some (.int .i64 tr) ∧ X.cell? ⟨y, 2, none⟩ = some (.int .i64 (un : Int)) ∧ X.cell? ⟨q, 0, none⟩ = some vb ∧ X.cell? ⟨n, 0, none⟩ = some ub ∧ X.cell? ⟨w2.heap.size, 0, none⟩ = some (.int .i64 s.pc) ∧ X.cell? ⟨w2.heap.size, 1, none⟩ = some (.slice oa1 L1 od1) ∧ X.cell? ⟨w2.heap.size, 2, none⟩ = some (.slice oa2 L2 od2) ∧ X.cell? ⟨w.heap.size, 1, none⟩ = some (.int .i64 s.pc) ∧ X.cell? ⟨w.heap.size, 2, none⟩ = some vs ∧ X.cell? ⟨w.heap.size, 3, none⟩ = some vk ∧ (convert 37 9 vb).run Tryd.prog X = .ok (.string (strOf b2)) X ∧ (convert 37 9 ub).run Tryd.prog X = .ok (.string (strOf b2)) X) → (Below X6.heap.size X6 Y ∧ Y.cell? ⟨w5.heap.size, 0, none⟩ = some (.int .i64 pc2) ∧ Y.cell? ⟨w5.heap.size, 1, none⟩ = some (.slice ua1 L3 L3) ∧ Y.cell? ⟨w5.heap.size, 2, none⟩ = some (.slice ua2 L4 L4) ∧ Y.cell? ⟨w5.heap.size + 1, 0, none⟩ = some (.int .i64 kd) ∧ Y.cell? ⟨w5.heap.size + 1, 1, none⟩ = some (.int .i64 tr) ∧ Y.cell? ⟨w5.heap.size + 1, 2, none⟩ = some (.int .i64 (un : Int)) ∧ Y.cell? ⟨a, 0, none⟩ = some (.int .i64 pc2) ∧ Y.cell? ⟨a, 1, none⟩ = some ut ∧ Y.cell? ⟨a, 2, none⟩ = some vt ∧ Y.cell? ⟨y, 0, none⟩ = some (.int .i64 kd) ∧ Y.cell? ⟨y, 1, none⟩ = some (.int .i64 tr) ∧ Y.cell? ⟨y, 2, none⟩ = some (.int .i64 (un : Int)) ∧ Y.cell? ⟨q, 0, none⟩ = some vb ∧ Y.cell? ⟨n, 0, none⟩ = some ub ∧ Y.cell? ⟨w2.heap.size, 0, none⟩ = some (.int .i64 s.pc) ∧ Y.cell? ⟨w2.heap.size, 1, none⟩ = some (.slice oa1 L1 od1) ∧ Y.cell? ⟨w2.heap.size, 2, none⟩ = some (.slice oa2 L2 od2) ∧ Y.cell? ⟨w.heap.size, 1, none⟩ = some (.int .i64 s.pc) ∧ Y.cell? ⟨w.heap.size, 2, none⟩ = some vs ∧ Y.cell? ⟨w.heap.size, 3, none⟩ = some vk ∧ (convert 37 9 vb).run Tryd.prog Y = .ok (.string (strOf b2)) Y ∧ (convert 37 9 ub).run Tryd.prog Y = .ok (.string (strOf b2)) Y)) := fun X Y hb hs => HSX.out Y (hs.1.trans (hb.mono hs.1.size))
      have HOS := hid (HA.out.ust.below HD.out.bel)
      have HOK := hid (HA.out.uca.below HD.out.bel)
      have HS1 := hid (fun X (hs : (Below X6.heap.size X6 X ∧ X.cell? ⟨w5.heap.size, 0, none⟩ = some (.int .i64 pc2) ∧ X.cell? ⟨w5.heap.size, 1, none⟩ = some (.slice ua1 L3 L3) ∧ X.cell? ⟨w5.heap.size, 2, none⟩ = some (.slice ua2 L4 L4) ∧ X.cell? ⟨w5.heap.size + 1, 0, none⟩ = some (.int .i64 kd) ∧ X.cell? ⟨w5.heap.size + 1, 1, none⟩ = some (.int .i64 tr) ∧ X.cell? ⟨w5.heap.size + 1, 2, none⟩ = some (.int .i64 (un : Int)) ∧ X.cell? ⟨a, 0, none⟩ = some (.int .i64 pc2) ∧ X.cell? ⟨a, 1, none⟩ = some ut ∧ X.cell? ⟨a, 2, none⟩ = some vt ∧ X.cell? ⟨y, 0, none⟩ = some (.int .i64 kd) ∧ X.cell? ⟨y, 1, none⟩ = some (.int .i64 tr) ∧ X.cell? ⟨y, 2, none⟩ = some (.int .i64 (un : Int)) ∧ X.cell? ⟨q, 0, none⟩ = some vb ∧ X.cell? ⟨n, 0, none⟩ = some ub ∧ X.cell? ⟨w2.heap.size, 0, none⟩ = some (.int .i64 s.pc) ∧ X.cell? ⟨w2.heap.size, 1, none⟩ = some (.slice oa1 L1 od1) ∧ X.cell? ⟨w2.heap.size, 2, none⟩ = some (.slice oa2 L2 od2) ∧ X.cell? ⟨w.heap.size, 1, none⟩ = some (.int .i64 s.pc) ∧ X.cell? ⟨w.heap.size, 2, none⟩ = some vs ∧ X.cell? ⟨w.heap.size, 3, none⟩ = some vk ∧ (convert 37 9 vb).run Tryd.prog X = .ok (.string (strOf b2)) X ∧ (convert 37 9 ub).run Tryd.prog X = .ok (.string (strOf b2)) X)) => hs.1)
      have HMR := hid (fun X (hs : (Below X6.heap.size X6 X ∧ X.cell? ⟨w5.heap.size, 0, none⟩ = some (.int .i64 pc2) ∧ X.cell? ⟨w5.heap.size, 1, none⟩ = some (.slice ua1 L3 L3) ∧ X.cell? ⟨w5.heap.size, 2, none⟩ = some (.slice ua2 L4 L4) ∧ X.cell? ⟨w5.heap.size + 1, 0, none⟩ = some (.int .i64 kd) ∧ X.cell? ⟨w5.heap.size + 1, 1, none⟩ = some (.int .i64 tr) ∧ X.cell? ⟨w5.heap.size + 1, 2, none⟩ = some (.int .i64 (un : Int)) ∧ X.cell? ⟨a, 0, none⟩ = some (.int .i64 pc2) ∧ X.cell? ⟨a, 1, none⟩ = some ut ∧ X.cell? ⟨a, 2, none⟩ = some vt ∧ X.cell? ⟨y, 0, none⟩ = some (.int .i64 kd) ∧ X.cell? ⟨y, 1, none⟩ = some (.int .i64 tr) ∧ X.cell? ⟨y, 2, none⟩ = some (.int .i64 (un : Int)) ∧ X.cell? ⟨q, 0, none⟩ = some vb ∧ X.cell? ⟨n, 0, none⟩ = some ub ∧ X.cell? ⟨w2.heap.size, 0, none⟩ = some (.int .i64 s.pc) ∧ X.cell? ⟨w2.heap.size, 1, none⟩ = some (.slice oa1 L1 od1) ∧ X.cell? ⟨w2.heap.size, 2, none⟩ = some (.slice oa2 L2 od2) ∧ X.cell? ⟨w.heap.size, 1, none⟩ = some (.int .i64 s.pc) ∧ X.cell? ⟨w.heap.size, 2, none⟩ = some vs ∧ X.cell? ⟨w.heap.size, 3, none⟩ = some vk ∧ (convert 37 9 vb).run Tryd.prog X = .ok (.string (strOf b2)) X ∧ (convert 37 9 ub).run Tryd.prog X = .ok (.string (strOf b2)) X)) => sameS_any _ _ ⟨pc2, st2, ca2⟩ ⟨pc2, st2, ca2⟩ _ _ _ _ X ⟨rfl, (HOS.out.below hs.1).sees, (HOK.out.below hs.1).sees, HLN.out.1, HLN.out.2⟩ ⟨rfl, HD.out.ust.below hs.1, HD.out.uca.below hs.1, HLN.out.1, HLN.out.2⟩)
      rw [eqS_self] at HMR
      have HMO := hid (fun X (hs : Below W5.heap.size W5 X) (hW : Below W.heap.size W X) => sameS_any _ _ s s _ _ _ _ X ⟨rfl, HA.out.ost.below hs, HA.out.oca.below hs, HSW.out.sl, HSW.out.cl⟩ (HSW.out.below hW))
      rw [eqS_self] at HMO
      have HM2 := hid (fun X (hs : (Below X6.heap.size X6 X ∧ X.cell? ⟨w5.heap.size, 0, none⟩ = some (.int .i64 pc2) ∧ X.cell? ⟨w5.heap.size, 1, none⟩ = some (.slice ua1 L3 L3) ∧ X.cell? ⟨w5.heap.size, 2, none⟩ = some (.slice ua2 L4 L4) ∧ X.cell? ⟨w5.heap.size + 1, 0, none⟩ = some (.int .i64 kd) ∧ X.cell? ⟨w5.heap.size + 1, 1, none⟩ = some (.int .i64 tr) ∧ X.cell? ⟨w5.heap.size + 1, 2, none⟩ = some (.int .i64 (un : Int)) ∧ X.cell? ⟨a, 0, none⟩ = some (.int .i64 pc2) ∧ X.cell? ⟨a, 1, none⟩ = some ut ∧ X.cell? ⟨a, 2, none⟩ = some vt ∧ X.cell? ⟨y, 0, none⟩ = some (.int .i64 kd) ∧ X.cell? ⟨y, 1, none⟩ = some (.int .i64 tr) ∧ X.cell? ⟨y, 2, none⟩ = some (.int .i64 (un : Int)) ∧ X.cell? ⟨q, 0, none⟩ = some vb ∧ X.cell? ⟨n, 0, none⟩ = some ub ∧ X.cell? ⟨w2.heap.size, 0, none⟩ = some (.int .i64 s.pc) ∧ X.cell? ⟨w2.heap.size, 1, none⟩ = some (.slice oa1 L1 od1) ∧ X.cell? ⟨w2.heap.size, 2, none⟩ = some (.slice oa2 L2 od2) ∧ X.cell? ⟨w.heap.size, 1, none⟩ = some (.int .i64 s.pc) ∧ X.cell? ⟨w.heap.size, 2, none⟩ = some vs ∧ X.cell? ⟨w.heap.size, 3, none⟩ = some vk ∧ (convert 37 9 vb).run Tryd.prog X = .ok (.string (strOf b2)) X ∧ (convert 37 9 ub).run Tryd.prog X = .ok (.string (strOf b2)) X)) => HMO.out X (HD.out.bel.trans (hs.1.mono sD)) (hB5.out.trans (hs.1.mono hB5.out.size)))
      have hG := guardSt
      have hEQ := fun w => eqlSt kd tr (un : Int) kd tr (un : Int) w
      have u2 : (kd == kd) = true := by simp
      have u3 : (tr == tr) = true := by simp
      have u4 : ((un : Int) == (un : Int)) = true := by simp
      rw [u2, u3, u4] at hEQ
      simp only [Bool.and_self] at hEQ
      have u5 : (E == E) = true := by simp
      have k0 := HSX.out X6.drew (Below.drew (Below.refl _ _))
      clear hfl HDC
      go_upto_region 7 with fail
      go_cut [14] (fun x14 wx => x14 = .bool true ∧ Hid (Below X6.heap.size X6 wx))
      case first =>
        go_region_held3 (fun X => (Below X6.heap.size X6 X ∧ X.cell? ⟨w5.heap.size, 0, none⟩ = some (.int .i64 pc2) ∧ X.cell? ⟨w5.heap.size, 1, none⟩ = some (.slice ua1 L3 L3) ∧ X.cell? ⟨w5.heap.size, 2, none⟩ = some (.slice ua2 L4 L4) ∧ X.cell? ⟨w5.heap.size + 1, 0, none⟩ = some (.int .i64 kd) ∧ X.cell? ⟨w5.heap.size + 1, 1, none⟩ = some (.int .i64 tr) ∧ X.cell? ⟨w5.heap.size + 1, 2, none⟩ = some (.int .i64 (un : Int)) ∧ X.cell? ⟨a, 0, none⟩ = some (.int .i64 pc2) ∧ X.cell? ⟨a, 1, none⟩ = some ut ∧ X.cell? ⟨a, 2, none⟩ = some vt ∧ X.cell? ⟨y, 0, none⟩ = some (.int .i64 kd) ∧ X.cell? ⟨y, 1, none⟩ = some (.int .i64 tr) ∧ X.cell? ⟨y, 2, none⟩ = some (.int .i64 (un : Int)) ∧ X.cell? ⟨q, 0, none⟩ = some vb ∧ X.cell? ⟨n, 0, none⟩ = some ub ∧ X.cell? ⟨w2.heap.size, 0, none⟩ = some (.int .i64 s.pc) ∧ X.cell? ⟨w2.heap.size, 1, none⟩ = some (.slice oa1 L1 od1) ∧ X.cell? ⟨w2.heap.size, 2, none⟩ = some (.slice oa2 L2 od2) ∧ X.cell? ⟨w.heap.size, 1, none⟩ = some (.int .i64 s.pc) ∧ X.cell? ⟨w.heap.size, 2, none⟩ = some vs ∧ X.cell? ⟨w.heap.size, 3, none⟩ = some vk ∧ (convert 37 9 vb).run Tryd.prog X = .ok (.string (strOf b2)) X ∧ (convert 37 9 ub).run Tryd.prog X = .ok (.string (strOf b2)) X))
          (first | (with_reducible exact k0) | (exact HKB.out _ _ (by assumption) (by assumption)))
          (first
            | (go_at_call 15
               with_reducible refine (HMR.out _ (by assumption)).mono ?_
               rintro e w6 ⟨rfl, b6⟩)
            | (go_at_call 15
               with_reducible refine (HM2.out _ (by assumption)).mono ?_
               rintro e w7 ⟨rfl, b7⟩))
        all_goals
          have HBF := hid (HS1.out _ (by assumption))
          clear HMR HM2 HMO HKB HSX
          go_wp2
          go_meet
          case rel => exact ⟨rfl, HBF⟩
      case rest =>
        obtain ⟨h14, HBX⟩ := hcut
        subst h14
        have hs7 := HBX.out.size
        have hB7 := hid (hB5.out.trans (HBX.out.mono hB5.out.size))
        have hB57 := hid (HD.out.bel.trans (HBX.out.mono sD))
        have hL3b : L3 ≤ 140737488355328 := by have h1 := HLN.out.1; have h2 := HL3.out; omega
        have HSP := hid (SpW.start (HOS.out.below HBX.out))
        have hown := hid (fun j hj => (HOS.out.lt j hj).1)
        have ta := hid ((hB57.out.block w5.heap.size HA.out.la).trans HA.out.aft)
        have tow := hid ((hB57.out.block w2.heap.size lo).trans HA.out.own)
        have tz := hid (HA.out.work.below hB57.out)
        clear HMR HM2 HMO HKB HSX HS1 k0 hG hEQ u2 u3 u4 u5
        go_wp2
        go_loopw [15] (fun i wr => ∃ k : Nat, k ≤ L3 ∧ i = .int .i64 (k : Int) ∧ Hid (SpW wc wr (.slice ua1 L3 L3) L3)) (fun i _ => L3 - (intOf i).toNat)
        case atStart => exact ⟨0, Nat.zero_le _, rfl, by rw [HL3.out]; rw [HL3.out] at HSP; exact HSP⟩
        case round =>
          obtain ⟨k, hk, rfl, HW⟩ := hrel
          have t1 := (HW.out.far w5.heap.size (fun e => (HA.out.na _ e).1 rfl)).trans ta.out
          have q1 : wr.cell? ⟨w5.heap.size, 1, none⟩ = some (.slice ua1 L3 L3) := by simp [World.cell?, t1]
          by_cases hlt : k < L3
          · obtain ⟨g, cur, hg1, hg2, hg3⟩ := HW.out.at_ (by omega) (HOS.out.below HBX.out) HL3.out
            subst hg1
            have q2 : ∃ x, wr.cell? ⟨g, k, none⟩ = some x := by
              have hkc : k < cur.size := by omega
              exact ⟨cur[k], by simp [World.cell?, hg2, hkc]⟩
            obtain ⟨x, q2⟩ := q2
            have q3 : wr.frozen? ⟨g, k, none⟩ = false := by simp [World.frozen?, hg2]
            have hlt' : (k : Int) < (L3 : Int) := by omega
            have HW2 := hid (HW.out.set (g := g) rfl k (.int .i64 (-7)))
            clear t1 hg2
            go_wp2
            go_roundw
            case rel => exact ⟨k + 1, by omega, by go_num, HW2⟩
            case measure => simp [intOf]; omega
          · have hlt' : ¬ (k : Int) < (L3 : Int) := by omega
            have hne : ∀ j, j < W4.heap.size → (Value.slice ua1 L3 L3).ownBlock ≠ some j := fun j hj e => by have := hown.out j e; omega
            have t2 := (HW.out.far w2.heap.size (hne _ HA.out.bo)).trans tow.out
            have t3 : WorkAt wr w.heap.size (.slice ca l.length ccap) s.pc vs vk m := ⟨(HW.out.far w.heap.size (hne _ HA.out.bz)).trans tz.out.blk⟩
            have hWB : Below W.heap.size W wr := hB7.out.trans (HW.out.below (fun j hj => Nat.le_trans HA.out.bB (hown.out j hj)) (by omega))
            have hsm := sameS_any _ _ s s _ _ _ _ wr ⟨rfl, sees_same (HA.out.ost.below hB57.out) (fun _ j hj => HW.out.far j (hne j (HA.out.bown j hj))), sees_same (HA.out.oca.below hB57.out) (fun _ j hj => HW.out.far j (hne j (HA.out.bown2 j hj))), HSW.out.sl, HSW.out.cl⟩ (HSW.out.below hWB)
            rw [eqS_self] at hsm
            have p0 : wr.cell? ⟨w2.heap.size, 0, none⟩ = some (.int .i64 s.pc) := by simp [World.cell?, t2]
            have p1 : wr.cell? ⟨w2.heap.size, 1, none⟩ = some (.slice oa1 L1 od1) := by simp [World.cell?, t2]
            have p2 : wr.cell? ⟨w2.heap.size, 2, none⟩ = some (.slice oa2 L2 od2) := by simp [World.cell?, t2]
            obtain ⟨r0, r1, r2, r3, r4⟩ := t3.cells
            have HWB := hid hWB
            have HSM := hid hsm
            clear t1 t2 t3 hne hWB hsm
            go_wp2_with fail
            refine HSM.out.mono ?_
            rintro e w8 ⟨rfl, b8⟩
            have HB8 := hid (HWB.out.trans (b8.mono HWB.out.size))
            have haw := hid (HAW.out w8 HB8.out)
            clear b8
            go_wp2_with fail
            refine haw.out.mono ?_
            rintro e w9 ⟨rfl, b9⟩
            have HB9 := hid (HB8.out.trans (b9.mono HB8.out.size))
            clear b9
            go_wp2
            go_ret
            exact ⟨rfl, HB.out.trans (HB9.out.mono HB.out.size)⟩
end Go.Proofs.YtfnojlgmbfocfaaDoor
