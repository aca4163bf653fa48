/-
  The walk of the law VmDepths.
-/
import Derived.Test.YtfnojlgmbfocfaaDoorVCounts
namespace Go.Proofs.YtfnojlgmbfocfaaDoor
open Go.RowKit
set_option linter.unusedVariables false
set_option linter.unusedSimpArgs false

set_option maxRecDepth 20000 in
set_option maxHeartbeats 8000000 in
theorem depths_walk (n : Int) (w : World) (hT : Tabs w) : Calls Tryd.prog 9 #[.int .i64 n] w fun e w' => e = .returned (.bool true) ∧ Below w.heap.size w w' := by
  have hand := and127 n
  obtain ⟨j, hj⟩ : ∃ j, j = (n % 128).toNat := ⟨_, rfl⟩
  have hjl : j < 128 := by omega
  rw [← hj] at hand
  clear hj
  obtain ⟨W, hW⟩ : ∃ W, W = w.alloc (.cells (cellsI calL).toArray 57) := ⟨_, rfl⟩
  have hb : Below w.heap.size w W := by rw [hW]; exact below_alloc w _
  have hV : SeesI W (.slice (some ⟨w.heap.size, 0, none⟩) 1 1) calL := by rw [hW]; exact seesI_new w calL 57 (by simp [calL])
  have hTW := hT.below hb
  have hf1 := filled_any ⟨#[]⟩ W (by decide)
  have HR1 := hid (fun w2 q r vb m2 q2 r2 rl2 b2 => run_fresh _ calL j W w2 q r vb hV hTW (by decide) (ref_of cal_check cal_ok (by omega)) m2 q2 r2 rl2 b2)
  have HR2 := hid (fun W3 (hb3 : Below W.heap.size W W3) w2 q r vb v (hV3 : SeesI W3 v (pshL n)) m2 q2 r2 rl2 b2 => run_fresh v (pshL n) (2 * j) W3 w2 q r vb hV3 (hTW.below hb3) (by simp [pshL]) (ref_of (psh_check n) (psh_ok n) (by omega)) m2 q2 r2 rl2 b2)
  obtain ⟨e1, e2⟩ := cal_run [] j 0 0 (by decide)
  obtain ⟨e3, e4⟩ := psh_run n [] j 0 0 (by decide)
  rw [Nat.zero_add] at e1 e2 e3 e4
  obtain ⟨⟨⟨k1, t1, u1⟩, s1, b1⟩, hRA⟩ : ∃ R, R = runL calL j 0 s0 [] := ⟨_, rfl⟩
  obtain ⟨⟨⟨k2, t2, u2⟩, s2, b2⟩, hRB⟩ : ∃ R, R = runL (pshL n) (2 * j) 0 s0 [] := ⟨_, rfl⟩
  have e1' : k1 = if j ≤ 32 then 1 else 4 := by
    have h : (runL calL j 0 s0 []).1.1 = if j ≤ 32 then 1 else 4 := e1
    rw [← hRA] at h
    exact h
  have e2' : s1.ca.length = min j 32 := by
    have h : (runL calL j 0 s0 []).2.1 = ⟨0, [], List.replicate (min j 32) 1⟩ := e2
    rw [← hRA] at h
    rw [show s1 = ⟨0, [], List.replicate (min j 32) 1⟩ from h]
    simp
  have e3' : k2 = if j ≤ 64 then 1 else 4 := by
    have h : (runL (pshL n) (2 * j) 0 s0 []).1.1 = if j ≤ 64 then 1 else 4 := e3
    rw [← hRB] at h
    exact h
  have e4' : s2.st.length = min j 64 := by
    have h : (runL (pshL n) (2 * j) 0 s0 []).2.1 = ⟨0, List.replicate (min j 64) n, []⟩ := e4
    rw [← hRB] at h
    rw [show s2 = ⟨0, List.replicate (min j 64) n, []⟩ from h]
    simp
  have HAW := hid (fun w1 (h1 : Below W.heap.size W w1) => awake_any w1 (hTW.below h1))
  unfold FreshR at HR1 HR2
  rw [← hRA] at HR1
  rw [← hRB] at HR2
  have f2 : ((2 * j : Nat) : Int) = 2 * (j : Int) := by omega
  simp only [f2] at HR2
  simp only at HR1
  have HB := hid hb
  have HK1 := hid e1'
  have HK2 := hid e3'
  have HE2 := hid e2'
  have HE4 := hid e4'
  simp only [calL, cellsI] at hW
  clear hT hb hV hTW e1 e2 e3 e4 e1' e2' e3' e4' f2 hRA hRB
  unfold FilR at hf1
  go_enter Tryd.func9, Tryd.ntmps9
  go_wp2_with fail
  rw [← hW]
  clear hW
  refine hf1.mono ?_
  rintro e w2 ⟨q, r, vb, rfl, m2, q2, r2, rl2, b2⟩
  have hr1 := HR1.out w2 q r vb m2 q2 r2 rl2 b2
  clear hf1 m2 q2 r2 rl2 b2 HR1
  go_wp2_with fail
  refine hr1.mono ?_
  rintro e w3 ⟨us, uk, rfl, o1, o2, b3⟩
  obtain ⟨a1, h1⟩ := o1.shape
  obtain ⟨a2, h2⟩ := o2.shape
  subst h1
  subst h2
  obtain ⟨L2, hL2⟩ : ∃ L, L = s1.st.length := ⟨_, rfl⟩
  have hc1 := HE2.out
  obtain ⟨C1, hC1⟩ : ∃ C, C = s1.ca.length := ⟨_, rfl⟩
  rw [← hL2, ← hC1]
  rw [← hC1] at hc1
  have HC1 := hid hc1
  clear hc1
  obtain ⟨W3, hW3⟩ : ∃ W3, W3 = ((w3.alloc (.cells #[.int .i64 s1.pc, .slice a1 L2 L2, .slice a2 C1 C1] 25)).alloc (.cells #[.int .i64 k1, .int .i64 t1, .int .i64 (u1 : Int)] 33)).alloc (.cells (cellsI (pshL n)).toArray 57) := ⟨_, rfl⟩
  have hb3 : Below w3.heap.size w3 W3 := by rw [hW3]; exact (below_alloc2 w3 _ _).alloc (by simp; omega) _
  obtain ⟨z1, z2, z3⟩ : W3.heap[w3.heap.size]? = some (.cells #[.int .i64 s1.pc, .slice a1 L2 L2, .slice a2 C1 C1] 25 (0, 0)) ∧ W3.heap[w3.heap.size + 1]? = some (.cells #[.int .i64 k1, .int .i64 t1, .int .i64 (u1 : Int)] 33 (0, 0)) ∧ W3.heap[w3.heap.size + 1 + 1]? = some (.cells (cellsI (pshL n)).toArray 57 (0, 0)) := by rw [hW3]; exact heap_new2 w3 _ _ _
  have hV3 : SeesI W3 (.slice (some ⟨w3.heap.size + 1 + 1, 0, none⟩) 2 2) (pshL n) := by
    have := seesI_new ((w3.alloc (.cells #[.int .i64 s1.pc, .slice a1 L2 L2, .slice a2 C1 C1] 25)).alloc (.cells #[.int .i64 k1, .int .i64 t1, .int .i64 (u1 : Int)] 33)) (pshL n) 57 (by simp [pshL])
    rw [hW3]
    have e : ((w3.alloc (.cells #[.int .i64 s1.pc, .slice a1 L2 L2, .slice a2 C1 C1] 25)).alloc (.cells #[.int .i64 k1, .int .i64 t1, .int .i64 (u1 : Int)] 33)).heap.size = w3.heap.size + 1 + 1 := by simp
    rw [e] at this
    exact this
  have hzl := (Array.getElem?_eq_some_iff.1 z3).1
  have HBW3 := hid (b3.trans (hb3.mono b3.size))
  have hf2 := filled_any ⟨#[]⟩ W3 (by decide)
  have HZ1 := hid z1
  have HZ2 := hid z2
  have HV3 := hid hV3
  unfold FilR at hf2
  simp only [pshL, cellsI] at hW3
  clear hr1 o1 o2 b3 hb3 z1 z2 z3 hV3 hL2 hC1 HE2
  go_wp2_with fail
  rw [← hW3]
  clear hW3
  refine hf2.mono ?_
  rintro e w4 ⟨q, r, vb, rfl, m4, q4, r4, rl4, b4⟩
  have hr2 := HR2.out W3 HBW3.out w4 q r vb _ HV3.out m4 q4 r4 rl4 b4
  clear hf2 m4 q4 r4 rl4 b4 HR2
  go_wp2_with fail
  refine hr2.mono ?_
  rintro e w5 ⟨us5, uk5, rfl, o3, o4, b5⟩
  obtain ⟨a3, h3⟩ := o3.shape
  obtain ⟨a4, h4⟩ := o4.shape
  subst h3
  subst h4
  have hc2 := HE4.out
  obtain ⟨L4, hL4⟩ : ∃ L, L = s2.st.length := ⟨_, rfl⟩
  obtain ⟨C4, hC4⟩ : ∃ C, C = s2.ca.length := ⟨_, rfl⟩
  rw [← hL4, ← hC4]
  rw [← hL4] at hc2
  have x1 : w5.heap[w3.heap.size]? = some (.cells #[.int .i64 s1.pc, .slice a1 L2 L2, .slice a2 C1 C1] 25 (0, 0)) := by rw [b5.block _ (by omega)]; exact HZ1.out
  have x2 : w5.heap[w3.heap.size + 1]? = some (.cells #[.int .i64 k1, .int .i64 t1, .int .i64 (u1 : Int)] 33 (0, 0)) := by rw [b5.block _ (by omega)]; exact HZ2.out
  have hl5 := (Array.getElem?_eq_some_iff.1 x2).1
  have hl6 : w3.heap.size < w5.heap.size := by omega
  have c0 : w5.cell? ⟨w3.heap.size + 1, 0, none⟩ = some (.int .i64 k1) := by simp [World.cell?, x2]
  have c3 : w5.cell? ⟨w3.heap.size, 2, none⟩ = some (.slice a2 C1 C1) := by simp [World.cell?, x1]
  have HB5 := hid ((HBW3.out.trans (b5.mono HBW3.out.size)))
  have HBA : Hid (Below W.heap.size W ((w5.alloc (.cells #[.int .i64 s2.pc, .slice a3 L4 L4, .slice a4 C4 C4] 25)).alloc (.cells #[.int .i64 k2, .int .i64 t2, .int .i64 (u2 : Int)] 33))) := HB5.out.trans ((below_alloc2 w5 _ _).mono HB5.out.size)
  have haw := HAW.out _ HBA.out
  have HC2 := hid hc2
  clear hr2 o3 o4 b5 x1 x2 hL4 hC4 HE4 hc2
  by_cases h32 : j ≤ 32
  · obtain rfl : k1 = 1 := by rw [HK1.out]; simp; omega
    obtain rfl : k2 = 1 := by rw [HK2.out]; simp; omega
    have eC1 : j = C1 := by have := HC1.out; omega
    subst eC1
    have eL4 : j = L4 := by have := HC2.out; omega
    subst eL4
    have v1 : (j : Int) ≤ 32 := by omega
    have v2 : (j : Int) ≤ 64 := by omega
    have v3 : ¬ (32 : Int) < (j : Int) := by omega
    have v4 : ¬ (64 : Int) < (j : Int) := by omega
    go_wp2_with fail
    refine haw.mono ?_
    rintro e w7 ⟨rfl, b7⟩
    have HB7 := hid (HB.out.trans ((HBA.out.trans (b7.mono HBA.out.size)).mono HB.out.size))
    clear haw b7
    go_wp2
    go_ret
    exact ⟨by first | rfl | (simp; done) | (simp; omega), HB7.out⟩
  · by_cases h64 : j ≤ 64
    · obtain rfl : k1 = 4 := by rw [HK1.out]; simp; omega
      obtain rfl : k2 = 1 := by rw [HK2.out]; simp; omega
      have eC1 : 32 = C1 := by have := HC1.out; omega
      subst eC1
      have eL4 : j = L4 := by have := HC2.out; omega
      subst eL4
      have v1 : ¬ (j : Int) ≤ 32 := by omega
      have v2 : (j : Int) ≤ 64 := by omega
      have v3 : (32 : Int) < (j : Int) := by omega
      have v4 : ¬ (64 : Int) < (j : Int) := by omega
      go_wp2_with fail
      refine haw.mono ?_
      rintro e w7 ⟨rfl, b7⟩
      have HB7 := hid (HB.out.trans ((HBA.out.trans (b7.mono HBA.out.size)).mono HB.out.size))
      clear haw b7
      go_wp2
      go_ret
      exact ⟨by first | rfl | (simp; done) | (simp; omega), HB7.out⟩
    · obtain rfl : k1 = 4 := by rw [HK1.out]; simp; omega
      obtain rfl : k2 = 4 := by rw [HK2.out]; simp; omega
      have eC1 : 32 = C1 := by have := HC1.out; omega
      subst eC1
      have eL4 : 64 = L4 := by have := HC2.out; omega
      subst eL4
      have v1 : ¬ (j : Int) ≤ 32 := by omega
      have v2 : ¬ (j : Int) ≤ 64 := by omega
      have v3 : (32 : Int) < (j : Int) := by omega
      have v4 : (64 : Int) < (j : Int) := by omega
      go_wp2_with fail
      refine haw.mono ?_
      rintro e w7 ⟨rfl, b7⟩
      have HB7 := hid (HB.out.trans ((HBA.out.trans (b7.mono HBA.out.size)).mono HB.out.size))
      clear haw b7
      go_wp2
      go_ret
      exact ⟨by first | rfl | (simp; done) | (simp; omega), HB7.out⟩
end Go.Proofs.YtfnojlgmbfocfaaDoor
