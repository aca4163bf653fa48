/-
  The walk of the law VmCounts.
-/
import Derived.Test.YtfnojlgmbfocfaaDoorVAwake
import Derived.Test.YtfnojlgmbfocfaaDoorVLawM
namespace Go.Proofs.YtfnojlgmbfocfaaDoor
open Go.RowKit
set_option linter.unusedVariables false
set_option linter.unusedSimpArgs false

theorem and511 (n : Int) : bits .and .i64 n 511 = (((n % 512).toNat : Nat) : Int) := by
  show IntKind.i64.wrap ((BitVec.ofInt 64 n &&& BitVec.ofInt 64 511).toNat : Int) = _
  have e : ((511 : Int) % 2 ^ 64).toNat = 511 := by decide
  have e2 : ∀ m : Nat, m &&& 511 = m % 512 := fun m => Nat.and_two_pow_sub_one_eq_mod m 9
  rw [BitVec.toNat_and, ofInt_nat, ofInt_nat, e, e2, wrap_i64_nat _ (by omega)]
  omega
theorem and127 (n : Int) : bits .and .i64 n 127 = (((n % 128).toNat : Nat) : Int) := by
  show IntKind.i64.wrap ((BitVec.ofInt 64 n &&& BitVec.ofInt 64 127).toNat : Int) = _
  have e : ((127 : Int) % 2 ^ 64).toNat = 127 := by decide
  have e2 : ∀ m : Nat, m &&& 127 = m % 128 := fun m => Nat.and_two_pow_sub_one_eq_mod m 7
  rw [BitVec.toNat_and, ofInt_nat, ofInt_nat, e, e2, wrap_i64_nat _ (by omega)]
  omega
theorem ref_of {l : List InsL} (hc : (checkL l).1 = 0) (hs : okS l.length s0 = true) {f : Nat} (hf : f ≤ 1048576) : refL l s0 true (f : Int) = 0 := by
  unfold refL
  rw [if_pos hc, if_pos ⟨hs, rfl, by omega, by omega⟩]
theorem cnt_check (k : Int) : (checkL (cntL k)).1 = 0 := rfl
theorem cnt_ok (k : Int) : okS (cntL k).length s0 = true := rfl
theorem cal_check : (checkL calL).1 = 0 := rfl
theorem cal_ok : okS calL.length s0 = true := rfl
theorem psh_check (n : Int) : (checkL (pshL n)).1 = 0 := rfl
theorem psh_ok (n : Int) : okS (pshL n).length s0 = true := rfl

/-- A run of a code that may be, of no state, over no memory. -/
def FreshR (w : World) (R : (Int × Int × Nat) × StL × List Nat) (e : Ending) (w' : World) : Prop :=
  ∃ us uk, e = .returned (.tuple #[.agg #[.int .i64 R.2.1.pc, us, uk], .agg #[.int .i64 R.1.1, .int .i64 R.1.2.1, .int .i64 (R.1.2.2 : Nat)], .int .i64 0]) ∧ OwnC w' w.heap.size us R.2.1.st ∧ OwnC w' w.heap.size uk R.2.1.ca ∧ Below w.heap.size w w'
/-- The run behind 'filled' of nothing. -/
theorem run_fresh (v : Value) (l : List InsL) (fuel : Nat) (w w2 : World) (q r : Nat) (vb : Value) (hV : SeesI w v l) (hT : Tabs w) (hlen : l.length ≤ 140737488355328) (hE : refL l s0 true (fuel : Int) = 0)
    (m2 : MemAt w2 q r (bytesOf ⟨#[]⟩) 0 0 vb) (q2 : w.heap.size ≤ q) (r2 : w.heap.size ≤ r) (rl2 : r < w2.heap.size) (b2 : Below w.heap.size w w2) :
    Calls Tryd.prog 13 #[v, .agg #[.int .i64 0, .slice none 0 0, .slice none 0 0], .iface 29 (.pointer (some ⟨q, 0, none⟩)), .int .i64 (fuel : Int)] w2 (FreshR w (runL l fuel 0 s0 [])) := by
  have h2 : 2 ≤ w.heap.size := by
    have := hT.lt.2
    have e : 1 = 1 := rfl
    omega
  have hs := b2.size
  refine (run_good v l _ s0 _ _ vb fuel q r _ 0 0 w2 (hV.below b2) (hT.below b2) (sees0 w2) hlen hE m2 rl2 (by omega) (by omega) (by decide) (by decide)).mono ?_
  rintro e w3 ⟨us, uk, rfl, o1, o2, od, ld', st', m3, a3, kp3⟩
  exact ⟨us, uk, rfl, o1.le hs, o2.le hs, b2.trans (kp3.below hs (by omega) (by omega))⟩

set_option maxRecDepth 20000 in
set_option maxHeartbeats 8000000 in
theorem counts_walk (n : Int) (w : World) (hT : Tabs w) : Calls Tryd.prog 8 #[.int .i64 n] w fun e w' => e = .returned (.bool true) ∧ Below w.heap.size w w' := by
  have hand := and511 n
  obtain ⟨j, hj⟩ : ∃ j, j = (n % 512).toNat := ⟨_, rfl⟩
  have hjl : j < 512 := by omega
  rw [← hj] at hand
  clear hj
  obtain ⟨W, hW⟩ : ∃ W, W = w.alloc (.cells (cellsI (cntL ((j : Int) + 1))).toArray 57) := ⟨_, rfl⟩
  have hb : Below w.heap.size w W := by rw [hW]; exact below_alloc w _
  have hV : SeesI W (.slice (some ⟨w.heap.size, 0, none⟩) 6 6) (cntL ((j : Int) + 1)) := by rw [hW]; exact seesI_new w (cntL ((j : Int) + 1)) 57 (by simp [cntL])
  have hTW := hT.below hb
  have hf1 := filled_any ⟨#[]⟩ W (by decide)
  have HR1 := hid (fun w2 q r vb m2 q2 r2 rl2 b2 => run_fresh _ (cntL ((j : Int) + 1)) (1 + 4 * (j + 1) + 1) W w2 q r vb hV hTW (by simp [cntL]) (ref_of (cnt_check _) (cnt_ok _) (by omega)) m2 q2 r2 rl2 b2)
  have HR2 := hid (fun W3 (hb3 : Below W.heap.size W W3) w2 q r vb m2 q2 r2 rl2 b2 => run_fresh _ (cntL ((j : Int) + 1)) (1 + 4 * (j + 1)) W3 w2 q r vb (hV.below hb3) (hTW.below hb3) (by simp [cntL]) (ref_of (cnt_check _) (cnt_ok _) (by omega)) m2 q2 r2 rl2 b2)
  have e1 : runL (cntL ((j : Int) + 1)) (1 + 4 * (j + 1) + 1) 0 s0 [] = ((3, 0, 1 + 4 * (j + 1) + 1), ⟨5, [0], []⟩, []) := cnt_need j (by omega) []
  have e2 : runL (cntL ((j : Int) + 1)) (1 + 4 * (j + 1)) 0 s0 [] = ((1, 0, 1 + 4 * (j + 1)), ⟨5, [0], []⟩, []) := cnt_less j (by omega) []
  obtain ⟨N, hN⟩ : ∃ N : Int, 1 + 4 * ((j : Int) + 1) + 1 = N := ⟨_, rfl⟩
  obtain ⟨M, hM⟩ : ∃ M : Int, N - 1 = M := ⟨_, rfl⟩
  have f1 : ((1 + 4 * (j + 1) + 1 : Nat) : Int) = N := by omega
  have f2 : ((1 + 4 * (j + 1) : Nat) : Int) = M := by omega
  have HAW := hid (fun w1 (h1 : Below W.heap.size W w1) => awake_any w1 (hTW.below h1))
  unfold FreshR at HR1 HR2
  rw [e1] at HR1
  rw [e2] at HR2
  simp only [f1] at HR1
  simp only [f2] at HR2
  have HB := hid hb
  have hG := guardSt
  have hEQ := eqlSt
  have hjj : 1 + (j : Int) = (j : Int) + 1 := by omega
  have hN0 : 0 ≤ N := by omega
  have hN1 : N ≤ 4000 := by omega
  simp only [cntL, cellsI] at hW
  clear hT hb hV hTW e1 e2 f1 f2
  unfold FilR at hf1
  go_enter Tryd.func8, Tryd.ntmps8
  go_wp2_with fail
  rw [← hW]
  clear hW
  refine hf1.mono ?_
  rintro e w2 ⟨q, r, vb, rfl, m2, q2, r2, rl2, b2⟩
  have hr1 := HR1.out w2 q r vb m2 q2 r2 rl2 b2
  clear hf1 m2 q2 r2 rl2 b2 HR1
  go_wp2_with fail
  refine hr1.mono ?_
  rintro e w3 ⟨us, uk, rfl, o1, o2, b3⟩
  obtain ⟨a1, h1⟩ := o1.shape
  obtain ⟨a2, h2⟩ := o2.shape
  have hS3 := o1.sees
  subst h1
  subst h2
  obtain ⟨W3, hW3⟩ : ∃ W3, W3 = (w3.alloc (.cells #[.int .i64 5, .slice a1 1 1, .slice a2 0 0] 25)).alloc (.cells #[.int .i64 3, .int .i64 0, .int .i64 N] 33) := ⟨_, rfl⟩
  have hb3 : Below w3.heap.size w3 W3 := by rw [hW3]; exact below_alloc2 w3 _ _
  have z1 : W3.heap[w3.heap.size]? = some (.cells #[.int .i64 5, .slice a1 1 1, .slice a2 0 0] 25 (0, 0)) := by rw [hW3, Below.heap_alloc _ _ _ (by simp)]; exact heap_alloc_new w3 _
  have z2 : W3.heap[w3.heap.size + 1]? = some (.cells #[.int .i64 3, .int .i64 0, .int .i64 N] 33 (0, 0)) := by
    rw [hW3]
    have := heap_alloc_new (w3.alloc (.cells #[.int .i64 5, .slice a1 1 1, .slice a2 0 0] 25)) (.cells #[.int .i64 3, .int .i64 0, .int .i64 N] 33)
    simpa using this
  have hzl := (Array.getElem?_eq_some_iff.1 z2).1
  have HBW3 := hid (b3.trans (hb3.mono b3.size))
  have HS3 : Hid (Sees W3 (.slice a1 1 1) [0]) := hS3.below hb3
  have hf2 := filled_any ⟨#[]⟩ W3 (by decide)
  have HZ1 := hid z1
  have HZ2 := hid z2
  unfold FilR at hf2
  clear hr1 o1 o2 b3 hS3 hb3 z1 z2
  go_wp2_with fail
  rw [← hW3]
  clear hW3
  refine hf2.mono ?_
  rintro e w4 ⟨q, r, vb, rfl, m4, q4, r4, rl4, b4⟩
  have hr2 := HR2.out W3 HBW3.out w4 q r vb m4 q4 r4 rl4 b4
  clear hf2 m4 q4 r4 rl4 b4 HR2
  go_wp2_with fail
  refine hr2.mono ?_
  rintro e w5 ⟨us5, uk5, rfl, o3, o4, b5⟩
  obtain ⟨a3, h3⟩ := o3.shape
  obtain ⟨a4, h4⟩ := o4.shape
  subst h3
  subst h4
  obtain ⟨W5, hW5⟩ : ∃ W5, W5 = ((w5.alloc (.cells #[.int .i64 5, .slice a3 1 1, .slice a4 0 0] 25)).alloc (.cells #[.int .i64 1, .int .i64 0, .int .i64 M] 33)).alloc (.cells #[.int .i64 0] 3) := ⟨_, rfl⟩
  obtain ⟨y1, y2, y3⟩ : W5.heap[w5.heap.size]? = some (.cells #[.int .i64 5, .slice a3 1 1, .slice a4 0 0] 25 (0, 0)) ∧ W5.heap[w5.heap.size + 1]? = some (.cells #[.int .i64 1, .int .i64 0, .int .i64 M] 33 (0, 0)) ∧ W5.heap[w5.heap.size + 1 + 1]? = some (.cells #[.int .i64 0] 3 (0, 0)) := by rw [hW5]; exact heap_new2 w5 _ _ _
  have hb5 : Below w5.heap.size w5 W5 := by rw [hW5]; exact (below_alloc2 w5 _ _).alloc (by simp; omega) _
  have hBW5 : Below W3.heap.size W3 W5 := b5.trans (hb5.mono b5.size)
  have x1 : w5.heap[w3.heap.size]? = some (.cells #[.int .i64 5, .slice a1 1 1, .slice a2 0 0] 25 (0, 0)) := by rw [b5.block _ (by omega)]; exact HZ1.out
  have x2 : w5.heap[w3.heap.size + 1]? = some (.cells #[.int .i64 3, .int .i64 0, .int .i64 N] 33 (0, 0)) := by rw [b5.block _ hzl]; exact HZ2.out
  have hl5 := (Array.getElem?_eq_some_iff.1 x2).1
  have hl6 : w3.heap.size < w5.heap.size := by omega
  have c0 : w5.cell? ⟨w3.heap.size + 1, 0, none⟩ = some (.int .i64 3) := by simp [World.cell?, x2]
  have c1 : w5.cell? ⟨w3.heap.size + 1, 1, none⟩ = some (.int .i64 0) := by simp [World.cell?, x2]
  have c2 : w5.cell? ⟨w3.heap.size + 1, 2, none⟩ = some (.int .i64 N) := by simp [World.cell?, x2]
  have c3 : w5.cell? ⟨w3.heap.size, 1, none⟩ = some (.slice a1 1 1) := by simp [World.cell?, x1]
  have hS5 : Sees W5 (.slice (some ⟨w5.heap.size + 1 + 1, 0, none⟩) 1 1) [0] := by
    have := sees_one ((w5.alloc (.cells #[.int .i64 5, .slice a3 1 1, .slice a4 0 0] 25)).alloc (.cells #[.int .i64 1, .int .i64 0, .int .i64 M] 33)) 0
    rw [hW5]
    simpa using this
  have hsa := same_any (.slice a1 1 1) _ [0] [0] W5 (HS3.out.below hBW5) hS5 (by decide) (by decide)
  have HBW5 := hid (HBW3.out.trans (hBW5.mono HBW3.out.size))
  clear hr2 o3 o4 b5 hb5 hBW5 x1 x2 y1 y2 y3 hS5
  go_wp2_with fail
  rw [← hW5]
  clear hW5
  refine hsa.mono ?_
  rintro e w6 ⟨rfl, b6⟩
  have hB6 := HBW5.out.trans (b6.mono HBW5.out.size)
  have haw := HAW.out w6 hB6
  have HB6 := hid hB6
  clear hsa b6 hB6 c0 c1 c2 c3
  simp only [decide_true]
  go_wp2_with fail
  refine haw.mono ?_
  rintro e w7 ⟨rfl, b7⟩
  have HB7 := hid (HB.out.trans ((HB6.out.trans (b7.mono HB6.out.size)).mono HB.out.size))
  clear haw b7
  go_wp2
  go_ret
  exact ⟨by first | rfl | simp, HB7.out⟩
end Go.Proofs.YtfnojlgmbfocfaaDoor
