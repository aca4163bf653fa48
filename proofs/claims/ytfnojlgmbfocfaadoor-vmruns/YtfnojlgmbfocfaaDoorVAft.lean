/-
  What lies where behind the code's run, and behind the document's.
-/
import Derived.Test.YtfnojlgmbfocfaaDoorVLawA
namespace Go.Proofs.YtfnojlgmbfocfaaDoor
open Go.RowKit
set_option linter.unusedVariables false
set_option linter.unusedSimpArgs false

/-- Behind the code's run. z: what was handed on; o: the state that was handed to the machine; a, x: what came out. -/
structure AftC (w0 W : World) (z : Nat) (c : Value) (s : StL) (vs vk : Value) (m : ByteArray) (o : Nat) (ou ok : Value) (q r : Nat) (vb : Value) (a x : Nat) (us uk : Value) (R : (Int × Int × Nat) × StL × List Nat) (B : Nat) : Prop where
  work : WorkAt W z c s.pc vs vk m
  own : W.heap[o]? = some (.cells #[.int .i64 s.pc, ou, ok] 25 (0, 0))
  ost : Sees W ou s.st
  oca : Sees W ok s.ca
  mem : ∃ ld st, MemAt W q r R.2.2 ld st vb
  aft : W.heap[a]? = some (.cells #[.int .i64 R.2.1.pc, us, uk] 25 (0, 0))
  stop : W.heap[x]? = some (.cells #[.int .i64 R.1.1, .int .i64 R.1.2.1, .int .i64 (R.1.2.2 : Nat)] 33 (0, 0))
  ust : OwnC W B us R.2.1.st
  uca : OwnC W B uk R.2.1.ca
  bel : Below w0.heap.size w0 W
  bz : z < B
  bo : o < B
  bB : w0.heap.size ≤ B
  ba : B ≤ a
  bx : B ≤ x
  bq : q < B
  lx : x < W.heap.size
  la : a < W.heap.size
  bown : ∀ j, ou.ownBlock = some j → j < B
  bown2 : ∀ j, ok.ownBlock = some j → j < B
  na : ∀ j, us.ownBlock = some j → j ≠ a ∧ j ≠ x
theorem aftC_of {W w1 w2 W4 w5 W5 : World} {z : Nat} {c : Value} {s : StL} {vs vk : Value} {m : ByteArray} {ou ok : Value} {q r : Nat} {vb us uk : Value} {R : (Int × Int × Nat) × StL × List Nat} {ld st : Nat}
    (hz : WorkAt W z c s.pc vs vk m) (b1 : Below W.heap.size W w1) (hq : W.heap.size ≤ q) (hr : W.heap.size ≤ r) (hq1 : q < w1.heap.size) (hr1 : r < w1.heap.size)
    (o1 : Owns w2 w1.heap.size ou s.st) (o2 : Owns w2 w1.heap.size ok s.ca) (b2 : Below w1.heap.size w1 w2) (hW4 : W4 = w2.alloc (.cells #[.int .i64 s.pc, ou, ok] 25))
    (c1 : OwnC w5 W4.heap.size us R.2.1.st) (c2 : OwnC w5 W4.heap.size uk R.2.1.ca) (hm : MemAt w5 q r R.2.2 ld st vb) (hk : Kp W4.heap.size q r W4 w5)
    (hW5 : W5 = (w5.alloc (.cells #[.int .i64 R.2.1.pc, us, uk] 25)).alloc (.cells #[.int .i64 R.1.1, .int .i64 R.1.2.1, .int .i64 (R.1.2.2 : Nat)] 33)) :
    AftC W W5 z c s vs vk m w2.heap.size ou ok q r vb w5.heap.size (w5.heap.size + 1) us uk R W4.heap.size := by
  have s1 := b1.size
  have s2 := b2.size
  have s4 : W4.heap.size = w2.heap.size + 1 := by rw [hW4]; simp
  have sk := hk.size
  have b4 : Below w2.heap.size w2 W4 := by rw [hW4]; exact below_alloc w2 _
  have b5 : Below w5.heap.size w5 W5 := by rw [hW5]; exact below_alloc2 w5 _ _
  have s5 : W5.heap.size = w5.heap.size + 1 + 1 := by rw [hW5]; simp
  have lz := hz.lt
  have keep : ∀ k, k < W4.heap.size → k ≠ q → k ≠ r → W5.heap[k]? = W4.heap[k]? := fun k h1 h2 h3 => (b5.block k (by omega)).trans (hk.block k h1 h2 h3)
  have p1 := o1.below b4
  have p2 := o2.below b4
  have same : ∀ {v : Value} {xs : List Int}, Owns W4 w1.heap.size v xs → Owns W5 w1.heap.size v xs := fun {v xs} h => ownsRow_same h (fun j hj => keep j (h.lt j hj).2 (by have := (h.lt j hj).1; omega) (by have := (h.lt j hj).1; omega))
  refine ⟨⟨by rw [keep z (by omega) (by omega) (by omega)]; exact (((hz.below b1).below b2).below b4).blk⟩, ?_, (same p1).sees, (same p2).sees, ⟨ld, st, hm.below b5⟩, ?_, ?_, c1.below b5, c2.below b5, ?_, by omega, by omega, by omega, by omega, by omega, by omega, by omega, by omega, fun j hj => (p1.lt j hj).2, fun j hj => (p2.lt j hj).2, fun j hj => by have := (c1.lt j hj).2; omega⟩
  · rw [keep w2.heap.size (by omega) (by omega) (by omega), hW4]
    exact heap_alloc_new w2 _
  · rw [hW5, Below.heap_alloc _ _ _ (by simp)]
    exact heap_alloc_new w5 _
  · rw [hW5]
    have := heap_alloc_new (w5.alloc (.cells #[.int .i64 R.2.1.pc, us, uk] 25)) (.cells #[.int .i64 R.1.1, .int .i64 R.1.2.1, .int .i64 (R.1.2.2 : Nat)] 33)
    simpa using this
  · exact (((b1.trans (b2.mono s1)).trans (b4.mono (by omega))).trans (hk.below (by omega) hq hr)).trans (b5.mono (by omega))

/-- Behind the document's run: a: the state; n: the memory; x: why it stopped. -/
structure AftD (W X : World) (a n x : Nat) (us uk ub : Value) (R : (Int × Int × Nat) × StL × List Nat) : Prop where
  bel : Below W.heap.size W X
  aft : X.heap[a]? = some (.cells #[.int .i64 R.2.1.pc, us, uk] 25 (0, 0))
  mem : X.heap[n]? = some (.cells #[ub] 39 (0, 0))
  stop : X.heap[x]? = some (.cells #[.int .i64 R.1.1, .int .i64 R.1.2.1, .int .i64 (R.1.2.2 : Nat)] 33 (0, 0))
  ust : Sees X us R.2.1.st
  uca : Sees X uk R.2.1.ca
  uby : SeesN .u8 X ub R.2.2
  ga : W.heap.size ≤ a
  gn : W.heap.size ≤ n
  gx : W.heap.size ≤ x
/-- The stores of what came out. -/
def set7 (w : World) (a n x : Nat) (c1 c2 c3 d e1 e2 e3 : Value) : World := ((((((w.setCell ⟨a, 0, none⟩ c1).setCell ⟨a, 1, none⟩ c2).setCell ⟨a, 2, none⟩ c3).setCell ⟨n, 0, none⟩ d).setCell ⟨x, 0, none⟩ e1).setCell ⟨x, 1, none⟩ e2).setCell ⟨x, 2, none⟩ e3
theorem set7_far {w : World} {a n x j : Nat} (c1 c2 c3 d e1 e2 e3 : Value) (h1 : j ≠ a) (h2 : j ≠ n) (h3 : j ≠ x) : (set7 w a n x c1 c2 c3 d e1 e2 e3).heap[j]? = w.heap[j]? := by
  unfold set7
  rw [far_set (by omega), far_set (by omega), far_set (by omega), far_set (by omega), far_set (by omega), far_set (by omega), far_set (by omega)]
theorem sees_same {X Y : World} {v : Value} {xs : List Int} (h : Sees X v xs) (hb : xs ≠ [] → ∀ j, v.ownBlock = some j → Y.heap[j]? = X.heap[j]?) : Sees Y v xs := by
  obtain ⟨b, off, ao, cap, hv, hc, hn, ha, hcell⟩ := h
  refine ⟨b, off, ao, cap, hv, hc, hn, ha, fun j hj => ?_⟩
  have hne : xs ≠ [] := by intro e; rw [e] at hj; simp at hj
  have e := hb hne b (by rw [hv, ha hne]; rfl)
  rw [← hcell j hj]
  simp only [World.cell?, e]
theorem seesN_same {q : IntKind} {X Y : World} {v : Value} {xs : List Nat} (h : SeesN q X v xs) (hb : xs ≠ [] → ∀ j, v.ownBlock = some j → Y.heap[j]? = X.heap[j]?) : SeesN q Y v xs := by
  obtain ⟨b, off, ao, cap, hv, hc, hn, ha, hcell⟩ := h
  refine ⟨b, off, ao, cap, hv, hc, hn, ha, fun j hj => ?_⟩
  have hne : xs ≠ [] := by intro e; rw [e] at hj; simp at hj
  have e := hb hne b (by rw [hv, ha hne]; rfl)
  rw [← hcell j hj]
  simp only [World.cell?, e]
theorem aftD_of {W V : World} {a n x : Nat} {us uk ub c1 c2 c3 d1 e1 e2 e3 : Value} {R : (Int × Int × Nat) × StL × List Nat} (hb : Below W.heap.size W V)
    (ha : V.heap[a]? = some (.cells #[c1, c2, c3] 25 (0, 0))) (hn : V.heap[n]? = some (.cells #[d1] 39 (0, 0))) (hx : V.heap[x]? = some (.cells #[e1, e2, e3] 33 (0, 0)))
    (ga : W.heap.size ≤ a) (gn : W.heap.size ≤ n) (gx : W.heap.size ≤ x) (n1 : a ≠ n) (n2 : a ≠ x) (n3 : n ≠ x) (hs : Sees V us R.2.1.st) (hk : Sees V uk R.2.1.ca) (hy : SeesN .u8 V ub R.2.2)
    (f1 : R.2.1.st ≠ [] → ∀ j, us.ownBlock = some j → j < V.heap.size ∧ j ≠ a ∧ j ≠ n ∧ j ≠ x) (f2 : R.2.1.ca ≠ [] → ∀ j, uk.ownBlock = some j → j < V.heap.size ∧ j ≠ a ∧ j ≠ n ∧ j ≠ x) (f3 : R.2.2 ≠ [] → ∀ j, ub.ownBlock = some j → j < V.heap.size ∧ j ≠ a ∧ j ≠ n ∧ j ≠ x) :
    AftD W (set7 V a n x (.int .i64 R.2.1.pc) us uk ub (.int .i64 R.1.1) (.int .i64 R.1.2.1) (.int .i64 (R.1.2.2 : Nat))) a n x us uk ub R := by
  have far : ∀ j, j ≠ a → j ≠ n → j ≠ x → (set7 V a n x (.int .i64 R.2.1.pc) us uk ub (.int .i64 R.1.1) (.int .i64 R.1.2.1) (.int .i64 (R.1.2.2 : Nat))).heap[j]? = V.heap[j]? := fun j h1 h2 h3 => set7_far _ _ _ _ _ _ _ h1 h2 h3
  refine ⟨?_, ?_, ?_, ?_, sees_same hs (fun hne j hj => far j (f1 hne j hj).2.1 (f1 hne j hj).2.2.1 (f1 hne j hj).2.2.2), sees_same hk (fun hne j hj => far j (f2 hne j hj).2.1 (f2 hne j hj).2.2.1 (f2 hne j hj).2.2.2), seesN_same hy (fun hne j hj => far j (f3 hne j hj).2.1 (f3 hne j hj).2.2.1 (f3 hne j hj).2.2.2), ga, gn, gx⟩
  · unfold set7
    exact ((((((hb.setCell (p := ⟨a, 0, none⟩) ga _).setCell (p := ⟨a, 1, none⟩) ga _).setCell (p := ⟨a, 2, none⟩) ga _).setCell (p := ⟨n, 0, none⟩) gn _).setCell (p := ⟨x, 0, none⟩) gx _).setCell (p := ⟨x, 1, none⟩) gx _).setCell (p := ⟨x, 2, none⟩) gx _
  · unfold set7
    rw [far_set (by omega), far_set (by omega), far_set (by omega), far_set (by omega)]
    exact fill3_g ha
  · unfold set7
    rw [far_set (by omega), far_set (by omega), far_set (by omega)]
    refine set1_g (x := d1) ?_
    rw [far_set (by omega), far_set (by omega), far_set (by omega)]
    exact hn
  · unfold set7
    refine fill3_g (x := e1) (y := e2) (z := e3) ?_
    rw [far_set (by omega), far_set (by omega), far_set (by omega), far_set (by omega)]
    exact hx
end Go.Proofs.YtfnojlgmbfocfaaDoor
