/-
  The law's awake.
-/
import Derived.Test.YtkaffbchlngfaaaDoorERunB
namespace Go.Proofs.YtkaffbchlngfaaaDoor
open Go.RowKit
set_option linter.unusedVariables false
set_option linter.unusedSimpArgs false

def awL : List InsL := [(1, 4), (24, 7), (25, 0)]
def s0 : StL := ⟨0, [], []⟩
def s1 : StL := ⟨2, [4], []⟩
theorem sees0 (w : World) : SeesS w (.agg #[.int .i64 0, .slice none 0 0, .slice none 0 0]) s0 (.slice none 0 0) (.slice none 0 0) := ⟨rfl, Sees.nil w, Sees.nil w, by simp [s0], by simp [s0]⟩
theorem seesI_new (w : World) (l : List InsL) (t : TypeId) (h : l ≠ []) : SeesI (w.alloc (.cells (cellsI l).toArray t)) (.slice (some ⟨w.heap.size, 0, none⟩) l.length l.length) l := by
  refine ⟨w.heap.size, 0, _, _, rfl, Nat.le_refl _, (fun h => by cases h), fun _ => rfl, fun j hj => ?_⟩
  obtain ⟨e1, e2⟩ := cellsI_get l j hj
  refine ⟨?_, ?_⟩
  · simp only [World.cell?, heap_alloc_new, Nat.zero_add]
    simpa using e1
  · simp only [World.cell?, heap_alloc_new, Nat.zero_add]
    simpa using e2
theorem aw_why : whyE awL (ByteArray.size ⟨#[97, 98]⟩) = 0 := by decide
theorem aw_ref : refL awL s0 true ((5 : Nat) : Int) = 0 := by decide
theorem aw_run : runL awL 5 0 s0 [] = ((2, 7, 2), s1, []) := by kernel_rfl
theorem aw_no : ∀ i ∈ awL, i.1 ≠ 18 ∧ i.1 ≠ 19 := by decide
theorem aw_txt : strOf (((imgL ⟨#[97, 98]⟩).drop 0).take 3) = ⟨#[97, 98, 0]⟩ := by
  unfold imgL
  rw [show bytesOf ⟨#[97, 98]⟩ = [97, 98] from rfl, show (4096 - ByteArray.size ⟨#[97, 98]⟩) = 4094 from rfl, show List.replicate 4094 0 = 0 :: List.replicate 4093 0 from List.replicate_succ]
  rfl
theorem MemP.ke {w w' : World} {q g : Nat} {pg : List Nat} {ow : List Bool} {b : List Nat} (h : MemP w q pg ow b) (k : Ke w.heap.size g w w') (hq : q ≠ g) (hp : ∀ j, j < 16 → pg.getD j 0 ≠ g) : MemP w' q pg ow b :=
  ⟨h.lp, h.lo, h.lb, h.small, (k.block q (Array.getElem?_eq_some_iff.1 h.blk).1 hq).trans h.blk, fun j hj => (k.block _ (Array.getElem?_eq_some_iff.1 (h.pgs j hj)).1 (hp j hj)).trans (h.pgs j hj)⟩
theorem eqlE_some_nil (a : Addr) (w : World) : (binOp .eql 24 (.pointer (some a)) (.pointer none)).run Tryd.prog w = .ok (.bool false) w := by
  have h : ∀ d : Nat, (Op.equalIn (d + 1) 24 (.pointer (some a)) (.pointer none)).run Tryd.prog w = .ok false w := fun d => by
    simp [Op.equalIn, run_underlying Tryd.underlying24]
  simp only [binOp]
  simp [Op.equal, Op.maxDepth, h 9999]
theorem pgs_at (q j : Nat) (hj : j < 16) : ((List.range 16).map fun j => q + 1 + j).getD j 0 = q + 1 + j := by simp [List.getD, hj]

set_option maxRecDepth 100000 in
set_option maxHeartbeats 4000000 in
theorem awake_any (w : World) (hT : Tabs w) : Calls Tryd.prog 10 #[] w fun e w' => e = .returned (.bool true) ∧ Below w.heap.size w w' := by
  obtain ⟨W, hW⟩ : ∃ W, W = w.alloc (.cells #[.int .i64 1, .int .i64 4, .int .i64 24, .int .i64 7, .int .i64 25, .int .i64 0] 68) := ⟨_, rfl⟩
  have hb : Below w.heap.size w W := by rw [hW]; exact below_alloc w _
  have hV : SeesI W (.slice (some ⟨w.heap.size, 0, none⟩) 3 3) awL := by rw [hW]; exact seesI_new w awL 68 (by decide)
  have h2 : 2 ≤ w.heap.size := by
    have h1 := hT.lt
    have e : 1 = 1 := rfl
    omega
  have HT := hid (fun w1 (h : Below w.heap.size w w1) => hT.below h)
  have hnew := new_yes (.slice (some ⟨w.heap.size, 0, none⟩) 3 3) awL W hV (hT.below hb) (by decide) ⟨#[97, 98]⟩ aw_why (by decide)
  have HB := hid hb
  have hsW := hb.size
  clear hb hV hT
  go_enter Tryd.func10, Tryd.ntmps10
  go_wp2_with fail
  rw [← hW]
  clear hW
  refine hnew.mono ?_
  rintro e w1 ⟨p, vc, q, rfl, e1, o1, m1, hq, hqp, hvc, b1⟩
  have hs1 := b1.size
  have hB1 := HB.out.trans (b1.mono hsW)
  have hpl := (Array.getElem?_eq_some_iff.1 e1).1
  have hnil := eqlE_some_nil ⟨p, 0, none⟩ w1
  have hbeg := begin_yes w1 p vc q e1 ⟨#[120]⟩ (by decide) 9 (by decide) (by decide)
  have HM1 := hid m1
  have HO1 := hid o1
  have HB1 := hid hB1
  have HVC := hid hvc
  clear hnew m1 o1 hB1 hvc b1
  go_wp2_with fail
  refine hbeg.mono ?_
  rintro e w2 ⟨rfl, g, e2, r2, hg, k2⟩
  have hpg : p ≠ g := by omega
  have hs2 := k2.size
  have m2 := HM1.out.ke k2 (by omega) (fun j hj => by rw [pgs_at q j hj]; omega)
  have v2 : SeesI w2 vc awL := OwnsI.sees (base := W.heap.size) (ownsRow_same HO1.out (fun j hj => k2.block j (HO1.out.lt j hj).2 (by have := HVC.out j hj; omega)))
  have hB2 : Below w.heap.size w w2 := HB1.out.trans (k2.below (by omega) (by omega))
  have hrun := run_trap w2 p vc q g e2 ⟨#[120]⟩ 9 s0 _ _ r2 (sees0 w2) hpg awL v2 (HT.out w2 hB2) aw_no (by decide) 5 (by decide) (by decide) (by decide) (by decide) aw_ref (by omega) (by omega) s1 7 2 [] aw_run (by decide)
  have hgl := (Array.getElem?_eq_some_iff.1 r2).1
  have HM2 := hid m2
  have HB2 := hid hB2
  clear hbeg e2 r2 k2 m2 v2 hB2 hnil
  go_wp2_with fail
  refine hrun.mono ?_
  rintro e w3 ⟨rfl, e3, us, uk, r3, o3, o4, k3⟩
  rw [show ((9 : Nat) : Int) - ((2 : Nat) : Int) = 7 from rfl] at r3
  have hs3 := k3.size
  have m3 := HM2.out.ke k3 (by omega) (fun j hj => by rw [pgs_at q j hj]; omega)
  have hB3 : Below w.heap.size w w3 := HB2.out.trans (k3.below (by omega) (by omega))
  obtain ⟨X, hX⟩ : ∃ X, X = w3.alloc (.cells #[.int .i64 2, .int .i64 7, .int .i64 2] 52) := ⟨_, rfl⟩
  have bX : Below w3.heap.size w3 X := by rw [hX]; exact below_alloc w3 _
  have zX : X.heap[w3.heap.size]? = some (.cells #[.int .i64 2, .int .i64 7, .int .i64 2] 52 (0, 0)) := by rw [hX]; exact heap_alloc_new w3 _
  have hsX : X.heap.size = w3.heap.size + 1 := by rw [hX]; simp
  have hS : SeesS X (.agg #[.int .i64 s1.pc, us, uk]) s1 us uk := ⟨rfl, o3.sees.below bX, o4.sees.below bX, by decide, by decide⟩
  have harg := args_yes X p vc q g (e3.below bX) ⟨#[120]⟩ 7 s1 us uk (r3.below bX) hS hpg 0 1 (by decide) (by decide) (by decide)
  have HM3 := hid (m3.below bX)
  have HB3 := hid (hB3.trans (bX.mono (by have := hB3.size; omega)))
  have HZ := hid zX
  have HSX := hid hsX
  clear hrun e3 r3 o3 o4 k3 m3 hB3 bX zX hS hsX
  go_wp2_with fail
  rw [← hX]
  clear hX
  refine harg.mono ?_
  rintro e w4 ⟨us4, uk4, ul, rfl, e4, r4, o5, o6, k4⟩
  obtain ⟨al, cl, hul⟩ := ownsRow_shape o6
  rw [show (s1.st.drop 0).length = 1 from rfl] at hul
  subst hul
  have hsX := HSX.out
  have hs4 := k4.size
  have m4 := HM3.out.ke k4 (by omega) (fun j hj => by rw [pgs_at q j hj]; omega)
  have hB4 : Below w.heap.size w w4 := HB3.out.trans (k4.below (by omega) (by omega))
  have z4 : w4.heap[w3.heap.size]? = some (.cells #[.int .i64 2, .int .i64 7, .int .i64 2] 52 (0, 0)) := (k4.block _ (by omega) (by omega)).trans HZ.out
  have htx := text_yes w4 p vc q (some g) e4 _ _ _ m4 0 3 (by decide)
  rw [aw_txt] at htx
  have HE4 := hid e4
  have HR4 := hid r4
  have HO6 := hid o6
  have HB4 := hid hB4
  have HZ4 := hid z4
  have hzl4 := (Array.getElem?_eq_some_iff.1 z4).1
  clear harg e4 r4 o5 o6 k4 m4 hB4 z4 hsX
  go_wp2_with fail
  refine htx.mono ?_
  rintro e w5 ⟨rfl, b5⟩
  have hs5 := b5.size
  have z5 : w5.heap[w3.heap.size]? = some (.cells #[.int .i64 2, .int .i64 7, .int .i64 2] 52 (0, 0)) := (b5.block _ hzl4).trans HZ4.out
  obtain ⟨c0, c1, _, _, _, _⟩ := cel3 z5
  obtain ⟨Y, hY⟩ : ∃ Y, Y = w5.alloc (.cells #[.int .i64 4] 3) := ⟨_, rfl⟩
  have bY : Below w5.heap.size w5 Y := by rw [hY]; exact below_alloc w5 _
  have sY : Sees Y (.slice (some ⟨w5.heap.size, 0, none⟩) 1 1) [4] := by rw [hY]; exact sees_one w5 4
  have o7 : Owns Y X.heap.size (.slice al 1 cl) [4] := (HO6.out.below b5).below bY
  have hsm := same_any (.slice al 1 cl) _ [4] [4] Y o7.sees sY (by decide) (by decide)
  have hB5 := HB4.out.trans (b5.mono HB4.out.size)
  have HB5 := hid (hB5.trans (bY.mono hB5.size))
  have HE5 := hid ((HE4.out.below b5).below bY)
  have HR5 := hid ((HR4.out.below b5).below bY)
  clear htx b5 z5 bY sY o7 hB5
  go_wp2_with fail
  rw [← hY]
  clear hY
  refine hsm.mono ?_
  rintro e w6 ⟨rfl, b6⟩
  have hfu := fuel_any w6 p vc q g (HE5.out.below b6) ⟨#[120]⟩ 7 _ _ _ _ (HR5.out.below b6)
  have HB6 := hid (HB5.out.trans (b6.mono HB5.out.size))
  clear hsm b6
  go_wp2_with fail
  refine hfu.mono ?_
  rintro e w7 ⟨rfl, hw7⟩
  subst w7
  clear hfu
  go_wp2
  go_ret
  exact ⟨by first | rfl | simp, HB6.out⟩
end Go.Proofs.YtkaffbchlngfaaaDoor
