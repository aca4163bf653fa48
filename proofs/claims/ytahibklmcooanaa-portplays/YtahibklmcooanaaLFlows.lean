/-
  The contracts of label's Flows and of the document's.
-/
import Derived.Test.YtahibklmcooanaaLLabB
import Derived.Test.YtahibklmcooanaaLSetB
import Derived.Deep.RegionHeld3
namespace Go.Proofs.Ytahibklmcooanaa
open Go.RowKit
set_option linter.unusedVariables false

def lacksL (s i t j : List Int) : List Int := sd (lessL s t ++ lessL j i)

set_option maxHeartbeats 400000 in
theorem checkBoth_any (a b : Value) (s i t j : List Int) (w : World) (hA : SeesL w a s i) (hB : SeesL w b t j) :
    Calls Try.prog 49 #[a, b] w fun e w' => e = .returned (.int .i64 (errOf (mayB s i && mayB t j))) ∧ Below w.heap.size w w' := by
  obtain ⟨u1, x1, rfl, a1, a2, a3, a4⟩ := hA
  obtain ⟨u2, x2, rfl, b1, b2, b3, b4⟩ := hB
  obtain ⟨W, hW⟩ : ∃ W, W = (w.alloc (.cells #[u1, x1] 37)).alloc (.cells #[u2, x2] 37) := ⟨_, rfl⟩
  have hR := check_any u1 x1 s i W (by rw [hW]; exact (a1.box _).box _) (by rw [hW]; exact (a2.box _).box _) a3 a4
  have hZ : Below w.heap.size w W := by rw [hW]; exact (below_alloc w _).alloc (by simp) _
  have hb2 : Boxed W (w.heap.size + 1) u2 x2 := by rw [hW]; exact Boxed.new2 _ _ _ _
  have hR2 : ∀ w1, Below W.heap.size W w1 → Calls Try.prog 45 #[.agg #[u2, x2]] w1 fun e w' => e = .returned (.int .i64 (errOf (mayB t j))) ∧ Below w1.heap.size w1 w' := fun w1 h => by
    have c1 : Sees W u2 t := by rw [hW]; exact (b1.box _).box _
    have c2 : Sees W x2 j := by rw [hW]; exact (b2.box _).box _
    exact check_any u2 x2 t j w1 (c1.below h) (c2.below h) b3 b4
  have HZ := hid hZ
  have HB := hid hb2
  have HR2 := hid hR2
  have hsz := hZ.size
  clear a1 a2 b1 b2 hZ hb2 hR2
  generalize mayB s i = bs at *
  generalize mayB t j = bi at *
  go_enter Try.func49, Try.ntmps49
  go_wp2_with fail
  rw [← hW]
  refine hR.mono ?_
  clear hR hW
  rintro e w1 ⟨rfl, h1⟩
  obtain ⟨c1, c2⟩ := HB.out.below h1
  have hR2 := HR2.out w1 h1
  have HF := hid (HZ.out.trans (h1.mono hsz))
  have hsz1 := HF.out.size
  clear h1 HR2 HB HZ hsz
  cases bs
  · unfold errOf
    go_wp2
    go_ret
    exact ⟨rfl, HF.out⟩
  · unfold errOf
    go_wp2_with fail
    refine hR2.mono ?_
    clear hR2
    rintro e w2 ⟨rfl, h2⟩
    go_wp2
    go_ret
    exact ⟨by cases bi <;> rfl, HF.out.trans (h2.mono hsz1)⟩

def flowsE (s i t j own : List Int) : Int := if mayB s i && mayB t j then (if catsB own then (if withinB (lacksL s i t j) own then 0 else 21) else 1) else 20
def flowsL (s i t j own : List Int) : List Int := if mayB s i && mayB t j then (if catsB own then (if withinB (lacksL s i t j) own then lacksL s i t j else []) else []) else []

theorem length_lacksL (s i t j : List Int) : (lacksL s i t j).length ≤ s.length + j.length := by
  have h1 := length_sd_le (lessL s t ++ lessL j i)
  have h2 := length_lessL s t
  have h3 := length_lessL j i
  rw [List.length_append] at h1
  unfold lacksL
  omega

theorem may2 {s i t j : List Int} (h : (mayB s i && mayB t j) = true) : s.length ≤ 64 ∧ i.length ≤ 64 ∧ t.length ≤ 64 ∧ j.length ≤ 64 := by
  rw [Bool.and_eq_true, mayB_iff, mayB_iff] at h
  exact ⟨h.1.1.1, h.1.2.1, h.2.1.1, h.2.2.1⟩

theorem catsB_len {xs : List Int} (h : catsB xs = true) : xs.length ≤ 2147483647 := cats_len (by simpa [catsB] using h)

set_option maxHeartbeats 1000000 in
theorem flows_any (a b o : Value) (s i t j own : List Int) (w : World) (hA : SeesL w a s i) (hB : SeesL w b t j) (hO : Sees w o own) (hl : own.length ≤ 4611686018427387904) :
    Calls Try.prog 44 #[a, b, o] w fun e w' => ∃ v, e = .returned (.tuple #[v, .int .i64 (flowsE s i t j own)]) ∧ Owns w' w.heap.size v (flowsL s i t j own) ∧ Below w.heap.size w w' := by
  have hA0 := hA
  have hB0 := hB
  obtain ⟨u1, x1, rfl, a1, a2, a3, a4⟩ := hA
  obtain ⟨u2, x2, rfl, b1, b2, b3, b4⟩ := hB
  obtain ⟨W, hW⟩ : ∃ W, W = (w.alloc (.cells #[u1, x1] 37)).alloc (.cells #[u2, x2] 37) := ⟨_, rfl⟩
  have d1 : SeesL W (.agg #[u1, x1]) s i := by rw [hW]; exact (hA0.box _).box _
  have d2 : SeesL W (.agg #[u2, x2]) t j := by rw [hW]; exact (hB0.box _).box _
  have f1 : Sees W u1 s := by rw [hW]; exact (a1.box _).box _
  have f2 : Sees W u2 t := by rw [hW]; exact (b1.box _).box _
  have f3 : Sees W x1 i := by rw [hW]; exact (a2.box _).box _
  have f4 : Sees W x2 j := by rw [hW]; exact (b2.box _).box _
  have f5 : Sees W o own := by rw [hW]; exact (hO.box _).box _
  have hZ : Below w.heap.size w W := by rw [hW]; exact (below_alloc w _).alloc (by simp) _
  have HA1 := hid (show Boxed W w.heap.size u1 x1 by rw [hW]; exact (Boxed.new _ _ _).box _)
  have HA2 := hid (show Boxed W (w.heap.size + 1) u2 x2 by rw [hW]; exact Boxed.new2 _ _ _ _)
  have hR1 := hid (checkBoth_any _ _ s i t j W d1 d2)
  have hR3 := hid (fun w1 (h : Below W.heap.size W w1) => rises_any o own w1 (f5.below h) hl)
  have HF := hid (And.intro f1 (And.intro f2 (And.intro f3 (And.intro f4 f5))))
  have HZ := hid hZ
  have hsz := hZ.size
  have HW := hid hW
  clear a1 a2 b1 b2 hZ f1 f2 f3 f4 f5 hW hA0 hB0 d1 d2 hO
  unfold flowsE flowsL
  cases hm : (mayB s i && mayB t j)
  · rw [hm] at hR1
    unfold errOf at hR1
    go_enter Try.func44, Try.ntmps44
    go_wp2_with fail
    rw [← HW.out]
    clear HW
    refine hR1.out.mono ?_
    rintro e w1 ⟨rfl, h1⟩
    have H1 := hid h1
    clear h1
    go_wp2
    go_ret2
    exact ⟨.slice none 0 0, rfl, World.ownsRow_nil _ _ _ _, HZ.out.trans (H1.out.mono hsz)⟩
  rw [hm] at hR1
  unfold errOf at hR1
  obtain ⟨n1, n2, n3, n4⟩ := may2 hm
  have hl1 := length_lessL s t
  have hl2 := length_lessL j i
  have hll := length_lacksL s i t j
  have hL1 := hid (fun w1 (h : Below W.heap.size W w1) => less_any u1 u2 s t w1 (HF.out.1.below h) (HF.out.2.1.below h) (by omega))
  have hL2 := hid (fun w1 (h : Below W.heap.size W w1) => less_any x2 x1 j i w1 (HF.out.2.2.2.1.below h) (HF.out.2.2.1.below h) (by omega))
  have HF5 := hid HF.out.2.2.2.2
  clear HF
  cases hc : catsB own
  · rw [hc] at hR3
    go_enter Try.func44, Try.ntmps44
    go_wp2_with fail
    rw [← HW.out]
    clear HW
    refine hR1.out.mono ?_
    rintro e w1 ⟨rfl, h1⟩
    have H1 := hid h1
    clear h1
    go_wp2_with fail
    refine (hR3.out _ H1.out).mono ?_
    rintro e w3 ⟨rfl, rfl⟩
    go_wp2
    go_ret2
    exact ⟨.slice none 0 0, rfl, World.ownsRow_nil _ _ _ _, HZ.out.trans (H1.out.mono hsz)⟩
  rw [hc] at hR3
  have n5 := catsB_len hc
  obtain ⟨bw, hgw⟩ : ∃ bw, withinB (lacksL s i t j) own = bw := ⟨_, rfl⟩
  rw [hgw]
  have HGW := hid hgw
  clear hgw
  go_enter Try.func44, Try.ntmps44
  go_wp2_with fail
  rw [← HW.out]
  clear HW
  refine hR1.out.mono ?_
  rintro e w1 ⟨rfl, h1⟩
  have H1 := hid h1
  clear h1
  go_wp2_with fail
  refine (hR3.out _ H1.out).mono ?_
  rintro e w3 ⟨rfl, hw⟩
  subst hw
  obtain ⟨c1, c2⟩ := HA1.out.below H1.out
  obtain ⟨c3, c4⟩ := HA2.out.below H1.out
  have HD := hid (Below.drew H1.out)
  go_wp2_with fail
  go_region_held3 (fun w' => w'.cell? ⟨w.heap.size, 0, none⟩ = some u1 ∧ w'.cell? ⟨w.heap.size, 1, none⟩ = some x1 ∧ w'.cell? ⟨w.heap.size + 1, 0, none⟩ = some u2 ∧ w'.cell? ⟨w.heap.size + 1, 1, none⟩ = some x2)
    (first | (refine ⟨?_, ?_, ?_, ?_⟩ <;> first | assumption | go_keep))
    (first
      | (go_at_call_of 52 u1; refine (hL1.out _ HD.out).mono ?_; clear c1 c2 c3 c4; rintro e w2 ⟨v2, rfl, hO2, hB2⟩
         have hk2 : Below W.heap.size W w2 := HD.out.trans (hB2.mono HD.out.size)
         obtain ⟨c1, c2⟩ := HA1.out.below hk2
         obtain ⟨c3, c4⟩ := HA2.out.below hk2
         have hsz2 := hk2.size
         have HO2 := hid hO2
         have HK2 := hid hk2
         clear hO2 hB2 hk2 hL1)
      | (go_at_call_of 52 x2; refine (hL2.out _ HK2.out).mono ?_; clear c1 c2 c3 c4; rintro e w3 ⟨v3, rfl, hO3, hB3⟩
         have hk3 : Below W.heap.size W w3 := HK2.out.trans (hB3.mono hsz2)
         obtain ⟨c1, c2⟩ := HA1.out.below hk3
         obtain ⟨c3, c4⟩ := HA2.out.below hk3
         have hsz3 := hk3.size
         have HO23 := hid (HO2.out.below hB3)
         have HO3 := hid hO3
         have HK3 := hid hk3
         clear hO3 hB3 hk3 hL2 HO2)
      | (go_at_call 51; refine (join_any v2 v3 _ _ _ HO23.out.sees HO3.out.sees (by omega)).mono ?_; clear c1 c2 c3 c4; rintro e w4 ⟨v4, rfl, hO4, hB4⟩
         have hk4 : Below W.heap.size W w4 := HK3.out.trans (hB4.mono hsz3)
         obtain ⟨c1, c2⟩ := HA1.out.below hk4
         obtain ⟨c3, c4⟩ := HA2.out.below hk4
         have hsz4 := hk4.size
         have HO4 := hid hO4
         have HK4 := hid hk4
         clear hO4 hB4 hk4 HO23 HO3))
  go_wp2_with fail
  refine (within_any v4 o (lacksL s i t j) own _ HO4.out.sees (HF5.out.below HK4.out) (by omega)).mono ?_
  rintro e w5 ⟨he, h5⟩
  rw [HGW.out] at he
  subst he
  have H5 := hid (HK4.out.trans (h5.mono hsz4))
  have HO5 := hid (HO4.out.below h5)
  clear h5
  cases bw
  · go_wp2
    go_ret2
    exact ⟨.slice none 0 0, rfl, World.ownsRow_nil _ _ _ _, HZ.out.trans (H5.out.mono hsz)⟩
  · go_wp2
    go_ret2
    exact ⟨v4, rfl, owns_le HO5.out (by omega), HZ.out.trans (H5.out.mono hsz)⟩

end Go.Proofs.Ytahibklmcooanaa
