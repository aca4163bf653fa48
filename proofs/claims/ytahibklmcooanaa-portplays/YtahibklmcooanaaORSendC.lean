/-
  The document's mailboxes: Send where the message may be sent: it lacks nothing.
-/
import Derived.Test.YtahibklmcooanaaORSendB
namespace Go.Proofs.Ytahibklmcooanaa
open Go.RowKit
set_option linter.unusedVariables false
set_option linter.unusedSimpArgs false

set_option maxRecDepth 20000 in
set_option maxHeartbeats 4000000 in
theorem rsend_nil (room : Int) (vL : Value) (n : Nat) (who : Int) (tn : Nat) (vs vi vo : Value) (s i own : List Int) (x : ByteArray) (op : Bool) (F : Nat → Prop) (d : Nat → List Msg) (w : World) (hD : LSees F w vL n d) (hSu : SuAt w vs vi vo s i own) (hu1 : usr n who = true) (htn : tn < n) (hn16 : n ≤ 16) (hcats : catsB own = true) (hmay : mayB s i = true) (hx : x.size ≤ 1024) (hcm : comes s own tn op = true) (hne : lackS s tn = []) (hF : ∀ k, w.heap.size ≤ k → ¬ F k) (hroom64 : room ≤ 64) (hdl : ((d tn).length : Int) ≤ room) :
    Calls Try.prog 24 #[poV room vL, suV who vs vi vo, .int .i64 tn, .string x, .bool op] w fun e w' => ∃ v' u, e = .returned (.tuple #[poV room v', u, .int .i64 0]) ∧ LSees F w' v' n (fun j => if j = tn then pushed room (d tn) (who, x) else d j) ∧ Owns w' w.heap.size u (lackS s tn) ∧ Below w.heap.size w w' := by
  have HD := hid hD
  obtain ⟨b, off, cap, hv, hc, hn1, hf, hcell⟩ := hD
  subst hv
  have hS := SAt.new w room (.slice (some ⟨b, off, none⟩) n cap) who vs vi vo
  obtain ⟨W, hW⟩ : ∃ W, W = sW w room (.slice (some ⟨b, off, none⟩) n cap) who vs vi vo := ⟨_, rfl⟩
  rw [← hW] at hS
  unfold sW at hW
  have HST := hid hS
  obtain ⟨c0, c1, c2, c3⟩ := hS.cells
  obtain ⟨x0, x1, x2, x3⟩ := hS.su
  have HW := hid hW
  clear hW hS hcell
  unfold poV suV
  obtain ⟨wn, hwn, rfl⟩ := usr_iff.1 hu1
  have h1 : ¬ (wn : Int) < 0 := by omega
  have h2 : ¬ (n : Int) ≤ wn := by omega
  have h3 : ¬ (tn : Int) < 0 := by omega
  have h4 : ¬ (n : Int) ≤ tn := by omega
  have h2' : ¬ n ≤ wn := by omega
  have h4' : ¬ n ≤ tn := by omega
  have hSW := hSu.below HST.out.bel
  have hCa := cats_any vo own W hSW.so hSW.lo
  rw [hcats] at hCa
  have HCa := hid hCa
  have hls : s.length ≤ 64 := (mayB_iff.1 hmay).1.1
  have hlo := catsB_len hcats
  have HMy := hid (fun w1 (hb : Below W.heap.size W w1) => (show Calls Try.prog 39 #[.agg #[vs, vi]] w1 fun e w' => e = .returned (.bool true) ∧ Below w1.heap.size w1 w' from by
    have h := may_any (.agg #[vs, vi]) s i w1 ⟨_, _, rfl, hSW.ss.below hb, hSW.si.below hb, hSW.ls, hSW.li⟩
    rw [hmay] at h
    exact h))
  have HSu := hid hSu
  have hx' : ¬ (1024 : Int) < x.size := by omega
  have HLS := hid hls
  have HLO := hid hlo
  clear hmay hSu hSW hCa hu1 hcats hls hlo
  have hz0 : (lackS s tn).length = 0 := by rw [hne]; rfl
  clear hcm hne
  go_enter Try.func24, Try.ntmps24
  iterate 12 (first | go_values | go_skip | go_guarded | go_step | go_upon | go_back | go_simp)
  rw [← HW.out]
  clear HW
  go_wp2_with fail
  refine HCa.out.mono ?_
  clear HCa x0 x1 x2 x3 c0 c1 c2 c3
  rintro e w1 ⟨rfl, hB1⟩
  have HST1 := hid (HST.out.below hB1)
  have HMa := hid (HMy.out w1 hB1)
  obtain ⟨x0, x1, x2, x3⟩ := HST1.out.su
  clear hB1 HMy HST
  go_wp2_with fail
  refine HMa.out.mono ?_
  clear HMa x0 x1 x2 x3
  rintro e w2 ⟨rfl, hB2⟩
  have HST2 := hid (HST1.out.below hB2)
  obtain ⟨x0, x1, x2, x3⟩ := HST2.out.su
  have HLa := hid (rlacks_any tn (by omega) (wn : Int) vs vi vo s i own w2 (HSu.out.below HST2.out.bel) HLS.out)
  unfold suV at HLa
  clear hB2 HST1
  go_wp2_with fail
  refine HLa.out.mono ?_
  clear HLa x0 x1 x2 x3
  rintro e w3 ⟨lv, rfl, hO3, hB3⟩
  have HST3 := hid (HST2.out.below hB3)
  have HL3 := hid (owns_le hO3 HST2.out.bel.size)
  obtain ⟨la, lk, hlv⟩ : ∃ la lk, lv = .slice la (lackS s tn).length lk := by
    obtain ⟨bb, oo, ao, kk, hv, _⟩ := hO3.sees
    exact ⟨ao, kk, hv⟩
  subst hlv
  obtain ⟨x0, x1, x2, x3⟩ := HST3.out.su
  clear hO3 hB3 HST2
  rw [hz0] at HL3 ⊢
  clear hz0 x1 x2 x3
  have HST5 := HST3
  have HL5 := HL3
  obtain ⟨w5, hw5⟩ : ∃ w5, w5 = w3 := ⟨_, rfl⟩
  subst hw5
  have HD5 := hid (HD.out.keep (F' := fun k => F k ∨ k = w.heap.size ∨ k = w.heap.size + 2) (w' := w5) fun k hk hf => ⟨HST5.out.bel.block k hk, fun h => by rcases h with h | h | h <;> first | exact hf h | omega⟩)
  obtain ⟨b', off', cap', hvv, _, _, _, hcell5⟩ := id HD5.out
  simp at hvv
  obtain ⟨⟨rfl, rfl⟩, rfl⟩ := hvv
  obtain ⟨u, hu5, hm5⟩ := hcell5 tn htn
  obtain ⟨ua, uc, huv⟩ := hm5.shape
  subst huv
  have HM5 := hid hm5
  obtain ⟨c0, c1, c2, c3⟩ := HST5.out.cells
  have htI : (tn : Int) < n := by omega
  clear hcell5 hm5
  go_wp2_with fail
  go_region_held3 (fun w' => w'.cell? ⟨w.heap.size, 0, none⟩ = some (.int .i64 room) ∧ w'.cell? ⟨w.heap.size, 1, none⟩ = some (.slice (some ⟨b, off, none⟩) n cap) ∧ w'.cell? ⟨b, off + tn, none⟩ = some (.slice ua (d tn).length uc))
    (first | (refine ⟨?_, ?_, ?_⟩ <;> first | assumption | go_keep))
    (fail)
  by_cases hroom : ((d tn).length : Int) < room
  · obtain ⟨D5, hD5⟩ : ∃ D5, D5 = w5.drew := ⟨_, rfl⟩
    have hbD : Below w5.heap.size w5 D5 := by rw [hD5]; exact Below.drew (Below.refl _ _)
    have sD : D5.heap.size = w5.heap.size := by rw [hD5]; rfl
    have hSD := HST5.out.below hbD
    have hlD := hSD.lt
    obtain ⟨v6, w6, hr6, hO6, hB6⟩ := run_copyM D5 79 (.slice ua (d tn).length uc) (d tn) ((HM5.out.below hbD).sees) (by omega)
    have hS6 := hSD.below hB6
    obtain ⟨V7, hV7⟩ : ∃ V7, V7 = (w6.alloc (.cells #[.int .i64 (wn : Int), .string x] 55)).drew := ⟨_, rfl⟩
    have hb7 : Below w6.heap.size w6 V7 := by rw [hV7]; exact Below.drew (below_alloc w6 _)
    have k0 : V7.cell? ⟨w6.heap.size, 0, none⟩ = some (.int .i64 (wn : Int)) := by rw [hV7]; simp
    have k1 : V7.cell? ⟨w6.heap.size, 1, none⟩ = some (.string x) := by rw [hV7]; simp
    obtain ⟨v8, w8, hr8, hO8, hB8⟩ := run_oneM V7 79 D5.heap.size v6 (d tn) (hO6.below hb7) w6.heap.size ((wn : Int), x) k0 k1 (by omega) (Nat.le_trans hB6.size hb7.size)
    have hS8 := (hS6.below hb7).low hB8 hlD
    have hlow : ∀ k, k < w.heap.size → w8.heap[k]? = w.heap[k]? := fun k hk => hS8.bel.block k hk
    have hD8 : LSees (fun k => F k ∨ k = w.heap.size ∨ k = w.heap.size + 2) w8 (.slice (some ⟨b, off, none⟩) n cap) n d := HD.out.keep fun k hk hf => ⟨hlow k hk, fun h => by rcases h with h | h | h <;> first | exact hf h | omega⟩
    have hFn : ∀ k, D5.heap.size ≤ k → ¬ (F k ∨ k = w.heap.size ∨ k = w.heap.size + 2) := fun k hk h => by
      rcases h with h | h | h
      · exact hF k (by omega) h
      · omega
      · omega
    have h58 : D5.heap.size ≤ w8.heap.size := Nat.le_trans (Nat.le_trans hB6.size hb7.size) hB8.size
    have HWi8 := hid (rwith_any room (.slice (some ⟨b, off, none⟩) n cap) n tn htn hn16 _ d v8 (d tn ++ [((wn : Int), x)]) w8 hD8 (Mq.Owns.msees hO8 hFn) (fun k hk => hFn k (Nat.le_trans h58 hk)))
    have hU8 : Owns w8 w.heap.size (.slice la 0 lk) (lackS s tn) := by
      have h6 := ((HL5.out.below hbD).below hB6).below hb7
      refine ownsRow_same h6 fun j hj => hB8.block j ?_
      have := (HL5.out.lt j hj).2
      omega
    obtain ⟨p0, p1, _, _⟩ := hS6.cells
    obtain ⟨r0, r1, _, _⟩ := hS8.cells
    obtain ⟨y0, _, _, _⟩ := hS6.su
    have hl6 : w.heap.size < w6.heap.size := by have := hS6.lt; omega
    obtain ⟨a6, k6, hv6⟩ : ∃ a6 k6, v6 = .slice a6 (d tn).length k6 := by
      obtain ⟨bb, oo, ao, kk, hv, _⟩ := hO6.sees
      exact ⟨ao, kk, hv⟩
    obtain ⟨a8, n8, k8, hv8⟩ : ∃ a8 n8 k8, v8 = .slice a8 n8 k8 := by
      obtain ⟨bb, oo, ao, kk, hv, _⟩ := hO8.sees
      exact ⟨ao, _, kk, hv⟩
    subst hv6 hv8
    have HR6 := hid hr6
    rw [hV7] at hr8
    have HR8 := hid hr8
    have HS8 := hid hS8
    have HU8 := hid hU8
    have HD5 := hid hD5
    unfold poV at HWi8
    clear hbD sD hSD hlD hr6 hO6 hB6 hS6 hb7 k0 k1 hr8 hO8 hB8 hS8 hlow hD8 hFn h58 hU8 hV7 hD5
    rw [← HD5.out]
    have q1 : D5.cell? ⟨w.heap.size, 1, none⟩ = some (.slice (some ⟨b, off, none⟩) n cap) := by rw [HD5.out]; exact c1
    have q2 : D5.cell? ⟨b, off + tn, none⟩ = some (.slice ua (d tn).length uc) := by rw [HD5.out]; exact hu5
    clear c0 c1 c2 c3 hu5
    go_wp2_with (at_builtin; refine wpList_append_run rfl _ _ 79 79 rfl _ _ rfl rfl HR6.out ?_)
    go_region_law (first
      | (refine step_append_runD rfl (.tmp 89) (.tmp 94) 79 79 rfl _ _ (by simp [Act.eval, Act.put]) (by simp [Act.eval, Act.put]) HR8.out ?_)
      | (go_simp
         refine HWi8.out.mono ?_
         rintro e w9 ⟨v9, rfl, hL9, hB9⟩
         have hS9 := HS8.out.below hB9
         obtain ⟨s0, s1, _, _⟩ := hS9.cells
         have sf0 := (hS9.warm 0).2
         have sf1 := (hS9.warm 1).2
         obtain ⟨b9, o9, k9, hv9⟩ : ∃ b9 o9 k9, v9 = .slice (some ⟨b9, o9, none⟩) n k9 := by
           obtain ⟨vb, vo, vc, hvv, _⟩ := hL9
           exact ⟨vb, vo, vc, hvv⟩
         subst hv9
         have HL9 := hid hL9
         have HS9 := hid hS9
         have HU9 := hid (HU8.out.below hB9)
         clear hL9 hB9 hS9))
    all_goals
      obtain ⟨y0, y1, y2, y3, y4, z0, z1, z2, z3, z4⟩ := rsend_fin HS9.out HL9.out HU9.out _ _ rfl rfl
      have yf0 := y4 0
      have yf1 := y4 1
      have HZ := hid (And.intro z2 (And.intro z3 z4))
      obtain ⟨Y, hY⟩ : ∃ Y, Y = (w9.setCell ⟨w.heap.size, 0, none⟩ (.int .i64 room)).setCell ⟨w.heap.size, 1, none⟩ (.slice (some ⟨b9, o9, none⟩) n k9) := ⟨_, rfl⟩
      rw [← hY] at y0 y1 y2 y3 yf0 yf1 z0 z1 HZ ⊢
      have HZ0 := hid z0
      have HZ1 := hid z1
      clear y4 z0 z1 z2 z3 z4 hY s0 s1 sf0 sf1 p0 p1 r0 r1 q1 q2
      try clear x0
      go_wp2
      refine bodyPost_ret (v := .tuple #[.agg #[.int .i64 room, .slice (some ⟨b9, o9, none⟩) n k9], .slice la 0 lk, .int .i64 0]) (by simp [results, Try.results24, go_sem, HZ0.out, HZ1.out]) rfl ?_
      refine ⟨_, _, rfl, ?_, HZ.out.2.1, HZ.out.2.2⟩
      refine HZ.out.1.ext fun j hj => ?_
      by_cases e : j = tn
      · subst e
        rw [if_pos rfl, if_pos rfl, pushed_lt (by omega)]
      · rw [if_neg e, if_neg e]
  · obtain ⟨a0, a1, a2⟩ := HST5.out.fin room (.slice (some ⟨b, off, none⟩) n cap)
    have g0 := (HST5.out.warm 0).1
    have g1 := (HST5.out.warm 1).1
    obtain ⟨Z, hZ⟩ : ∃ Z, Z = (w5.setCell ⟨w.heap.size + 1 + 1, 0, none⟩ (.int .i64 room)).setCell ⟨w.heap.size + 1 + 1, 1, none⟩ (.slice (some ⟨b, off, none⟩) n cap) := ⟨_, rfl⟩
    rw [← hZ] at a0 a1 a2
    have hO' : Owns Z w.heap.size (.slice la 0 lk) (lackS s tn) :=
      owns_off HL5.out HST5.out (fun k h1 h2 => by rw [hZ, heap_setCell_other _ ⟨w.heap.size + 1 + 1, 1, none⟩ k _ (by simpa using h2), heap_setCell_other _ ⟨w.heap.size + 1 + 1, 0, none⟩ k _ (by simpa using h2)])
    have HF := hid (And.intro (HD.out.keep (F' := F) (w' := Z.drew) fun k hk hf => ⟨a2.block k hk, hf⟩) (And.intro (hO'.below (Below.drew (Below.refl _ _))) (Below.drew a2)))
    have HZ := hid hZ
    clear a2 hO' hZ
    go_wp2
    rw [← HZ.out]
    refine bodyPost_ret (v := .tuple #[.agg #[.int .i64 room, .slice (some ⟨b, off, none⟩) n cap], .slice la 0 lk, .int .i64 0]) (by simp [results, Try.results24, go_sem, a0, a1]) rfl ?_
    refine ⟨_, _, rfl, ?_, HF.out.2.1, HF.out.2.2⟩
    refine HF.out.1.ext fun j hj => ?_
    by_cases e : j = tn
    · subst e
      rw [if_pos rfl, pushed_eq (by omega)]
    · rw [if_neg e]

end Go.Proofs.Ytahibklmcooanaa
