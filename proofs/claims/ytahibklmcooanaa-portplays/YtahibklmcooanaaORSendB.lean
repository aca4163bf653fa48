/-
  The document's mailboxes: Send where the message may be sent.
-/
import Derived.Test.YtahibklmcooanaaORMsg
namespace Go.Proofs.Ytahibklmcooanaa
open Go.RowKit
set_option linter.unusedVariables false
set_option linter.unusedSimpArgs false

theorem step_append_runD {ops : Array Oper} {o : Oper} {a : Act} {w : World} {K : Act → World → Prop} {Q : Exit → Act → World → Prop} {E : Prop}
    (hg : o.guard = none) (d x : Operand) (dT sT : TypeId) (hop : o.op = Op.call { callee := Callee.builtin Builtin.append, args := #[d, x], argTypes := #[dT, sT] })
    (v u : Value) (hd : a.eval d = v) (hx : a.eval x = u) {v' : Value} {w' : World} (hr : (Builtin.append_ #[dT, sT] o.type #[v, u]).run Try.prog w = .ok v' w') (hK : K (a.put o.dst v') w') :
    if Region.wanted o (yielded ops a.tmps) = true then Oper.wp Try.prog o a w K Q else E := by
  have hw : Region.wanted o (yielded ops a.tmps) = true := by simp [Region.wanted, hg]
  rw [if_pos hw]
  unfold Oper.wp
  simp [execOp, hop, resolve, invoke, builtin, hd, hx, hr, Result.andThen]
  exact hK
/-- What a list of numbers keeps where blocks of another kind are turned. -/
theorem owns_off {w X Z : World} {base : Nat} {u : Value} {l : List Int} {room : Int} {vL : Value} {who : Int} {vs vi vo : Value} (hO : Owns X base u l) (hS : SAt w X room vL who vs vi vo) (hk : ∀ k, k ≠ w.heap.size → k ≠ w.heap.size + 2 → Z.heap[k]? = X.heap[k]?) : Owns Z base u l := by
  refine ownsRow_same hO fun j hj => ?_
  obtain ⟨cur, hc⟩ := ownsRow_ty hO hj
  exact hk j (ty_ne hc hS.b0 (by decide)) (ty_ne hc hS.b2 (by decide))
theorem SAt.low {w X Y : World} {room : Int} {vL : Value} {who : Int} {vs vi vo : Value} {B : Nat} (h : SAt w X room vL who vs vi vo) (hb : Below B X Y) (hB : w.heap.size + 2 < B) : SAt w Y room vL who vs vi vo :=
  ⟨(hb.block _ (by omega)).trans h.b0, (hb.block _ (by omega)).trans h.b1, (hb.block _ (by omega)).trans h.b2, h.bel.trans (hb.mono (by omega))⟩
/-- The end of the document's Send where the list was turned. -/
theorem rsend_fin {F : Nat → Prop} {w w9 : World} {room : Int} {vL v9 u : Value} {who : Int} {vs vi vo : Value} {n : Nat} {d : Nat → List Msg} {l : List Int} (hS : SAt w w9 room vL who vs vi vo) (hL : LSees (fun k => F k ∨ k = w.heap.size ∨ k = w.heap.size + 2) w9 v9 n d) (hO : Owns w9 w.heap.size u l) (Y Z : World) (hY : Y = (w9.setCell ⟨w.heap.size, 0, none⟩ (.int .i64 room)).setCell ⟨w.heap.size, 1, none⟩ v9) (hZ : Z = (Y.setCell ⟨w.heap.size + 1 + 1, 0, none⟩ (.int .i64 room)).setCell ⟨w.heap.size + 1 + 1, 1, none⟩ v9) :
    Y.cell? ⟨w.heap.size, 0, none⟩ = some (.int .i64 room) ∧ Y.cell? ⟨w.heap.size, 1, none⟩ = some v9 ∧ Y.cell? ⟨w.heap.size + 1 + 1, 0, none⟩ = some (.int .i64 0) ∧ Y.cell? ⟨w.heap.size + 1 + 1, 1, none⟩ = some (.slice none 0 0) ∧ (∀ j, Y.frozen? ⟨w.heap.size + 1 + 1, j, none⟩ = false) ∧ Z.cell? ⟨w.heap.size + 1 + 1, 0, none⟩ = some (.int .i64 room) ∧ Z.cell? ⟨w.heap.size + 1 + 1, 1, none⟩ = some v9 ∧ LSees F Z v9 n d ∧ Owns Z w.heap.size u l ∧ Below w.heap.size w Z := by
  obtain ⟨c0, c1, c2, c3⟩ := hS.cells
  obtain ⟨a0, a1⟩ := Mq.set2 (u := .int .i64 room) (v := v9) c0 c1
  rw [← hY] at a0 a1
  have y2 : Y.cell? ⟨w.heap.size + 1 + 1, 0, none⟩ = some (.int .i64 0) := by rw [hY, World.cell?_setCell_far _ _ _ _ (by simp; omega), World.cell?_setCell_far _ _ _ _ (by simp; omega)]; exact c2
  have y3 : Y.cell? ⟨w.heap.size + 1 + 1, 1, none⟩ = some (.slice none 0 0) := by rw [hY, World.cell?_setCell_far _ _ _ _ (by simp; omega), World.cell?_setCell_far _ _ _ _ (by simp; omega)]; exact c3
  have yf : ∀ j, Y.frozen? ⟨w.heap.size + 1 + 1, j, none⟩ = false := fun j => by rw [hY]; simpa using (hS.warm j).1
  obtain ⟨b0, b1⟩ := Mq.set2 (u := .int .i64 room) (v := v9) y2 y3
  rw [← hZ] at b0 b1
  have hk : ∀ k, k ≠ w.heap.size → k ≠ w.heap.size + 2 → Z.heap[k]? = w9.heap[k]? := fun k h1 h2 => by
    rw [hZ, heap_setCell_other _ ⟨w.heap.size + 1 + 1, 1, none⟩ k _ (by simpa using h2), heap_setCell_other _ ⟨w.heap.size + 1 + 1, 0, none⟩ k _ (by simpa using h2), hY, heap_setCell_other _ ⟨w.heap.size, 1, none⟩ k _ (by simpa using h1), heap_setCell_other _ ⟨w.heap.size, 0, none⟩ k _ (by simpa using h1)]
  refine ⟨a0, a1, y2, y3, yf, b0, b1, hL.keep fun k _ hf => ⟨hk k (fun e => hf (Or.inr (Or.inl e))) (fun e => hf (Or.inr (Or.inr e))), fun h => hf (Or.inl h)⟩, owns_off hO hS hk, ?_⟩
  rw [hZ, hY]
  exact (((hS.bel.setCell (by simp) _).setCell (by simp) _).setCell (by simp; omega) _).setCell (by simp; omega) _
theorem pushed_eq {room : Int} {l : List Msg} {x : Msg} (h : ¬ (l.length : Int) < room) : pushed room l x = l := by unfold pushed; rw [if_neg h]
theorem pushed_lt {room : Int} {l : List Msg} {x : Msg} (h : (l.length : Int) < room) : pushed room l x = l ++ [x] := by unfold pushed; rw [if_pos h]

set_option maxRecDepth 20000 in
set_option maxHeartbeats 4000000 in
theorem rsend_no (room : Int) (vL : Value) (n : Nat) (who : Int) (tn : Nat) (vs vi vo : Value) (s i own : List Int) (x : ByteArray) (op : Bool) (F : Nat → Prop) (d : Nat → List Msg) (w : World) (hD : LSees F w vL n d) (hSu : SuAt w vs vi vo s i own) (hu1 : usr n who = true) (htn : tn < n) (hn16 : n ≤ 16) (hcats : catsB own = true) (hmay : mayB s i = true) (hx : x.size ≤ 1024) (hcm : comes s own tn op = false) :
    Calls Try.prog 24 #[poV room vL, suV who vs vi vo, .int .i64 tn, .string x, .bool op] w fun e w' => e = .returned (.tuple #[poV room vL, .slice none 0 0, .int .i64 0]) ∧ Below w.heap.size w w' := by
  have hne : lackS s tn ≠ [] := by
    intro h
    unfold comes at hcm
    rw [h] at hcm
    have : withinB [] (if op then own else []) = true := by rw [withinB_iff]; intro y hy; simp at hy
    rw [this] at hcm
    cases hcm
  have HD := hid hD
  obtain ⟨b, off, cap, hv, hc, hn1, hf, hcell⟩ := hD
  subst hv
  have hS := SAt.new w room (.slice (some ⟨b, off, none⟩) n cap) who vs vi vo
  obtain ⟨W, hW⟩ : ∃ W, W = sW w room (.slice (some ⟨b, off, none⟩) n cap) who vs vi vo := ⟨_, rfl⟩
  rw [← hW] at hS
  unfold sW at hW
  have HST := hid hS
  obtain ⟨c0, c1, c2, c3⟩ := hS.cells
  obtain ⟨x0, x1, x2, x3⟩ := hS.su
  have HW := hid hW
  clear hW hS hcell
  unfold poV suV
  obtain ⟨wn, hwn, rfl⟩ := usr_iff.1 hu1
  have h1 : ¬ (wn : Int) < 0 := by omega
  have h2 : ¬ (n : Int) ≤ wn := by omega
  have h3 : ¬ (tn : Int) < 0 := by omega
  have h4 : ¬ (n : Int) ≤ tn := by omega
  have h2' : ¬ n ≤ wn := by omega
  have h4' : ¬ n ≤ tn := by omega
  have hSW := hSu.below HST.out.bel
  have hCa := cats_any vo own W hSW.so hSW.lo
  rw [hcats] at hCa
  have HCa := hid hCa
  have hls : s.length ≤ 64 := (mayB_iff.1 hmay).1.1
  have hlo := catsB_len hcats
  have HMy := hid (fun w1 (hb : Below W.heap.size W w1) => (show Calls Try.prog 39 #[.agg #[vs, vi]] w1 fun e w' => e = .returned (.bool true) ∧ Below w1.heap.size w1 w' from by
    have h := may_any (.agg #[vs, vi]) s i w1 ⟨_, _, rfl, hSW.ss.below hb, hSW.si.below hb, hSW.ls, hSW.li⟩
    rw [hmay] at h
    exact h))
  have HSu := hid hSu
  have hx' : ¬ (1024 : Int) < x.size := by omega
  have HLS := hid hls
  have HLO := hid hlo
  clear hmay hSu hSW hCa hu1 hcats hls hlo
  cases op
  · clear hcm
    go_enter Try.func24, Try.ntmps24
    iterate 12 (first | go_values | go_skip | go_guarded | go_step | go_upon | go_back | go_simp)
    rw [← HW.out]
    clear HW
    go_wp2_with fail
    refine HCa.out.mono ?_
    clear HCa x0 x1 x2 x3 c0 c1 c2 c3
    rintro e w1 ⟨rfl, hB1⟩
    have HST1 := hid (HST.out.below hB1)
    have HMa := hid (HMy.out w1 hB1)
    obtain ⟨x0, x1, x2, x3⟩ := HST1.out.su
    clear hB1 HMy HST
    go_wp2_with fail
    refine HMa.out.mono ?_
    clear HMa x0 x1 x2 x3
    rintro e w2 ⟨rfl, hB2⟩
    have HST2 := hid (HST1.out.below hB2)
    obtain ⟨x0, x1, x2, x3⟩ := HST2.out.su
    have HLa := hid (rlacks_any tn (by omega) (wn : Int) vs vi vo s i own w2 (HSu.out.below HST2.out.bel) HLS.out)
    unfold suV at HLa
    clear hB2 HST1
    go_wp2_with fail
    refine HLa.out.mono ?_
    clear HLa x0 x1 x2 x3
    rintro e w3 ⟨lv, rfl, hO3, hB3⟩
    have HST3 := hid (HST2.out.below hB3)
    have HL3 := hid (owns_le hO3 HST2.out.bel.size)
    obtain ⟨la, lk, hlv⟩ : ∃ la lk, lv = .slice la (lackS s tn).length lk := by
      obtain ⟨bb, oo, ao, kk, hv, _⟩ := hO3.sees
      exact ⟨ao, kk, hv⟩
    subst hlv
    obtain ⟨x0, x1, x2, x3⟩ := HST3.out.su
    clear hO3 hB3 HST2
    have hz : ((0 : Int) < ((lackS s tn).length : Int)) := by
      have := List.length_pos_iff.2 hne
      omega
    have hzd : decide ((0 : Int) < ((lackS s tn).length : Int)) = true := by simpa using hz
    clear hne
    have HST := HST3
    clear x1 x2 x3
    obtain ⟨c0, c1, c2, c3⟩ := HST.out.cells
    obtain ⟨a0, a1, a2⟩ := HST.out.fin room (.slice (some ⟨b, off, none⟩) n cap)
    have g0 := (HST.out.warm 0).1
    have g1 := (HST.out.warm 1).1
    have HB := hid a2
    clear a2
    go_wp2
    refine bodyPost_ret (v := .tuple #[.agg #[.int .i64 room, .slice (some ⟨b, off, none⟩) n cap], .slice none 0 0, .int .i64 0]) (by simp [results, Try.results24, go_sem, a0, a1]) rfl ?_
    exact ⟨rfl, HB.out⟩
  · have hwi : withinB (lackS s tn) own = false := by
      unfold comes at hcm
      simpa using hcm
    clear hcm
    go_enter Try.func24, Try.ntmps24
    iterate 12 (first | go_values | go_skip | go_guarded | go_step | go_upon | go_back | go_simp)
    rw [← HW.out]
    clear HW
    go_wp2_with fail
    refine HCa.out.mono ?_
    clear HCa x0 x1 x2 x3 c0 c1 c2 c3
    rintro e w1 ⟨rfl, hB1⟩
    have HST1 := hid (HST.out.below hB1)
    have HMa := hid (HMy.out w1 hB1)
    obtain ⟨x0, x1, x2, x3⟩ := HST1.out.su
    clear hB1 HMy HST
    go_wp2_with fail
    refine HMa.out.mono ?_
    clear HMa x0 x1 x2 x3
    rintro e w2 ⟨rfl, hB2⟩
    have HST2 := hid (HST1.out.below hB2)
    obtain ⟨x0, x1, x2, x3⟩ := HST2.out.su
    have HLa := hid (rlacks_any tn (by omega) (wn : Int) vs vi vo s i own w2 (HSu.out.below HST2.out.bel) HLS.out)
    unfold suV at HLa
    clear hB2 HST1
    go_wp2_with fail
    refine HLa.out.mono ?_
    clear HLa x0 x1 x2 x3
    rintro e w3 ⟨lv, rfl, hO3, hB3⟩
    have HST3 := hid (HST2.out.below hB3)
    have HL3 := hid (owns_le hO3 HST2.out.bel.size)
    obtain ⟨la, lk, hlv⟩ : ∃ la lk, lv = .slice la (lackS s tn).length lk := by
      obtain ⟨bb, oo, ao, kk, hv, _⟩ := hO3.sees
      exact ⟨ao, kk, hv⟩
    subst hlv
    obtain ⟨x0, x1, x2, x3⟩ := HST3.out.su
    clear hO3 hB3 HST2
    have hz : ((0 : Int) < ((lackS s tn).length : Int)) := by
      have := List.length_pos_iff.2 hne
      omega
    have hzd : decide ((0 : Int) < ((lackS s tn).length : Int)) = true := by simpa using hz
    clear hne
    have hll := length_lessL s [2 * (tn : Int) + 1]
    have hwI := refWithin_any _ _ (lackS s tn) own w3 HL3.out.sees (HSu.out.below HST3.out.bel).so (by have := HLS.out; have := HLO.out; unfold lackS; omega)
    rw [hwi] at hwI
    have HWi := hid hwI
    clear hwI hll hwi
    go_wp2_with fail
    refine HWi.out.mono ?_
    clear HWi x0 x1 x2 x3
    rintro e w4 ⟨rfl, hB4⟩
    have HST := hid (HST3.out.below hB4)
    clear hB4 HST3
    obtain ⟨c0, c1, c2, c3⟩ := HST.out.cells
    obtain ⟨a0, a1, a2⟩ := HST.out.fin room (.slice (some ⟨b, off, none⟩) n cap)
    have g0 := (HST.out.warm 0).1
    have g1 := (HST.out.warm 1).1
    have HB := hid a2
    clear a2
    go_wp2
    refine bodyPost_ret (v := .tuple #[.agg #[.int .i64 room, .slice (some ⟨b, off, none⟩) n cap], .slice none 0 0, .int .i64 0]) (by simp [results, Try.results24, go_sem, a0, a1]) rfl ?_
    exact ⟨rfl, HB.out⟩

end Go.Proofs.Ytahibklmcooanaa
