/-
  Mailboxes: Send.
-/
import Derived.Test.YtahibklmcooanaaOSend
import Derived.Deep.RegionHeld3
namespace Go.Proofs.Ytahibklmcooanaa
open Go.RowKit
set_option linter.unusedVariables false
set_option linter.unusedSimpArgs false

/-- What Send tells, and what waits behind it. -/
def sendOk (n : Nat) (who to : Int) (s i own : List Int) (op : Bool) (k : Nat) : Bool := decide (errS n who to s i own k = 0) && comes s own to.toNat op
def sendU (n : Nat) (who to : Int) (s i own : List Int) (op : Bool) (k : Nat) : List Int := if sendOk n who to s i own op k then lackS s to.toNat else []
def sendM (room : Int) (m : Nat → List Msg) (n : Nat) (who to : Int) (s i own : List Int) (op : Bool) (x : ByteArray) : Nat → List Msg := if sendOk n who to s i own op x.size then (fun j => if j = to.toNat then pushed room (m to.toNat) (who, x) else m j) else m
theorem errS_zero {n : Nat} {who to : Int} {s i own : List Int} {k : Nat} (h : errS n who to s i own k = 0) : usr n who = true ∧ usr n to = true ∧ catsB own = true ∧ mayB s i = true ∧ k ≤ 1024 := by
  unfold errS at h
  cases h1 : usr n who <;> cases h2 : usr n to <;> cases h3 : catsB own <;> cases h4 : mayB s i <;> by_cases h5 : k ≤ 1024 <;> simp_all

/-- What a call on mailboxes leaves. -/
def PoTurn (w w' : World) (p bx : Nat) (room : Int) (ql : List (Nat × Nat)) (v : Nat → Rg) (m' : Nat → List Msg) : Prop :=
  ∃ v', PoAt w' p bx room ql v' m' ∧ Gr (mine ql v) w w' ∧ ∀ k, mine ql v' k → mine ql v k ∨ w.heap.size ≤ k
theorem PoTurn.of {w w' : World} {p bx : Nat} {room : Int} {ql : List (Nat × Nat)} {v : Nat → Rg} {m : Nat → List Msg} (h : PoAt w p bx room ql v m) (hb : Below w.heap.size w w') : PoTurn w w' p bx room ql v m :=
  ⟨v, h.below hb, Gr.of_below hb _, fun k hk => Or.inl hk⟩
theorem PoTurn.aft {w W w' : World} {p bx : Nat} {room : Int} {ql : List (Nat × Nat)} {v : Nat → Rg} {m : Nat → List Msg} (hb : Below w.heap.size w W) (h : PoTurn W w' p bx room ql v m) : PoTurn w w' p bx room ql v m := by
  obtain ⟨v', h1, h2, h3⟩ := h
  refine ⟨v', h1, (Gr.of_below hb _).trans h2 (fun x _ hx => hx), fun k hk => ?_⟩
  rcases h3 k hk with h | h
  · exact Or.inl h
  · exact Or.inr (Nat.le_trans hb.size h)
theorem PoTurn.then {w W w' : World} {p bx : Nat} {room : Int} {ql : List (Nat × Nat)} {v : Nat → Rg} {m : Nat → List Msg} (h : PoTurn w W p bx room ql v m) (hb : Below W.heap.size W w') : PoTurn w w' p bx room ql v m := by
  obtain ⟨v', h1, h2, h3⟩ := h
  exact ⟨v', h1.below hb, h2.trans (Gr.of_below hb _) (fun x _ hx => hx), h3⟩

set_option maxHeartbeats 2000000 in
theorem send_bad (p bx : Nat) (room : Int) (ql : List (Nat × Nat)) (v : Nat → Rg) (m : Nat → List Msg) (who to : Int) (vs vi vo : Value) (s i own : List Int) (x : ByteArray) (op : Bool) (w : World) (hP : PoAt w p bx room ql v m) (hS : SuAt w vs vi vo s i own) (he : errS ql.length who to s i own x.size ≠ 0) :
    Calls Try.prog 15 #[.pointer (some ⟨p, 0, none⟩), suV who vs vi vo, .int .i64 to, .string x, .bool op] w fun e w' => e = .returned (.tuple #[.slice none 0 0, .int .i64 (errS ql.length who to s i own x.size)]) ∧ Below w.heap.size w w' := by
  obtain ⟨W, hW⟩ : ∃ W, W = w.alloc (.cells #[.int .i64 who, vs, vi, vo] 39) := ⟨_, rfl⟩
  have hbW : Below w.heap.size w W := by rw [hW]; exact below_alloc w _
  have hX : SuBox W w.heap.size who vs vi vo := by rw [hW]; exact SuBox.new _ _ _ _ _
  obtain ⟨c0, c1⟩ := (hP.below hbW).cells
  have hR := hid (refused_any p ql.length _ _ who to vs vi vo s i own x W c0 c1 (hS.below hbW))
  obtain ⟨x0, x1, x2, x3⟩ := hX
  have HB := hid hbW
  have HW := hid hW
  have hsz := hbW.size
  have hne : (errS ql.length who to s i own x.size != 0) = true := by simpa using he
  clear hP hS hW hbW he
  generalize errS ql.length who to s i own x.size = E at *
  unfold suV at *
  go_enter Try.func15, Try.ntmps15
  go_wp2_with fail
  rw [← HW.out]
  clear HW
  go_wp2_with fail
  refine hR.out.mono ?_
  rintro e w1 ⟨rfl, hB1⟩
  have HB1 := hid (HB.out.trans (hB1.mono hsz))
  clear hB1 hR
  go_wp2
  go_ret2
  exact ⟨rfl, HB1.out⟩

set_option maxHeartbeats 4000000 in
theorem send_ok (p bx : Nat) (room : Int) (ql : List (Nat × Nat)) (v : Nat → Rg) (m : Nat → List Msg) (who : Int) (to : Nat) (vs vi vo : Value) (s i own : List Int) (x : ByteArray) (op : Bool) (w : World) (hP : PoAt w p bx room ql v m) (hS : SuAt w vs vi vo s i own) (he : errS ql.length who to s i own x.size = 0) :
    Calls Try.prog 15 #[.pointer (some ⟨p, 0, none⟩), suV who vs vi vo, .int .i64 to, .string x, .bool op] w fun e w' => ∃ u, e = .returned (.tuple #[u, .int .i64 0]) ∧ Owns w' w.heap.size u (if comes s own to op then lackS s to else []) ∧ PoTurn w w' p bx room ql v (if comes s own to op then (fun j => if j = to then pushed room (m to) (who, x) else m j) else m) := by
  have HLT := hid (fun k hk => hP.lt k hk)
  obtain ⟨cm, hcm⟩ : ∃ cm, comes s own to op = cm := ⟨_, rfl⟩
  rw [hcm]
  have HCM := hid hcm
  clear hcm
  obtain ⟨hu1, hu2, hcats, hmay, hlen⟩ := errS_zero he
  have hto : to < ql.length := by
    rw [usr_nat] at hu2
    simpa using hu2
  obtain ⟨W, hW⟩ : ∃ W, W = w.alloc (.cells #[.int .i64 who, vs, vi, vo] 39) := ⟨_, rfl⟩
  have hbW : Below w.heap.size w W := by rw [hW]; exact below_alloc w _
  have hX : SuBox W w.heap.size who vs vi vo := by rw [hW]; exact SuBox.new _ _ _ _ _
  have hblk : W.heap[w.heap.size]? = some (.cells #[.int .i64 who, vs, vi, vo] 39 (0, 0)) := by rw [hW]; exact heap_alloc_new w _
  have hwl : w.heap.size < W.heap.size := by rw [hW]; simp
  have hPW := hP.below hbW
  have hSW := hS.below hbW
  obtain ⟨c0, c1⟩ := hPW.cells
  have hR := hid (refused_any p ql.length _ _ who to vs vi vo s i own x W c0 c1 hSW)
  rw [he] at hR
  have HX := hid hX
  obtain ⟨x0, x1, x2, x3⟩ := hX
  have HB := hid hbW
  have HW := hid hW
  have HP := hid hPW
  have HS := hid hSW
  have HK := hid hblk
  have n2 := hPW.n2
  clear hP hS hW hbW he hPW hSW c0 c1 hblk hu1 hu2 hlen
  unfold suV at *
  go_enter Try.func15, Try.ntmps15
  go_wp2_with fail
  rw [← HW.out]
  clear HW
  go_wp2_with fail
  refine hR.out.mono ?_
  rintro e w1 ⟨rfl, hB1⟩
  clear hR x0 x1 x2 x3
  obtain ⟨x0, x1, x2, x3⟩ := HX.out.below hB1
  have hP1 := HP.out.below hB1
  have hS1 := HS.out.below hB1
  obtain ⟨c0, c1⟩ := hP1.cells
  obtain ⟨b0, b1, b2⟩ := hP1.boxes to hto
  obtain ⟨W2, hW2⟩ : ∃ W2, W2 = w1.alloc (.cells #[.pointer (some ⟨qq ql to, 0, none⟩), .slice (some ⟨lbb ql to, 0, none⟩) 1 1, .slice none 0 0] 69) := ⟨_, rfl⟩
  have hb2 : Below w1.heap.size w1 W2 := by rw [hW2]; exact below_alloc w1 _
  have hbb2 : Below w.heap.size w W2 := (HB.out.trans (hB1.mono HB.out.size)).trans (hb2.mono (Nat.le_trans HB.out.size hB1.size))
  have k0 : W2.cell? ⟨w1.heap.size, 0, none⟩ = some (.pointer (some ⟨qq ql to, 0, none⟩)) := by rw [hW2]; simp
  have k1 : W2.cell? ⟨w1.heap.size, 1, none⟩ = some (.slice (some ⟨lbb ql to, 0, none⟩) 1 1) := by rw [hW2]; simp
  have k2 : W2.cell? ⟨w1.heap.size, 2, none⟩ = some (.slice none 0 0) := by rw [hW2]; simp
  have hP2 := hP1.below hb2
  have hS2 := hS1.below hb2
  have hX2 : SuBox W2 w.heap.size who vs vi vo := (HX.out.below hB1).below hb2
  have hK2 : W2.heap[w.heap.size]? = some (.cells #[.int .i64 who, vs, vi, vo] 39 (0, 0)) := by
    rw [hb2.block _ (Nat.lt_of_lt_of_le hwl hB1.size), hB1.block _ hwl]; exact HK.out
  have hM2 : W2.heap[w1.heap.size]? = some (.cells #[.pointer (some ⟨qq ql to, 0, none⟩), .slice (some ⟨lbb ql to, 0, none⟩) 1 1, .slice none 0 0] 69 (0, 0)) := by rw [hW2]; exact heap_alloc_new w1 _
  have hLe := hid (lets_any (qq ql to) (lbb ql to) to (by omega) who vs vi vo s i own op W2 hS2 hmay hcats (hP2.label to hto))
  unfold suV at hLe
  rw [HCM.out] at hLe
  have HP2 := hid hP2
  have HX2 := hid hX2
  have HB2 := hid hbb2
  have HW2 := hid hW2
  have HK2 := hid hK2
  have HM2 := hid hM2
  have hs2 : w1.heap.size < W2.heap.size := by rw [hW2]; simp
  have hs3 : w.heap.size < W2.heap.size := by have := hB1.size; have := hb2.size; omega
  have hlt2 : (to : Int) < ql.length := by omega
  have hne1 : w.heap.size < w1.heap.size := by have := hB1.size; omega
  have x0' : W2.cell? ⟨w.heap.size, 0, none⟩ = some (.int .i64 who) := hX2.1
  clear hB1 HP HS HX HK hP1 hS1 hb2 hbb2 hW2 hP2 hS2 hX2 hK2 hM2 HB hwl hmay hcats
  go_wp2_with fail
  rw [← HW2.out]
  clear HW2 x0 x1 x2 x3 c0 c1 b0 b1 b2 hne1 x0'
  refine hLe.out.mono ?_
  rintro e w3 ⟨u, rfl, hO3, hB3⟩
  clear hLe
  have HB3 := hid (HB2.out.trans (hB3.mono HB2.out.size))
  have HO3 := hid (owns_le hO3 HB2.out.size)
  have HP3 := hid (HP2.out.below hB3)
  have y0 := (hB3.cell (World.block_lt_of_cell? W2 _ k0)).trans k0
  obtain ⟨x0, x1, x2, x3⟩ := HX2.out.below hB3
  have HK3 := hid (show w3.heap[w.heap.size]? = _ from (hB3.block _ hs3).trans HK2.out)
  have HM3 := hid (show w3.heap[w1.heap.size]? = _ from (hB3.block _ hs2).trans HM2.out)
  have hs4 : w1.heap.size < w3.heap.size := Nat.lt_of_lt_of_le hs2 hB3.size
  have hs5 : w.heap.size < w3.heap.size := Nat.lt_of_lt_of_le hs3 hB3.size
  clear k0 k1 k2 HX2 HP2 HK2 HM2 hO3 hB3 x1 x2 x3 hs2 hs3
  cases cm
  · simp only [Bool.false_eq_true, if_false] at HO3 ⊢
    go_wp2
    go_ret2
    exact ⟨_, rfl, World.ownsRow_nil _ _ _ _, ⟨v, HP3.out, Gr.of_below HB3.out _, fun k hk => Or.inl hk⟩⟩
  · simp only [if_true] at HO3 ⊢
    have HFr := hid (freshText_any x)
    have HPu := hid (fun w4 (h4 : Below w3.heap.size w3 w4) => push_any (qq ql to) room (v to).drops (who, x) (v to).rv (v to).f (v to).rs (m to) w4 ((HP3.out.below h4).box to hto) ((HP3.out.below h4).dr to hto))
    unfold Mq.mV at HPu
    go_wp2_with fail
    go_region_held3 (fun w' => w'.cell? ⟨w1.heap.size, 0, none⟩ = some (.pointer (some ⟨qq ql to, 0, none⟩)) ∧ w'.cell? ⟨w.heap.size, 0, none⟩ = some (.int .i64 who))
      (first | (refine ⟨?_, ?_⟩ <;> first | assumption | go_keep))
      (first
        | (go_at_call 33; refine (HFr.out _).mono ?_; clear HFr; rintro e w4 ⟨rfl, hB4⟩
           have hB34 : Below w3.heap.size w3 w4 := (Below.drew (Below.refl _ _)).trans hB4
           have y0' := (hB34.cell (World.block_lt_of_cell? w3 _ y0)).trans y0
           have x0' := (hB34.cell (World.block_lt_of_cell? w3 _ x0)).trans x0
           have HB34 := hid hB34
           clear hB4 hB34 y0 x0)
        | (go_at_call 32; refine (HPu.out _ HB34.out).mono ?_; clear HPu; rintro e w5 ⟨⟨b5, rfl⟩, d5, rv5, f5, rs5, hQ5, hT5, hF5, hd5⟩
           have hTT := (HP3.out.below HB34.out).turn to hto hQ5 hT5 hF5 hd5
           have hq0 := ((HP3.out.below HB34.out).box to hto).lies
           have hown0 := ((HP3.out.below HB34.out).box to hto).own
           have hM4 := (HB34.out.block _ hs4).trans HM3.out
           have hK4 := (HB34.out.block _ hs5).trans HK3.out
           unfold Mq.Lies at hq0
           have hM5 := hT5.block w1.heap.size (Nat.lt_of_lt_of_le hs4 HB34.out.size) (ty_ne hM4 hq0 (by decide)) (fun e => by obtain ⟨cur, hc⟩ := ownsRow_ty hown0 e.symm; exact ty_ne hM4 hc (by decide) rfl)
           have hK5 := hT5.block w.heap.size (Nat.lt_of_lt_of_le hs5 HB34.out.size) (ty_ne hK4 hq0 (by decide)) (fun e => by obtain ⟨cur, hc⟩ := ownsRow_ty hown0 e.symm; exact ty_ne hK4 hc (by decide) rfl)
           have y5 := (Mq.World.cell?_of_block hM5 0).trans y0'
           have x5 := (Mq.World.cell?_of_block hK5 0).trans x0'
           have HTT := hid hTT
           clear hTT hQ5 hT5 hF5 hd5 hq0 hown0 hM4 hK4 hM5 hK5 y0' x0'))
    have HB4 := hid (HB3.out.trans (HB34.out.mono HB3.out.size))
    have HO4 := hid (HO3.out.below HB34.out)
    obtain ⟨ao, nn, cc, huv⟩ : ∃ ao nn cc, u = .slice ao nn cc := by
      obtain ⟨b, off, ao, cap, hv, _⟩ := HO4.out.sees
      exact ⟨ao, _, cap, hv⟩
    subst huv
    go_wp2
    go_ret2
    refine ⟨_, rfl, ?_, ⟨_, HTT.out.1, (Gr.of_below HB4.out _).trans HTT.out.2.1 (fun x _ hx => hx), fun k hk => ?_⟩⟩
    · refine ownsRow_same HO4.out fun j hj => HTT.out.2.1.block j (HO4.out.lt j hj).2 (fun hm => ?_)
      have h1 := (HO4.out.lt j hj).1
      have h2 := HLT.out j (Or.inr (Or.inr (Or.inr hm)))
      omega
    · rcases HTT.out.2.2 k hk with h | h
      · exact Or.inl h
      · exact Or.inr (Nat.le_trans HB4.out.size h)
end Go.Proofs.Ytahibklmcooanaa
