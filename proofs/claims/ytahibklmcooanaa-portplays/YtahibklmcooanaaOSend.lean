/-
  Mailboxes: refused, lets.
-/
import Derived.Test.YtahibklmcooanaaOUser
namespace Go.Proofs.Ytahibklmcooanaa
open Go.RowKit
set_option linter.unusedVariables false
set_option linter.unusedSimpArgs false

theorem sees_nil (w : World) : Sees w (.slice none 0 0) [] := ⟨0, 0, none, 0, rfl, Nat.le_refl _, fun _ => rfl, fun h => absurd rfl h, fun j hj => by simp at hj⟩
theorem mayB_nil : mayB [] [] = true := by simp [mayB, okB, catsB_nil]
theorem lacks_nil : lacksL [] [] [] [] = [] := by simp [lacksL, lessL, sd_nil]
theorem within_nil (own : List Int) : withinB [] own = true := by simp [withinB, lessL, sd_nil]
theorem flowsE_nil (own : List Int) : flowsE [] [] [] [] own = if catsB own then 0 else 1 := by
  unfold flowsE
  rw [mayB_nil, lacks_nil, within_nil]
  simp
/-- What a subject is. -/
structure SuAt (w : World) (vs vi vo : Value) (s i own : List Int) : Prop where
  ss : Sees w vs s
  si : Sees w vi i
  so : Sees w vo own
  ls : s.length ≤ 4611686018427387904
  li : i.length ≤ 4611686018427387904
  lo : own.length ≤ 4611686018427387904
theorem SuAt.below {w w' : World} {vs vi vo : Value} {s i own : List Int} (h : SuAt w vs vi vo s i own) (hb : Below w.heap.size w w') : SuAt w' vs vi vo s i own := ⟨h.ss.below hb, h.si.below hb, h.so.below hb, h.ls, h.li, h.lo⟩
def suV (who : Int) (vs vi vo : Value) : Value := .agg #[.int .i64 who, vs, vi, vo]
/-- At b lies a subject. -/
def SuBox (w : World) (b : Nat) (who : Int) (vs vi vo : Value) : Prop := w.cell? ⟨b, 0, none⟩ = some (.int .i64 who) ∧ w.cell? ⟨b, 1, none⟩ = some vs ∧ w.cell? ⟨b, 2, none⟩ = some vi ∧ w.cell? ⟨b, 3, none⟩ = some vo
theorem SuBox.new (w : World) (who : Int) (vs vi vo : Value) : SuBox (w.alloc (.cells #[.int .i64 who, vs, vi, vo] 39)) w.heap.size who vs vi vo := ⟨by simp, by simp, by simp, by simp⟩
theorem SuBox.below {w w' : World} {b : Nat} {who : Int} {vs vi vo : Value} (h : SuBox w b who vs vi vo) (hb : Below w.heap.size w w') : SuBox w' b who vs vi vo :=
  ⟨(hb.cell (World.block_lt_of_cell? w _ h.1)).trans h.1, (hb.cell (World.block_lt_of_cell? w _ h.2.1)).trans h.2.1, (hb.cell (World.block_lt_of_cell? w _ h.2.2.1)).trans h.2.2.1, (hb.cell (World.block_lt_of_cell? w _ h.2.2.2)).trans h.2.2.2⟩

def errS (n : Nat) (who to : Int) (s i own : List Int) (k : Nat) : Int := if usr n who && usr n to then (if catsB own then (if mayB s i then (if k ≤ 1024 then 0 else 4) else 20) else 1) else 1

set_option maxHeartbeats 2000000 in
theorem refused_any (p n : Nat) (ao : Option Addr) (c : Nat) (who to : Int) (vs vi vo : Value) (s i own : List Int) (x : ByteArray) (w : World) (h0 : w.cell? ⟨p, 0, none⟩ = some (.pointer (some ⟨p, 0, none⟩))) (h1 : w.cell? ⟨p, 1, none⟩ = some (.slice ao n c)) (hS : SuAt w vs vi vo s i own) :
    Calls Try.prog 30 #[.pointer (some ⟨p, 0, none⟩), suV who vs vi vo, .int .i64 to, .string x] w fun e w' => e = .returned (.int .i64 (errS n who to s i own x.size)) ∧ Below w.heap.size w w' := by
  obtain ⟨W, hW⟩ : ∃ W, W = w.alloc (.cells #[.int .i64 who, vs, vi, vo] 39) := ⟨_, rfl⟩
  have hbW : Below w.heap.size w W := by rw [hW]; exact below_alloc w _
  have hX : SuBox W w.heap.size who vs vi vo := by rw [hW]; exact SuBox.new _ _ _ _ _
  have d0 := (hbW.cell (p := ⟨p, 0, none⟩) (World.block_lt_of_cell? w _ h0)).trans h0
  have d1 := (hbW.cell (p := ⟨p, 1, none⟩) (World.block_lt_of_cell? w _ h1)).trans h1
  have hS' := hS.below hbW
  have hU1 := hid (isUser_yes p n ao c who W d0 d1)
  have hU2 := hid (isUser_yes p n ao c to W d0 d1)
  have hFl := hid (flows_any (.agg #[.slice none 0 0, .slice none 0 0]) (.agg #[.slice none 0 0, .slice none 0 0]) vo [] [] [] [] own W ⟨_, _, rfl, sees_nil W, sees_nil W, by simp, by simp⟩ ⟨_, _, rfl, sees_nil W, sees_nil W, by simp, by simp⟩ hS'.so hS'.lo)
  rw [flowsE_nil] at hFl
  have hCk := hid (fun w1 (h : Below W.heap.size W w1) => check_any vs vi s i w1 (hS'.ss.below h) (hS'.si.below h) hS'.ls hS'.li)
  have HX := hid hX
  obtain ⟨x0, x1, x2, x3⟩ := hX
  have HB := hid hbW
  have HW := hid hW
  have hsz := hbW.size
  clear h0 h1 hS hS' d0 d1 hW hbW
  unfold errS
  generalize usr n who = b1 at *
  generalize usr n to = b2 at *
  generalize catsB own = b3 at *
  generalize mayB s i = b4 at *
  unfold suV
  go_enter Try.func30, Try.ntmps30
  go_wp2_with fail
  rw [← HW.out]
  clear HW
  go_wp2_with fail
  refine hU1.out.mono ?_
  rintro e w1 ⟨rfl, hw1⟩
  subst hw1
  cases b1
  · go_wp2
    go_ret
    exact ⟨by simp, HB.out⟩
  go_wp2_with fail
  refine hU2.out.mono ?_
  rintro e w2 ⟨rfl, hw2⟩
  subst hw2
  cases b2
  · go_wp2
    go_ret
    exact ⟨by simp, HB.out⟩
  go_wp2_with fail
  refine hFl.out.mono ?_
  rintro e w3 ⟨v3, rfl, hO3, hB3⟩
  obtain ⟨x0, x1, x2, x3⟩ := HX.out.below hB3
  have HB3 := hid (HB.out.trans (hB3.mono hsz))
  have hck := hid (hCk.out w3 hB3)
  clear hFl hO3 hB3 hCk HX
  cases b3
  · go_wp2
    go_ret
    exact ⟨by simp, HB3.out⟩
  go_wp2_with fail
  refine hck.out.mono ?_
  rintro e w4 ⟨rfl, hB4⟩
  have HB4 := hid (HB3.out.trans (hB4.mono HB3.out.size))
  clear hck hB4
  cases b4
  · unfold errOf
    go_wp2
    go_ret
    exact ⟨by simp, HB4.out⟩
  unfold errOf
  by_cases hk : x.size ≤ 1024
  · have hk' : ¬ (1024 : Int) < x.size := by omega
    go_wp2
    go_ret
    exact ⟨by simp [hk], HB4.out⟩
  · have hk' : (1024 : Int) < x.size := by omega
    go_wp2
    go_ret
    exact ⟨by simp [hk], HB4.out⟩

/-- What a message lacks, and whether it comes. -/
def lackS (s : List Int) (to : Nat) : List Int := lessL s [2 * (to : Int) + 1]
def comes (s own : List Int) (to : Nat) (op : Bool) : Bool := withinB (lackS s to) (if op then own else [])
theorem may_box (to : Nat) (h : to ≤ 1000) : mayB [2 * (to : Int) + 1] [] = true := by
  rw [mayB_iff]
  refine ⟨⟨by simp, ⟨by simp, ?_⟩⟩, ⟨by simp, catsP_nil⟩⟩
  intro x hx
  simp at hx
  omega
theorem lacks_box (s i : List Int) (to : Nat) : lacksL s i [2 * (to : Int) + 1] [] = lackS s to := by
  unfold lacksL lackS
  have e : lessL [] i = [] := by simp [lessL, sd_nil]
  rw [e, List.append_nil]
  exact sd_self (lessL_rises _ _)

set_option maxHeartbeats 2000000 in
theorem lets_any (q lb to : Nat) (hto : to ≤ 1000) (who : Int) (vs vi vo : Value) (s i own : List Int) (op : Bool) (w : World) (hS : SuAt w vs vi vo s i own) (hm : mayB s i = true) (hc : catsB own = true) (hL : Sees w (.slice (some ⟨lb, 0, none⟩) 1 1) [2 * (to : Int) + 1]) :
    Calls Try.prog 31 #[.agg #[.pointer (some ⟨q, 0, none⟩), .slice (some ⟨lb, 0, none⟩) 1 1, .slice none 0 0], suV who vs vi vo, .bool op] w fun e w' => ∃ v, e = .returned (.tuple #[v, .bool (comes s own to op)]) ∧ Owns w' w.heap.size v (if comes s own to op then lackS s to else []) ∧ Below w.heap.size w w' := by
  obtain ⟨W0, hW0⟩ : ∃ W0, W0 = w.alloc (.cells #[.pointer (some ⟨q, 0, none⟩), .slice (some ⟨lb, 0, none⟩) 1 1, .slice none 0 0] 69) := ⟨_, rfl⟩
  have hb0 : Below w.heap.size w W0 := by rw [hW0]; exact below_alloc w _
  have hs0 : W0.heap.size = w.heap.size + 1 := by rw [hW0]; simp
  have k0 : W0.cell? ⟨w.heap.size, 1, none⟩ = some (.slice (some ⟨lb, 0, none⟩) 1 1) := by rw [hW0]; simp
  have k1 : W0.cell? ⟨w.heap.size, 2, none⟩ = some (.slice none 0 0) := by rw [hW0]; simp
  obtain ⟨W, hW⟩ : ∃ W, W = W0.alloc (.cells #[.int .i64 who, vs, vi, vo] 39) := ⟨_, rfl⟩
  have hbW : Below W0.heap.size W0 W := by rw [hW]; exact below_alloc W0 _
  have hbb : Below w.heap.size w W := hb0.trans (hbW.mono hb0.size)
  have hX : SuBox W W0.heap.size who vs vi vo := by rw [hW]; exact SuBox.new _ _ _ _ _
  have g0 := (hbW.cell (World.block_lt_of_cell? W0 _ k0)).trans k0
  have g1 := (hbW.cell (World.block_lt_of_cell? W0 _ k1)).trans k1
  have hS' := hS.below hbb
  have hFl := hid (fun (o : Value) (ol : List Int) (ho : Sees W o ol) (hol : ol.length ≤ 4611686018427387904) => flows_any (.agg #[vs, vi]) (.agg #[.slice (some ⟨lb, 0, none⟩) 1 1, .slice none 0 0]) o s i [2 * (to : Int) + 1] [] ol W ⟨_, _, rfl, hS'.ss, hS'.si, hS'.ls, hS'.li⟩ ⟨_, _, rfl, hL.below hbb, sees_nil W, by simp, by simp⟩ ho hol)
  have HF1 := hid (hFl.out vo own hS'.so hS'.lo)
  have HF2 := hid (hFl.out (.slice none 0 0) [] (sees_nil W) (by simp))
  obtain ⟨x0, x1, x2, x3⟩ := hX
  unfold flowsE flowsL at HF1 HF2
  rw [hm, may_box to hto, lacks_box, hc] at HF1
  rw [hm, may_box to hto, lacks_box, catsB_nil] at HF2
  simp only [Bool.and_self, if_true] at HF1 HF2
  have HB := hid hbb
  have HW := hid hW
  have HW0 := hid hW0
  have hsz := hbb.size
  clear hS hS' hW hW0 hFl hb0 hbW hbb k0 k1 hL
  rw [hs0] at x0 x1 x2 x3
  unfold comes suV
  cases op
  · simp only [Bool.false_eq_true, if_false]
    generalize withinB (lackS s to) [] = bw at *
    go_enter Try.func31, Try.ntmps31
    go_wp2_with fail
    rw [← HW0.out, ← HW.out]
    go_wp2_with fail
    refine HF2.out.mono ?_
    rintro e w1 ⟨v1, rfl, hO1, hB1⟩
    have HO := hid (owns_le hO1 hsz)
    have HB1 := hid (HB.out.trans (hB1.mono hsz))
    clear hO1 hB1 HF1 HF2
    cases bw
    · go_wp2
      go_ret2
      exact ⟨v1, rfl, HO.out, HB1.out⟩
    · go_wp2
      go_ret2
      exact ⟨v1, rfl, HO.out, HB1.out⟩
  · simp only [if_true]
    generalize withinB (lackS s to) own = bw at *
    go_enter Try.func31, Try.ntmps31
    go_wp2_with fail
    rw [← HW0.out, ← HW.out]
    go_wp2_with fail
    refine HF1.out.mono ?_
    rintro e w1 ⟨v1, rfl, hO1, hB1⟩
    have HO := hid (owns_le hO1 hsz)
    have HB1 := hid (HB.out.trans (hB1.mono hsz))
    clear hO1 hB1 HF1 HF2
    cases bw
    · go_wp2
      go_ret2
      exact ⟨v1, rfl, HO.out, HB1.out⟩
    · go_wp2
      go_ret2
      exact ⟨v1, rfl, HO.out, HB1.out⟩
end Go.Proofs.Ytahibklmcooanaa
