/-
  Grants and calls in memory; New, where the users may not be.
-/
import Derived.Test.YtplljpodejpbgaaGreatDoorXUnhex
import Derived.Test.YtplljpodejpbgaaGreatDoorJNew
import Derived.Test.YtplljpodejpbgaaGreatDoorKP1
import Derived.Test.YtplljpodejpbgaaGreatDoorJMayC
import Derived.Test.YtplljpodejpbgaaGreatDoorKP2
namespace Go.Proofs.YtplljpodejpbgaaGreatDoor
open Go.RowKit
set_option linter.unusedVariables false
set_option maxRecDepth 100000

set_option maxRecDepth 100000 in
set_option maxHeartbeats 2000000 in
theorem runhex_any (s : ByteArray) (w : World) (hl : s.size ≤ 70368744177664) : Calls Tryz.prog 58 #[.string s] w fun e w' => e = .returned (unhexV (unhexOf (bytesOf s))) ∧ Below w.heap.size w w' := by
  by_cases hev : s.size % 2 = 0
  · have hb : (((s.size : Int) % 2) != 0) = false := by rw [show (s.size : Int) % 2 = 0 by omega]; rfl
    have hof : unhexOf (bytesOf s) = unhexTo (bytesOf s) (s.size / 2) := by unfold unhexOf; rw [bytesOf_len, if_pos hev]
    rw [hof]
    obtain ⟨N, hN⟩ : ∃ N, N = s.size / 2 := ⟨_, rfl⟩
    rw [← hN]
    have HN := hid hN
    have HE := hid (show s.size = 2 * N by omega)
    have hNb : N ≤ 70368744177664 := by omega
    clear hof hev hN
    go_enter Tryz.func58, Tryz.ntmps58
    go_wp2_with fail
    go_loopw [4, 5] (fun u i wr => ∃ (k : Nat) (out : List Nat), k ≤ N ∧ i = .int .i64 ((2 * k : Nat) : Int) ∧ unhexTo (bytesOf s) k = some out ∧ OwnsN .u8 5 wr w.heap.size u out ∧ Below w.heap.size w wr) (fun _ i _ => s.size - (intOf i).toNat)
    case atStart => exact ⟨0, [], Nat.zero_le _, rfl, rfl, OwnsN.nil _ _ _ _, Below.refl _ _⟩
    case round =>
      obtain ⟨k, out, hk, rfl, hun, hO, hB⟩ := hrel
      obtain ⟨ao, cap, rfl⟩ := hO.shape
      have hsw := hB.size
      have hll := unhexTo_len hun
      rw [hll] at hO ⊢
      have HO := hid hO
      have HB := hid hB
      have HU := hid hun
      have HLL := hid hll
      have HBd := hid (show Below w.heap.size w wr.drew from below_drewN hB 1)
      have HOd := hid (show OwnsN .u8 5 wr.drew w.heap.size _ out from hO.below (below_drewN (Below.refl _ _) 1))
      clear hO hB hun hll
      by_cases hlt : k < N
      · obtain ⟨I, hI⟩ : ∃ I, I = 2 * k := ⟨_, rfl⟩
        rw [← hI]
        have hIs : I + 1 < s.size := by have := HE.out; omega
        have i1 := index_str s .i64 (I : Int) I rfl (by omega)
        have i2 := index_str s .i64 ((I : Int) + 1) (I + 1) (by omega) hIs
        have i3 := index_str s .i64 (IntKind.i64.wrap ((I : Int) + 1)) (I + 1) (by rw [wrap_i64_small _ (by omega) (by omega)]; omega) hIs
        have w1 : IntKind.i64.wrap ((I : Int) + 1) = (I : Int) + 1 := by rw [wrap_i64_small _ (by omega) (by omega)]
        have l1 : (bytesOf s).getD I 0 < 256 := getD_lt (by decide) (bytesOf_lt s) _
        have l2 : (bytesOf s).getD (I + 1) 0 < 256 := getD_lt (by decide) (bytesOf_lt s) _
        have hsucc : ∀ a b, dval ((bytesOf s).getD I 0) = some a → dval ((bytesOf s).getD (I + 1) 0) = some b → unhexTo (bytesOf s) (k + 1) = some (out ++ [16 * a + b]) := fun a b ha hb => by
          rw [unhexTo, HU.out, ← hI, ha, hb]
        have hno1 : dval ((bytesOf s).getD I 0) = none → unhexTo (bytesOf s) N = none := fun h => unhexTo_none (k := k + 1) (by rw [unhexTo, ← hI, h]; simp) N (by omega)
        have hno2 : dval ((bytesOf s).getD (I + 1) 0) = none → unhexTo (bytesOf s) N = none := fun h => unhexTo_none (k := k + 1) (by rw [unhexTo, ← hI, h]; simp) N (by omega)
        obtain ⟨b1, hb1⟩ : ∃ b, b = (bytesOf s).getD I 0 := ⟨_, rfl⟩
        obtain ⟨b2, hb2⟩ : ∃ b, b = (bytesOf s).getD (I + 1) 0 := ⟨_, rfl⟩
        rw [← hb1] at i1 l1 hsucc hno1
        rw [← hb2] at i2 i3 l2 hsucc hno2
        have HSucc := hid hsucc
        have HNo1 := hid hno1
        have HNo2 := hid hno2
        have HI := hid hI
        have zI : (I : Int) < (s.size : Int) := by omega
        clear hsucc hno1 hno2 hI hb1 hb2
        have d1 : dval b1 = none ∨ ∃ a, dval b1 = some a := by cases dval b1 <;> simp
        have d2 : dval b2 = none ∨ ∃ a, dval b2 = some a := by cases dval b2 <;> simp
        rcases d1 with d1 | ⟨a1, d1⟩
        · skip
          skip
          have v1 := dv_none d1
          have HR := hid (HNo1.out d1)
          clear d1 d2
          go_wp2_with fail
          go_region_held3 (fun _ => True) (trivial)
            (first | (go_at_call 80; refine (digit_any _ _ ?_).mono ?_; (· assumption); rintro e' w1 ⟨rfl, rfl⟩))
          all_goals (
            go_wp2
            go_ret2
            refine ⟨?_, HBd.out⟩
            rw [HR.out]
            rfl)
        · rcases d2 with d2 | ⟨a2, d2⟩
          · skip
            skip
            have v1 := dv_some d1
            have v2 := dv_none d2
            have HR := hid (HNo2.out d2)
            have z1 : ¬ ((a1 : Int) < 0) := by omega
            clear d1 d2
            go_wp2_with fail
            go_region_held3 (fun _ => True) (trivial)
              (first | (go_at_call 80; refine (digit_any _ _ ?_).mono ?_; (· assumption); rintro e' w1 ⟨rfl, rfl⟩))
            all_goals (
              go_wp2
              go_ret2
              refine ⟨?_, HBd.out⟩
              rw [HR.out]
              rfl)
          · skip
            skip
            have v1 := dv_some d1
            have v2 := dv_some d2
            have la1 := dval_lt d1
            have la2 := dval_lt d2
            have HR := hid (HSucc.out a1 a2 d1 d2)
            have z1 : ¬ ((a1 : Int) < 0) := by omega
            have z2 : ¬ ((a2 : Int) < 0) := by omega
            have HY := hid (show 16 * (a1 : Int) + (a2 : Int) = ((16 * a1 + a2 : Nat) : Int) by omega)
            clear d1 d2
            go_wp2_with fail
            go_region_held3 (fun _ => True) (trivial)
              (first | (go_at_call 80; refine (digit_any _ _ ?_).mono ?_; (· assumption); rintro e' w1 ⟨rfl, rfl⟩))
            all_goals (
              go_wp2_with (first | (at_builtin; refine wpList_appN rowBytes rfl _ _ rfl w.heap.size (.slice ao k cap) out rfl (HOd.out.below (below_alloc wr.drew _)) _ [16 * a1 + a2] rfl (sees_b1 wr.drew _ _ HY.out) (by rw [HLL.out]; simp; omega) (by simp; omega) ?_; intro v4 w4 hO4 hG4))
              have HO4 := hid hO4
              have HB4 := hid (below_grownBy (HBd.out.trans ((below_alloc wr.drew _).mono hsw)) hG4 (OwnsN.block HO.out) (by simp; omega))
              clear hO4 hG4
              go_roundw
              case rel =>
                have hIk : (.int .i64 ((I : Int) + 2) : Value) = .int .i64 ((2 * (k + 1) : Nat) : Int) := by have := HI.out; rw [this]; congr 1
                first | exact ⟨k + 1, _, by omega, hIk, HR.out, HO4.out, HB4.out⟩ | ((repeat apply Exists.intro); exact ⟨⟨k + 1, _, by omega, hIk, HR.out, HO4.out, HB4.out⟩, rfl⟩)
              case measure => have := HI.out; simp [intOf]; omega)
      · have hkN : k = N := by omega
        subst hkN
        have hge : ¬ (((2 * k : Nat) : Int) < (s.size : Int)) := by have := HE.out; omega
        obtain ⟨I, hI⟩ : ∃ I, I = 2 * k := ⟨_, rfl⟩
        rw [← hI] at hge ⊢
        have hO' := HO.out
        rw [← HLL.out] at hO'
        have hcv := conv_own hO'
        rw [HLL.out] at hcv
        clear hO' hI
        go_wp2
        go_ret2
        refine ⟨?_, HB.out⟩
        rw [HU.out]
        rfl
  · have hb : (((s.size : Int) % 2) != 0) = true := by rw [show (s.size : Int) % 2 = 1 by omega]; rfl
    have hof : unhexOf (bytesOf s) = none := by unfold unhexOf; rw [bytesOf_len, if_neg hev]
    rw [hof]
    clear hof
    go_enter Tryz.func58, Tryz.ntmps58
    go_wp2
    go_ret2
    exact ⟨rfl, Below.refl _ _⟩

end Go.Proofs.YtplljpodejpbgaaGreatDoor

namespace Go.Proofs.YtplljpodejpbgaaGreatDoor
open Go.RowKit
set_option linter.unusedVariables false
set_option linter.unusedSimpArgs false

def kerOK (u c : Int) : Prop := c = 2 * u + 1 ∨ c = 2 * u + 2 ∨ (1000 * u + 1000 ≤ c ∧ c ≤ 1000 * u + 1999)
/-- What was given to somebody, in order. -/
def toL (gs : List Gra) (u : Int) : List Int := (gs.filter fun g => decide (g.to = u)).map (·.cat)
theorem toL_app (gs : List Gra) (g : Gra) (u : Int) : toL (gs ++ [g]) u = if g.to = u then toL gs u ++ [g.cat] else toL gs u := by
  unfold toL
  rw [List.filter_append, List.map_append]
  by_cases h : g.to = u
  · rw [if_pos h]; simp [h]
  · rw [if_neg h]; simp [h]
/-- A grant by somebody stands behind one to it. -/
def fromOK (gs : List Gra) (i : Nat) : Prop := ∀ g, gs[i]? = some g → (g.frm = -1 ∧ kerOK g.to g.cat) ∨ (g.frm ≠ -1 ∧ ∃ (k : Nat) (h : Gra), k < i ∧ gs[k]? = some h ∧ h.to = g.frm ∧ h.cat = g.cat)
structure ChG (us : List (Acc × Value)) (gs : List Gra) : Prop where
  own : ∀ (u : Nat) p, us[u]? = some p → p.1.own = sd (toL gs (u : Int))
  made : ∀ (u : Nat) p, us[u]? = some p → p.1.made ≤ 16
  frm : ∀ i, i < gs.length → fromOK gs i
  rng : ∀ g ∈ gs, 1 ≤ g.cat ∧ g.cat ≤ 20000 ∧ 0 ≤ g.to
theorem fromOK_app {gs : List Gra} {x : Gra} {i : Nat} (hi : i < gs.length) (h : fromOK gs i) : fromOK (gs ++ [x]) i := by
  intro g hg
  rw [List.getElem?_append_left hi] at hg
  rcases h g hg with h | ⟨h1, k, y, h2, h3, h4⟩
  · exact Or.inl h
  · exact Or.inr ⟨h1, k, y, h2, by rw [List.getElem?_append_left (by omega)]; exact h3, h4⟩
theorem sd_snoc (l : List Int) (c : Int) : sd (sd l ++ [c]) = sd (l ++ [c]) := sd_congr fun x => by simp [mem_sd]
/-- Something more is given. -/
theorem ChG.app {us : List (Acc × Value)} {gs : List Gra} (h : ChG us gs) {t1 : Nat} {p : Acc × Value} (hp : us[t1]? = some p) {g : Gra} (hg : g.to = (t1 : Int)) (a : Acc) (v : Value) (hm : a.made ≤ 16) (ho : a.own = sd (p.1.own ++ [g.cat]))
    (hf : (g.frm = -1 ∧ kerOK g.to g.cat) ∨ (g.frm ≠ -1 ∧ ∃ (k : Nat) (y : Gra), gs[k]? = some y ∧ y.to = g.frm ∧ y.cat = g.cat)) (hr : 1 ≤ g.cat ∧ g.cat ≤ 20000) : ChG (us.set t1 (a, v)) (gs ++ [g]) := by
  have hto := (List.getElem?_eq_some_iff.1 hp).1
  refine ⟨fun u q hq => ?_, fun u q hq => ?_, fun i hi => ?_, fun x hx => ?_⟩
  · by_cases e : u = t1
    · subst e
      rw [List.getElem?_set_self hto] at hq
      cases hq
      rw [toL_app, if_pos hg]
      show a.own = _
      rw [ho, h.own u p hp, sd_snoc]
    · rw [List.getElem?_set_ne (fun e' => e e'.symm)] at hq
      rw [toL_app, if_neg (by rw [hg]; omega)]
      exact h.own u q hq
  · by_cases e : u = t1
    · subst e
      rw [List.getElem?_set_self hto] at hq
      cases hq
      exact hm
    · rw [List.getElem?_set_ne (fun e' => e e'.symm)] at hq
      exact h.made u q hq
  · rw [List.length_append, List.length_singleton] at hi
    by_cases e : i < gs.length
    · exact fromOK_app e (h.frm i e)
    · have e' : i = gs.length := by omega
      subst e'
      intro x hx
      rw [List.getElem?_append_right (Nat.le_refl _), Nat.sub_self] at hx
      simp only [List.getElem?_cons_zero, Option.some.injEq] at hx
      subst hx
      rcases hf with hf | ⟨hf, k, y, hk, h1, h2⟩
      · exact Or.inl hf
      · have hkl := (List.getElem?_eq_some_iff.1 hk).1
        exact Or.inr ⟨hf, k, y, hkl, by rw [List.getElem?_append_left hkl]; exact hk, h1, h2⟩
  · rcases List.mem_append.1 hx with hx | hx
    · exact h.rng x hx
    · simp only [List.mem_singleton] at hx
      subst hx
      exact ⟨hr.1, hr.2, by omega⟩
/-- Only how many it made turns. -/
theorem ChG.turn {us : List (Acc × Value)} {gs : List Gra} (h : ChG us gs) {t1 : Nat} {p : Acc × Value} (hp : us[t1]? = some p) (a : Acc) (v : Value) (hm : a.made ≤ 16) (ho : a.own = p.1.own) : ChG (us.set t1 (a, v)) gs := by
  have hto := (List.getElem?_eq_some_iff.1 hp).1
  refine ⟨fun u q hq => ?_, fun u q hq => ?_, h.frm, h.rng⟩
  · by_cases e : u = t1
    · subst e
      rw [List.getElem?_set_self hto] at hq
      cases hq
      show a.own = _
      rw [ho]
      exact h.own u p hp
    · rw [List.getElem?_set_ne (fun e' => e e'.symm)] at hq
      exact h.own u q hq
  · by_cases e : u = t1
    · subst e
      rw [List.getElem?_set_self hto] at hq
      cases hq
      exact hm
    · rw [List.getElem?_set_ne (fun e' => e e'.symm)] at hq
      exact h.made u q hq
theorem mem_toL {gs : List Gra} {u c : Int} : c ∈ toL gs u ↔ ∃ (k : Nat) (y : Gra), gs[k]? = some y ∧ y.to = u ∧ y.cat = c := by
  unfold toL
  rw [List.mem_map]
  constructor
  · rintro ⟨y, hy, rfl⟩
    rw [List.mem_filter, decide_eq_true_eq] at hy
    obtain ⟨k, hk, hke⟩ := List.getElem_of_mem hy.1
    exact ⟨k, y, by rw [List.getElem?_eq_getElem hk, hke], hy.2, rfl⟩
  · rintro ⟨k, y, hk, h1, rfl⟩
    exact ⟨y, by rw [List.mem_filter, decide_eq_true_eq]; exact ⟨List.mem_of_getElem? hk, h1⟩, rfl⟩
/-- A list that rises from 1 to 20000 is no longer. -/
theorem rises_len : ∀ (l : List Int) (a b : Int), l.Pairwise (· < ·) → (∀ x ∈ l, a ≤ x ∧ x ≤ b) → l ≠ [] → (l.length : Int) ≤ b - a + 1
  | [], _, _, _, _, h => absurd rfl h
  | [x], a, b, _, h, _ => by
    have := h x (by simp)
    simp only [List.length_singleton]
    omega
  | x :: y :: r, a, b, hp, h, _ => by
    rw [List.pairwise_cons] at hp
    have ih := rises_len (y :: r) (x + 1) b hp.2 (fun z hz => ⟨by have := hp.1 z hz; omega, (h z (by simp [List.mem_cons.1 hz])).2⟩) (by simp)
    have := (h x (by simp)).1
    simp only [List.length_cons] at ih ⊢
    omega
theorem ChG.len {us : List (Acc × Value)} {gs : List Gra} (h : ChG us gs) {u : Nat} {p : Acc × Value} (hp : us[u]? = some p) : p.1.own.length ≤ 20000 := by
  by_cases e : p.1.own = []
  · rw [e]; simp
  · have ho := h.own u p hp
    have hr : p.1.own.Pairwise (· < ·) := by rw [ho]; exact sd_rises _
    have := rises_len p.1.own 1 20000 hr (fun x hx => by
      rw [ho, mem_sd, mem_toL] at hx
      obtain ⟨k, y, hk, _, rfl⟩ := hx
      have := h.rng y (List.mem_of_getElem? hk)
      omega) e
    omega
/-- What a new server has. -/
theorem grTo_ch (l : List UsL) (hl : l.length ≤ 16) : ∀ k, k ≤ l.length → (∀ i, i < (grTo l k).length → fromOK (grTo l k) i) ∧ (∀ g ∈ grTo l k, 1 ≤ g.cat ∧ g.cat ≤ 20000 ∧ 0 ≤ g.to ∧ g.to < (k : Int)) ∧
    ∀ u, u < k → (accOf l u).own = sd (toL (grTo l k) (u : Int))
  | 0, _ => ⟨(fun i hi => absurd hi (Nat.not_lt_zero _)), (fun g hg => by simp [grTo] at hg), fun u hu => absurd hu (Nat.not_lt_zero _)⟩
  | k + 1, hk => by
    obtain ⟨h1, h2, h3⟩ := grTo_ch l hl k (by omega)
    obtain ⟨x, hx⟩ : ∃ x, l[k]? = some x := ⟨_, List.getElem?_eq_getElem (by omega)⟩
    have hnone : toL (grTo l k) (k : Int) = [] := by
      unfold toL
      rw [List.map_eq_nil_iff, List.filter_eq_nil_iff]
      intro g hg
      have := (h2 g hg).2.2.2
      simp only [decide_eq_true_eq]
      omega
    have hacc : (accOf l k).own = if x.op then sd (sd ([] ++ [2 * (k : Int) + 2]) ++ [2 * (k : Int) + 1]) else sd ([] ++ [2 * (k : Int) + 2]) := by
      unfold accOf
      rw [hx]
    have e : grTo l (k + 1) = grTo l k ++ (⟨-1, -1, (k : Int), 2 * (k : Int) + 2⟩ :: (if x.op then [⟨-1, -1, (k : Int), 2 * (k : Int) + 1⟩] else [])) := by
      rw [grTo, hx]
    have one : ∀ gs : List Gra, (∀ i, i < gs.length → fromOK gs i) → ∀ g : Gra, g.frm = -1 → kerOK g.to g.cat → ∀ i, i < (gs ++ [g]).length → fromOK (gs ++ [g]) i := by
      intro gs hgs g hf hk i hi
      rw [List.length_append, List.length_singleton] at hi
      by_cases hlt : i < gs.length
      · exact fromOK_app hlt (hgs i hlt)
      · have : i = gs.length := by omega
        subst this
        intro y hy
        rw [List.getElem?_append_right (Nat.le_refl _), Nat.sub_self] at hy
        simp only [List.getElem?_cons_zero, Option.some.injEq] at hy
        subst hy
        exact Or.inl ⟨hf, hk⟩
    have a1 := one (grTo l k) h1 ⟨-1, -1, (k : Int), 2 * (k : Int) + 2⟩ rfl (Or.inr (Or.inl rfl))
    have t1 : ∀ u : Int, toL (grTo l k ++ [⟨-1, -1, (k : Int), 2 * (k : Int) + 2⟩]) u = if (k : Int) = u then toL (grTo l k) u ++ [2 * (k : Int) + 2] else toL (grTo l k) u := fun u => toL_app _ _ _
    cases hop : x.op with
    | false =>
      rw [hop] at e hacc
      simp only [Bool.false_eq_true, if_false] at e hacc
      rw [e]
      refine ⟨a1, fun g hg => ?_, fun u hu => ?_⟩
      · rcases List.mem_append.1 hg with hg | hg
        · have := h2 g hg
          omega
        · simp only [List.mem_singleton] at hg
          subst hg
          simp only
          omega
      · rw [t1]
        by_cases eu : u = k
        · subst eu
          rw [if_pos rfl, hnone, hacc]
        · rw [if_neg (by omega)]
          exact h3 u (by omega)
    | true =>
      rw [hop] at e hacc
      simp only [if_true] at e hacc
      have e' : grTo l (k + 1) = (grTo l k ++ [⟨-1, -1, (k : Int), 2 * (k : Int) + 2⟩]) ++ [⟨-1, -1, (k : Int), 2 * (k : Int) + 1⟩] := by rw [e]; simp
      rw [e']
      refine ⟨one _ a1 _ rfl (Or.inl rfl), fun g hg => ?_, fun u hu => ?_⟩
      · rcases List.mem_append.1 hg with hg | hg
        · rcases List.mem_append.1 hg with hg | hg
          · have := h2 g hg
            omega
          · simp only [List.mem_singleton] at hg
            subst hg
            simp only
            omega
        · simp only [List.mem_singleton] at hg
          subst hg
          simp only
          omega
      · rw [toL_app, t1]
        by_cases eu : u = k
        · subst eu
          rw [if_pos rfl, if_pos rfl, hnone, hacc, sd_snoc]
        · rw [if_neg (by simp only; omega), if_neg (by omega)]
          exact h3 u (by omega)
theorem ChG.new {l : List UsL} {us : List (Acc × Value)} (hl : l.length ≤ 16) (h : UsTo l l.length us) : ChG us (grTo l l.length) := by
  obtain ⟨h1, h2, h3⟩ := grTo_ch l hl l.length (Nat.le_refl _)
  refine ⟨fun u p hp => ?_, fun u p hp => ?_, h1, fun g hg => by have := h2 g hg; omega⟩
  · have hu := (List.getElem?_eq_some_iff.1 hp).1
    rw [h.len] at hu
    obtain ⟨v, hv⟩ := h.done u hu
    rw [hp] at hv
    cases hv
    exact h3 u hu
  · have hu := (List.getElem?_eq_some_iff.1 hp).1
    rw [h.len] at hu
    obtain ⟨v, hv⟩ := h.done u hu
    rw [hp] at hv
    cases hv
    show (accOf l u).made ≤ 16
    unfold accOf
    split <;> simp [acc0]
end Go.Proofs.YtplljpodejpbgaaGreatDoor

namespace Go.Proofs.YtplljpodejpbgaaGreatDoor
open Go.RowKit
set_option linter.unusedVariables false
set_option linter.unusedSimpArgs false
set_option maxRecDepth 100000

set_option maxHeartbeats 1000000 in
theorem hasI_any (v : Value) (l : List Int) (x : Int) (w : World) (hS : Sees w v l) (hl : l.length ≤ 1099511627776) :
    Calls Tryz.prog 59 #[v, .int .i64 x] w fun e w' => e = .returned (.bool (decide (x ∈ l))) ∧ w = w' := by
  obtain ⟨b, off, ao, cap, rfl, hcap, hnil, hao, hcell⟩ := hS
  by_cases h0 : l = []
  · subst h0
    go_enter Tryz.func59, Tryz.ntmps59
    go_wp2_with fail
    refine (Tryz.slices_Contains_int_empty _ _ _ _).mono ?_
    rintro e w1 ⟨rfl, hw⟩
    subst w1
    go_wp2
    go_ret
    exact ⟨rfl, rfl⟩
  · obtain rfl := hao h0
    have hc := hid (Tryz.slices_Contains_int b off l.length cap l x w (Nat.le_refl _) (by omega) hcell)
    clear hcell hao hnil h0
    go_enter Tryz.func59, Tryz.ntmps59
    go_wp2_with fail
    refine hc.out.mono ?_
    rintro e w1 ⟨rfl, hw⟩
    subst w1
    go_wp2
    go_ret
    exact ⟨ret_bool (by simp), rfl⟩
set_option maxHeartbeats 1000000 in
theorem isUser_out (w : World) (d ub mb : Nat) (us : List (Acc × Value)) (vd : Value) (dr : List Int) (n : Nat) (ss : List Ses) (vg : Value) (gs : List Gra) (h : IdAt w d ub mb us vd dr n ss vg gs) (u : Int) (hu : ¬ (0 ≤ u ∧ u < (us.length : Int))) :
    Calls Tryz.prog 57 #[.pointer (some ⟨d, 0, none⟩), .int .i64 u] w fun e w' => e = .returned (.bool false) ∧ w = w' := by
  have hgi := hid (dgiven_yes d w h.cells.1)
  obtain ⟨c0, c1, c2, c3, c4, c5⟩ := h.cells
  by_cases h0 : (0 : Int) ≤ u
  · have h1 : ¬ u < (us.length : Int) := fun h => hu ⟨h0, h⟩
    clear h hu
    go_enter Tryz.func57, Tryz.ntmps57
    go_wp2_with fail
    refine hgi.out.mono ?_
    rintro e w1 ⟨rfl, hw⟩
    subst w1
    go_wp2
    go_ret
    exact ⟨ret_bool (decide_eq_false (by omega)), rfl⟩
  · clear h hu
    go_enter Tryz.func57, Tryz.ntmps57
    go_wp2_with fail
    refine hgi.out.mono ?_
    rintro e w1 ⟨rfl, hw⟩
    subst w1
    go_wp2
    go_ret
    exact ⟨rfl, rfl⟩
/-- A server that keeps the chain, in memory of its own. -/
def Lives (w0 w : World) (d nu k : Nat) : Prop :=
  ∃ ub mb us vd dr n ss vg gs, IdAt w d ub mb us vd dr n ss vg gs ∧ ChG us gs ∧ us.length = nu ∧ gs.length ≤ k ∧ Below w0.heap.size w0 w ∧ (∀ k, mineD d ub mb vg k → w0.heap.size ≤ k)
theorem Lives.more {w0 w : World} {d nu k k' : Nat} (h : Lives w0 w d nu k) (hk : k ≤ k') : Lives w0 w d nu k' := by
  obtain ⟨ub, mb, us, vd, dr, n, ss, vg, gs, h1, h2, h3, h4, h5, h6⟩ := h
  exact ⟨ub, mb, us, vd, dr, n, ss, vg, gs, h1, h2, h3, by omega, h5, h6⟩
theorem Lives.below {w0 w w' : World} {d nu k : Nat} (h : Lives w0 w d nu k) (hb : Below w.heap.size w w') : Lives w0 w' d nu k := by
  obtain ⟨ub, mb, us, vd, dr, n, ss, vg, gs, h1, h2, h3, h4, h5, h6⟩ := h
  exact ⟨ub, mb, us, vd, dr, n, ss, vg, gs, h1.below hb, h2, h3, h4, h5.trans (hb.mono h5.size), h6⟩
/-- And a block that is none of the server's. -/
def LivesB (w0 w : World) (d nu k q : Nat) : Prop :=
  ∃ ub mb us vd dr n ss vg gs, IdAt w d ub mb us vd dr n ss vg gs ∧ ChG us gs ∧ us.length = nu ∧ gs.length ≤ k ∧ Below w0.heap.size w0 w ∧ (∀ k, mineD d ub mb vg k → w0.heap.size ≤ k) ∧ q < w.heap.size ∧ ¬ mineD d ub mb vg q
theorem Lives.box {w0 w : World} {d nu k : Nat} (h : Lives w0 w d nu k) (o : Obj) : LivesB w0 (w.alloc o) d nu k w.heap.size := by
  obtain ⟨ub, mb, us, vd, dr, n, ss, vg, gs, h1, h2, h3, h4, h5, h6⟩ := h
  refine ⟨ub, mb, us, vd, dr, n, ss, vg, gs, h1.below (below_alloc w o), h2, h3, h4, h5.trans ((below_alloc w o).mono h5.size), h6, by simp, ?_⟩
  intro hm
  have := h1.ltd
  have := h1.ltu
  have := h1.ltm
  rcases hm with h | h | h | h
  · omega
  · omega
  · omega
  · have := ownsRow_lt h1.gra h
    omega
/-- Only the number of what was made is turned. -/
theorem IdAt.made {w w' : World} {d ub mb : Nat} {us : List (Acc × Value)} {vd : Value} {dr : List Int} {n : Nat} {ss : List Ses} {vg : Value} {gs : List Gra} (h : IdAt w d ub mb us vd dr n ss vg gs) {u : Nat} {p : Acc × Value} (hp : us[u]? = some p) (m : Nat)
    (hu : w'.heap[ub]? = some (.cells (aC (us.set u ({ p.1 with made := m }, p.2))).toArray 86 (0, 0))) (ho : ∀ k, k ≠ ub → w'.heap[k]? = w.heap[k]?) : IdAt w' d ub mb (us.set u ({ p.1 with made := m }, p.2)) vd dr n ss vg gs := by
  obtain ⟨a1, a2, a3, a4, a5⟩ := h.apart
  have hun : ∀ (k : Nat) (cur : Array Value), w.heap[k]? = some (.cells cur 3 (0, 0)) → k ≠ ub := fun k cur hk e => a5 k cur hk (by subst e; exact Or.inr (Or.inl rfl))
  have keep : ∀ (v : Value) (xs : List Int), Owns w 0 v xs → Owns w' 0 v xs := fun v xs hO => ownsRow_same hO fun j hj => by
    obtain ⟨cur, hc⟩ := ownsRow_ty hO hj
    exact ho j (hun j cur hc)
  have hset : ∀ q ∈ us.set u ({ p.1 with made := m }, p.2), ∃ q' ∈ us, q.2 = q'.2 ∧ q.1.own = q'.1.own := fun q hq => by
    rcases List.mem_or_eq_of_mem_set hq with hq | rfl
    · exact ⟨q, hq, rfl, rfl⟩
    · exact ⟨p, List.mem_of_getElem? hp, rfl, rfl⟩
  obtain ⟨k, D, hm, hk, hM⟩ := h.map
  refine ⟨by rw [ho d a1, List.length_set]; exact h.lies, hu, fun q hq => ?_, fun q hq => ?_, keep _ _ h.dra, ⟨k, D, map_same hm (ho mb (fun e => a3 e.symm)), hk, hM⟩, h.low, h.ord, ownsRow_same h.gra fun j hj => ho j (a4 j hj).2.1, by rw [List.length_set]; exact h.n1, by rw [List.length_set]; exact h.n2⟩
  · obtain ⟨q', hq', e1, e2⟩ := hset q hq
    rw [e1, e2]
    exact keep _ _ (h.own q' hq')
  · obtain ⟨q', hq', e1, e2⟩ := hset q hq
    rw [e2]
    exact h.rises q' hq'
set_option maxHeartbeats 4000000 in
theorem make_lives {w0 : World} (w : World) (d nu k q : Nat) (h : LivesB w0 w d nu k q) (user step : Int) (hk : k ≤ 2199023255551) :
    Calls Tryz.prog 21 #[.pointer (some ⟨d, 0, none⟩), .int .i64 user, .int .i64 step] w fun e w' => (∃ a er, e = .returned (.tuple #[.int .i64 a, .int .i64 er])) ∧ Lives w0 w' d nu (k + 1) ∧ w'.heap[q]? = w.heap[q]? := by
  obtain ⟨ub, mb, us, vd, dr, n, ss, vg, gs, hI, hC, hn, hg, hB, hM, hq1, hq2⟩ := h
  by_cases hu : 0 ≤ user ∧ user < (us.length : Int)
  · obtain ⟨u, rfl⟩ : ∃ u : Nat, user = (u : Int) := ⟨user.toNat, by omega⟩
    have hul : u < us.length := by omega
    obtain ⟨p, hp⟩ : ∃ p, us[u]? = some p := ⟨_, List.getElem?_eq_getElem hul⟩
    have hiu := hid (isUser_yes w d ub mb us vd dr n ss vg gs hI u hul)
    obtain ⟨c0, c1, c2, c3, c4, c5⟩ := hI.cells
    obtain ⟨a0, a1, a2, a3, a4⟩ := hI.acc hp
    have hm16 := hC.made u p hp
    have h2 := hI.n2
    have h1 : (u : Int) < (us.length : Int) := by omega
    have fu := (hI.warm (u * 5 + 3)).2
    by_cases hf : p.1.made = 16
    · have HL := hid (show Lives w0 w d nu (k + 1) from ⟨ub, mb, us, vd, dr, n, ss, vg, gs, hI, hC, hn, by omega, hB, hM⟩)
      rw [hf] at a3
      clear hI hC hp hm16
      go_enter Tryz.func21, Tryz.ntmps21
      go_wp2_with fail
      refine hiu.out.mono ?_
      rintro e w1 ⟨rfl, hw⟩
      subst w1
      go_wp2
      go_ret2
      first | exact ⟨⟨_, _, rfl⟩, HL.out, rfl⟩ | exact ⟨⟨_, _, rfl⟩, HL.out, HQ.out⟩
    · obtain ⟨W, hW⟩ : ∃ W, W = w.setCell ⟨ub, u * 5 + 3, none⟩ (.int .i64 ((p.1.made : Int) + 1)) := ⟨_, rfl⟩
      have hset := heap_setCell_same w ub (u * 5 + 3) _ _ (.int .i64 ((p.1.made : Int) + 1)) hI.row
      have hIW : IdAt W d ub mb (us.set u ({ p.1 with made := p.1.made + 1 }, p.2)) vd dr n ss vg gs := by
        refine hI.made hp (p.1.made + 1) ?_ (fun k hk => by rw [hW]; exact heap_setCell_other _ _ _ _ hk)
        rw [hW, hset, ← aC_made us u p (p.1.made + 1) hp]
        simp
      have hpW : (us.set u ({ p.1 with made := p.1.made + 1 }, p.2))[u]? = some ({ p.1 with made := p.1.made + 1 }, p.2) := List.getElem?_set_self hul
      have hlen := hC.len hp
      have hgr := hid (grant_any W d ub mb _ vd dr n ss vg gs hIW u _ hpW step (-1) (1000 * ((u : Int) + 1) + (p.1.made : Int)) (by show p.1.own.length ≤ _; omega) (by omega))
      have HI := hid hI
      have HC := hid hC
      have HP := hid hp
      have HM := hid hM
      have HB := hid hB
      have HW := hid hW
      have hm : (p.1.made : Int) < 16 := by omega
      have hm0 : (0 : Int) ≤ (p.1.made : Int) := by omega
      have hu16 : (u : Int) ≤ 15 := by omega
      clear hI hC hp hIW hpW hset hM hB hW hf hm16 hu
      go_enter Tryz.func21, Tryz.ntmps21
      go_wp2_with fail
      refine hiu.out.mono ?_
      rintro e w1 ⟨rfl, hw⟩
      subst w1
      go_wp2_with fail
      rw [← HW.out]
      refine hgr.out.mono ?_
      rintro e w1 ⟨rfl, v', vg', hI', hG', hvg'⟩
      have hL : Lives w0 w1 d nu (k + 1) := by
        have hltu := HI.out.ltu
        refine ⟨ub, mb, _, vd, dr, n, ss, vg', _, hI', ?_, ?_, ?_, ?_, ?_⟩
        · have ht := HC.out.app HP.out (g := ⟨step, -1, (u : Int), 1000 * ((u : Int) + 1) + (p.1.made : Int)⟩) rfl { p.1 with made := p.1.made + 1, own := sd (p.1.own ++ [1000 * ((u : Int) + 1) + (p.1.made : Int)]) } v' (by show p.1.made + 1 ≤ 16; omega) rfl (Or.inl ⟨rfl, Or.inr (Or.inr ⟨by simp only; omega, by simp only; omega⟩)⟩) ⟨by simp only; omega, by simp only; omega⟩
          rw [List.set_set]
          exact ht
        · rw [List.length_set, List.length_set]; exact hn
        · rw [List.length_append, List.length_singleton]; omega
        · have hWB : Below w0.heap.size w0 W := by
            rw [HW.out]
            exact HB.out.setCell (HM.out ub (Or.inr (Or.inl rfl))) _
          exact hWB.trans (hG'.below HM.out hWB.size)
        · intro x hx
          rcases hx with hx | hx | hx | hx
          · exact HM.out x (Or.inl hx)
          · exact HM.out x (Or.inr (Or.inl hx))
          · exact HM.out x (Or.inr (Or.inr (Or.inl hx)))
          · rcases hvg' x hx with hx | hx
            · exact HM.out x (Or.inr (Or.inr (Or.inr hx)))
            · have h1 := HB.out.size
              have h2 : W.heap.size = w.heap.size := by rw [HW.out]; simp
              omega
      have HL := hid hL
      have HQ := hid (show w1.heap[q]? = w.heap[q]? by
        rw [hG'.block q (by rw [HW.out]; simpa using hq1) hq2, HW.out]
        exact heap_setCell_other _ _ _ _ (fun e => hq2 (Or.inr (Or.inl e))))
      clear hI' hG' hvg' hL hgr
      go_wp2
      go_ret2
      first | exact ⟨⟨_, _, rfl⟩, HL.out, rfl⟩ | exact ⟨⟨_, _, rfl⟩, HL.out, HQ.out⟩
  · have hiu := hid (isUser_out w d ub mb us vd dr n ss vg gs hI user hu)
    have HL := hid (show Lives w0 w d nu (k + 1) from ⟨ub, mb, us, vd, dr, n, ss, vg, gs, hI, hC, hn, by omega, hB, hM⟩)
    clear hI hC hu
    go_enter Tryz.func21, Tryz.ntmps21
    go_wp2_with fail
    refine hiu.out.mono ?_
    rintro e w1 ⟨rfl, hw⟩
    subst w1
    go_wp2
    go_ret2
    first | exact ⟨⟨_, _, rfl⟩, HL.out, rfl⟩ | exact ⟨⟨_, _, rfl⟩, HL.out, HQ.out⟩
end Go.Proofs.YtplljpodejpbgaaGreatDoor

namespace Go.Proofs.YtplljpodejpbgaaGreatDoor
open Go.RowKit
set_option linter.unusedVariables false
set_option linter.unusedSimpArgs false
set_option maxRecDepth 100000

set_option maxHeartbeats 1000000 in
theorem give_out1 (w : World) (d : Nat) (from1 to1 cat step : Int) (hiu : Calls Tryz.prog 57 #[.pointer (some ⟨d, 0, none⟩), .int .i64 from1] w fun e w' => e = .returned (.bool false) ∧ w = w') :
    Calls Tryz.prog 22 #[.pointer (some ⟨d, 0, none⟩), .int .i64 from1, .int .i64 to1, .int .i64 cat, .int .i64 step] w fun e w' => (∃ er, e = .returned (.int .i64 er)) ∧ w = w' := by
  have H := hid hiu
  clear hiu
  go_enter Tryz.func22, Tryz.ntmps22
  go_wp2_with fail
  refine H.out.mono ?_
  rintro e w1 ⟨rfl, hw⟩
  subst w1
  go_wp2
  go_ret
  exact ⟨⟨_, rfl⟩, rfl⟩
set_option maxHeartbeats 1000000 in
theorem give_out2 (w : World) (d : Nat) (from1 to1 cat step : Int) (hiu : Calls Tryz.prog 57 #[.pointer (some ⟨d, 0, none⟩), .int .i64 from1] w fun e w' => e = .returned (.bool true) ∧ w = w')
    (hit : Calls Tryz.prog 57 #[.pointer (some ⟨d, 0, none⟩), .int .i64 to1] w fun e w' => e = .returned (.bool false) ∧ w = w') :
    Calls Tryz.prog 22 #[.pointer (some ⟨d, 0, none⟩), .int .i64 from1, .int .i64 to1, .int .i64 cat, .int .i64 step] w fun e w' => (∃ er, e = .returned (.int .i64 er)) ∧ w = w' := by
  have H := hid hiu
  have H2 := hid hit
  clear hiu hit
  go_enter Tryz.func22, Tryz.ntmps22
  go_wp2_with fail
  refine H.out.mono ?_
  rintro e w1 ⟨rfl, hw⟩
  subst w1
  go_wp2_with fail
  refine H2.out.mono ?_
  rintro e w1 ⟨rfl, hw⟩
  subst w1
  go_wp2
  go_ret
  exact ⟨⟨_, rfl⟩, rfl⟩
set_option maxHeartbeats 4000000 in
theorem give_lives {w0 : World} (w : World) (d nu k : Nat) (h : Lives w0 w d nu k) (from1 to1 cat step : Int) (hk : k ≤ 2199023255551) :
    Calls Tryz.prog 22 #[.pointer (some ⟨d, 0, none⟩), .int .i64 from1, .int .i64 to1, .int .i64 cat, .int .i64 step] w fun e w' => (∃ er, e = .returned (.int .i64 er)) ∧ Lives w0 w' d nu (k + 1) := by
  have h' := h
  obtain ⟨ub, mb, us, vd, dr, n, ss, vg, gs, hI, hC, hn, hg, hB, hM⟩ := h
  by_cases hu : 0 ≤ from1 ∧ from1 < (us.length : Int)
  · obtain ⟨u, rfl⟩ : ∃ u : Nat, from1 = (u : Int) := ⟨from1.toNat, by omega⟩
    have hul : u < us.length := by omega
    have hiu := isUser_yes w d ub mb us vd dr n ss vg gs hI u hul
    by_cases ht : 0 ≤ to1 ∧ to1 < (us.length : Int)
    · obtain ⟨t, rfl⟩ : ∃ u : Nat, to1 = (u : Int) := ⟨to1.toNat, by omega⟩
      have htl : t < us.length := by omega
      have hit := hid (isUser_yes w d ub mb us vd dr n ss vg gs hI t htl)
      have hiu := hid hiu
      obtain ⟨p, hp⟩ : ∃ p, us[u]? = some p := ⟨_, List.getElem?_eq_getElem hul⟩
      obtain ⟨q, hq⟩ : ∃ p, us[t]? = some p := ⟨_, List.getElem?_eq_getElem htl⟩
      obtain ⟨c0, c1, c2, c3, c4, c5⟩ := hI.cells
      have a4 := (hI.acc hp).2.2.2.2
      have b4 := (hI.acc hq).2.2.2.2
      have h2 := hI.n2
      have h1 : (u : Int) < (us.length : Int) := by omega
      have h3 : (t : Int) < (us.length : Int) := by omega
      have hl1 := hC.len hp
      have hl2 := hC.len hq
      have hh1 := hid (hasI_any p.2 p.1.own cat w (hI.own p (List.mem_of_getElem? hp)).sees (by omega))
      have hh2 := hid (hasI_any q.2 q.1.own cat w (hI.own q (List.mem_of_getElem? hq)).sees (by omega))
      have HL := hid (h'.more (Nat.le_succ k))
      by_cases hp1 : cat ∈ p.1.own
      · rw [decide_eq_true hp1] at hh1
        by_cases hq1 : cat ∈ q.1.own
        · rw [decide_eq_true hq1] at hh2
          clear h' hI hC hp hq hu ht hp1 hq1
          go_enter Tryz.func22, Tryz.ntmps22
          go_wp2_with fail
          refine hiu.out.mono ?_
          rintro e w1 ⟨rfl, hw⟩
          subst w1
          go_wp2_with fail
          refine hit.out.mono ?_
          rintro e w1 ⟨rfl, hw⟩
          subst w1
          go_wp2_with fail
          refine hh1.out.mono ?_
          rintro e w1 ⟨rfl, hw⟩
          subst w1
          go_wp2_with fail
          refine hh2.out.mono ?_
          rintro e w1 ⟨rfl, hw⟩
          subst w1
          go_wp2
          go_ret
          exact ⟨⟨_, rfl⟩, HL.out⟩
        · rw [decide_eq_false hq1] at hh2
          have hgr := hid (grant_any w d ub mb us vd dr n ss vg gs hI t q hq step (u : Int) cat (by omega) (by omega))
          have hin : ∃ (i : Nat) (y : Gra), gs[i]? = some y ∧ y.to = (u : Int) ∧ y.cat = cat := by
            have := hC.own u p hp
            rw [this, mem_sd, mem_toL] at hp1
            exact hp1
          obtain ⟨i, y, hy, hyt, hyc⟩ := hin
          have hrng := hC.rng y (List.mem_of_getElem? hy)
          have HA := hid (fun v' => hC.app hq (g := ⟨step, (u : Int), (t : Int), cat⟩) rfl { q.1 with own := sd (q.1.own ++ [cat]) } v' (hC.made t q hq) rfl (Or.inr ⟨by show (u : Int) ≠ -1; omega, i, y, hy, hyt, hyc⟩) ⟨by show 1 ≤ cat; omega, by show cat ≤ 20000; omega⟩)
          have HM := hid hM
          have HB := hid hB
          clear h' hI hC hp hq hu ht hp1 hq1 hy hyt hyc hrng hM hB
          go_enter Tryz.func22, Tryz.ntmps22
          go_wp2_with fail
          refine hiu.out.mono ?_
          rintro e w1 ⟨rfl, hw⟩
          subst w1
          go_wp2_with fail
          refine hit.out.mono ?_
          rintro e w1 ⟨rfl, hw⟩
          subst w1
          go_wp2_with fail
          refine hh1.out.mono ?_
          rintro e w1 ⟨rfl, hw⟩
          subst w1
          go_wp2_with fail
          refine hh2.out.mono ?_
          rintro e w1 ⟨rfl, hw⟩
          subst w1
          go_wp2_with fail
          refine hgr.out.mono ?_
          rintro e w1 ⟨rfl, v', vg', hI', hG', hvg'⟩
          have HL := hid (show Lives w0 w1 d nu (k + 1) from by
            refine ⟨ub, mb, _, vd, dr, n, ss, vg', _, hI', HA.out v', ?_, ?_, HB.out.trans (hG'.below HM.out HB.out.size), ?_⟩
            · rw [List.length_set]; exact hn
            · rw [List.length_append, List.length_singleton]; omega
            · intro x hx
              rcases hx with hx | hx | hx | hx
              · exact HM.out x (Or.inl hx)
              · exact HM.out x (Or.inr (Or.inl hx))
              · exact HM.out x (Or.inr (Or.inr (Or.inl hx)))
              · rcases hvg' x hx with hx | hx
                · exact HM.out x (Or.inr (Or.inr (Or.inr hx)))
                · have h1 := HB.out.size
                  omega)
          clear hI' hG' hvg' hgr
          go_wp2
          go_ret
          exact ⟨⟨_, rfl⟩, HL.out⟩
      · rw [decide_eq_false hp1] at hh1
        clear h' hI hC hp hq hu ht hp1
        go_enter Tryz.func22, Tryz.ntmps22
        go_wp2_with fail
        refine hiu.out.mono ?_
        rintro e w1 ⟨rfl, hw⟩
        subst w1
        go_wp2_with fail
        refine hit.out.mono ?_
        rintro e w1 ⟨rfl, hw⟩
        subst w1
        go_wp2_with fail
        refine hh1.out.mono ?_
        rintro e w1 ⟨rfl, hw⟩
        subst w1
        go_wp2
        go_ret
        exact ⟨⟨_, rfl⟩, HL.out⟩
    · have hit := isUser_out w d ub mb us vd dr n ss vg gs hI to1 ht
      refine (give_out2 w d (u : Int) to1 cat step hiu hit).mono ?_
      rintro e w1 ⟨he, hw⟩
      subst w1
      exact ⟨he, h'.more (Nat.le_succ k)⟩
  · have hiu := isUser_out w d ub mb us vd dr n ss vg gs hI from1 hu
    refine (give_out1 w d from1 to1 cat step hiu).mono ?_
    rintro e w1 ⟨he, hw⟩
    subst w1
    exact ⟨he, h'.more (Nat.le_succ k)⟩
set_option maxHeartbeats 1000000 in
theorem grants_any (w : World) (d ub mb : Nat) (us : List (Acc × Value)) (vd : Value) (dr : List Int) (n : Nat) (ss : List Ses) (vg : Value) (gs : List Gra) (h : IdAt w d ub mb us vd dr n ss vg gs) (hg : gs.length ≤ 2199023255552) :
    Calls Tryz.prog 23 #[.pointer (some ⟨d, 0, none⟩)] w fun e w' => ∃ v, e = .returned v ∧ w'.ownsRow w.heap.size 66 4 v gs.length (gC gs) ∧ Below w.heap.size w w' := by
  have hgi := hid (dgiven_yes d w h.cells.1)
  obtain ⟨c0, c1, c2, c3, c4, c5⟩ := h.cells
  have hfr := hid (freshG_any vg gs.length (gC gs) w (sees_of_row h.gra) (gC_one gs) (by omega))
  clear h
  go_enter Tryz.func23, Tryz.ntmps23
  go_wp2_with fail
  refine hgi.out.mono ?_
  rintro e w1 ⟨rfl, hw⟩
  subst w1
  go_wp2_with fail
  refine hfr.out.mono ?_
  rintro e w1 ⟨v, rfl, hO, hB⟩
  have HO := hid hO
  have HB := hid hB
  clear hO hB hfr
  go_wp2
  go_ret
  exact ⟨_, rfl, HO.out, HB.out⟩
end Go.Proofs.YtplljpodejpbgaaGreatDoor

namespace Go.Proofs.YtplljpodejpbgaaGreatDoor
open Go.RowKit
set_option linter.unusedVariables false
set_option linter.unusedSimpArgs false
set_option maxRecDepth 100000

theorem visB_iff (s : ByteArray) : visB s = true ↔ ∀ j, j < s.size → visN ((bytesOf s).getD j 0) = true := by
  unfold visB
  rw [List.all_eq_true]
  constructor
  · intro h j hj
    have hj' : j < (bytesOf s).length := by rw [bytesOf_len]; exact hj
    rw [List.getD_eq_getElem?_getD, List.getElem?_eq_getElem hj']
    exact h _ (List.getElem_mem hj')
  · intro h x hx
    obtain ⟨j, hj, rfl⟩ := List.mem_iff_getElem.1 hx
    have := h j (by rw [← bytesOf_len]; exact hj)
    rw [List.getD_eq_getElem?_getD, List.getElem?_eq_getElem hj] at this
    exact this
theorem beq_bytes_f {s t : ByteArray} (h : s ≠ t) : (s.toList == t.toList) = false := by
  rw [beq_eq_false_iff_ne]
  intro e
  apply h
  rw [ByteArray.toList_eq, ByteArray.toList_eq] at e
  obtain ⟨⟨a⟩⟩ := s
  obtain ⟨⟨b⟩⟩ := t
  simp at e
  rw [e]
theorem beq_bytes_t (s : ByteArray) : (s.toList == s.toList) = true := by simp
set_option maxHeartbeats 8000000 in
theorem rmay_any (v : Value) (l : List UsL) (w : World) (hS : SeesK 4 w v l.length (uC l)) (hz : ∀ u ∈ l, u.name.size ≤ 140737488355328 ∧ u.salt.size ≤ 140737488355328 ∧ u.digest.size ≤ 140737488355328) :
    Calls Tryz.prog 20 #[v] w fun e w' => e = .returned (.bool (mayB l)) ∧ Below w.heap.size w w' := by
  obtain ⟨b, off, ao, cap, rfl, hcap, hao, hcell⟩ := seesU hS
  by_cases a1 : l.length < 1
  · have HV := hid (show mayB l = false by simp [mayB]; omega)
    have b1 : (l.length : Int) < 1 := by omega
    clear a1 hcell hS
    go_enter Tryz.func20, Tryz.ntmps20
    go_wp2
    go_ret
    exact ⟨ret_bool HV.out.symm, Below.refl _ _⟩
  have b1 : ¬ (l.length : Int) < 1 := by omega
  by_cases a2 : 16 < l.length
  · have HV := hid (show mayB l = false by simp [mayB]; omega)
    have b2 : (16 : Int) < (l.length : Int) := by omega
    clear a1 a2 hcell hS
    go_enter Tryz.func20, Tryz.ntmps20
    go_wp2
    go_ret
    exact ⟨ret_bool HV.out.symm, Below.refl _ _⟩
  have b2 : ¬ (16 : Int) < (l.length : Int) := by omega
  obtain rfl := hao (by omega)
  have HV := hid (show mayB l = mayTo l l.length by simp [mayB]; intro _; omega)
  have hbl : b < w.heap.size := World.block_lt_of_cell? w _ (hcell 0 (l[0]'(by omega)) (List.getElem?_eq_getElem _)).1
  have HC := hid hcell
  have HZ := hid hz
  clear a1 hcell hS hao hz
  go_enter Tryz.func20, Tryz.ntmps20
  go_wp2
  go_loopw [3] (fun i wr => ∃ k : Nat, k ≤ l.length ∧ i = .int .i64 k ∧ Hid (mayTo l k = true) ∧ Below w.heap.size w wr) (fun i _ => l.length - (intOf i).toNat)
  case atStart => exact ⟨0, Nat.zero_le _, rfl, rfl, Below.refl _ _⟩
  case round =>
    obtain ⟨k, hk, rfl, HM, hB⟩ := hrel
    by_cases hlt : k < l.length
    · obtain ⟨u, hu⟩ : ∃ u, l[k]? = some u := ⟨_, List.getElem?_eq_getElem hlt⟩
      have hum : u ∈ l := List.mem_of_getElem? hu
      obtain ⟨z1, z2, z3⟩ := HZ.out u hum
      obtain ⟨c0, c1, c2, c3⟩ := HC.out k u hu
      have d0 := (hB.cell (p := ⟨b, off + k * 4, none⟩) hbl).trans c0
      have d1 := (hB.cell (p := ⟨b, off + k * 4 + 1, none⟩) hbl).trans c1
      have d2 := (hB.cell (p := ⟨b, off + k * 4 + 2, none⟩) hbl).trans c2
      have d3 := (hB.cell (p := ⟨b, off + k * 4 + 3, none⟩) hbl).trans c3
      obtain ⟨W, hW⟩ : ∃ W, W = wr.alloc (.cells #[.string u.name, .string u.salt, .string u.digest, .bool u.op] 55) := ⟨_, rfl⟩
      have hbW : Below wr.heap.size wr W := by rw [hW]; exact below_alloc wr _
      have hX : UBox W wr.heap.size u := by unfold UBox; rw [hW]; exact heap_alloc_new wr _
      have HX := hid hX
      have HW := hid hW
      have hsw := hB.size
      have HB := hid (hB.trans (hbW.mono hsw))
      obtain ⟨x0, x1, x2, x3⟩ := hX.cells
      have hstep : mayTo l (k + 1) = (oneB u && !Lib.containsS ((l.take k).map (·.name)) u.name) := by
        rw [mayTo, HM.out, hu, Bool.true_and]
      have HS := hid hstep
      have HNF := hid (fun h : mayTo l (k + 1) = false => show mayB l = false by rw [HV.out]; exact mayTo_false h l.length (by omega))
      have HNO := hid (fun h : oneB u = false => HNF.out (by rw [hstep, h]; rfl))
      obtain ⟨nm, sl, dg, op⟩ := u
      simp only at d0 d1 d2 d3 x0 x1 x2 x3 z1 z2 z3
      have hi : (k : Int) < (l.length : Int) := by omega
      clear c0 c1 c2 c3 hX hB hbW hu hum hstep
      by_cases a1 : nm.size < 1
      · have HE := hid (HNO.out (by simp [oneB]; omega))
        have b1 : (nm.size : Int) < 1 := by omega
        clear a1
        go_wp2_with fail
        simp only [← HW.out]
        clear HW hW
        go_wp2
        go_ret
        exact ⟨ret_bool HE.out.symm, HB.out⟩
      have n1 : ¬ (nm.size : Int) < 1 := by omega
      by_cases a2 : 32 < nm.size
      · have HE := hid (HNO.out (by simp [oneB]; omega))
        have n2 : (32 : Int) < (nm.size : Int) := by omega
        clear a1 a2
        go_wp2_with fail
        simp only [← HW.out]
        clear HW hW
        go_wp2
        go_ret
        exact ⟨ret_bool HE.out.symm, HB.out⟩
      have n2 : ¬ (32 : Int) < (nm.size : Int) := by omega
      by_cases a3 : 32 < sl.size
      · have HE := hid (HNO.out (by simp [oneB]; omega))
        have n3 : (32 : Int) < (sl.size : Int) := by omega
        clear a1 a2 a3
        go_wp2_with fail
        simp only [← HW.out]
        clear HW hW
        go_wp2
        go_ret
        exact ⟨ret_bool HE.out.symm, HB.out⟩
      have n3 : ¬ (32 : Int) < (sl.size : Int) := by omega
      by_cases a4 : dg.size = 64
      · have n4 : ((dg.size : Int) != 64) = false := by rw [a4]; rfl
        have hun := hid (runhex_any dg W (by omega))
        have HONE := hid (show visB nm = true → (unhexOf (bytesOf dg)).isSome = true → oneB ⟨nm, sl, dg, op⟩ = true from fun h1 h2 => by simp [oneB, h1, h2, a4]; omega)
        have HNV := hid (fun h : visB nm = false => HNO.out (by simp [oneB, h]))
        have HNU := hid (fun h : (unhexOf (bytesOf dg)).isSome = false => HNO.out (by simp [oneB, h]))
        clear a1 a2 a3 a4 HNO
        go_wp2_with fail
        simp only [← HW.out]
        clear HW hW
        go_wp2
        go_loop [5] (fun i => ∃ m : Nat, m ≤ nm.size ∧ i = .int .i64 m ∧ Hid (∀ j, j < m → visN ((bytesOf nm).getD j 0) = true)) (fun i => nm.size - (intOf i).toNat)
        case atStart => exact ⟨0, Nat.zero_le _, rfl, fun j hj => absurd hj (by omega)⟩
        case round =>
          obtain ⟨m, hm, rfl, HK⟩ := hrel
          by_cases hml : m < nm.size
          · have hi := index_str nm .i64 (m : Int) m rfl hml W
            have hc : (m : Int) < (nm.size : Int) := by omega
            have hb : (bytesOf nm).getD m 0 < 256 := getD_lt (by decide) (bytesOf_lt nm) _
            obtain ⟨c, hcc⟩ : ∃ c, c = (bytesOf nm).getD m 0 := ⟨_, rfl⟩
            rw [← hcc] at hi hb
            have HCC := hid hcc
            clear hcc
            by_cases h1 : c < 33
            · have h1' : (c : Int) < 33 := by omega
              have HE := hid (HNV.out (by
                by_cases hv : visB nm = true
                · have := (visB_iff nm).1 hv m hml
                  rw [← HCC.out] at this
                  simp [visN] at this
                  omega
                · simpa using hv))
              clear h1
              go_wp2
              go_ret
              exact ⟨ret_bool HE.out.symm, HB.out⟩
            · by_cases h2 : 126 < c
              · have h1' : ¬ (c : Int) < 33 := by omega
                have h2' : (126 : Int) < (c : Int) := by omega
                have HE := hid (HNV.out (by
                  by_cases hv : visB nm = true
                  · have := (visB_iff nm).1 hv m hml
                    rw [← HCC.out] at this
                    simp [visN] at this
                    omega
                  · simpa using hv))
                clear h1 h2
                go_wp2
                go_ret
                exact ⟨ret_bool HE.out.symm, HB.out⟩
              · have h1' : ¬ (c : Int) < 33 := by omega
                have h2' : ¬ (126 : Int) < (c : Int) := by omega
                have HK2 : Hid (∀ j, j < m + 1 → visN ((bytesOf nm).getD j 0) = true) := fun j hj => by
                  by_cases e : j = m
                  · subst e
                    rw [← HCC.out]
                    simp [visN]
                    omega
                  · exact HK.out j (by omega)
                clear h1 h2 HK
                go_wp2
                go_round
                case rel => exact ⟨m + 1, by omega, by go_num, HK2⟩
                case measure => simp [intOf]; omega
          · have HVI := hid ((visB_iff nm).2 fun j hj => HK.out j (by omega))
            have hml' : ¬ (m : Int) < (nm.size : Int) := by omega
            clear HK HNV
            go_wp2_with fail
            refine hun.out.mono ?_
            rintro e w1 ⟨rfl, hb1⟩
            have HB1 := hid (HB.out.trans (hb1.mono HB.out.size))
            have hX1 := HX.out.below hb1
            obtain ⟨y0, y1, y2, y3⟩ := hX1.cells
            simp only at y0 y1 y2 y3
            cases hux : unhexOf (bytesOf dg) with
            | none =>
              have HE := hid (HNU.out (by rw [hux]; rfl))
              clear hb1 hX1 hux
              unfold unhexV
              go_wp2
              go_ret
              exact ⟨ret_bool HE.out.symm, HB1.out⟩
            | some bl =>
              have HO := hid (HONE.out HVI.out (by rw [hux]; rfl))
              clear hb1 hX1 hux HNU HONE
              unfold unhexV
              go_wp2
              go_loopw [8] (fun i wz => ∃ m : Nat, m ≤ k ∧ i = .int .i64 m ∧ Hid (∀ j x, j < m → l[j]? = some x → x.name ≠ nm) ∧ Hid (Below w1.heap.size w1 wz)) (fun i _ => k - (intOf i).toNat)
              case atStart => exact ⟨0, Nat.zero_le _, rfl, (fun j x hj => absurd hj (by omega)), Below.refl _ _⟩
              case round =>
                obtain ⟨q, hq, rfl, HQ, HBz⟩ := hrel
                have HBF := hid (HB1.out.trans (HBz.out.mono HB1.out.size))
                by_cases hqk : q < k
                · obtain ⟨x, hx⟩ : ∃ u, l[q]? = some u := ⟨_, List.getElem?_eq_getElem (by omega)⟩
                  have e0 := (HBF.out.cell (p := ⟨b, off + q * 4, none⟩) hbl).trans (HC.out q x hx).1
                  have e1 := (HBz.out.cell (p := ⟨_, 0, none⟩) (World.block_lt_of_cell? w1 _ y0)).trans y0
                  have hqc : (q : Int) < (k : Int) := by omega
                  have hql : (q : Int) < (l.length : Int) := by omega
                  obtain ⟨xn, xs, xd, xo⟩ := x
                  simp only at e0
                  have HX2 := hid hx
                  clear hx
                  by_cases hen : xn = nm
                  · subst hen
                    have hbe := beq_bytes_t xn
                    have HE := hid (HNF.out (by
                      rw [HS.out]
                      have : Lib.containsS ((l.take k).map (·.name)) xn = true := by
                        rw [Lib.containsS_iff, List.mem_map]
                        exact ⟨_, List.mem_iff_getElem?.2 ⟨q, by rw [List.getElem?_take_of_lt hqk]; exact HX2.out⟩, rfl⟩
                      rw [this]
                      simp))
                    go_wp2
                    go_quiet (fail)
                    go_wp2
                    go_ret
                    exact ⟨ret_bool HE.out.symm, below_drewN HBF.out _⟩
                  · have hbe := beq_bytes_f hen
                    have HQ2 : Hid (∀ j x, j < q + 1 → l[j]? = some x → x.name ≠ nm) := fun j x hj hx => by
                      by_cases e : j = q
                      · subst e
                        rw [HX2.out] at hx
                        cases hx
                        exact hen
                      · exact HQ.out j x (by omega) hx
                    clear HQ hen
                    go_wp2
                    go_quiet (fail)
                    go_wp2
                    go_roundw
                    case rel => exact ⟨q + 1, by omega, by go_num, HQ2, below_drewN HBz.out _⟩
                    case measure => simp [intOf]; omega
                · have hqc : ¬ (q : Int) < (k : Int) := by omega
                  have HM2 : Hid (mayTo l (k + 1) = true) := by
                    show mayTo l (k + 1) = true
                    rw [HS.out, HO.out, Bool.true_and, Bool.not_eq_true']
                    cases hc : Lib.containsS ((l.take k).map (·.name)) nm with
                    | false => rfl
                    | true =>
                      rw [Lib.containsS_iff, List.mem_map] at hc
                      obtain ⟨x, hx, hxe⟩ := hc
                      obtain ⟨j, hj⟩ := List.mem_iff_getElem?.1 hx
                      have hjk : j < k := by
                        have := (List.getElem?_eq_some_iff.1 hj).1
                        rw [List.length_take] at this
                        omega
                      rw [List.getElem?_take_of_lt hjk] at hj
                      exact absurd hxe (HQ.out j x (by omega) hj)
                  clear HQ
                  go_wp2
                  go_roundw
                  case rel => exact ⟨k + 1, by omega, by go_num, HM2, HBF.out⟩
                  case measure => simp [intOf]; omega
      · have HE := hid (HNO.out (by simp [oneB, a4]))
        have n4 : ((dg.size : Int) != 64) = true := by rw [bne_iff_ne]; omega
        clear a1 a2 a3 a4
        go_wp2_with fail
        simp only [← HW.out]
        clear HW hW
        go_wp2
        go_ret
        exact ⟨ret_bool HE.out.symm, HB.out⟩
    · have hk' : ¬ (k : Int) < (l.length : Int) := by omega
      have HE := hid (show mayB l = true by rw [HV.out, show l.length = k by omega]; exact HM.out)
      have HB := hid hB
      clear hB
      go_wp2
      go_ret
      exact ⟨ret_bool HE.out.symm, HB.out⟩
end Go.Proofs.YtplljpodejpbgaaGreatDoor

namespace Go.Proofs.YtplljpodejpbgaaGreatDoor
open Go.RowKit
set_option linter.unusedVariables false
set_option linter.unusedSimpArgs false
set_option maxRecDepth 100000

theorem seesGr {w : World} {v : Value} {l : List Gra} (h : SeesK 4 w v l.length (gC l)) : ∃ b off ao cap, v = .slice ao l.length cap ∧ l.length ≤ cap ∧ (0 < l.length → ao = some ⟨b, off, none⟩) ∧
    ∀ j u, l[j]? = some u → w.cell? ⟨b, off + j * 4, none⟩ = some (.int .i64 u.step) ∧ w.cell? ⟨b, off + j * 4 + 1, none⟩ = some (.int .i64 u.frm) ∧ w.cell? ⟨b, off + j * 4 + 2, none⟩ = some (.int .i64 u.to) ∧ w.cell? ⟨b, off + j * 4 + 3, none⟩ = some (.int .i64 u.cat) := by
  obtain ⟨_, b, off, ao, cap, h1, h2, h3, h4, h5⟩ := h
  refine ⟨b, off, ao, cap, h1, h2, h4, fun j u hj => ?_⟩
  have g : ∀ (i : Nat) (x : Value), (gC l)[i]? = some x → w.cell? ⟨b, off + i, none⟩ = some x := fun i x hx => by
    have hi := (List.getElem?_eq_some_iff.1 hx).1
    rw [h5 i hi]
    simp [List.getD, hx]
  obtain ⟨a, c, d, e⟩ := gC_get l j u hj
  exact ⟨g _ _ a, by have := g _ _ c; rwa [← Nat.add_assoc] at this, by have := g _ _ d; rwa [← Nat.add_assoc] at this, by have := g _ _ e; rwa [← Nat.add_assoc] at this⟩
structure OpL where
  kind : Int
  place : Int
  a : Int
  b : Int
  cat : Int
  step : Int
  name : ByteArray
  word : ByteArray
def oC : List OpL → List Value
  | [] => []
  | o :: r => .int .i64 o.kind :: .int .i64 o.place :: .int .i64 o.a :: .int .i64 o.b :: .int .i64 o.cat :: .int .i64 o.step :: .string o.name :: .string o.word :: oC r
theorem oC_len (l : List OpL) : (oC l).length = l.length * 8 := by
  induction l with
  | nil => rfl
  | cons p r ih => simp [oC, ih]; omega
def oV (o : OpL) : List Value := [.int .i64 o.kind, .int .i64 o.place, .int .i64 o.a, .int .i64 o.b, .int .i64 o.cat, .int .i64 o.step, .string o.name, .string o.word]
theorem oC_get : ∀ (l : List OpL) (j : Nat) (o : OpL) (i : Nat), l[j]? = some o → i < 8 → (oC l)[j * 8 + i]? = (oV o)[i]?
  | [], j, o, i, h, _ => by simp at h
  | q :: r, 0, o, i, h, hi => by
    simp only [List.getElem?_cons_zero, Option.some.injEq] at h
    subst h
    match i, hi with
    | 0, _ => rfl
    | 1, _ => rfl
    | 2, _ => rfl
    | 3, _ => rfl
    | 4, _ => rfl
    | 5, _ => rfl
    | 6, _ => rfl
    | 7, _ => rfl
  | q :: r, j + 1, o, i, h, hi => by
    have ih := oC_get r j o i (by simpa using h) hi
    rw [show (j + 1) * 8 + i = j * 8 + i + 1 + 1 + 1 + 1 + 1 + 1 + 1 + 1 by omega]
    simpa [oC] using ih
def OpAt (w : World) (b off j : Nat) (o : OpL) : Prop := w.cell? ⟨b, off + j * 8, none⟩ = some (.int .i64 o.kind) ∧ w.cell? ⟨b, off + j * 8 + 1, none⟩ = some (.int .i64 o.place) ∧ w.cell? ⟨b, off + j * 8 + 2, none⟩ = some (.int .i64 o.a) ∧ w.cell? ⟨b, off + j * 8 + 3, none⟩ = some (.int .i64 o.b) ∧
  w.cell? ⟨b, off + j * 8 + 4, none⟩ = some (.int .i64 o.cat) ∧ w.cell? ⟨b, off + j * 8 + 5, none⟩ = some (.int .i64 o.step) ∧ w.cell? ⟨b, off + j * 8 + 6, none⟩ = some (.string o.name) ∧ w.cell? ⟨b, off + j * 8 + 7, none⟩ = some (.string o.word)
theorem seesOp {w : World} {v : Value} {l : List OpL} (h : SeesK 8 w v l.length (oC l)) : ∃ b off ao cap, v = .slice ao l.length cap ∧ l.length ≤ cap ∧ (0 < l.length → ao = some ⟨b, off, none⟩) ∧ ∀ j o, l[j]? = some o → OpAt w b off j o := by
  obtain ⟨_, b, off, ao, cap, h1, h2, h3, h4, h5⟩ := h
  refine ⟨b, off, ao, cap, h1, h2, h4, fun j o hj => ?_⟩
  have g : ∀ (i : Nat) (x : Value), i < 8 → (oV o)[i]? = some x → w.cell? ⟨b, off + j * 8 + i, none⟩ = some x := fun i x hi hx => by
    have hg := oC_get l j o i hj hi
    rw [hx] at hg
    have hl := (List.getElem?_eq_some_iff.1 hg).1
    have := h5 (j * 8 + i) hl
    rw [← Nat.add_assoc] at this
    rw [this]
    simp [List.getD, hg]
  exact ⟨g 0 _ (by decide) rfl, g 1 _ (by decide) rfl, g 2 _ (by decide) rfl, g 3 _ (by decide) rfl, g 4 _ (by decide) rfl, g 5 _ (by decide) rfl, g 6 _ (by decide) rfl, g 7 _ (by decide) rfl⟩
theorem OpAt.below {B : Nat} {w w' : World} {b off j : Nat} {o : OpL} (h : OpAt w b off j o) (hb : Below B w w') (hl : b < B) : OpAt w' b off j o := by
  obtain ⟨h0, h1, h2, h3, h4, h5, h6, h7⟩ := h
  exact ⟨(hb.cell hl).trans h0, (hb.cell hl).trans h1, (hb.cell hl).trans h2, (hb.cell hl).trans h3, (hb.cell hl).trans h4, (hb.cell hl).trans h5, (hb.cell hl).trans h6, (hb.cell hl).trans h7⟩
set_option maxHeartbeats 1000000 in
theorem new_no (v vd0 : Value) (l : List UsL) (w : World) (hS : SeesK 4 w v l.length (uC l)) (hm : mayB l = false) (hz : ∀ u ∈ l, u.name.size ≤ 140737488355328 ∧ u.salt.size ≤ 140737488355328 ∧ u.digest.size ≤ 140737488355328) :
    Calls Tryz.prog 8 #[v, vd0] w fun e w' => e = .returned (.tuple #[.pointer none, .int .i64 170]) ∧ Below w.heap.size w w' := by
  have hmy := mayBe_any v l w hS hz
  rw [hm] at hmy
  have HM := hid hmy
  clear hmy hS hm hz
  go_enter Tryz.func8, Tryz.ntmps8
  go_wp2_with fail
  refine HM.out.mono ?_
  rintro e w1 ⟨rfl, hb⟩
  have HB := hid hb
  clear hb HM
  go_wp2
  go_ret2
  exact ⟨rfl, HB.out⟩
/-- What was given to u, of the first m. -/
def toM (gs : List Gra) (u : Int) (m : Nat) : List Int := toL (gs.take m) u
theorem toM_succ {gs : List Gra} {u : Int} {m : Nat} {g : Gra} (h : gs[m]? = some g) : toM gs u (m + 1) = if g.to = u then toM gs u m ++ [g.cat] else toM gs u m := by
  obtain ⟨hl, he⟩ := List.getElem?_eq_some_iff.1 h
  unfold toM
  rw [List.take_succ_eq_append_getElem hl, he, toL_app]
theorem toM_len {gs : List Gra} {u : Int} {m : Nat} : (toM gs u m).length ≤ m := by
  unfold toM toL
  rw [List.length_map]
  refine Nat.le_trans (List.length_filter_le _ _) ?_
  rw [List.length_take]
  omega
end Go.Proofs.YtplljpodejpbgaaGreatDoor
