/-
  Whose a token is; what somebody owns; a login that is refused.
-/
import Derived.Test.YtplljpodejpbgaaGreatDoorJLogin
namespace Go.Proofs.YtplljpodejpbgaaGreatDoor
open Go.RowKit Go.Maps
set_option linter.unusedVariables false
set_option linter.unusedSimpArgs false
set_option maxRecDepth 100000

set_option maxHeartbeats 1000000 in
theorem isUser_yes (w : World) (d ub mb : Nat) (us : List (Acc × Value)) (vd : Value) (dr : List Int) (n : Nat) (ss : List Ses) (vg : Value) (gs : List Gra) (h : IdAt w d ub mb us vd dr n ss vg gs) (u : Nat) (hu : u < us.length) :
    Calls Tryz.prog 57 #[.pointer (some ⟨d, 0, none⟩), .int .i64 (u : Int)] w fun e w' => e = .returned (.bool true) ∧ w = w' := by
  have hgi := hid (dgiven_yes d w h.cells.1)
  obtain ⟨c0, c1, c2, c3, c4, c5⟩ := h.cells
  have h0 : (0 : Int) ≤ (u : Int) := by omega
  have h1 : (u : Int) < (us.length : Int) := by omega
  clear h hu
  go_enter Tryz.func57, Tryz.ntmps57
  go_wp2_with fail
  refine hgi.out.mono ?_
  rintro e w1 ⟨rfl, hw⟩
  subst w1
  go_wp2
  go_ret
  exact ⟨rfl, rfl⟩
set_option maxHeartbeats 1000000 in
theorem own_any (w : World) (d ub mb : Nat) (us : List (Acc × Value)) (vd : Value) (dr : List Int) (n : Nat) (ss : List Ses) (vg : Value) (gs : List Gra) (h : IdAt w d ub mb us vd dr n ss vg gs) (u : Nat) (p : Acc × Value) (hp : us[u]? = some p) (hb : p.1.own.length ≤ 1099511627776) :
    Calls Tryz.prog 26 #[.pointer (some ⟨d, 0, none⟩), .int .i64 (u : Int)] w fun e w' => ∃ v, e = .returned v ∧ Owns w' w.heap.size v p.1.own ∧ Below w.heap.size w w' := by
  have hlu := (List.getElem?_eq_some_iff.1 hp).1
  have hiu := hid (isUser_yes w d ub mb us vd dr n ss vg gs h u hlu)
  obtain ⟨c0, c1, c2, c3, c4, c5⟩ := h.cells
  obtain ⟨a0, a1, a2, a3, a4⟩ := h.acc hp
  have hfr := hid (freshI_any p.2 p.1.own w (h.own p (List.mem_of_getElem? hp)).sees (by omega))
  have h2 := h.n2
  have h1 : (u : Int) < (us.length : Int) := by omega
  clear h hp
  go_enter Tryz.func26, Tryz.ntmps26
  go_wp2_with fail
  refine hiu.out.mono ?_
  rintro e w1 ⟨rfl, hw⟩
  subst w1
  go_wp2_with fail
  refine hfr.out.mono ?_
  rintro e w1 ⟨v, rfl, hO, hB⟩
  have HO := hid hO
  have HB := hid hB
  clear hO hB hfr
  go_wp2
  go_ret
  exact ⟨_, rfl, HO.out, HB.out⟩
/-- What Who answers. -/
def whoL (ss : List Ses) (t : ByteArray) (a e : Int) : Prop := (∃ s ∈ ss, s.token = t ∧ a = (s.who : Int) ∧ e = 0) ∨ ((∀ s ∈ ss, s.token ≠ t) ∧ a = 0 ∧ e = 3)
set_option maxHeartbeats 1000000 in
theorem who_any (w : World) (d ub mb : Nat) (us : List (Acc × Value)) (vd : Value) (dr : List Int) (n : Nat) (ss : List Ses) (vg : Value) (gs : List Gra) (h : IdAt w d ub mb us vd dr n ss vg gs) (t : ByteArray) (ht : t.size ≤ maxLen) :
    Calls Tryz.prog 19 #[.pointer (some ⟨d, 0, none⟩), .string t] w fun e w' => ∃ a er, e = .returned (.tuple #[.int .i64 a, .int .i64 er]) ∧ whoL ss t a er ∧ Below w.heap.size w w' := by
  have hgi := hid (dgiven_yes d w h.cells.1)
  obtain ⟨c0, c1, c2, c3, c4, c5⟩ := h.cells
  obtain ⟨k, D, hm, hkn, hM⟩ := h.map
  obtain ⟨a, b, hh, hrun, hcase⟩ := map_ok hm hM t ht
  have HW : Hid (whoL ss t a (if hh then 0 else 3)) := by
    rcases hcase with ⟨rfl, s, hs, h1, h2, _⟩ | ⟨rfl, h1, h2, _⟩
    · exact Or.inl ⟨s, hs, h1, h2, rfl⟩
    · exact Or.inr ⟨h1, h2, rfl⟩
  have ha0 : hh = false → a = 0 := fun e => by
    rcases hcase with ⟨h1, _⟩ | ⟨_, _, h2, _⟩
    · rw [e] at h1; cases h1
    · exact h2
  clear h hm hM hcase
  cases hh with
  | true =>
    clear ha0
    go_enter Tryz.func19, Tryz.ntmps19
    go_wp2_with fail
    refine hgi.out.mono ?_
    rintro e w1 ⟨rfl, hw⟩
    subst w1
    go_wp2
    go_ret2
    exact ⟨_, _, rfl, HW.out, below_alloc w _⟩
  | false =>
    obtain rfl := ha0 rfl
    go_enter Tryz.func19, Tryz.ntmps19
    go_wp2_with fail
    refine hgi.out.mono ?_
    rintro e w1 ⟨rfl, hw⟩
    subst w1
    go_wp2
    go_ret2
    exact ⟨_, _, rfl, HW.out, below_alloc w _⟩
set_option maxHeartbeats 2000000 in
theorem login_deny (w : World) (hT : Tb w) (d ub mb : Nat) (us : List (Acc × Value)) (vd : Value) (dr : List Int) (n : Nat) (ss : List Ses) (vg : Value) (gs : List Gra) (h : IdAt w d ub mb us vd dr n ss vg gs) (name word : ByteArray) (hwd : word.size ≤ 140737488351232)
    (hno : nameTo us name us.length = none ∨ ∃ u p, us[u]? = some p ∧ nameTo us name us.length = some u ∧ p.1.salt.size ≤ 32 ∧ strOf (saltOf p.1.salt word) ≠ p.1.digest) :
    Calls Tryz.prog 16 #[.pointer (some ⟨d, 0, none⟩), .string name, .string word] w fun e w' => e = .returned (.tuple #[.string ⟨#[]⟩, .int .i64 0, .int .i64 21]) ∧ Below w.heap.size w w' := by
  have hgi := hid (dgiven_yes d w h.cells.1)
  have hna := named_any w d ub mb us vd dr n ss vg gs h name
  rcases hno with hu | ⟨u, p, hp, hu, hsa, hdg⟩
  · rw [hu] at hna
    have HNA := hid hna
    unfold namedV at HNA
    clear hna h hT hu
    go_enter Tryz.func16, Tryz.ntmps16
    go_wp2_with fail
    refine hgi.out.mono ?_
    rintro e w1 ⟨rfl, hw⟩
    subst w1
    go_wp2_with fail
    refine HNA.out.mono ?_
    rintro e w1 ⟨rfl, hb1⟩
    have HB1 := hid hb1
    clear hb1
    go_wp2
    go_ret3
    exact ⟨rfl, HB1.out⟩
  · rw [hu] at hna
    have HNA := hid hna
    have HP := hid h
    have HT := hid hT
    have HUS := hid hp
    have hlu := (List.getElem?_eq_some_iff.1 hp).1
    have hlu2 := h.n2
    have hlui : (u : Int) < (us.length : Int) := by omega
    unfold namedV at HNA
    clear hna h hT hp hu
    go_enter Tryz.func16, Tryz.ntmps16
    go_wp2_with fail
    refine hgi.out.mono ?_
    rintro e w1 ⟨rfl, hw⟩
    subst w1
    go_wp2_with fail
    refine HNA.out.mono ?_
    rintro e w1 ⟨rfl, hb1⟩
    have hI1 := HP.out.below hb1
    have HB1 := hid hb1
    obtain ⟨c0, c1, c2, c3, c4, c5⟩ := hI1.cells
    obtain ⟨a0, a1, a2, a3, a4⟩ := hI1.acc HUS.out
    have HKN := hid (knows_any p.1.name p.1.salt p.1.digest word (p.1.made : Int) p.2 w1 ((HT.out.below hb1).r) hsa hwd)
    clear hb1 hgi HNA hI1
    go_wp2_with fail
    refine HKN.out.mono ?_
    rintro e w2 ⟨bb, rfl, hbb, hb2⟩
    have hbt : bb = false := by
      cases bb with
      | false => rfl
      | true => exact absurd (hbb.1 rfl) hdg
    subst hbt
    have HB2 := hid (HB1.out.trans (hb2.mono HB1.out.size))
    clear hbb hb2 HKN
    go_wp2
    go_ret3
    exact ⟨rfl, HB2.out⟩
end Go.Proofs.YtplljpodejpbgaaGreatDoor
