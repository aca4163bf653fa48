/-
  The user of a name.
-/
import Derived.Test.YtplljpodejpbgaaGreatDoorJGrant
namespace Go.Proofs.YtplljpodejpbgaaGreatDoor
open Go.RowKit
set_option linter.unusedVariables false
set_option linter.unusedSimpArgs false
set_option maxRecDepth 100000

/-- The first account of that name: its number. -/
def nameTo (us : List (Acc × Value)) (s : ByteArray) : Nat → Option Nat
  | 0 => none
  | k + 1 => match nameTo us s k with
    | some j => some j
    | none => match us[k]? with
      | some p => if p.1.name = s then some k else none
      | none => none
theorem nameTo_some {us : List (Acc × Value)} {s : ByteArray} {k j : Nat} (h : nameTo us s k = some j) : ∀ n, k ≤ n → nameTo us s n = some j
  | 0, hk => by
    have : k = 0 := by omega
    subst this; exact h
  | n + 1, hk => by
    by_cases he : k = n + 1
    · subst he; exact h
    · rw [nameTo, nameTo_some h n (by omega)]
def nameV : Option Nat → Value
  | some j => .int .i64 (j : Int)
  | none => .int .i64 (-1)
theorem beq_text (a b : ByteArray) : (a.toList == b.toList) = true ↔ a = b := by
  rw [beq_iff_eq, ByteArray.toList_eq, ByteArray.toList_eq]
  constructor
  · intro h
    obtain ⟨⟨x⟩⟩ := a
    obtain ⟨⟨y⟩⟩ := b
    simp at h
    rw [h]
  · intro h
    rw [h]

set_option maxHeartbeats 400000 in
theorem namedF_any (n s g x : ByteArray) (made : Int) (vo : Value) (c : Nat) (w : World) (hc : w.cell? ⟨c, 0, none⟩ = some (.string x)) :
    Calls Tryz.prog 70 #[.agg #[.string n, .string s, .string g, .int .i64 made, vo], .pointer (some ⟨c, 0, none⟩)] w fun e w' => ∃ b, e = .returned (.bool b) ∧ (b = true ↔ n = x) ∧ Below w.heap.size w w' := by
  have hlt := World.block_lt_of_cell? w _ hc
  simp only at hlt
  go_enter Tryz.func70, Tryz.ntmps70
  go_wp2
  go_ret
  exact ⟨_, rfl, beq_text n x, below_alloc w _⟩

set_option maxHeartbeats 2000000 in
theorem indexF_any (us : List (Acc × Value)) (ub c : Nat) (x : ByteArray) (w : World) (hl : us.length ≤ 16) (h0 : 0 < us.length) (hr : w.heap[ub]? = some (.cells (aC us).toArray 86 (0, 0))) (hc : w.cell? ⟨c, 0, none⟩ = some (.string x)) :
    Calls Tryz.prog 69 #[.slice (some ⟨ub, 0, none⟩) us.length us.length, .func (.func 70) #[] #[.pointer (some ⟨c, 0, none⟩)]] w fun e w' => e = .returned (nameV (nameTo us x us.length)) ∧ Below w.heap.size w w' := by
  have HR := hid hr
  have HC := hid hc
  have HL := hid (Array.getElem?_eq_some_iff.1 hr).1
  clear hr hc
  go_enter Tryz.func69, Tryz.ntmps69
  go_wp2
  go_loopw [5, 8] (fun _ i wr => ∃ k : Nat, k ≤ us.length ∧ i = .int .i64 k ∧ Hid (nameTo us x k = none) ∧ Hid (Below w.heap.size w wr)) (fun _ i _ => us.length - (intOf i).toNat)
  case atStart => exact ⟨0, Nat.zero_le _, rfl, rfl, Below.refl _ _⟩
  case round =>
    obtain ⟨k, hk, rfl, HN, HB⟩ := hrel
    by_cases hlt : k < us.length
    · obtain ⟨p, hp⟩ : ∃ p, us[k]? = some p := ⟨_, List.getElem?_eq_getElem hlt⟩
      have hrow := (HB.out.block ub HL.out).trans HR.out
      obtain ⟨a0, a1, a2, a3, a4⟩ := aC_get us k p hp
      have a0 := cell_of_list hrow a0
      have a1 := cell_of_list hrow a1
      have a2 := cell_of_list hrow a2
      have a3 := cell_of_list hrow a3
      have a4 := cell_of_list hrow a4
      have hcl := namedF_any p.1.name p.1.salt p.1.digest x (p.1.made : Int) p.2 c wr ((HB.out.cell (World.block_lt_of_cell? w _ HC.out)).trans HC.out)
      have HS : Hid (nameTo us x (k + 1) = if p.1.name = x then some k else none) := by
        show nameTo us x (k + 1) = _
        rw [nameTo, HN.out, hp]
      have hsw := HB.out.size
      have hkl : (k : Int) < (us.length : Int) := by omega
      obtain ⟨⟨nm, sl, dg, md, ow⟩, vo⟩ := p
      simp only at a0 a1 a2 a3 a4 hcl HS
      have HCL := hid hcl
      clear hrow hp hcl
      go_wp2_with fail
      refine HCL.out.mono ?_
      rintro e w1 ⟨b, rfl, hbi, hb1⟩
      have HB1 := hid (HB.out.trans (hb1.mono hsw))
      clear hb1 HCL
      cases b with
      | true =>
        have hn := hbi.1 rfl
        rw [hn, if_pos rfl] at HS
        have HE := hid (nameTo_some HS.out us.length (by omega))
        clear hbi hn
        go_wp2
        go_ret
        exact ⟨by rw [HE.out]; rfl, HB1.out⟩
      | false =>
        have hn : ¬ nm = x := fun h => by have := hbi.2 h; cases this
        rw [if_neg hn] at HS
        clear hbi hn
        go_wp2
        go_roundw
        case rel => exact ⟨k + 1, by omega, by go_num, HS, HB1⟩
        case measure => simp [intOf]; omega
    · have hk' : k = us.length := by omega
      subst hk'
      go_wp2
      go_ret
      exact ⟨by rw [HN.out]; rfl, HB.out⟩

def namedV (o : Option Nat) : Value := match o with
  | some j => .tuple #[.int .i64 (j : Int), .bool true]
  | none => .tuple #[.int .i64 (-1), .bool false]
theorem nameTo_lt {us : List (Acc × Value)} {s : ByteArray} : ∀ {k j : Nat}, nameTo us s k = some j → j < us.length ∧ ∃ p, us[j]? = some p ∧ p.1.name = s
  | 0, j, h => by simp [nameTo] at h
  | k + 1, j, h => by
    rw [nameTo] at h
    cases hk : nameTo us s k with
    | some i =>
      rw [hk] at h
      simp at h
      subst h
      exact nameTo_lt hk
    | none =>
      rw [hk] at h
      cases hp : us[k]? with
      | none => rw [hp] at h; simp at h
      | some p =>
        rw [hp] at h
        simp only at h
        by_cases e : p.1.name = s
        · rw [if_pos e] at h
          simp at h
          subst h
          exact ⟨(List.getElem?_eq_some_iff.1 hp).1, p, hp, e⟩
        · rw [if_neg e] at h
          cases h
set_option maxHeartbeats 1000000 in
theorem named_any (w : World) (d ub mb : Nat) (us : List (Acc × Value)) (vd : Value) (dr : List Int) (n : Nat) (ss : List Ses) (vg : Value) (gs : List Gra) (h : IdAt w d ub mb us vd dr n ss vg gs) (x : ByteArray) :
    Calls Tryz.prog 51 #[.pointer (some ⟨d, 0, none⟩), .string x] w fun e w' => e = .returned (namedV (nameTo us x us.length)) ∧ Below w.heap.size w w' := by
  obtain ⟨c0, c1, c2, c3, c4, c5⟩ := h.cells
  have hltd := h.ltd
  obtain ⟨W, hW⟩ : ∃ W, W = w.alloc (.cells #[.string x] 9) := ⟨_, rfl⟩
  have hbW : Below w.heap.size w W := by rw [hW]; exact below_alloc w _
  have hx : W.cell? ⟨w.heap.size, 0, none⟩ = some (.string x) := by rw [hW]; simp
  have hi := indexF_any us ub w.heap.size x W h.n2 h.n1 ((hbW.block ub h.ltu).trans h.row) hx
  have HI := hid hi
  have HB := hid hbW
  have HW := hid hW
  clear h hi hbW hW hx
  cases ho : nameTo us x us.length with
  | none =>
    rw [ho] at HI
    unfold nameV at HI
    unfold namedV
    clear ho
    go_enter Tryz.func51, Tryz.ntmps51
    go_wp2_with fail
    rw [← HW.out]
    refine HI.out.mono ?_
    rintro e w1 ⟨rfl, hb1⟩
    have HB1 := hid (HB.out.trans (hb1.mono HB.out.size))
    clear hb1 HI HW
    go_wp2
    go_ret2
    exact ⟨rfl, HB1.out⟩
  | some j =>
    rw [ho] at HI
    unfold nameV at HI
    unfold namedV
    have hj0 : (0 : Int) ≤ (j : Int) := by omega
    clear ho
    go_enter Tryz.func51, Tryz.ntmps51
    go_wp2_with fail
    rw [← HW.out]
    refine HI.out.mono ?_
    rintro e w1 ⟨rfl, hb1⟩
    have HB1 := hid (HB.out.trans (hb1.mono HB.out.size))
    clear hb1 HI HW
    go_wp2
    go_ret2
    exact ⟨rfl, HB1.out⟩
end Go.Proofs.YtplljpodejpbgaaGreatDoor
