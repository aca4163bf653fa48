/-
  What must come, whatever the arguments are.
-/
import Derived.Test.YtplljpodejpbgaaGreatDoorLRef
import Derived.Test.YtplljpodejpbgaaGreatDoorLSets
import Derived.Test.YtplljpodejpbgaaGreatDoorLSet
import Derived.Test.YtplljpodejpbgaaGreatDoorJMayC
import Derived.Test.YtplljpodejpbgaaGreatDoorXSalt
import Derived.Test.YtplljpodejpbgaaGreatDoorKP1
import Derived.Test.YtplljpodejpbgaaGreatDoorJNew
namespace Go.Proofs.YtplljpodejpbgaaGreatDoor
open Go.RowKit
set_option linter.unusedVariables false

/-- THE INNER LOOP's RELATION on lists: k of 'out' have been gone over; 'next' is what was gathered; 'done': x stands in it. -/
structure Ins (out : List Int) (x : Int) (k : Nat) (done : Bool) (next : List Int) : Prop where
  rises : next.Pairwise (· < ·)
  mem : ∀ y, y ∈ next ↔ (done = true ∧ y = x) ∨ y ∈ out.take k
  above : done = true → ∀ y, y ∈ out.drop k → x < y
  under : done = false → ∀ y, y ∈ out.take k → y < x
  len : next.length ≤ k + 1
  len0 : done = false → next.length ≤ k

theorem Ins.start (out : List Int) (x : Int) : Ins out x 0 false [] := ⟨by simp, by simp, by simp, by simp, by simp, by simp⟩

theorem mem_take_succ {out : List Int} {y : Int} {k : Nat} (hk : k < out.length) (hy : y = out.getD k 0) (z : Int) : z ∈ out.take (k + 1) ↔ z ∈ out.take k ∨ z = y := by
  rw [List.take_succ_eq_append_getElem hk, List.mem_append, List.mem_singleton, hy]
  simp [List.getD, hk]

theorem take_lt {out : List Int} {y : Int} {k : Nat} (ho : out.Pairwise (· < ·)) (hk : k < out.length) (hy : y = out.getD k 0) (z : Int) (hz : z ∈ out.take k) : z < y := by
  obtain ⟨j, hj, e⟩ := List.mem_iff_getElem.1 hz
  have hj' : j < k := by simp at hj; omega
  have := List.pairwise_iff_getElem.1 ho j k (by omega) hk hj'
  simp only [List.getElem_take] at e
  rw [← e, hy]
  simpa [List.getD, hk] using this

theorem drop_ge {out : List Int} {y : Int} {k : Nat} (ho : out.Pairwise (· < ·)) (hk : k < out.length) (hy : y = out.getD k 0) (z : Int) (hz : z ∈ out.drop k) : y ≤ z := by
  obtain ⟨j, hj, e⟩ := List.mem_iff_getElem.1 hz
  simp only [List.getElem_drop] at e
  simp only [List.length_drop] at hj
  by_cases hj0 : j = 0
  · subst hj0
    rw [← e, hy]
    simp [List.getD, hk]
  · have := List.pairwise_iff_getElem.1 ho k (k + j) hk (by omega) (by omega)
    rw [← e, hy]
    simp only [List.getD, List.getElem?_eq_getElem hk, Option.getD_some]
    omega

theorem drop_succ_mem {out : List Int} {k : Nat} (hk : k < out.length) (z : Int) (hz : z ∈ out.drop (k + 1)) : z ∈ out.drop k := by
  rw [List.drop_eq_getElem_cons hk]
  exact List.mem_cons_of_mem _ hz

theorem mem_drop_self {out : List Int} {y : Int} {k : Nat} (hk : k < out.length) (hy : y = out.getD k 0) : y ∈ out.drop k := by
  have e : y = out[k] := by rw [hy]; simp [List.getD, hk]
  rw [e, List.drop_eq_getElem_cons hk]
  exact List.mem_cons_self

theorem rises_snoc {l : List Int} {z : Int} (h : l.Pairwise (· < ·)) (hz : ∀ a, a ∈ l → a < z) : (l ++ [z]).Pairwise (· < ·) := by
  rw [List.pairwise_append]
  exact ⟨h, by simp, fun a ha b hb => by simp at hb; subst hb; exact hz a ha⟩

/-- x is put in ahead of y. -/
theorem Ins.put {out : List Int} {x y : Int} {k : Nat} {next : List Int} (h : Ins out x k false next) (ho : out.Pairwise (· < ·)) (hk : k < out.length) (hy : y = out.getD k 0) (hxy : x < y) :
    Ins out x (k + 1) true (next ++ [x] ++ [y]) := by
  have hm := h.mem
  have hu := h.under rfl
  refine ⟨rises_snoc (rises_snoc h.rises ?_) ?_, ?_, ?_, by simp, ?_, by simp⟩
  · intro a ha
    rw [hm] at ha
    simp at ha
    exact hu a ha
  · intro a ha
    rw [List.mem_append, List.mem_singleton, hm] at ha
    rcases ha with ha | rfl
    · simp at ha
      exact take_lt ho hk hy a ha
    · exact hxy
  · intro z
    rw [List.mem_append, List.mem_append, List.mem_singleton, List.mem_singleton, hm, mem_take_succ hk hy]
    constructor
    · rintro ((h1 | h1) | h1)
      · simp at h1
        exact Or.inr (Or.inl h1)
      · exact Or.inl ⟨rfl, h1⟩
      · exact Or.inr (Or.inr h1)
    · rintro (⟨_, h1⟩ | h1 | h1)
      · exact Or.inl (Or.inr h1)
      · exact Or.inl (Or.inl (Or.inr h1))
      · exact Or.inr h1
  · intro _ z hz
    have := drop_ge ho hk hy z (drop_succ_mem hk z hz)
    omega
  · have := h.len0 rfl
    simp
    omega

/-- y goes over, x not yet. -/
theorem Ins.pass {out : List Int} {x y : Int} {k : Nat} {next : List Int} (h : Ins out x k false next) (ho : out.Pairwise (· < ·)) (hk : k < out.length) (hy : y = out.getD k 0) (hxy : ¬ x < y) (hx : x ∉ out) :
    Ins out x (k + 1) false (next ++ [y]) := by
  have hm := h.mem
  have hyx : y < x := by
    have : y ≠ x := by
      intro e
      apply hx
      rw [← e]
      exact List.mem_of_mem_drop (mem_drop_self hk hy)
    omega
  refine ⟨rises_snoc h.rises ?_, ?_, by simp, ?_, ?_, ?_⟩
  · intro a ha
    rw [hm] at ha
    simp at ha
    exact take_lt ho hk hy a ha
  · intro z
    rw [List.mem_append, List.mem_singleton, hm, mem_take_succ hk hy]
    simp
  · intro _ z hz
    rw [mem_take_succ hk hy] at hz
    rcases hz with hz | rfl
    · exact h.under rfl z hz
    · exact hyx
  · have := h.len0 rfl
    simp
    omega
  · intro _
    have := h.len0 rfl
    simp
    omega

/-- y goes over behind x. -/
theorem Ins.after {out : List Int} {x y : Int} {k : Nat} {next : List Int} (h : Ins out x k true next) (ho : out.Pairwise (· < ·)) (hk : k < out.length) (hy : y = out.getD k 0) :
    Ins out x (k + 1) true (next ++ [y]) := by
  have hm := h.mem
  refine ⟨rises_snoc h.rises ?_, ?_, ?_, by simp, ?_, by simp⟩
  · intro a ha
    rw [hm] at ha
    rcases ha with ⟨_, rfl⟩ | ha
    · exact h.above rfl y (mem_drop_self hk hy)
    · exact take_lt ho hk hy a ha
  · intro z
    rw [List.mem_append, List.mem_singleton, hm, mem_take_succ hk hy]
    constructor
    · rintro ((h1 | h1) | h1)
      · exact Or.inl h1
      · exact Or.inr (Or.inl h1)
      · exact Or.inr (Or.inr h1)
    · rintro (h1 | h1 | h1)
      · exact Or.inl (Or.inl h1)
      · exact Or.inl (Or.inr h1)
      · exact Or.inr h1
  · intro _ z hz
    exact h.above rfl z (drop_succ_mem hk z hz)
  · have := h.len
    simp
    omega

/-- The end: x stands in it. -/
theorem Ins.fin {l out : List Int} {x : Int} {next : List Int} (h : Ins out x out.length true next) (hl : out = sd l) : next = sd (l ++ [x]) := by
  refine (sd_of h.rises fun z => ?_).symm
  rw [h.mem, List.take_of_length_le (Nat.le_refl _), hl, mem_sd]
  simp [or_comm]

/-- The end: x stands behind all. -/
theorem Ins.fin0 {l out : List Int} {x : Int} {next : List Int} (h : Ins out x out.length false next) (hl : out = sd l) : next ++ [x] = sd (l ++ [x]) := by
  have hm := h.mem
  rw [List.take_of_length_le (Nat.le_refl _)] at hm
  refine (sd_of (rises_snoc h.rises ?_) fun z => ?_).symm
  · intro a ha
    rw [hm] at ha
    simp at ha
    exact h.under rfl a (by rw [List.take_of_length_le (Nat.le_refl _)]; exact ha)
  · rw [List.mem_append, List.mem_singleton, hm, hl, mem_sd]
    simp

theorem sd_has {l : List Int} {x : Int} (h : x ∈ sd l) : sd (l ++ [x]) = sd l := by
  refine sd_congr fun z => ?_
  rw [mem_sd] at h
  simp only [List.mem_append, List.mem_singleton]
  constructor
  · rintro (h1 | rfl)
    · exact h1
    · exact h
  · exact Or.inl

end Go.Proofs.YtplljpodejpbgaaGreatDoor

namespace Go.Proofs.YtplljpodejpbgaaGreatDoor
open Go.RowKit
set_option linter.unusedVariables false

set_option maxHeartbeats 400000 in
theorem has_any (v : Value) (xs : List Int) (x : Int) (w : World) (hS : Sees w v xs) (hlen : xs.length ≤ 4611686018427387904) :
    Calls Tryz.prog 60 #[v, .int .i64 x] w fun e w' => e = .returned (.bool (decide (x ∈ xs))) ∧ w' = w := by
  obtain ⟨b, off, ao, cap, rfl, hcap, _, hao, hcell⟩ := hS
  go_enter Tryz.func60, Tryz.ntmps60
  go_wp2
  go_loop [5] (fun i => ∃ k : Nat, k ≤ xs.length ∧ i = .int .i64 k ∧ x ∉ xs.take k) (fun i => xs.length - (intOf i).toNat)
  case atStart => exact ⟨0, Nat.zero_le _, rfl, by simp⟩
  case round =>
    obtain ⟨k, hk, rfl, hnot⟩ := hrel
    by_cases hlt : k < xs.length
    · have hne : xs ≠ [] := by intro h; rw [h] at hlt; simp at hlt
      obtain rfl := hao hne
      obtain ⟨y, hy⟩ : ∃ y, y = xs.getD k 0 := ⟨_, rfl⟩
      have hc := hcell k hlt
      rw [← hy] at hc
      have HY : Hid (y = xs.getD k 0) := hy
      have HC : Hid (∀ j, j < xs.length → w.cell? ⟨b, off + j, none⟩ = some (.int .i64 (xs.getD j 0))) := hcell
      have HN : Hid (x ∉ xs.take k) := hnot
      clear hy hcell hnot hne hao
      by_cases hyx : y = x
      · have h1 : (y == x) = true := by simpa using hyx
        go_wp2
        go_ret
        refine ⟨ret_bool ?_, rfl⟩
        have : x ∈ xs := by
          rw [← hyx, HY.out]
          simp [List.getD, hlt]
        simp [this]
      · have h1 : (y == x) = false := by simpa using hyx
        go_wp2
        go_round
        case rel => exact ⟨k + 1, by omega, by go_num, take_mem_succ hlt HY.out HN.out hyx⟩
        case measure => simp [intOf]; omega
    · go_wp2
      go_ret
      refine ⟨ret_bool ?_, rfl⟩
      rw [List.take_of_length_le (by omega)] at hnot
      simp [hnot]

theorem cell_grown {wr w4 : World} {base b2 o2 nq : Nat} {v : Value} {vs : List Int} {c : Value} {o : Obj} (hown : Owns wr base v vs) (hlt : b2 < base) (hc : wr.cell? ⟨b2, o2, none⟩ = some c)
    (hG : ((wr.drewN nq).alloc o).grownBy w4 v.ownBlock) : w4.cell? ⟨b2, o2, none⟩ = some c := by
  have hB : Below wr.heap.size wr ((wr.drewN nq).alloc o) := (below_drewN (Below.refl _ _) nq).alloc (by simp) _
  refine hG.cell ((hB.cell (World.block_lt_of_cell? wr _ hc)).trans hc) (fun e => ?_)
  have := (hown.lt b2 e.symm).1
  omega

set_option maxHeartbeats 2000000 in
theorem refOf_any (v : Value) (xs : List Int) (w : World) (hS : Sees w v xs) (hb : xs.length ≤ 4398046511104) :
    Calls Tryz.prog 25 #[v] w fun e w' => ∃ v', e = .returned v' ∧ Owns w' w.heap.size v' (sd xs) ∧ Below w.heap.size w w' := by
  obtain ⟨b, off, ao, cap, rfl, hcap, _, hao, hcell⟩ := hS
  have HC := hid hcell
  clear hcell
  go_enter Tryz.func25, Tryz.ntmps25
  go_wp2
  go_loopw [3, 4] (fun o i wr => ∃ k : Nat, k ≤ xs.length ∧ i = .int .i64 k ∧ Owns wr w.heap.size o (sd (xs.take k)) ∧ Below w.heap.size w wr) (fun _ i _ => xs.length - (intOf i).toNat)
  case atStart => exact ⟨0, Nat.zero_le _, rfl, by rw [List.take_zero, sd_nil]; exact World.ownsRow_nil _ _ _ _, Below.refl _ _⟩
  case round =>
    obtain ⟨k, hk, rfl, hown, hbel⟩ := hrel
    have hszr := hbel.size
    by_cases hlt : k < xs.length
    · have hne : xs ≠ [] := by intro h; rw [h] at hlt; simp at hlt
      obtain rfl := hao hne
      obtain ⟨y, hy⟩ : ∃ y, y = xs.getD k 0 := ⟨_, rfl⟩
      have hcl := HC.out k hlt
      rw [← hy] at hcl
      have hc : wr.cell? ⟨b, off + k, none⟩ = some (.int .i64 y) := (hbel.cell (World.block_lt_of_cell? w _ hcl)).trans hcl
      have hbw : b < w.heap.size := World.block_lt_of_cell? w _ hcl
      have hts : xs.take (k + 1) = xs.take k ++ [y] := by
        rw [List.take_succ_eq_append_getElem hlt, hy]
        simp [List.getD, hlt]
      have HT := hid hts
      obtain ⟨out, hout⟩ : ∃ out, out = sd (xs.take k) := ⟨_, rfl⟩
      have hor : out.Pairwise (· < ·) := by rw [hout]; exact sd_rises _
      have hol : out.length ≤ k := by
        rw [hout]
        have := length_sd_le (xs.take k)
        rw [List.length_take] at this
        omega
      rw [← hout] at hown
      have HO := hid hout
      have hseeo := hown.sees
      clear hy hts hne hao hout hcl
      by_cases hin : y ∈ out
      · go_wp2_with fail
        refine (has_any _ out y _ hseeo (by omega)).mono ?_
        rintro e w' ⟨rfl, rfl⟩
        have R : Owns w' w.heap.size u3 (sd (xs.take (k + 1))) := by
          rw [HT.out, sd_has (by rw [← HO.out]; exact hin), ← HO.out]
          exact hown
        clear hown hseeo hor
        go_wp2
        go_roundw
        case rel => exact ⟨k + 1, by omega, by go_num, R, hbel⟩
        case measure => simp [intOf]; omega
      · go_wp2_with fail
        refine (has_any _ out y _ hseeo (by omega)).mono ?_
        rintro e w' ⟨rfl, rfl⟩
        obtain ⟨b2, off2, ao2, cap2, rfl, hcap2, _, hao2, hcell2⟩ := hseeo
        have HC2 := hid hcell2
        clear hcell2
        go_wp2
        go_loopw [5, 6, 7] (fun nx dn kk wq => ∃ (m : Nat) (done : Bool) (next : List Int), m ≤ out.length ∧ kk = .int .i64 m ∧ dn = .bool done ∧ Ins out y m done next ∧ Owns wq w'.heap.size nx next ∧ Below w'.heap.size w' wq) (fun _ _ kk _ => out.length - (intOf kk).toNat)
        case atStart => exact ⟨0, false, [], Nat.zero_le _, rfl, rfl, Ins.start _ _, World.ownsRow_nil _ _ _ _, Below.refl _ _⟩
        case round =>
          obtain ⟨m, done, next, hm, rfl, rfl, hins, hownn, hbeln⟩ := hrel
          have hszn := hbeln.size
          have hnl := hins.len
          have hcn : wr.cell? ⟨b, off + k, none⟩ = some (.int .i64 y) := (hbeln.cell (by show b < _; omega)).trans hc
          have HI := hid hins
          clear hins
          by_cases hlm : m < out.length
          · have hne2 : out ≠ [] := by intro h; rw [h] at hlm; simp at hlm
            obtain rfl := hao2 hne2
            obtain ⟨z, hz⟩ : ∃ z, z = out.getD m 0 := ⟨_, rfl⟩
            have hcl2 := HC2.out m hlm
            rw [← hz] at hcl2
            have hc2 : wr.cell? ⟨b2, off2 + m, none⟩ = some (.int .i64 z) := (hbeln.cell (World.block_lt_of_cell? w' _ hcl2)).trans hcl2
            have hb2 : b2 < w'.heap.size := World.block_lt_of_cell? w' _ hcl2
            have HZ := hid hz
            clear hz hcl2 hne2 hao2
            cases done
            · by_cases hyz : y < z
              · have I2 := hid (HI.out.put hor hlm HZ.out hyz)
                go_wp2_with fail
                go_quiet (fail)
                go_wp2_with (first | (at_builtin; refine wpList_app rfl (.tmp 39) (.tmp 44) rfl w'.heap.size _ _ rfl (Owns.below (hownn.below (below_drewN (Below.refl _ _) nq)) ((Below.refl _ _).alloc (Nat.le_refl _) _)) _ [y] rfl (sees_one _ _) (by simp only [List.length_singleton]; omega) (by simp; omega) ?_; intro v4 w4 hO4 hG4; have hc4 := cell_grown hownn hb2 hc2 hG4) | (at_builtin; refine wpList_app rfl (.tmp 46) (.tmp 51) rfl w'.heap.size _ _ rfl (Owns.below hO4 ((Below.refl _ _).alloc (Nat.le_refl _) _)) _ [z] rfl (sees_one _ _) (by simp only [List.length_singleton, List.length_append]; omega) (by have := hG4.size; simp at this ⊢; omega) ?_; intro v5 w5 hO5 hG5))
                have R : Below w'.heap.size w' w5 := ((((below_drewN hbeln nq).alloc (by simp; omega) _).grown hG4 (by simp; omega) (fun j hj => (hownn.lt j hj).1)).alloc (by have := hG4.size; simp at this; omega) _).grown hG5 (by have := hG4.size; simp at this ⊢; omega) (fun j hj => (hO4.lt j hj).1)
                clear hO4 hG4 hG5 hownn hcn hc2
                go_wp2
                go_roundw
                case rel => exact ⟨m + 1, true, _, by omega, by go_num, rfl, I2.out, hO5, R⟩
                case measure => simp [intOf]; omega
              · have I2 := hid (HI.out.pass hor hlm HZ.out hyz hin)
                go_wp2_with fail
                go_quiet (fail)
                go_wp2_with (first | (at_builtin; refine wpList_app rfl (.tmp 46) (.tmp 51) rfl w'.heap.size _ _ rfl (Owns.below (hownn.below (below_drewN (Below.refl _ _) nq)) ((Below.refl _ _).alloc (Nat.le_refl _) _)) _ [z] rfl (sees_one _ _) (by simp only [List.length_singleton]; omega) (by simp; omega) ?_; intro v5 w5 hO5 hG5))
                have R : Below w'.heap.size w' w5 := ((below_drewN hbeln nq).alloc (by simp; omega) _).grown hG5 (by simp; omega) (fun j hj => (hownn.lt j hj).1)
                clear hG5 hownn hcn hc2
                go_wp2
                go_roundw
                case rel => exact ⟨m + 1, false, _, by omega, by go_num, rfl, I2.out, hO5, R⟩
                case measure => simp [intOf]; omega
            · have I2 := hid (HI.out.after hor hlm HZ.out)
              go_wp2_with fail
              go_quiet (fail)
              go_wp2_with (first | (at_builtin; refine wpList_app rfl (.tmp 46) (.tmp 51) rfl w'.heap.size _ _ rfl (Owns.below (hownn.below (below_drewN (Below.refl _ _) nq)) ((Below.refl _ _).alloc (Nat.le_refl _) _)) _ [z] rfl (sees_one _ _) (by simp only [List.length_singleton]; omega) (by simp; omega) ?_; intro v5 w5 hO5 hG5))
              have R : Below w'.heap.size w' w5 := ((below_drewN hbeln nq).alloc (by simp; omega) _).grown hG5 (by simp; omega) (fun j hj => (hownn.lt j hj).1)
              clear hG5 hownn hcn hc2
              go_wp2
              go_roundw
              case rel => exact ⟨m + 1, true, _, by omega, by go_num, rfl, I2.out, hO5, R⟩
              case measure => simp [intOf]; omega
          · have hme : m = out.length := by omega
            have hib := HI.out
            rw [hme] at hib
            have HI2 := hid hib
            clear hib hme
            cases done
            · have hfin := HI2.out.fin0 HO.out
              rw [← HT.out] at hfin
              have HFIN := hid hfin
              clear hfin
              go_wp2_with (first | (at_builtin; refine wpList_app rfl (.tmp 55) (.tmp 60) rfl w'.heap.size _ _ rfl (Owns.below hownn ((Below.refl _ _).alloc (Nat.le_refl _) _)) _ [y] rfl (sees_one _ _) (by simp only [List.length_singleton]; omega) (by simp; omega) ?_; intro v5 w5 hO5 hG5))
              have R : Below w.heap.size w w5 := ((hbel.trans (hbeln.mono hszr)).alloc (by omega) _).grown hG5 (by simp; omega) (fun j hj => by have := (hownn.lt j hj).1; omega)
              have hO6 : Owns w5 w.heap.size v5 (sd (xs.take (k + 1))) := by rw [← HFIN.out]; exact owns_le hO5 hszr
              clear hG5 hownn hcn hO5
              go_wp2
              go_roundw
              case rel => exact ⟨k + 1, by omega, by go_num, hO6, R⟩
              case measure => simp [intOf]; omega
            · have hfin := HI2.out.fin HO.out
              rw [← HT.out] at hfin
              have hO6 : Owns wr w.heap.size u5 (sd (xs.take (k + 1))) := by rw [← hfin]; exact owns_le hownn hszr
              clear hfin hownn hcn
              have R : Below w.heap.size w wr := hbel.trans (hbeln.mono hszr)
              go_wp2
              go_roundw
              case rel => exact ⟨k + 1, by omega, by go_num, hO6, R⟩
              case measure => simp [intOf]; omega
    · have hall : sd (xs.take k) = sd xs := by rw [List.take_of_length_le (by omega)]
      rw [hall] at hown
      clear hall
      go_wp2
      go_ret
      exact ⟨_, rfl, hown, hbel⟩

end Go.Proofs.YtplljpodejpbgaaGreatDoor

namespace Go.Proofs.YtplljpodejpbgaaGreatDoor
open Go.RowKit
set_option linter.unusedVariables false
set_option linter.unusedSimpArgs false
set_option maxRecDepth 100000

def tS : ByteArray := { data := #[115] }
def tT : ByteArray := { data := #[116] }
def tOne : ByteArray := { data := #[111, 110, 101] }
def tTwo : ByteArray := { data := #[116, 119, 111] }
def digA : ByteArray := strOf (saltOf tS tOne)
def digB : ByteArray := strOf (saltOf tT tTwo)
def twoL : List UsL := [⟨{ data := #[97] }, tS, digA, true⟩, ⟨{ data := #[98] }, tT, digB, false⟩]
set_option maxHeartbeats 1000000 in
theorem two_any (w : World) : Calls Tryz.prog 15 #[] w fun e w' => ∃ B, e = .returned (.slice (some ⟨B, 0, none⟩) 2 2) ∧ w'.ownsRow w.heap.size 55 4 (.slice (some ⟨B, 0, none⟩) 2 2) 2 (uC twoL) ∧ Below w.heap.size w w' := by
  have h1 := rsalted_any tS tOne w (by decide) (by decide)
  obtain ⟨da, hda⟩ : ∃ da, da = digA := ⟨_, rfl⟩
  rw [show strOf (saltOf tS tOne) = digA from rfl, ← hda] at h1
  have H1 := hid h1
  have HDA := hid hda
  clear h1 hda
  go_enter Tryz.func15, Tryz.ntmps15
  go_wp2_with fail
  refine H1.out.mono ?_
  rintro e w1 ⟨rfl, hb1⟩
  have HB1 := hid hb1
  clear hb1 H1
  have h2 := rsalted_any tT tTwo w1 (by decide) (by decide)
  obtain ⟨db, hdb⟩ : ∃ db, db = digB := ⟨_, rfl⟩
  rw [show strOf (saltOf tT tTwo) = digB from rfl, ← hdb] at h2
  have H2 := hid h2
  have HDB := hid hdb
  clear h2 hdb
  go_wp2_with fail
  refine H2.out.mono ?_
  rintro e w2 ⟨rfl, hb2⟩
  have HB2 := hid (HB1.out.trans (hb2.mono HB1.out.size))
  clear hb2 H2
  have hs2 := HB2.out.size
  go_wp2
  go_ret
  have e1 := HDA.out
  have e2 := HDB.out
  subst e1 e2
  refine ⟨_, rfl, ⟨rfl, Or.inr ⟨w2.heap.size, 2, _, rfl, hs2, heap_alloc_new w2 _, Nat.le_refl _, by decide, rfl, rfl⟩⟩, HB2.out.alloc hs2 _⟩
end Go.Proofs.YtplljpodejpbgaaGreatDoor

namespace Go.Proofs.YtplljpodejpbgaaGreatDoor
open Go.RowKit
set_option linter.unusedVariables false

def xoB : List Nat := [1, 116, 111, 110, 101, 128, 0, 0, 0, 0, 0, 0, 0, 0, 0, 0, 0, 0, 0, 0, 0, 0, 0, 0, 0, 0, 0, 0, 0, 0, 0, 0, 0, 0, 0, 0, 0, 0, 0, 0, 0, 0, 0, 0, 0, 0, 0, 0, 0, 0, 0, 0, 0, 0, 0, 0, 0, 0, 0, 0, 0, 0, 0, 40]
def xoW : List Nat := [24407918, 1702887424, 0, 0, 0, 0, 0, 0, 0, 0, 0, 0, 0, 0, 0, 40, 233801934, 1704001536, 897432744, 2686016058, 1774994302, 2255618649, 2848623351, 1328937029, 2040550270, 2025291690, 3286758954, 3121259024, 2354234059, 2939114467, 3630144349, 1021078207, 303260830, 460293836, 103702591, 1096482010, 946488702, 3650030120, 1311719060, 2898871736, 2443714190, 3113735013, 2963755886, 1015354467, 2954613654, 1820173656, 2081187012, 467827971, 91820976, 604258712, 4060236589, 76479041, 2579528667, 3875641976, 3530628203, 3108175860, 2345741062, 3950166698, 3941144076, 3741804152, 354162040, 1023148751, 1467023746, 1294909433]
theorem xo_block : [1, 116, 111, 110, 101] ++ padOf 5 = xoB := by decide +kernel
theorem xo_words : schedF xoB 64 [] 0 = xoW := by decide +kernel
theorem xo_run : runF K0 xoW 64 0 1779033703 3144134277 1013904242 2773480762 1359893119 2600822924 528734635 1541459225 = [4196299089, 1881317428, 2667706128, 679165768, 1055155371, 4023187750, 3268579678, 1982383253] := by decide +kernel
theorem xo_digest : digest H0 K0 [1, 116, 111, 110, 101] = [100, 40, 87, 184, 43, 138, 78, 185, 219, 112, 234, 130, 205, 203, 52, 130, 143, 242, 183, 42, 138, 210, 97, 178, 226, 86, 107, 9, 210, 9, 145, 174] := by
  have h1 : sched xoB 64 = xoW := (schedF_eq xoB 64 0).symm.trans xo_words
  have h2 : run K0 xoW H0 64 = [4196299089, 1881317428, 2667706128, 679165768, 1055155371, 4023187750, 3268579678, 1982383253] := (runF_eq K0 xoW H0 64 0 _ _ _ _ _ _ _ _ rfl).symm.trans xo_run
  unfold digest
  rw [show ([1, 116, 111, 110, 101] : List Nat).length = 5 from rfl, xo_block]
  unfold stOf
  rw [show xoB.length / 64 = 0 + 1 from rfl]
  show (comp K0 H0 ((xoB.drop 0).take 64)).flatMap be4 = _
  rw [show (xoB.drop 0).take 64 = xoB from rfl]
  unfold comp
  rw [h1, h2]
  decide +kernel
def xtB : List Nat := [1, 116, 116, 119, 111, 128, 0, 0, 0, 0, 0, 0, 0, 0, 0, 0, 0, 0, 0, 0, 0, 0, 0, 0, 0, 0, 0, 0, 0, 0, 0, 0, 0, 0, 0, 0, 0, 0, 0, 0, 0, 0, 0, 0, 0, 0, 0, 0, 0, 0, 0, 0, 0, 0, 0, 0, 0, 0, 0, 0, 0, 0, 0, 40]
def xtW : List Nat := [24409207, 1870659584, 0, 0, 0, 0, 0, 0, 0, 0, 0, 0, 0, 0, 0, 40, 245600343, 1871773696, 3122843233, 2686180986, 1053975270, 2497315577, 2099276883, 1336565453, 2873989423, 516928280, 531943971, 1857757752, 2284586001, 1918959765, 576543972, 2540642069, 2156289925, 1664870296, 600712914, 177093819, 3925580542, 1128937872, 3615731482, 1485864024, 2416427351, 3851424060, 4167849086, 2521367093, 3499275354, 2257892622, 2240170041, 2154741391, 412620948, 233388047, 3252677549, 2625195056, 531579597, 488869126, 1172336370, 1975660139, 970794782, 4063792631, 95495450, 269981249, 3296824821, 4162287842, 2473384974, 983974281]
theorem xt_block : [1, 116, 116, 119, 111] ++ padOf 5 = xtB := by decide +kernel
theorem xt_words : schedF xtB 64 [] 0 = xtW := by decide +kernel
theorem xt_run : runF K0 xtW 64 0 1779033703 3144134277 1013904242 2773480762 1359893119 2600822924 528734635 1541459225 = [3044412646, 2544890034, 3201070759, 2038242345, 2812541977, 3798421474, 968053544, 3594305115] := by decide +kernel
theorem xt_digest : digest H0 K0 [1, 116, 116, 119, 111] = [31, 127, 243, 77, 83, 23, 159, 55, 251, 59, 106, 25, 30, 205, 17, 99, 248, 178, 78, 152, 125, 108, 184, 110, 89, 55, 44, 211, 50, 29, 139, 116] := by
  have h1 : sched xtB 64 = xtW := (schedF_eq xtB 64 0).symm.trans xt_words
  have h2 : run K0 xtW H0 64 = [3044412646, 2544890034, 3201070759, 2038242345, 2812541977, 3798421474, 968053544, 3594305115] := (runF_eq K0 xtW H0 64 0 _ _ _ _ _ _ _ _ rfl).symm.trans xt_run
  unfold digest
  rw [show ([1, 116, 116, 119, 111] : List Nat).length = 5 from rfl, xt_block]
  unfold stOf
  rw [show xtB.length / 64 = 0 + 1 from rfl]
  show (comp K0 H0 ((xtB.drop 0).take 64)).flatMap be4 = _
  rw [show (xtB.drop 0).take 64 = xtB from rfl]
  unfold comp
  rw [h1, h2]
  decide +kernel
theorem words_apart : strOf (saltOf tT tOne) ≠ digB := by
  intro h
  have h1 := congrArg bytesOf h
  unfold digB at h1
  rw [show saltOf tT tOne = hexOf (digest H0 K0 [1, 116, 111, 110, 101]) from rfl, show saltOf tT tTwo = hexOf (digest H0 K0 [1, 116, 116, 119, 111]) from rfl, bytesOf_strOf (hexOf_lt (digest_lt _ _ _)), bytesOf_strOf (hexOf_lt (digest_lt _ _ _))] at h1
  have h2 := congrArg unhexOf h1
  rw [unhex_hex _ (digest_lt _ _ _), unhex_hex _ (digest_lt _ _ _), xo_digest, xt_digest] at h2
  revert h2
  decide
end Go.Proofs.YtplljpodejpbgaaGreatDoor

namespace Go.Proofs.YtplljpodejpbgaaGreatDoor
open Go.RowKit
set_option linter.unusedVariables false
set_option linter.unusedSimpArgs false
set_option maxRecDepth 100000

theorem dig_good (s t : ByteArray) : (strOf (saltOf s t)).size = 64 ∧ (unhexOf (bytesOf (strOf (saltOf s t)))).isSome = true := by
  refine ⟨saltOf_len s t, ?_⟩
  unfold saltOf
  rw [bytesOf_strOf (hexOf_lt (digest_lt _ _ _)), unhex_hex _ (digest_lt _ _ _)]
  rfl
theorem two_one (n s : ByteArray) (w : ByteArray) (op : Bool) (hn : n.size = 1) (hv : visB n = true) (hs : s.size = 1) : oneB ⟨n, s, strOf (saltOf s w), op⟩ = true := by
  obtain ⟨h1, h2⟩ := dig_good s w
  simp only [oneB, hn, hv, hs, h1, h2]
  decide
theorem two_may : mayB twoL = true := by
  have h1 := two_one { data := #[97] } tS tOne true rfl (by decide) rfl
  have h2 := two_one { data := #[98] } tT tTwo false rfl (by decide) rfl
  have hc : Lib.containsS [({ data := #[97] } : ByteArray)] { data := #[98] } = false := by
    cases h : Lib.containsS [({ data := #[97] } : ByteArray)] { data := #[98] } with
    | false => rfl
    | true =>
      have := (Lib.containsS_iff _ _).1 h
      simp at this
  have hc0 : Lib.containsS [] ({ data := #[97] } : ByteArray) = false := by
    cases h : Lib.containsS [] ({ data := #[97] } : ByteArray) with
    | false => rfl
    | true =>
      have := (Lib.containsS_iff _ _).1 h
      simp at this
  show (decide (1 ≤ 2) && decide (2 ≤ 16) && mayTo twoL 2) = true
  have m0 : mayTo twoL 1 = true := by
    show (true && (oneB ⟨{ data := #[97] }, tS, digA, true⟩ && !Lib.containsS [] { data := #[97] })) = true
    rw [show oneB ⟨{ data := #[97] }, tS, digA, true⟩ = true from h1, hc0]
    rfl
  have m1 : mayTo twoL 2 = true := by
    show (mayTo twoL 1 && (oneB ⟨{ data := #[98] }, tT, digB, false⟩ && !Lib.containsS [{ data := #[97] }] { data := #[98] })) = true
    rw [m0, show oneB ⟨{ data := #[98] }, tT, digB, false⟩ = true from h2, hc]
    rfl
  rw [m1]
  rfl
theorem two_sizes : ∀ u ∈ twoL, u.name.size ≤ 140737488355328 ∧ u.salt.size ≤ 140737488355328 ∧ u.digest.size ≤ 140737488355328 := by
  intro u hu
  simp only [twoL, List.mem_cons, List.not_mem_nil, or_false] at hu
  rcases hu with rfl | rfl
  · exact ⟨by decide, by decide, by show digA.size ≤ _; unfold digA; rw [saltOf_len]; decide⟩
  · exact ⟨by decide, by decide, by show digB.size ≤ _; unfold digB; rw [saltOf_len]; decide⟩
theorem own_a : (accOf twoL 0).own = [1, 2] := by
  show sd (sd ([] ++ [2 * ((0 : Nat) : Int) + 2]) ++ [2 * ((0 : Nat) : Int) + 1]) = [1, 2]
  refine sd_of (by simp) fun x => ?_
  rw [List.mem_append, mem_sd]
  simp
  omega
theorem own_b : (accOf twoL 1).own = [4] := by
  show sd ([] ++ [2 * ((1 : Nat) : Int) + 2]) = [4]
  exact sd_of (by simp) fun x => by simp
/-- The law's two users, made. -/
structure TwoAt (us : List (Acc × Value)) (v0 v1 : Value) : Prop where
  len : us.length = 2
  a : us[0]? = some (accOf twoL 0, v0)
  b : us[1]? = some (accOf twoL 1, v1)
theorem UsTo.two {us : List (Acc × Value)} (h : UsTo twoL twoL.length us) : ∃ v0 v1, TwoAt us v0 v1 := by
  obtain ⟨v0, h0⟩ := h.done 0 (by decide)
  obtain ⟨v1, h1⟩ := h.done 1 (by decide)
  exact ⟨v0, v1, h.len, h0, h1⟩
theorem TwoAt.nameB {us : List (Acc × Value)} {v0 v1 : Value} (h : TwoAt us v0 v1) : nameTo us { data := #[98] } us.length = some 1 := by
  have hne : ¬ (accOf twoL 0).name = { data := #[98] } := by
    show ¬ ({ data := #[97] } : ByteArray) = { data := #[98] }
    simp
  have n1 : nameTo us { data := #[98] } 1 = none := by
    rw [nameTo, nameTo, h.a]
    simp only
    rw [if_neg hne]
  rw [h.len, nameTo, n1, h.b]
  simp only
  rw [if_pos (show (accOf twoL 1).name = { data := #[98] } from rfl)]
theorem TwoAt.nameA {us : List (Acc × Value)} {v0 v1 : Value} (h : TwoAt us v0 v1) : nameTo us { data := #[97] } us.length = some 0 := by
  have n1 : nameTo us { data := #[97] } 1 = some 0 := by
    rw [nameTo, nameTo, h.a]
    simp only
    rw [if_pos (show (accOf twoL 0).name = { data := #[97] } from rfl)]
  exact nameTo_some n1 _ (by rw [h.len]; decide)

theorem sees_two (w : World) (x y : Int) : Sees (w.alloc (.cells #[.int .i64 x, .int .i64 y] 3)) (.slice (some ⟨w.heap.size, 0, none⟩) 2 2) [x, y] := by
  refine ⟨w.heap.size, 0, _, 2, rfl, Nat.le_refl _, (fun h => by cases h), fun _ => rfl, fun j hj => ?_⟩
  rw [Nat.zero_add]
  have hj2 : j < 2 := hj
  refine cell_of_list (cs := [.int .i64 x, .int .i64 y]) (heap_alloc_new w _) ?_
  match j, hj2 with
  | 0, _ => rfl
  | 1, _ => rfl
set_option maxHeartbeats 4000000 in
theorem awake_any (w : World) (hT : Tb w) : Calls Tryz.prog 10 #[] w fun e w' => e = .returned (.bool true) ∧ Below w.heap.size w w' := by
  have htw := hid (two_any w)
  have HT := hid hT
  clear hT
  go_enter Tryz.func10, Tryz.ntmps10
  go_wp2_with fail
  refine htw.out.mono ?_
  rintro e w1 ⟨B, rfl, ho1, hb1⟩
  have HB1 := hid hb1
  obtain ⟨W, hW⟩ : ∃ W, W = w1.alloc (.cells #[.int .i64 7] 3) := ⟨_, rfl⟩
  have hbW : Below w1.heap.size w1 W := by rw [hW]; exact below_alloc w1 _
  have hD : Sees W (.slice (some ⟨w1.heap.size, 0, none⟩) 1 1) [7] := by rw [hW]; exact sees_one w1 7
  have hnw := new_yes (.slice (some ⟨B, 0, none⟩) 2 2) (.slice (some ⟨w1.heap.size, 0, none⟩) 1 1) twoL [7] W ((sees_of_row ho1).below hbW) hD two_may two_sizes (by decide)
  have HNW := hid hnw
  have HW := hid hW
  have HBW := hid (hb1.trans (hbW.mono hb1.size))
  clear htw ho1 hb1 hbW hD hnw hW
  go_wp2_with fail
  rw [← HW.out]
  refine HNW.out.mono ?_
  rintro e w2 ⟨d, ub, mb, us, vd, vg, rfl, hI, hU, hb2, hm⟩
  obtain ⟨v0, v1, hTw⟩ := hU.two
  have HB2 := hid (HBW.out.trans (hb2.mono HBW.out.size))
  have heq := eqlD_some_nil ⟨d, 0, none⟩
  have hl := login_ok w2 (HT.out.below HB2.out) d ub mb us vd [7] 0 [] vg _ hI { data := #[98] } tTwo 1 _ hTw.b hTw.nameB (by show tT.size ≤ 32; decide) (by decide) rfl (by decide) (by decide) (fun x hx => by simp at hx) (by intro x hx; simp at hx; subst hx; decide)
  have HL := hid hl
  have HTW := hid hTw
  have HM : Hid (∀ k, mineD d ub mb vg k → w.heap.size ≤ k) := fun k hk => Nat.le_trans HBW.out.size (hm k hk)
  clear hl hI hU hb2 hTw hm HNW HW HB1
  go_wp2_with fail
  refine HL.out.mono ?_
  rintro e w3 ⟨rfl, hI3, hG3⟩
  have HB3 := hid (HB2.out.trans (hG3.below HM.out HB2.out.size))
  obtain ⟨tk1, htk⟩ : ∃ t, t = tokOf [7] 0 := ⟨_, rfl⟩
  have hts : tk1.size = 32 := by rw [htk, tokOf_size]
  rw [← htk] at hI3 ⊢
  have hl := login_deny w3 (HT.out.below HB3.out) d ub mb us vd [7] 1 _ vg _ hI3 { data := #[98] } tOne (by decide) (Or.inr ⟨1, _, HTW.out.b, HTW.out.nameB, by show tT.size ≤ 32; decide, words_apart⟩)
  have HL2 := hid hl
  have HI3 := hid hI3
  clear hl hI3 hG3 htk HL
  go_wp2_with fail
  refine HL2.out.mono ?_
  rintro e w4 ⟨rfl, hb4⟩
  have hI4 := HI3.out.below hb4
  have HB4 := hid (HB3.out.trans (hb4.mono HB3.out.size))
  have hwh := who_any w4 d ub mb us vd [7] 1 _ vg _ hI4 tk1 (by rw [hts]; decide)
  have HWH := hid hwh
  have HI4 := hid hI4
  clear hwh hI4 hb4 HL2 HI3
  go_wp2_with fail
  refine HWH.out.mono ?_
  rintro e w5 ⟨a, er, rfl, hwl, hb5⟩
  have hae : a = 1 ∧ er = 0 := by
    rcases hwl with ⟨s, hs, _, h1, h2⟩ | ⟨h1, _⟩
    · simp at hs
      subst hs
      exact ⟨h1, h2⟩
    · exact absurd rfl (h1 ⟨tk1, 1, 0⟩ (by simp))
  obtain ⟨rfl, rfl⟩ := hae
  have hI5 := HI4.out.below hb5
  have HB5 := hid (HB4.out.trans (hb5.mono HB4.out.size))
  have ho := own_any w5 d ub mb us vd [7] 1 _ vg _ hI5 0 _ HTW.out.a (by rw [own_a]; decide)
  rw [own_a] at ho
  have HO := hid ho
  have HI5 := hid hI5
  have hts' : ((tk1.size : Int) == 32) = true := by rw [hts]; rfl
  clear hwl hb5 hI5 ho HWH HI4
  go_wp2_with fail
  refine HO.out.mono ?_
  rintro e w6 ⟨v6, rfl, ho6, hb6⟩
  have HB6 := hid (HB5.out.trans (hb6.mono HB5.out.size))
  have hI6 := HI5.out.below hb6
  have HS6 := hid ho6.sees
  have HI6 := hid hI6
  clear hb6 ho6 hI6 HO HI5
  obtain ⟨X6, hX6⟩ : ∃ X, X = w6.alloc (.cells #[.int .i64 1, .int .i64 2] 3) := ⟨_, rfl⟩
  have hbx : Below w6.heap.size w6 X6 := by rw [hX6]; exact below_alloc w6 _
  have hsm := same_any v6 (.slice (some ⟨w6.heap.size, 0, none⟩) 2 2) [1, 2] [1, 2] X6 (HS6.out.below hbx) (by rw [hX6]; exact sees_two w6 1 2) (by decide) (by decide)
  rw [show decide (([1, 2] : List Int) = [1, 2]) = true from rfl] at hsm
  have HSM := hid hsm
  have HX6 := hid hX6
  have HBX := hid (HB6.out.trans (hbx.mono HB6.out.size))
  have HIX := hid (HI6.out.below hbx)
  clear hsm hX6 hbx HS6 HI6
  go_wp2_with fail
  rw [← HX6.out]
  refine HSM.out.mono ?_
  rintro e w7 ⟨rfl, hb7⟩
  have HB7 := hid (HBX.out.trans (hb7.mono HBX.out.size))
  have hI7 := HIX.out.below hb7
  have ho := own_any w7 d ub mb us vd [7] 1 _ vg _ hI7 1 _ HTW.out.b (by rw [own_b]; decide)
  rw [own_b] at ho
  have HO := hid ho
  clear hb7 hI7 ho HSM HX6 HIX HBX
  go_wp2_with fail
  refine HO.out.mono ?_
  rintro e w8 ⟨v8, rfl, ho8, hb8⟩
  have HB8 := hid (HB7.out.trans (hb8.mono HB7.out.size))
  obtain ⟨X8, hX8⟩ : ∃ X, X = w8.alloc (.cells #[.int .i64 4] 3) := ⟨_, rfl⟩
  have hbx : Below w8.heap.size w8 X8 := by rw [hX8]; exact below_alloc w8 _
  have hsm := same_any v8 (.slice (some ⟨w8.heap.size, 0, none⟩) 1 1) [4] [4] X8 (ho8.sees.below hbx) (by rw [hX8]; exact sees_one w8 4) (by decide) (by decide)
  rw [show decide (([4] : List Int) = [4]) = true from rfl] at hsm
  have HSM := hid hsm
  have HX8 := hid hX8
  have HBX := hid (HB8.out.trans (hbx.mono HB8.out.size))
  clear hsm hX8 hbx ho8 hb8 HO
  go_wp2_with fail
  rw [← HX8.out]
  refine HSM.out.mono ?_
  rintro e w9 ⟨rfl, hb9⟩
  have HB9 := hid (HBX.out.trans (hb9.mono HBX.out.size))
  clear hb9 HSM HX8
  go_wp2
  go_ret
  exact ⟨rfl, HB9.out⟩
end Go.Proofs.YtplljpodejpbgaaGreatDoor
