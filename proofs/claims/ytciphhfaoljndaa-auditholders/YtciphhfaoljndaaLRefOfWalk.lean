/-
  The walk of the document's own Of: it answers the set of the list.
-/
import Derived.Test.YtciphhfaoljndaaLRefOf

namespace Go.Proofs.Ytciphhfaoljndaa
open Go.RowKit
set_option linter.unusedVariables false

theorem owns_le {w : World} {base base' : Nat} {v : Value} {xs : List Int} (h : Owns w base v xs) (hb : base' ≤ base) : Owns w base' v xs := by
  refine ⟨h.1, ?_⟩
  rcases h.2 with hn | ⟨g, cap, cur, rfl, hbase, hg, rest⟩
  · exact Or.inl hn
  · exact Or.inr ⟨g, cap, cur, rfl, by omega, hg, rest⟩

set_option maxHeartbeats 400000 in
theorem has_any (v : Value) (xs : List Int) (x : Int) (w : World) (hS : Sees w v xs) (hlen : xs.length ≤ 4611686018427387904) :
    Calls Try.prog 23 #[v, .int .i64 x] w fun e w' => e = .returned (.bool (decide (x ∈ xs))) ∧ w' = w := by
  obtain ⟨b, off, ao, cap, rfl, hcap, _, hao, hcell⟩ := hS
  go_enter Try.func23, Try.ntmps23
  go_wp2
  go_loop [5] (fun i => ∃ k : Nat, k ≤ xs.length ∧ i = .int .i64 k ∧ x ∉ xs.take k) (fun i => xs.length - (intOf i).toNat)
  case atStart => exact ⟨0, Nat.zero_le _, rfl, by simp⟩
  case round =>
    obtain ⟨k, hk, rfl, hnot⟩ := hrel
    by_cases hlt : k < xs.length
    · have hne : xs ≠ [] := by intro h; rw [h] at hlt; simp at hlt
      obtain rfl := hao hne
      obtain ⟨y, hy⟩ : ∃ y, y = xs.getD k 0 := ⟨_, rfl⟩
      have hc := hcell k hlt
      rw [← hy] at hc
      have HY : Hid (y = xs.getD k 0) := hy
      have HC : Hid (∀ j, j < xs.length → w.cell? ⟨b, off + j, none⟩ = some (.int .i64 (xs.getD j 0))) := hcell
      have HN : Hid (x ∉ xs.take k) := hnot
      clear hy hcell hnot hne hao
      by_cases hyx : y = x
      · have h1 : (y == x) = true := by simpa using hyx
        go_wp2
        go_ret
        refine ⟨ret_bool ?_, rfl⟩
        have : x ∈ xs := by
          rw [← hyx, HY.out]
          simp [List.getD, hlt]
        simp [this]
      · have h1 : (y == x) = false := by simpa using hyx
        go_wp2
        go_round
        case rel => exact ⟨k + 1, by omega, by go_num, take_mem_succ hlt HY.out HN.out hyx⟩
        case measure => simp [intOf]; omega
    · go_wp2
      go_ret
      refine ⟨ret_bool ?_, rfl⟩
      rw [List.take_of_length_le (by omega)] at hnot
      simp [hnot]

theorem cell_grown {wr w4 : World} {base b2 o2 nq : Nat} {v : Value} {vs : List Int} {c : Value} {o : Obj} (hown : Owns wr base v vs) (hlt : b2 < base) (hc : wr.cell? ⟨b2, o2, none⟩ = some c)
    (hG : ((wr.drewN nq).alloc o).grownBy w4 v.ownBlock) : w4.cell? ⟨b2, o2, none⟩ = some c := by
  have hB : Below wr.heap.size wr ((wr.drewN nq).alloc o) := (below_drewN (Below.refl _ _) nq).alloc (by simp) _
  refine hG.cell ((hB.cell (World.block_lt_of_cell? wr _ hc)).trans hc) (fun e => ?_)
  have := (hown.lt b2 e.symm).1
  omega

set_option maxHeartbeats 2000000 in
theorem refOf_any (v : Value) (xs : List Int) (w : World) (hS : Sees w v xs) (hb : xs.length ≤ 4398046511104) :
    Calls Try.prog 15 #[v] w fun e w' => ∃ v', e = .returned v' ∧ Owns w' w.heap.size v' (sd xs) ∧ Below w.heap.size w w' := by
  obtain ⟨b, off, ao, cap, rfl, hcap, _, hao, hcell⟩ := hS
  have HC := hid hcell
  clear hcell
  go_enter Try.func15, Try.ntmps15
  go_wp2
  go_loopw [3, 4] (fun o i wr => ∃ k : Nat, k ≤ xs.length ∧ i = .int .i64 k ∧ Owns wr w.heap.size o (sd (xs.take k)) ∧ Below w.heap.size w wr) (fun _ i _ => xs.length - (intOf i).toNat)
  case atStart => exact ⟨0, Nat.zero_le _, rfl, by rw [List.take_zero, sd_nil]; exact World.ownsRow_nil _ _ _ _, Below.refl _ _⟩
  case round =>
    obtain ⟨k, hk, rfl, hown, hbel⟩ := hrel
    have hszr := hbel.size
    by_cases hlt : k < xs.length
    · have hne : xs ≠ [] := by intro h; rw [h] at hlt; simp at hlt
      obtain rfl := hao hne
      obtain ⟨y, hy⟩ : ∃ y, y = xs.getD k 0 := ⟨_, rfl⟩
      have hcl := HC.out k hlt
      rw [← hy] at hcl
      have hc : wr.cell? ⟨b, off + k, none⟩ = some (.int .i64 y) := (hbel.cell (World.block_lt_of_cell? w _ hcl)).trans hcl
      have hbw : b < w.heap.size := World.block_lt_of_cell? w _ hcl
      have hts : xs.take (k + 1) = xs.take k ++ [y] := by
        rw [List.take_succ_eq_append_getElem hlt, hy]
        simp [List.getD, hlt]
      have HT := hid hts
      obtain ⟨out, hout⟩ : ∃ out, out = sd (xs.take k) := ⟨_, rfl⟩
      have hor : out.Pairwise (· < ·) := by rw [hout]; exact sd_rises _
      have hol : out.length ≤ k := by
        rw [hout]
        have := length_sd_le (xs.take k)
        rw [List.length_take] at this
        omega
      rw [← hout] at hown
      have HO := hid hout
      have hseeo := hown.sees
      clear hy hts hne hao hout hcl
      by_cases hin : y ∈ out
      · go_wp2_with fail
        refine (has_any _ out y _ hseeo (by omega)).mono ?_
        rintro e w' ⟨rfl, rfl⟩
        have R : Owns w' w.heap.size u3 (sd (xs.take (k + 1))) := by
          rw [HT.out, sd_has (by rw [← HO.out]; exact hin), ← HO.out]
          exact hown
        clear hown hseeo hor
        go_wp2
        go_roundw
        case rel => exact ⟨k + 1, by omega, by go_num, R, hbel⟩
        case measure => simp [intOf]; omega
      · go_wp2_with fail
        refine (has_any _ out y _ hseeo (by omega)).mono ?_
        rintro e w' ⟨rfl, rfl⟩
        obtain ⟨b2, off2, ao2, cap2, rfl, hcap2, _, hao2, hcell2⟩ := hseeo
        have HC2 := hid hcell2
        clear hcell2
        go_wp2
        go_loopw [5, 6, 7] (fun nx dn kk wq => ∃ (m : Nat) (done : Bool) (next : List Int), m ≤ out.length ∧ kk = .int .i64 m ∧ dn = .bool done ∧ Ins out y m done next ∧ Owns wq w'.heap.size nx next ∧ Below w'.heap.size w' wq) (fun _ _ kk _ => out.length - (intOf kk).toNat)
        case atStart => exact ⟨0, false, [], Nat.zero_le _, rfl, rfl, Ins.start _ _, World.ownsRow_nil _ _ _ _, Below.refl _ _⟩
        case round =>
          obtain ⟨m, done, next, hm, rfl, rfl, hins, hownn, hbeln⟩ := hrel
          have hszn := hbeln.size
          have hnl := hins.len
          have hcn : wr.cell? ⟨b, off + k, none⟩ = some (.int .i64 y) := (hbeln.cell (by show b < _; omega)).trans hc
          have HI := hid hins
          clear hins
          by_cases hlm : m < out.length
          · have hne2 : out ≠ [] := by intro h; rw [h] at hlm; simp at hlm
            obtain rfl := hao2 hne2
            obtain ⟨z, hz⟩ : ∃ z, z = out.getD m 0 := ⟨_, rfl⟩
            have hcl2 := HC2.out m hlm
            rw [← hz] at hcl2
            have hc2 : wr.cell? ⟨b2, off2 + m, none⟩ = some (.int .i64 z) := (hbeln.cell (World.block_lt_of_cell? w' _ hcl2)).trans hcl2
            have hb2 : b2 < w'.heap.size := World.block_lt_of_cell? w' _ hcl2
            have HZ := hid hz
            clear hz hcl2 hne2 hao2
            cases done
            · by_cases hyz : y < z
              · have I2 := hid (HI.out.put hor hlm HZ.out hyz)
                go_wp2_with fail
                go_quiet (fail)
                go_wp2_with (first | (at_builtin; refine wpList_app rfl (.tmp 39) (.tmp 44) rfl w'.heap.size _ _ rfl (Owns.below (hownn.below (below_drewN (Below.refl _ _) nq)) ((Below.refl _ _).alloc (Nat.le_refl _) _)) _ [y] rfl (sees_one _ _) (by simp only [List.length_singleton]; omega) (by simp; omega) ?_; intro v4 w4 hO4 hG4; have hc4 := cell_grown hownn hb2 hc2 hG4) | (at_builtin; refine wpList_app rfl (.tmp 46) (.tmp 51) rfl w'.heap.size _ _ rfl (Owns.below hO4 ((Below.refl _ _).alloc (Nat.le_refl _) _)) _ [z] rfl (sees_one _ _) (by simp only [List.length_singleton, List.length_append]; omega) (by have := hG4.size; simp at this ⊢; omega) ?_; intro v5 w5 hO5 hG5))
                have R : Below w'.heap.size w' w5 := ((((below_drewN hbeln nq).alloc (by simp; omega) _).grown hG4 (by simp; omega) (fun j hj => (hownn.lt j hj).1)).alloc (by have := hG4.size; simp at this; omega) _).grown hG5 (by have := hG4.size; simp at this ⊢; omega) (fun j hj => (hO4.lt j hj).1)
                clear hO4 hG4 hG5 hownn hcn hc2
                go_wp2
                go_roundw
                case rel => exact ⟨m + 1, true, _, by omega, by go_num, rfl, I2.out, hO5, R⟩
                case measure => simp [intOf]; omega
              · have I2 := hid (HI.out.pass hor hlm HZ.out hyz hin)
                go_wp2_with fail
                go_quiet (fail)
                go_wp2_with (first | (at_builtin; refine wpList_app rfl (.tmp 46) (.tmp 51) rfl w'.heap.size _ _ rfl (Owns.below (hownn.below (below_drewN (Below.refl _ _) nq)) ((Below.refl _ _).alloc (Nat.le_refl _) _)) _ [z] rfl (sees_one _ _) (by simp only [List.length_singleton]; omega) (by simp; omega) ?_; intro v5 w5 hO5 hG5))
                have R : Below w'.heap.size w' w5 := ((below_drewN hbeln nq).alloc (by simp; omega) _).grown hG5 (by simp; omega) (fun j hj => (hownn.lt j hj).1)
                clear hG5 hownn hcn hc2
                go_wp2
                go_roundw
                case rel => exact ⟨m + 1, false, _, by omega, by go_num, rfl, I2.out, hO5, R⟩
                case measure => simp [intOf]; omega
            · have I2 := hid (HI.out.after hor hlm HZ.out)
              go_wp2_with fail
              go_quiet (fail)
              go_wp2_with (first | (at_builtin; refine wpList_app rfl (.tmp 46) (.tmp 51) rfl w'.heap.size _ _ rfl (Owns.below (hownn.below (below_drewN (Below.refl _ _) nq)) ((Below.refl _ _).alloc (Nat.le_refl _) _)) _ [z] rfl (sees_one _ _) (by simp only [List.length_singleton]; omega) (by simp; omega) ?_; intro v5 w5 hO5 hG5))
              have R : Below w'.heap.size w' w5 := ((below_drewN hbeln nq).alloc (by simp; omega) _).grown hG5 (by simp; omega) (fun j hj => (hownn.lt j hj).1)
              clear hG5 hownn hcn hc2
              go_wp2
              go_roundw
              case rel => exact ⟨m + 1, true, _, by omega, by go_num, rfl, I2.out, hO5, R⟩
              case measure => simp [intOf]; omega
          · have hme : m = out.length := by omega
            have hib := HI.out
            rw [hme] at hib
            have HI2 := hid hib
            clear hib hme
            cases done
            · have hfin := HI2.out.fin0 HO.out
              rw [← HT.out] at hfin
              have HFIN := hid hfin
              clear hfin
              go_wp2_with (first | (at_builtin; refine wpList_app rfl (.tmp 55) (.tmp 60) rfl w'.heap.size _ _ rfl (Owns.below hownn ((Below.refl _ _).alloc (Nat.le_refl _) _)) _ [y] rfl (sees_one _ _) (by simp only [List.length_singleton]; omega) (by simp; omega) ?_; intro v5 w5 hO5 hG5))
              have R : Below w.heap.size w w5 := ((hbel.trans (hbeln.mono hszr)).alloc (by omega) _).grown hG5 (by simp; omega) (fun j hj => by have := (hownn.lt j hj).1; omega)
              have hO6 : Owns w5 w.heap.size v5 (sd (xs.take (k + 1))) := by rw [← HFIN.out]; exact owns_le hO5 hszr
              clear hG5 hownn hcn hO5
              go_wp2
              go_roundw
              case rel => exact ⟨k + 1, by omega, by go_num, hO6, R⟩
              case measure => simp [intOf]; omega
            · have hfin := HI2.out.fin HO.out
              rw [← HT.out] at hfin
              have hO6 : Owns wr w.heap.size u5 (sd (xs.take (k + 1))) := by rw [← hfin]; exact owns_le hownn hszr
              clear hfin hownn hcn
              have R : Below w.heap.size w wr := hbel.trans (hbeln.mono hszr)
              go_wp2
              go_roundw
              case rel => exact ⟨k + 1, by omega, by go_num, hO6, R⟩
              case measure => simp [intOf]; omega
    · have hall : sd (xs.take k) = sd xs := by rw [List.take_of_length_le (by omega)]
      rw [hall] at hown
      clear hall
      go_wp2
      go_ret
      exact ⟨_, rfl, hown, hbel⟩

end Go.Proofs.Ytciphhfaoljndaa
