/-
  The walk of QueuePlays.
-/
import Derived.Test.YtebjkgibciiocaaPlaysState
import Derived.Deep.DeepCutAuto
import Derived.Deep.CutBlock
import Derived.Deep.LoopGhost
namespace Go.Proofs.Ytebjkgibciiocaa
open Go.RowKit
set_option linter.unusedVariables false

theorem new_P (room : Int) (w : World) (h1 : 1 ≤ room) (h2 : room ≤ 65536) :
    Calls Try.prog 8 #[.int .i64 room] w fun e w' => e = .returned (.tuple #[.pointer (some ⟨w.heap.size, 0, none⟩), .int .i64 0]) ∧ PlayQ w w.heap.size room (.slice none 0 0) (.slice none 0 0) (.pointer none) 0 0 [] [] w' := by
  refine (new_any room w h1 h2).mono ?_
  rintro e w' ⟨rfl, hL, hB⟩
  exact ⟨rfl, .slice none 0 0, 0, [], ⟨hL, World.ownsRow_nil _ _ _ _, ⟨Nat.le_refl _, Or.inr ⟨rfl, rfl⟩, fun i hi => by simp at hi⟩, by simp; omega, h1, h2⟩, ⟨0, 0, none, 0, rfl, Nat.le_refl _, fun _ => rfl, fun h => absurd rfl h, fun j hj => by simp at hj⟩, Or.inl rfl, hB, Nat.le_refl _, fun j hj => by simp [Value.ownBlock] at hj⟩

theorem PlayQ.copy {w0 w : World} {p : Nat} {room : Int} {l old c : Value} {drops was : Int} {xs ys : List Int} (h : PlayQ w0 p room l old c drops was xs ys w) :
    c = .pointer none ∨ ∃ pc rvc zs, c = .pointer (some ⟨pc, 0, none⟩) ∧ QAt w pc room was rvc 0 zs zs ∧ Sees w old zs ∧ zs.length ≤ 65536 := by
  obtain ⟨rv, f, rs, h1, h2, h3, h4, h5, h6⟩ := h
  rcases h3 with e | ⟨pc, rvc, zs, e, _, _, hQ, _, hS⟩
  · exact Or.inl e
  · have q1 := hQ.rle
    have q2 := hQ.r2
    exact Or.inr ⟨pc, rvc, zs, e, hQ, hS.sees, by omega⟩

set_option maxRecDepth 20000 in
set_option maxHeartbeats 8000000 in
theorem plays_good (room : Int) (v : Value) (zs : List Int) (w : World) (h1 : 1 ≤ room) (h2 : room ≤ 65536) (hV : Sees w v zs) (hn : zs.length ≤ 1152921504606846976) :
    Calls Try.prog 3 #[.int .i64 room, v] w fun e w' => e = .returned (.bool true) ∧ Below w.heap.size w w' := by
  obtain ⟨b, off, ao, cap, rfl, hcap, hnil, hao, hcell⟩ := hV
  have HC := hid hcell
  clear hcell
  go_enter Try.func3, Try.ntmps3
  go_wp2_with fail
  refine (new_P room _ h1 h2).mono ?_
  rintro e w1 ⟨rfl, hP⟩
  have HP0 := hid hP
  clear hP
  go_wp2_with fail
  go_loopg [7, 8, 9, 10, 11, 12] zs.length (fun g l o dr wa c i wr => ∃ (k d ws : Nat) (xs : List Int), k ≤ zs.length ∧ zs.length - k ≤ g ∧ dr = .int .i64 d ∧ wa = .int .i64 ws ∧ i = .int .i64 k ∧ d ≤ k ∧ PlayQ w w.heap.size room l o c d ws xs xs wr)
  case atStart => exact ⟨0, 0, 0, [], Nat.zero_le _, by omega, rfl, rfl, rfl, Nat.le_refl _, HP0.out⟩
  case round =>
    clear HP0
    obtain ⟨k, d, ws, xs, hk, hg, rfl, rfl, rfl, hdk, hP⟩ := hrel
    have hle := hP.len
    obtain ⟨b7, off7, ao7, cap7, hs7, hcap7, hnil7, hao7, hc7⟩ := hP.sees
    subst hs7
    by_cases hlt : k < zs.length
    · obtain rfl := hao (by intro h; rw [h] at hlt; simp at hlt)
      obtain ⟨z, hz⟩ : ∃ z, z = zs.getD k 0 := ⟨_, rfl⟩
      have hc := HC.out k hlt
      rw [← hz] at hc
      have hc1 := (hP.bel.cell (World.block_lt_of_cell? w _ hc)).trans hc
      have HP := hid hP
      clear hz hc hP
      by_cases hneg : z < 0
      · have hz7 : (z == 7) = false := by simp; omega
        cases xs with
        | nil =>
          clear hc7 hao7
          go_wp2_with fail
          refine (popno_P _ _ _ _ _ _ _ _ _ _ HP.out).mono ?_
          rintro e w2 ⟨rfl, hw⟩
          subst hw
          go_wp2_with fail
          refine (len_P _ _ _ _ _ _ _ _ _ _ _ HP.out).mono ?_
          rintro e w2 ⟨rfl, hw⟩
          subst hw
          go_wp2_with fail
          refine (drops_P _ _ _ _ _ _ _ _ _ _ _ HP.out).mono ?_
          rintro e w2 ⟨rfl, hw⟩
          subst hw
          go_wp2
          go_roundg (zs.length - (k + 1))
          case measure => omega
          case rel => exact ⟨k + 1, d, ws, [], by omega, Nat.le_refl _, rfl, rfl, by go_num, by omega, HP.out⟩
        | cons x t =>
          obtain rfl := hao7 (by simp)
          have hx7 := hc7 0 (by simp)
          simp only [List.getD_cons_zero, Nat.add_zero] at hx7
          have hl0 : (x :: t).length = t.length + 1 := List.length_cons
          obtain ⟨n7, hn7⟩ : ∃ n7, n7 = (x :: t).length := ⟨_, rfl⟩
          rw [← hn7] at hcap7 HP ⊢
          have hn71 : n7 = t.length + 1 := by rw [hn7, hl0]
          subst hn71
          have hpop := pop_P _ _ _ _ _ _ _ _ _ _ _ _ HP.out
          have HPO := hid hpop
          by_cases hcp : cap7 = 1
          · subst hcp
            have ht0 : t.length = 0 := by omega
            have hxx : (x != x) = false := by simp
            have hgt : (0 : Int) < ((t.length + 1 : Nat) : Int) := by omega
            have HX7 := hid hx7
            clear hpop hc7 hao7 hnil7 hn7 hl0
            go_wp2_with fail
            refine HPO.out.mono ?_
            clear HPO
            rintro e w2 ⟨rfl, hp2⟩
            obtain ⟨q1, q2, q3, q4, q5, q6, q7, q8, q9⟩ := hp2.sees
            cases q5
            have q10 := q9 0 (by simp)
            obtain ⟨rfl, rfl⟩ : q1 = b7 ∧ q2 = off7 := by have := q8 (by simp); simp at this; exact ⟨this.1.symm, this.2.symm⟩
            simp only [List.getD_cons_zero, Nat.add_zero] at q10
            have H2 := hid hp2
            clear q6 q7 q8 q9 hx7 HX7 HP hc1
            have H3 := hid (PlayQ.tail (l' := .slice (some ⟨q1, q2, none⟩) t.length 0) hp2 (fun b off n cap _ hne => absurd (List.eq_nil_of_length_eq_zero ht0) hne) ⟨_, _, rfl, by omega, fun h => by cases h⟩)
            clear hp2 H2
            go_wp2_with fail
            refine (len_P _ _ _ _ _ _ _ _ _ _ _ H3.out).mono ?_
            rintro e w8 ⟨rfl, hw⟩
            subst hw
            go_wp2_with fail
            refine (drops_P _ _ _ _ _ _ _ _ _ _ _ H3.out).mono ?_
            rintro e w8 ⟨rfl, hw⟩
            subst hw
            go_wp2
            go_roundg (zs.length - (k + 1))
            case measure => omega
            case rel => exact ⟨k + 1, d, ws, t, by omega, Nat.le_refl _, rfl, rfl, by go_num, by omega, by have := H3.out; rw [ht0] at this; exact this⟩
          · have hcp1 : 1 < cap7 := by omega
            have hxx : (x != x) = false := by simp
            have hgt : (0 : Int) < ((t.length + 1 : Nat) : Int) := by omega
            have HX7 := hid hx7
            clear hpop hc7 hao7 hnil7 hn7 hl0
            go_wp2_with fail
            refine HPO.out.mono ?_
            clear HPO
            rintro e w2 ⟨rfl, hp2⟩
            obtain ⟨q1, q2, q3, q4, q5, q6, q7, q8, q9⟩ := hp2.sees
            cases q5
            have q10 := q9 0 (by simp)
            obtain ⟨rfl, rfl⟩ : q1 = b7 ∧ q2 = off7 := by have := q8 (by simp); simp at this; exact ⟨this.1.symm, this.2.symm⟩
            simp only [List.getD_cons_zero, Nat.add_zero] at q10
            have H2 := hid hp2
            clear q6 q7 q8 q9 hx7 HX7 HP hc1
            have H3 := hid (PlayQ.tail (l' := .slice (some ⟨q1, q2 + 1, none⟩) t.length (cap7 - 1)) hp2 (fun b off n cap hh _ => by cases hh; rfl) ⟨_, _, rfl, by omega, fun h => by cases h⟩)
            clear hp2 H2
            go_wp2_with fail
            refine (len_P _ _ _ _ _ _ _ _ _ _ _ H3.out).mono ?_
            rintro e w8 ⟨rfl, hw⟩
            subst hw
            go_wp2_with fail
            refine (drops_P _ _ _ _ _ _ _ _ _ _ _ H3.out).mono ?_
            rintro e w8 ⟨rfl, hw⟩
            subst hw
            go_wp2
            go_roundg (zs.length - (k + 1))
            case measure => omega
            case rel => exact ⟨k + 1, d, ws, t, by omega, Nat.le_refl _, rfl, rfl, by go_num, by omega, H3.out⟩
      · by_cases hroom : (xs.length : Int) < room
        · by_cases h7 : z = 7
          · have hz7 : (z == 7) = true := by simpa using h7
            clear h7
            have hpu := push_P _ _ _ _ _ _ _ _ z _ _ _ HP.out hroom
            have HPU := hid hpu
            clear hpu hc7 hao7 hnil7 HP
            go_wp2_with fail
            refine HPU.out.mono ?_
            clear HPU hc1
            rintro e w2 ⟨rfl, hp2⟩
            have hn0 := World.ownsRow_nil w2 w2.heap.size 3 1
            have hS2 := hp2.sees
            have H2 := hid hp2
            clear hp2
            go_wp2_with (first
              | (at_builtin; refine wpList_app rfl (.tmp 106) (.tmp 107) rfl w2.heap.size (.slice none 0 0) [] rfl hn0 _ xs rfl hS2 ?_ (Nat.le_refl _) ?_; (first | (simp; omega) | skip); intro v3 w3 hO3 hG3; have hB3 : Below w2.heap.size w2 w3 := (Below.refl _ _).grown hG3 (Nat.le_refl _) (fun k hk => by simp [Value.ownBlock] at hk); rw [List.nil_append] at hO3; clear hn0 hS2)
              | (at_builtin; refine wpList_app rfl (.tmp 109) (.tmp 111) rfl w2.heap.size v3 xs rfl (hO3.below ((Below.refl _ _).alloc (Nat.le_refl _) _)) _ [z] rfl (sees_one w3 z) ?_ ?_ ?_; (first | (simp; omega) | skip); (first | (simp; have := hB3.size; omega) | skip); intro v4 w4 hO4 hG4))
            have hB4 : Below w2.heap.size w2 w4 := (hB3.alloc hB3.size _).grown hG4 (by simp; have := hB3.size; omega) (fun j hj => (hO3.lt j hj).1)
            have hp4 := PlayQ.list H2.out hO4 hB4
            obtain ⟨ys, hys⟩ : ∃ ys, ys = xs ++ [z] := ⟨_, rfl⟩
            rw [← hys] at hp4
            have hyl := hp4.len
            obtain ⟨b9, off9, ao9, cap9, hs9, _⟩ := hp4.sees
            subst hs9
            have H4 := hid hp4
            clear hp4 hys hO4 hG4 hB4 hO3 hG3 hB3 H2
            refine (copy_P _ _ _ _ _ _ _ _ _ _ H4.out).mono ?_
            rintro e w5 ⟨pc, rfl, hp5⟩
            have H5 := hid hp5
            clear hp5 H4
            go_wp2_with fail
            refine (len_P _ _ _ _ _ _ _ _ _ _ _ H5.out).mono ?_
            rintro e w8 ⟨rfl, hw⟩
            subst hw
            go_wp2_with fail
            refine (drops_P _ _ _ _ _ _ _ _ _ _ _ H5.out).mono ?_
            rintro e w8 ⟨rfl, hw⟩
            subst hw
            go_wp2
            go_roundg (zs.length - (k + 1))
            case measure => omega
            case rel => exact ⟨k + 1, d, d, ys, by omega, Nat.le_refl _, rfl, rfl, by go_num, by omega, H5.out⟩
          · have hz7 : (z == 7) = false := by simpa using h7
            clear h7
            have hpu := push_P _ _ _ _ _ _ _ _ z _ _ _ HP.out hroom
            have HPU := hid hpu
            clear hpu hc7 hao7 hnil7 HP
            go_wp2_with fail
            refine HPU.out.mono ?_
            clear HPU hc1
            rintro e w2 ⟨rfl, hp2⟩
            have hn0 := World.ownsRow_nil w2 w2.heap.size 3 1
            have hS2 := hp2.sees
            have H2 := hid hp2
            clear hp2
            go_wp2_with (first
              | (at_builtin; refine wpList_app rfl (.tmp 106) (.tmp 107) rfl w2.heap.size (.slice none 0 0) [] rfl hn0 _ xs rfl hS2 ?_ (Nat.le_refl _) ?_; (first | (simp; omega) | skip); intro v3 w3 hO3 hG3; have hB3 : Below w2.heap.size w2 w3 := (Below.refl _ _).grown hG3 (Nat.le_refl _) (fun k hk => by simp [Value.ownBlock] at hk); rw [List.nil_append] at hO3; clear hn0 hS2)
              | (at_builtin; refine wpList_app rfl (.tmp 109) (.tmp 111) rfl w2.heap.size v3 xs rfl (hO3.below ((Below.refl _ _).alloc (Nat.le_refl _) _)) _ [z] rfl (sees_one w3 z) ?_ ?_ ?_; (first | (simp; omega) | skip); (first | (simp; have := hB3.size; omega) | skip); intro v4 w4 hO4 hG4))
            have hB4 : Below w2.heap.size w2 w4 := (hB3.alloc hB3.size _).grown hG4 (by simp; have := hB3.size; omega) (fun j hj => (hO3.lt j hj).1)
            have hp4 := PlayQ.list H2.out hO4 hB4
            obtain ⟨ys, hys⟩ : ∃ ys, ys = xs ++ [z] := ⟨_, rfl⟩
            rw [← hys] at hp4
            have hyl := hp4.len
            obtain ⟨b9, off9, ao9, cap9, hs9, _⟩ := hp4.sees
            subst hs9
            have H4 := hid hp4
            clear hp4 hys hO4 hG4 hB4 hO3 hG3 hB3 H2
            refine (len_P _ _ _ _ _ _ _ _ _ _ _ H4.out).mono ?_
            rintro e w8 ⟨rfl, hw⟩
            subst hw
            go_wp2_with fail
            refine (drops_P _ _ _ _ _ _ _ _ _ _ _ H4.out).mono ?_
            rintro e w8 ⟨rfl, hw⟩
            subst hw
            go_wp2
            go_roundg (zs.length - (k + 1))
            case measure => omega
            case rel => exact ⟨k + 1, d, ws, ys, by omega, Nat.le_refl _, rfl, rfl, by go_num, by omega, H4.out⟩
        · by_cases h7 : z = 7
          · have hz7 : (z == 7) = true := by simpa using h7
            clear h7
            have hpu := full_P _ _ _ _ _ _ _ _ z _ _ _ HP.out (by omega) (by omega) (by omega)
            have HPU := hid hpu
            clear hpu hc7 hao7 hnil7 HP
            go_wp2_with fail
            refine HPU.out.mono ?_
            clear HPU hc1
            rintro e w2 ⟨rfl, hp2⟩
            have H4 := hid hp2
            clear hp2
            go_wp2_with fail
            refine (copy_P _ _ _ _ _ _ _ _ _ _ H4.out).mono ?_
            rintro e w5 ⟨pc, rfl, hp5⟩
            have H5 := hid hp5
            clear hp5 H4
            go_wp2_with fail
            refine (len_P _ _ _ _ _ _ _ _ _ _ _ H5.out).mono ?_
            rintro e w8 ⟨rfl, hw⟩
            subst hw
            go_wp2_with fail
            refine (drops_P _ _ _ _ _ _ _ _ _ _ _ H5.out).mono ?_
            rintro e w8 ⟨rfl, hw⟩
            subst hw
            go_wp2
            go_roundg (zs.length - (k + 1))
            case measure => omega
            case rel => exact ⟨k + 1, d + 1, d + 1, xs, by omega, Nat.le_refl _, by go_num, by go_num, by go_num, by omega, H5.out⟩
          · have hz7 : (z == 7) = false := by simpa using h7
            clear h7
            have hpu := full_P _ _ _ _ _ _ _ _ z _ _ _ HP.out (by omega) (by omega) (by omega)
            have HPU := hid hpu
            clear hpu hc7 hao7 hnil7 HP
            go_wp2_with fail
            refine HPU.out.mono ?_
            clear HPU hc1
            rintro e w2 ⟨rfl, hp2⟩
            have H4 := hid hp2
            clear hp2
            go_wp2_with fail
            refine (len_P _ _ _ _ _ _ _ _ _ _ _ H4.out).mono ?_
            rintro e w8 ⟨rfl, hw⟩
            subst hw
            go_wp2_with fail
            refine (drops_P _ _ _ _ _ _ _ _ _ _ _ H4.out).mono ?_
            rintro e w8 ⟨rfl, hw⟩
            subst hw
            go_wp2
            go_roundg (zs.length - (k + 1))
            case measure => omega
            case rel => exact ⟨k + 1, d + 1, ws, xs, by omega, Nat.le_refl _, by go_num, rfl, by go_num, by omega, H4.out⟩
    · obtain ⟨nx, hnx⟩ : ∃ nx, nx = xs.length := ⟨_, rfl⟩
      have HNX := hid hnx
      have hnxl : nx ≤ 65536 := by omega
      rw [← hnx] at hP hcap7 ⊢
      have HP := hid hP
      have hcs := hP.copy
      have hS0 := hid hP.sees
      clear hP hc7 hao7 hnil7 hnx
      go_wp2_with fail
      refine (items_P _ _ _ _ _ _ _ _ _ _ _ HP.out).mono ?_
      rintro e w3 ⟨v3, rfl, hO3, hB3⟩
      obtain ⟨b3, off3, ao3, cap3, hv3, _⟩ := hO3.sees
      rw [← HNX.out] at hv3
      subst hv3
      have hM := same_any _ _ xs xs _ hO3.sees (hS0.out.below hB3) (by omega) (by omega)
      rw [decide_eq_true (rfl : xs = xs)] at hM
      have HM := hid hM
      have H3 := hid (And.intro hO3 hB3)
      clear hM hO3 hB3 hS0
      go_wp2_with fail
      refine HM.out.mono ?_
      clear HM
      rintro e w4 ⟨rfl, hB4⟩
      have HO := hid (H3.out.1.below hB4)
      have HB := hid (H3.out.2.trans (hB4.mono H3.out.2.size))
      clear hB4 H3
      rcases hcs with rfl | ⟨pc, rvc, qs, rfl, hQc, hSc, hql⟩
      · go_wp2_with fail
        try rw [decide_eq_false (show ¬ (k : Int) < (zs.length : Int) by omega)]
        go_loopw [18] (fun i wq => ∃ (j : Nat) (es : List Int), j ≤ nx ∧ i = .int .i64 j ∧ es.length = nx ∧ Owns wq wr.heap.size (.slice ao3 nx cap3) es ∧ Below wr.heap.size wr wq) (fun i _ => nx - (intOf i).toNat)
        case atStart => exact ⟨0, _, Nat.zero_le _, rfl, HNX.out.symm, HO.out, HB.out⟩
        case round =>
          clear HO HB
          obtain ⟨j, es, hj, rfl, hel, hown, hbel⟩ := hrel
          have hsz := hbel.size
          by_cases hjl : j < nx
          · obtain ⟨g, gc, hgv, hgb, _, hfz, hgc⟩ := owns_block hown (by omega)
            rw [hel] at hgv
            cases hgv
            obtain ⟨y0, hy0⟩ : ∃ y0, y0 = es.getD j 0 := ⟨_, rfl⟩
            have hcj := hgc j (by omega)
            rw [← hy0] at hcj
            have hfj := hfz j
            have hR := owns_store (k := j) (-9) hown hel
            have HR := hid (And.intro hR.1 (hbel.setCell (p := ⟨g, j, none⟩) hgb (.int .i64 (-9))))
            clear hR hown hbel hgc hfz hy0
            go_wp2
            go_roundw
            case rel => exact ⟨j + 1, es.set j (-9), by omega, by go_num, by rw [List.length_set, hel], HR.out.1, HR.out.2⟩
            case measure => simp [intOf]; omega
          · have hp5 := HP.out.below hbel
            have H5 := hid hp5
            clear hp5 hown hbel
            go_wp2_with fail
            refine (items_P _ _ _ _ _ _ _ _ _ _ _ H5.out).mono ?_
            rintro e w6 ⟨v6, rfl, hO6, hB6⟩
            have hp6 := H5.out.below hB6
            have hM := same_any _ _ xs xs _ hO6.sees hp6.sees (by omega) (by omega)
            rw [decide_eq_true (rfl : xs = xs)] at hM
            have HM := hid hM
            have H6 := hid hp6
            clear hM hp6 hO6 hB6 H5
            go_wp2_with fail
            refine HM.out.mono ?_
            clear HM
            rintro e w7 ⟨rfl, hB7⟩
            have hp7 := H6.out.below hB7
            have H7 := hid hp7
            clear hp7 hB7 H6
            go_wp2_with fail
            refine (awake_any _).mono ?_
            rintro e w9 ⟨rfl, hB9⟩
            have hfin := (H7.out.below hB9).bel
            clear hB9 H7
            go_wp2
            go_ret
            exact ⟨rfl, hfin⟩
      · have hQ4 := hQc.below HB.out
        have hS4 := hSc.below HB.out
        have hD := drops_any _ _ _ _ _ _ _ _ hQ4
        have HQ := hid (And.intro hQ4 hS4)
        clear hQc hSc hQ4 hS4 hD
        go_wp2_with fail
        refine (items_any _ _ _ _ _ _ _ _ HQ.out.1).mono ?_
        rintro e w5 ⟨v5, rfl, hO5, hB5⟩
        have hM := same_any _ _ qs qs _ hO5.sees (HQ.out.2.below hB5) (by omega) (by omega)
        rw [decide_eq_true (rfl : qs = qs)] at hM
        have HM := hid hM
        have HQ5 := hid (HQ.out.1.below hB5)
        have HO5 := hid (HO.out.below hB5)
        have HB5 := hid (HB.out.trans (hB5.mono HB.out.size))
        clear hM hO5 hB5 HQ HO HB
        go_wp2_with fail
        refine HM.out.mono ?_
        clear HM
        rintro e w6 ⟨rfl, hB6⟩
        have HQ6 := hid (HQ5.out.below hB6)
        have HO := hid (HO5.out.below hB6)
        have HB := hid (HB5.out.trans (hB6.mono HB5.out.size))
        clear hB6 HQ5 HO5 HB5
        go_wp2_with fail
        refine (drops_any _ _ _ _ _ _ _ _ HQ6.out).mono ?_
        rintro e w7 ⟨rfl, hw⟩
        subst hw
        clear HQ6
        go_wp2_with fail
        try rw [decide_eq_false (show ¬ (k : Int) < (zs.length : Int) by omega)]
        go_loopw [18] (fun i wq => ∃ (j : Nat) (es : List Int), j ≤ nx ∧ i = .int .i64 j ∧ es.length = nx ∧ Owns wq wr.heap.size (.slice ao3 nx cap3) es ∧ Below wr.heap.size wr wq) (fun i _ => nx - (intOf i).toNat)
        case atStart => exact ⟨0, _, Nat.zero_le _, rfl, HNX.out.symm, HO.out, HB.out⟩
        case round =>
          clear HO HB
          obtain ⟨j, es, hj, rfl, hel, hown, hbel⟩ := hrel
          have hsz := hbel.size
          by_cases hjl : j < nx
          · obtain ⟨g, gc, hgv, hgb, _, hfz, hgc⟩ := owns_block hown (by omega)
            rw [hel] at hgv
            cases hgv
            obtain ⟨y0, hy0⟩ : ∃ y0, y0 = es.getD j 0 := ⟨_, rfl⟩
            have hcj := hgc j (by omega)
            rw [← hy0] at hcj
            have hfj := hfz j
            have hR := owns_store (k := j) (-9) hown hel
            have HR := hid (And.intro hR.1 (hbel.setCell (p := ⟨g, j, none⟩) hgb (.int .i64 (-9))))
            clear hR hown hbel hgc hfz hy0
            go_wp2
            go_roundw
            case rel => exact ⟨j + 1, es.set j (-9), by omega, by go_num, by rw [List.length_set, hel], HR.out.1, HR.out.2⟩
            case measure => simp [intOf]; omega
          · have hp5 := HP.out.below hbel
            have H5 := hid hp5
            clear hp5 hown hbel
            go_wp2_with fail
            refine (items_P _ _ _ _ _ _ _ _ _ _ _ H5.out).mono ?_
            rintro e w6 ⟨v6, rfl, hO6, hB6⟩
            have hp6 := H5.out.below hB6
            have hM := same_any _ _ xs xs _ hO6.sees hp6.sees (by omega) (by omega)
            rw [decide_eq_true (rfl : xs = xs)] at hM
            have HM := hid hM
            have H6 := hid hp6
            clear hM hp6 hO6 hB6 H5
            go_wp2_with fail
            refine HM.out.mono ?_
            clear HM
            rintro e w7 ⟨rfl, hB7⟩
            have hp7 := H6.out.below hB7
            have H7 := hid hp7
            clear hp7 hB7 H6
            go_wp2_with fail
            refine (awake_any _).mono ?_
            rintro e w9 ⟨rfl, hB9⟩
            have hfin := (H7.out.below hB9).bel
            clear hB9 H7
            go_wp2
            go_ret
            exact ⟨rfl, hfin⟩

set_option maxRecDepth 20000 in
set_option maxHeartbeats 1000000 in
theorem plays_bad (room : Int) (v : Value) (w : World) (h : room < 1 ∨ 65536 < room) :
    Calls Try.prog 3 #[.int .i64 room, v] w fun e w' => e = .returned (.bool true) ∧ Below w.heap.size w w' := by
  have hN := new_bad room w h
  rcases h with h | h
  · go_enter Try.func3, Try.ntmps3
    go_wp2_with fail
    refine hN.mono ?_
    rintro e w1 ⟨rfl, hw1⟩
    subst hw1
    go_wp2_with fail
    refine (awake_any _).mono ?_
    rintro e w2 ⟨rfl, hB⟩
    go_wp2
    go_ret
    exact ⟨rfl, hB⟩
  · have h' : ¬ room < 1 := by omega
    go_enter Try.func3, Try.ntmps3
    go_wp2_with fail
    refine hN.mono ?_
    rintro e w1 ⟨rfl, hw1⟩
    subst hw1
    go_wp2_with fail
    refine (awake_any _).mono ?_
    rintro e w2 ⟨rfl, hB⟩
    go_wp2
    go_ret
    exact ⟨rfl, hB⟩

theorem plays_walk (room : Int) (v : Value) (zs : List Int) (w : World) (hV : Sees w v zs) (hn : zs.length ≤ 1152921504606846976) :
    Calls Try.prog 3 #[.int .i64 room, v] w fun e w' => e = .returned (.bool true) ∧ Below w.heap.size w w' := by
  by_cases h : 1 ≤ room ∧ room ≤ 65536
  · exact plays_good room v zs w h.1 h.2 hV hn
  · exact plays_bad room v w (by omega)

end Go.Proofs.Ytebjkgibciiocaa
