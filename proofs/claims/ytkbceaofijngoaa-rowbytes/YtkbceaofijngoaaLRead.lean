/-
  Reading a label's bytes: Of's closure, counted.
-/
import Derived.Test.YtkbceaofijngoaaLGet
import Derived.Test.YtkbceaofijngoaaLLabC
namespace Go.Proofs.Ytkbceaofijngoaa
open Go.RowKit
set_option linter.unusedVariables false

/-- At p lies a variable of type ty. -/
def CellAt (ty : TypeId) (w : World) (p : Nat) (v : Value) : Prop := w.heap[p]? = some (.cells #[v] ty (0, 0))
theorem CellAt.lt {ty : TypeId} {w : World} {p : Nat} {v : Value} (h : CellAt ty w p v) : p < w.heap.size := (Array.getElem?_eq_some_iff.1 h).1
theorem CellAt.cells {ty : TypeId} {w : World} {p : Nat} {v : Value} (h : CellAt ty w p v) : w.cell? ⟨p, 0, none⟩ = some v ∧ w.frozen? ⟨p, 0, none⟩ = false := by
  unfold CellAt at h
  refine ⟨?_, ?_⟩ <;> simp [World.cell?, World.frozen?, h]
theorem CellAt.store {ty : TypeId} {w : World} {p : Nat} {v v' : Value} (h : CellAt ty w p v) : CellAt ty (w.setCell ⟨p, 0, none⟩ v') p v' := by
  unfold CellAt at *
  simp only [World.setCell, Array.getElem?_modify, h]
  simp
theorem CellAt.grown {ty : TypeId} {w w' : World} {p : Nat} {r : Option Nat} {v : Value} (h : CellAt ty w p v) (hg : w.grownBy w' r) (hp : some p ≠ r) : CellAt ty w' p v := by
  unfold CellAt
  rw [hg.block p h.lt hp]
  exact h
theorem grown_setCell (w : World) (p : Nat) (v : Value) : w.grownBy (w.setCell ⟨p, 0, none⟩ v) (some p) := by
  refine ⟨rfl, rfl, rfl, by simp [World.setCell], fun i hi hne => ?_⟩
  simp only [World.setCell, Array.getElem?_modify]
  rw [if_neg (fun h => hne (by rw [h]))]
theorem grown_refl (w : World) (r : Option Nat) : w.grownBy w r := ⟨rfl, rfl, rfl, Nat.le_refl _, fun _ _ _ => rfl⟩

set_option maxRecDepth 20000 in
set_option maxHeartbeats 1000000 in
theorem next_any (s : ByteArray) (p q n : Nat) (w : World) (hs : s.size ≤ 4611686018427387904) (h1 : CellAt 9 w p (.string s)) (h2 : CellAt 3 w q (.int .i64 (n : Int))) (hn : n ≤ s.size) :
    Calls Try.prog 67 #[.pointer (some ⟨p, 0, none⟩), .pointer (some ⟨q, 0, none⟩)] w fun e w' => e = .returned (.tuple #[.int .i64 (numV (readN ((bytesOf s).drop n)) : Nat), .bool (decide (0 < numZ (readN ((bytesOf s).drop n))))]) ∧ w' = w.setCell ⟨q, 0, none⟩ (.int .i64 ((n + numZ (readN ((bytesOf s).drop n)) : Nat) : Int)) := by
  have hR := number_any (s.extract n s.size) w (by rw [← bytesOf_len, bytesOf_extract _ _ hn, List.length_drop, bytesOf_len]; omega)
  rw [bytesOf_extract _ _ hn] at hR
  have hz : numZ (readN ((bytesOf s).drop n)) ≤ 5 := by
    cases hr : readN ((bytesOf s).drop n) with
    | none => simp [numZ]
    | some o =>
      obtain ⟨a, b⟩ := o
      have := readN_size hr
      simp [numZ]
      omega
  generalize readN ((bytesOf s).drop n) = o at *
  generalize numV o = a at *
  generalize numZ o = z at *
  obtain ⟨c1, _⟩ := h1.cells
  obtain ⟨c3, c4⟩ := h2.cells
  have hn' : (n : Int) ≤ (s.size : Int) := by omega
  go_enter Try.func67, Try.ntmps67
  go_wp2_with fail
  refine hR.mono ?_
  clear hR
  rintro e w1 ⟨rfl, hw1⟩
  subst hw1
  go_wp2
  go_ret2
  exact ⟨rfl, by rw [Int.natCast_add]⟩

theorem Owns.grown {w w' : World} {base : Nat} {r : Option Nat} {v : Value} {xs : List Int} (h : Owns w base v xs) (hg : w.grownBy w' r) (hr : ∀ j, r = some j → j < base) : Owns w' base v xs := by
  refine ⟨h.1, ?_⟩
  rcases h.2 with hn | ⟨g, cap, cur, rfl, hbase, hg', rest⟩
  · exact Or.inl hn
  · exact Or.inr ⟨g, cap, cur, rfl, hbase, by rw [hg.block g (Array.getElem?_eq_some_iff.1 hg').1 (fun e => by have := hr g e.symm; omega)]; exact hg', rest⟩
theorem Owns.block {w : World} {base : Nat} {v : Value} {xs : List Int} (h : Owns w base v xs) : ∀ j, v.ownBlock = some j → base ≤ j := by
  intro j hj
  rcases h.2 with ⟨rfl, hn⟩ | ⟨g, cap, cur, rfl, hb, _⟩
  · simp [Value.ownBlock] at hj
  · simp [Value.ownBlock] at hj
    omega
theorem grownBy_wide {a b : World} {r : Option Nat} {q : Nat} (h : a.grownBy b none) : a.grownBy b (some q) := ⟨h.os, h.tape, h.output, h.size, fun i hi _ => h.block i hi (by simp)⟩

/-- The set that is read, none where there is none. -/
def setV (o : Option (List Int × Nat)) : List Int := (o.getD ([], 0)).1

theorem numZ_some {l : List Nat} (h : decide (0 < numZ (readN l)) = true) : ∃ a z, readN l = some (a, z) ∧ numV (readN l) = a ∧ numZ (readN l) = z := by
  cases hr : readN l with
  | none => rw [hr] at h; simp [numZ] at h
  | some o => exact ⟨o.1, o.2, rfl, rfl, rfl⟩
theorem numZ_none {l : List Nat} (h : decide (0 < numZ (readN l)) = false) : readN l = none := by
  cases hr : readN l with
  | none => rfl
  | some o =>
    obtain ⟨a, z⟩ := o
    have := readN_size hr
    rw [hr] at h
    simp only [numZ, Option.getD_some] at h
    exact absurd (show 0 < z by omega) (of_decide_eq_false h)

theorem numV_le (l : List Nat) : numV (readN l) ≤ 2147483647 := by
  cases hr : readN l with
  | none => simp [numV]
  | some o =>
    obtain ⟨a, z⟩ := o
    have := readN_size hr
    simp [numV]
    omega

/-- What 'counted' leaves. -/
def Counted (s : ByteArray) (p q n : Nat) (w : World) (e : Ending) (w' : World) : Prop :=
  ∃ v' n', e = .returned (.tuple #[v', .bool (readS ((bytesOf s).drop n)).isSome]) ∧ Owns w' w.heap.size v' (setV (readS ((bytesOf s).drop n))) ∧ CellAt 3 w' q (.int .i64 ((n' : Nat) : Int)) ∧ n' ≤ s.size ∧ (∀ l z, readS ((bytesOf s).drop n) = some (l, z) → n' = n + z) ∧ w.grownBy w' (some q)

set_option maxRecDepth 20000 in
set_option maxHeartbeats 2000000 in
theorem counted_any (s : ByteArray) (p q n : Nat) (w : World) (hs : s.size ≤ 4611686018427387904) (h1 : CellAt 9 w p (.string s)) (h2 : CellAt 3 w q (.int .i64 (n : Int))) (hn : n ≤ s.size) (hpq : p ≠ q) :
    Calls Try.prog 69 #[.func (.func 67) #[] #[.pointer (some ⟨p, 0, none⟩), .pointer (some ⟨q, 0, none⟩)]] w (Counted s p q n w) := by
  have hR := next_any s p q n w hs h1 h2 hn
  have HL := hid (bytesOf_len s)
  have H1 := hid h1
  have H2 := hid h2
  have hq := h2.lt
  obtain ⟨D, hD⟩ : ∃ D, D = (bytesOf s).drop n := ⟨_, rfl⟩
  have hDl : D.length = s.size - n := by rw [hD, List.length_drop, bytesOf_len]
  unfold Counted
  rw [← hD] at hR ⊢
  have HD := hid hD
  clear h1 h2 hD
  have hle := numV_le D
  cases hz : decide (0 < numZ (readN D))
  · have hr := numZ_none hz
    have HF : Hid (readS D = none) := by unfold Hid; rw [readS, hr]
    rw [hz] at hR
    have hz0 : numZ (readN D) = 0 := by rw [hr]; rfl
    rw [hz0] at hR
    generalize numV (readN D) = a at *
    go_enter Try.func69, Try.ntmps69
    go_wp2_with fail
    refine hR.mono ?_
    clear hR
    rintro e w1 ⟨rfl, hw1⟩
    have HC1 : Hid (CellAt 3 w1 q (.int .i64 (n : Int))) := by unfold Hid; rw [hw1]; exact H2.out.store
    have HG1 : Hid (w.grownBy w1 (some q)) := by unfold Hid; rw [hw1]; exact grown_setCell _ _ _
    clear hw1
    go_wp2
    go_ret2
    exact ⟨_, n, by rw [HF.out]; rfl, by rw [HF.out]; exact World.ownsRow_nil _ _ _ _, HC1.out, hn, (fun l z h => by rw [HF.out] at h; cases h), HG1.out⟩
  · obtain ⟨a, z, hr, ha, hz2⟩ := numZ_some hz
    rw [hz, ha, hz2] at hR
    rw [ha] at hle
    have hsz := readN_size hr
    have hrs : readS D = if 64 < a then none else readK a 0 [] z (D.drop z) := by rw [readS, hr]
    by_cases h64 : 64 < a
    · rw [if_pos h64] at hrs
      have HF := hid hrs
      have h64' : (64 : Int) < (a : Int) := by omega
      clear hrs ha hz2 hr
      go_enter Try.func69, Try.ntmps69
      go_wp2_with fail
      refine hR.mono ?_
      clear hR
      rintro e w1 ⟨rfl, hw1⟩
      have HC1 : Hid (CellAt 3 w1 q (.int .i64 ((n + z : Nat) : Int))) := by unfold Hid; rw [hw1]; exact H2.out.store
      have HG1 : Hid (w.grownBy w1 (some q)) := by unfold Hid; rw [hw1]; exact grown_setCell _ _ _
      clear hw1
      go_wp2
      go_ret2
      exact ⟨_, n + z, by rw [HF.out]; rfl, by rw [HF.out]; exact World.ownsRow_nil _ _ _ _, HC1.out, by omega, (fun l z h => by rw [HF.out] at h; cases h), HG1.out⟩
    · rw [if_neg h64] at hrs
      have HF := hid hrs
      have h64' : decide ((64 : Int) < (a : Int)) = false := by simp; omega
      clear hrs ha hz2 hr hz
      go_enter Try.func69, Try.ntmps69
      go_wp2_with fail
      refine hR.mono ?_
      clear hR
      rintro e w1 ⟨rfl, hw1⟩
      have hc1 : CellAt 3 w1 q (.int .i64 ((n + z : Nat) : Int)) := by rw [hw1]; exact H2.out.store
      have hg1 : w.grownBy w1 (some q) := by rw [hw1]; exact grown_setCell _ _ _
      have HC1 := hid hc1
      have HG1 := hid hg1
      clear hw1 hc1 hg1
      go_wp2_with fail
      go_loopw [6, 7, 22] (fun o la i wr => ∃ (j pos : Nat) (acc : List Int) (last : Int), j ≤ a ∧ i = .int .i64 (j : Int) ∧ la = .int .i64 last ∧ 0 ≤ last ∧ last ≤ 2147483647 ∧ acc.length = j ∧ pos ≤ D.length ∧ readS D = readK (a - j) last acc pos (D.drop pos) ∧ CellAt 3 wr q (.int .i64 ((n + pos : Nat) : Int)) ∧ Owns wr w.heap.size o acc ∧ w.grownBy wr (some q)) (fun _ _ i _ => a - (intOf i).toNat)
      case atStart => exact ⟨0, z, [], 0, Nat.zero_le _, rfl, rfl, by omega, by omega, rfl, by omega, HF.out, HC1.out, World.ownsRow_nil _ _ _ _, HG1.out⟩
      clear HC1 HG1 HF
      case round =>
        obtain ⟨j, pos, acc, last, hj, rfl, rfl, hl0, hl1, hacc, hpos, hread, hC, hO, hG⟩ := hrel
        have hwsz := hG.size
        by_cases hlt : j < a
        · have hlt' : (j : Int) < (a : Int) := by omega
          have hR2 := next_any s p q (n + pos) wr hs (H1.out.grown hG (by simp [hpq])) hC (by omega)
          rw [← List.drop_drop, ← HD.out] at hR2
          rw [show a - j = (a - (j + 1)) + 1 by omega, readK] at hread
          have hle2 := numV_le (D.drop pos)
          have HC := hid hC
          have HG := hid hG
          have HO := hid hO
          clear hC hG hO
          cases hz : decide (0 < numZ (readN (D.drop pos)))
          · have hr := numZ_none hz
            have hz0 : numZ (readN (D.drop pos)) = 0 := by rw [hr]; rfl
            rw [hr] at hread
            have HF : Hid (readS D = none) := hread
            rw [hz, hz0] at hR2
            generalize numV (readN (D.drop pos)) = b at *
            clear hread hr hz hz0
            go_wp2_with fail
            refine hR2.mono ?_
            clear hR2
            rintro e w2 ⟨rfl, hw2⟩
            have HC2 : Hid (CellAt 3 w2 q (.int .i64 ((n + pos : Nat) : Int))) := by unfold Hid; rw [hw2]; exact HC.out.store
            have HG2 : Hid (w.grownBy w2 (some q)) := by unfold Hid; rw [hw2]; exact grownBy_mono HG.out (grown_setCell _ _ _) (Or.inl rfl)
            clear hw2
            go_wp2
            go_ret2
            exact ⟨_, n + pos, by rw [HF.out]; rfl, by rw [HF.out]; exact World.ownsRow_nil _ _ _ _, HC2.out, by omega, (fun l z h => by rw [HF.out] at h; cases h), HG2.out⟩
          · obtain ⟨b, zz, hr, hb, hz2⟩ := numZ_some hz
            have hsz2 := readN_size hr
            rw [List.length_drop] at hsz2
            rw [hz, hb, hz2] at hR2
            rw [hr] at hread
            rw [hb] at hle2
            simp only at hread
            have HRd := hid hread
            clear hread hr hz hb hz2
            by_cases hbad : (b : Int) < 1 ∨ 2147483647 - last < (b : Int)
            · have hread := HRd.out
              rw [if_pos hbad] at hread
              have HF := hid hread
              clear hread HRd
              by_cases hb1 : (b : Int) < 1
              · clear hbad
                go_wp2_with fail
                refine hR2.mono ?_
                clear hR2
                rintro e w2 ⟨rfl, hw2⟩
                have HC2 : Hid (CellAt 3 w2 q (.int .i64 ((n + pos + zz : Nat) : Int))) := by unfold Hid; rw [hw2]; exact HC.out.store
                have HG2 : Hid (w.grownBy w2 (some q)) := by unfold Hid; rw [hw2]; exact grownBy_mono HG.out (grown_setCell _ _ _) (Or.inl rfl)
                clear hw2
                go_wp2
                go_ret2
                exact ⟨_, n + pos + zz, by rw [HF.out]; rfl, by rw [HF.out]; exact World.ownsRow_nil _ _ _ _, HC2.out, by omega, (fun l z h => by rw [HF.out] at h; cases h), HG2.out⟩
              · have hb1' : decide ((b : Int) < 1) = false := by simp; omega
                have hb2 : 2147483647 - last < (b : Int) := by omega
                clear hbad
                go_wp2_with fail
                refine hR2.mono ?_
                clear hR2
                rintro e w2 ⟨rfl, hw2⟩
                have HC2 : Hid (CellAt 3 w2 q (.int .i64 ((n + pos + zz : Nat) : Int))) := by unfold Hid; rw [hw2]; exact HC.out.store
                have HG2 : Hid (w.grownBy w2 (some q)) := by unfold Hid; rw [hw2]; exact grownBy_mono HG.out (grown_setCell _ _ _) (Or.inl rfl)
                clear hw2
                go_wp2
                go_ret2
                exact ⟨_, n + pos + zz, by rw [HF.out]; rfl, by rw [HF.out]; exact World.ownsRow_nil _ _ _ _, HC2.out, by omega, (fun l z h => by rw [HF.out] at h; cases h), HG2.out⟩
            · have hread := HRd.out
              rw [if_neg hbad, List.drop_drop] at hread
              have HF := hid hread
              have hb1' : decide ((b : Int) < 1) = false := by simp; omega
              have hb2' : decide (2147483647 - last < (b : Int)) = false := by simp; omega
              have hbs : last + (b : Int) ≤ 2147483647 := by omega
              have hbn : ¬ (b : Int) < 1 := by omega
              clear hread HRd hbad
              go_wp2_with fail
              refine hR2.mono ?_
              clear hR2
              rintro e w2 ⟨rfl, hw2⟩
              have HC2 : Hid (CellAt 3 w2 q (.int .i64 ((n + pos + zz : Nat) : Int))) := by unfold Hid; rw [hw2]; exact HC.out.store
              have hgs : wr.grownBy w2 (some q) := by rw [hw2]; exact grown_setCell _ _ _
              have HG2 : Hid (w.grownBy w2 (some q)) := hid (grownBy_mono HG.out hgs (Or.inl rfl))
              have HO2 : Hid (Owns w2 w.heap.size u6 acc) := hid (HO.out.grown hgs (fun k hk => by cases hk; exact hq))
              have hsz3 := HG2.out.size
              clear hw2 hgs HO HG HC
              go_wp2_with (first
                | (at_builtin
                   refine wpList_app rfl _ _ rfl w.heap.size u6 acc rfl (Owns.below HO2.out (below_alloc w2 _)) _ [last + (b : Int)] rfl (sees_one _ _) (by simp only [List.length_singleton]; omega) (by simp; omega) ?_
                   intro v3 w3 hO3 hG3
                   have HO3 := hid hO3
                   have HG3 := hid (grownBy_mono (grownBy_mono HG2.out (World.grownBy_alloc w2 _ (some q)) (Or.inl rfl)) hG3 (Or.inr (Owns.block HO2.out)))
                   have HC3 := hid ((HC2.out.grown (World.grownBy_alloc w2 (.cells #[.int .i64 (last + (b : Int))] 3) none) (by simp)).grown hG3 (fun e => by have := Owns.block HO2.out q e.symm; omega))
                   clear hO3 hG3 HO2 HG2 HC2)
                | fail)
              go_roundw
              case rel => exact ⟨j + 1, pos + zz, acc ++ [last + (b : Int)], last + b, by omega, by go_num, rfl, by omega, by omega, by simp [hacc], by omega, HF.out, by rw [← Nat.add_assoc]; exact HC3.out, HO3.out, HG3.out⟩
              case measure => simp [intOf]; omega
        · have hlt' : decide ((j : Int) < (a : Int)) = false := by simp; omega
          rw [show a - j = 0 by omega, readK] at hread
          have HF := hid hread
          have HC := hid hC
          have HO := hid hO
          have HG := hid hG
          clear hread hC hO hG
          go_wp2
          go_ret2
          exact ⟨_, n + pos, by rw [HF.out]; rfl, by rw [HF.out]; exact HO.out, HC.out, by omega, (fun l z h => by rw [HF.out] at h; cases h; rfl), HG.out⟩
end Go.Proofs.Ytkbceaofijngoaa
