/-
  The document's SetOf.
-/
import Derived.Test.YtkbceaofijngoaaLRGet
namespace Go.Proofs.Ytkbceaofijngoaa
open Go.RowKit
set_option linter.unusedVariables false

def behindS (n : Nat) (o : Option (List Int × Nat)) : Int := match o with
  | none => -1
  | some (_, z) => ((n + z : Nat) : Int)

/-- What the document's SetOf leaves. -/
def SetOfed (n : Nat) (D : List Nat) (w : World) (e : Ending) (w' : World) : Prop :=
  ∃ v' xs, e = .returned (.tuple #[v', .int .i64 (behindS n (readS D))]) ∧ Owns w' w.heap.size v' xs ∧ (∀ l z, readS D = some (l, z) → xs = l) ∧ Below w.heap.size w w'

set_option maxRecDepth 20000 in
set_option maxHeartbeats 2000000 in
theorem setOf_any (s : ByteArray) (n : Nat) (w : World) (hs : s.size ≤ 4611686018427387904) (hn : n ≤ s.size) :
    Calls Try.prog 62 #[.string s, .int .i64 (n : Int)] w (SetOfed n ((bytesOf s).drop n) w) := by
  have hR := rnumber_any s n w hs hn
  obtain ⟨D, hD⟩ : ∃ D, D = (bytesOf s).drop n := ⟨_, rfl⟩
  have hDl : D.length = s.size - n := by rw [hD, List.length_drop, bytesOf_len]
  unfold SetOfed
  rw [← hD] at hR ⊢
  have HD := hid hD
  clear hD
  cases hr : readN D with
  | none =>
    have HF : Hid (readS D = none) := by unfold Hid; rw [readS, hr]
    rw [hr, show behind n none = -1 from rfl, show numV none = 0 from rfl] at hR
    go_enter Try.func62, Try.ntmps62
    go_wp2_with fail
    refine hR.mono ?_
    clear hR
    rintro e w1 ⟨rfl, hw1⟩
    subst hw1
    go_wp2
    go_ret2
    exact ⟨_, [], by rw [HF.out]; rfl, World.ownsRow_nil _ _ _ _, (fun l z h => by rw [HF.out] at h; cases h), Below.refl _ _⟩
  | some o =>
    obtain ⟨a, z⟩ := o
    have hsz := readN_size hr
    have hrs : readS D = if 64 < a then none else readK a 0 [] z (D.drop z) := by rw [readS, hr]
    rw [hr, show behind n (some (a, z)) = ((n + z : Nat) : Int) from rfl, show numV (some (a, z)) = a from rfl] at hR
    have hz0 : decide (((n + z : Nat) : Int) < 0) = false := by simp; omega
    have hz1 : ¬ (n : Int) + z < 0 := by omega
    by_cases h64 : 64 < a
    · rw [if_pos h64] at hrs
      have HF := hid hrs
      have h64' : (64 : Int) < (a : Int) := by omega
      clear hrs hr
      go_enter Try.func62, Try.ntmps62
      go_wp2_with fail
      refine hR.mono ?_
      clear hR
      rintro e w1 ⟨rfl, hw1⟩
      subst hw1
      go_wp2
      go_ret2
      exact ⟨_, [], by rw [HF.out]; rfl, World.ownsRow_nil _ _ _ _, (fun l z h => by rw [HF.out] at h; cases h), Below.refl _ _⟩
    · rw [if_neg h64] at hrs
      have HF := hid hrs
      have h64' : decide ((64 : Int) < (a : Int)) = false := by simp; omega
      clear hrs hr
      go_enter Try.func62, Try.ntmps62
      go_wp2_with fail
      refine hR.mono ?_
      clear hR
      rintro e w1 ⟨rfl, hw1⟩
      subst hw1
      go_wp2_with fail
      go_loopw [6, 8, 9, 10] (fun o nx la i wr => ∃ (j pos : Nat) (acc : List Int) (last : Int), j ≤ a ∧ i = .int .i64 (j : Int) ∧ la = .int .i64 last ∧ nx = .int .i64 ((n + pos : Nat) : Int) ∧ 0 ≤ last ∧ last ≤ 2147483647 ∧ acc.length = j ∧ pos ≤ D.length ∧ readS D = readK (a - j) last acc pos (D.drop pos) ∧ Owns wr w1.heap.size o acc ∧ Below w1.heap.size w1 wr) (fun _ _ _ i _ => a - (intOf i).toNat)
      case atStart => exact ⟨0, z, [], 0, Nat.zero_le _, rfl, rfl, by simp, by omega, by omega, rfl, by omega, HF.out, World.ownsRow_nil _ _ _ _, Below.refl _ _⟩
      clear HF
      case round =>
        obtain ⟨j, pos, acc, last, hj, rfl, rfl, rfl, hl0, hl1, hacc, hpos, hread, hO, hB⟩ := hrel
        have hwsz := hB.size
        by_cases hlt : j < a
        · have hlt' : (j : Int) < (a : Int) := by omega
          have hR2 := rnumber_any s (n + pos) wr hs (by omega)
          rw [← List.drop_drop, ← HD.out] at hR2
          rw [show a - j = (a - (j + 1)) + 1 by omega, readK] at hread
          have HO := hid hO
          have HB := hid hB
          clear hO hB
          cases hr : readN (D.drop pos) with
          | none =>
            rw [hr] at hread
            have HF : Hid (readS D = none) := hread
            rw [hr, show behind (n + pos) none = -1 from rfl, show numV none = 0 from rfl] at hR2
            clear hread hr
            go_wp2_with fail
            refine hR2.mono ?_
            clear hR2
            rintro e w2 ⟨rfl, hw2⟩
            subst hw2
            go_wp2
            go_ret2
            exact ⟨_, acc, by rw [HF.out]; rfl, HO.out, (fun l z h => by rw [HF.out] at h; cases h), HB.out⟩
          | some o2 =>
            obtain ⟨b, zz⟩ := o2
            have hsz2 := readN_size hr
            rw [List.length_drop] at hsz2
            rw [hr] at hread
            rw [hr, show behind (n + pos) (some (b, zz)) = ((n + pos + zz : Nat) : Int) from rfl, show numV (some (b, zz)) = b from rfl] at hR2
            simp only at hread
            have HRd := hid hread
            have hq0 : decide (((n + pos + zz : Nat) : Int) < 0) = false := by simp; omega
            have hq1 : ¬ (n : Int) + pos + zz < 0 := by omega
            clear hread hr
            by_cases hbad : (b : Int) < 1 ∨ 2147483647 - last < (b : Int)
            · have hread := HRd.out
              rw [if_pos hbad] at hread
              have HF := hid hread
              clear hread HRd
              by_cases hb1 : (b : Int) < 1
              · have hb0 : ((b : Int) == 0) = true := by simp; omega
                clear hbad hb1
                go_wp2_with fail
                refine hR2.mono ?_
                clear hR2
                rintro e w2 ⟨rfl, hw2⟩
                subst hw2
                go_wp2
                go_ret2
                exact ⟨_, acc, by rw [HF.out]; rfl, HO.out, (fun l z h => by rw [HF.out] at h; cases h), HB.out⟩
              · have hb0 : ((b : Int) == 0) = false := by simp; omega
                have hb2 : 2147483647 - last < (b : Int) := by omega
                clear hbad
                go_wp2_with fail
                refine hR2.mono ?_
                clear hR2
                rintro e w2 ⟨rfl, hw2⟩
                subst hw2
                go_wp2
                go_ret2
                exact ⟨_, acc, by rw [HF.out]; rfl, HO.out, (fun l z h => by rw [HF.out] at h; cases h), HB.out⟩
            · have hread := HRd.out
              rw [if_neg hbad, List.drop_drop] at hread
              have HF := hid hread
              have hb0 : ((b : Int) == 0) = false := by simp; omega
              have hb2' : decide (2147483647 - last < (b : Int)) = false := by simp; omega
              have hbs : last + (b : Int) ≤ 2147483647 := by omega
              have hbn : ¬ (b : Int) < 1 := by omega
              clear hread HRd hbad
              go_wp2_with fail
              refine hR2.mono ?_
              clear hR2
              rintro e w2 ⟨rfl, hw2⟩
              subst hw2
              go_wp2_with (first
                | (at_builtin
                   refine wpList_app rfl _ _ rfl w1.heap.size u6 acc rfl (Owns.below HO.out (below_alloc w2 _)) _ [last + (b : Int)] rfl (sees_one _ _) (by simp only [List.length_singleton]; omega) (by simp; omega) ?_
                   intro v3 w3 hO3 hG3
                   have HO3 := hid hO3
                   have HB3 := hid (below_grownBy (HB.out.trans ((below_alloc w2 _).mono hwsz)) hG3 (Owns.block HO.out) (by simp; omega))
                   clear hO3 hG3)
                | fail)
              go_roundw
              case rel => exact ⟨j + 1, pos + zz, acc ++ [last + (b : Int)], last + b, by omega, by go_num, rfl, by rw [← Nat.add_assoc]; go_num, by omega, by omega, by simp [hacc], by omega, HF.out, HO3.out, HB3.out⟩
              case measure => simp [intOf]; omega
        · have hlt' : decide ((j : Int) < (a : Int)) = false := by simp; omega
          rw [show a - j = 0 by omega, readK] at hread
          have HF := hid hread
          have HO := hid hO
          have HB := hid hB
          clear hread hO hB
          go_wp2
          go_ret2
          exact ⟨_, acc, by rw [HF.out]; simp [behindS], HO.out, (fun l z h => by rw [HF.out] at h; cases h; rfl), HB.out⟩
end Go.Proofs.Ytkbceaofijngoaa
