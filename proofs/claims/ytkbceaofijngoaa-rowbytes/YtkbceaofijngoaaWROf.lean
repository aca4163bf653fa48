/-
  The document's textOf and Of.
-/
import Derived.Test.YtkbceaofijngoaaWOf
namespace Go.Proofs.Ytkbceaofijngoaa
open Go.RowKit
set_option linter.unusedVariables false

/-- The text that is read, and the place behind it. -/
def txtV (o : Option (ByteArray × Nat)) : ByteArray := (o.getD (⟨#[]⟩, 0)).1
def txtP (n : Nat) (o : Option (ByteArray × Nat)) : Int := match o with
  | none => -1
  | some (_, z) => ((n + z : Nat) : Int)

theorem extract_mid (s : ByteArray) (a b : Nat) (h1 : a ≤ b) (h2 : b ≤ s.size) : s.extract a b = strOf (((bytesOf s).drop a).take (b - a)) := by
  have e : (s.extract a b).data.toList = (s.data.toList.drop a).take (b - a) := by
    rw [ByteArray.data_extract, Array.toList_extract]
  rw [← strOf_bytesOf (s.extract a b)]
  congr 1
  rw [bytesOf, e, bytesOf, ← List.map_drop, List.map_take]

set_option maxRecDepth 20000 in
set_option maxHeartbeats 2000000 in
theorem textOf_any (s : ByteArray) (n : Nat) (w : World) (hs : s.size ≤ 4611686018427387904) (hn : n ≤ s.size) :
    Calls Try.prog 40 #[.string s, .int .i64 (n : Int)] w fun e w' => e = .returned (.tuple #[.string (txtV (textR 0 2147483647 ((bytesOf s).drop n))), .int .i64 (txtP n (textR 0 2147483647 ((bytesOf s).drop n)))]) ∧ w' = w := by
  have hN := rnumber_any s n w hs hn
  obtain ⟨D, hD⟩ : ∃ D, D = (bytesOf s).drop n := ⟨_, rfl⟩
  have hDl : D.length = s.size - n := by rw [hD, List.length_drop, bytesOf_len]
  rw [← hD] at hN ⊢
  have HD := hid hD
  clear hD
  cases hr : readN D with
  | none =>
    have HF : Hid (textR 0 2147483647 D = none) := by unfold Hid; rw [textR, hr]
    rw [hr, show behind n none = -1 from rfl, show numV none = 0 from rfl] at hN
    clear hr
    go_enter Try.func40, Try.ntmps40
    go_wp2_with fail
    refine hN.mono ?_
    clear hN
    rintro e w1 ⟨rfl, hw1⟩
    subst w1
    go_wp2
    go_ret2
    exact ⟨by rw [HF.out]; rfl, rfl⟩
  | some q =>
    obtain ⟨m, z⟩ := q
    have hz := readN_size hr
    rw [hr, show behind n (some (m, z)) = ((n + z : Nat) : Int) from rfl, show numV (some (m, z)) = m from rfl] at hN
    have hz1 : ¬ ((n : Int) + z < 0) := by omega
    by_cases hb : s.size - (n + z) < m
    · have HF : Hid (textR 0 2147483647 D = none) := by
        unfold Hid
        rw [textR, hr]
        simp only
        rw [if_neg (by omega), if_pos (by rw [List.length_drop]; omega)]
      have hb' : (s.size : Int) - ((n : Int) + z) < (m : Int) := by omega
      clear hr hb
      go_enter Try.func40, Try.ntmps40
      go_wp2_with fail
      refine hN.mono ?_
      clear hN
      rintro e w1 ⟨rfl, hw1⟩
      subst w1
      rw [Int.natCast_add]
      go_wp2
      go_ret2
      exact ⟨by rw [HF.out]; rfl, rfl⟩
    · have HF : Hid (textR 0 2147483647 D = some (s.extract (n + z) (n + z + m), z + m)) := by
        unfold Hid
        rw [textR, hr]
        simp only
        rw [if_neg (by omega), if_neg (by rw [List.length_drop]; omega), extract_mid s (n + z) (n + z + m) (by omega) (by omega), HD.out, List.drop_drop, show n + z + m - (n + z) = m by omega]
      have hb' : ¬ (s.size : Int) - ((n : Int) + z) < (m : Int) := by omega
      have hb2 : (n : Int) + z + m ≤ (s.size : Int) := by omega
      have hb3 : (n : Int) + z ≤ (n : Int) + z + m := by omega
      have e1 : ((n : Int) + z).toNat = n + z := by omega
      have e2 : ((n : Int) + z + m).toNat = n + z + m := by omega
      clear hr hb
      go_enter Try.func40, Try.ntmps40
      go_wp2_with fail
      refine hN.mono ?_
      clear hN
      rintro e w1 ⟨rfl, hw1⟩
      subst w1
      rw [Int.natCast_add]
      go_wp2
      go_ret2
      refine ⟨?_, rfl⟩
      rw [HF.out]
      simp only [txtV, txtP, Option.getD_some]
      rw [show ((n + (z + m) : Nat) : Int) = (n : Int) + z + m by omega]
      rfl
end Go.Proofs.Ytkbceaofijngoaa
