/-
  The document's Sum.
-/
import Derived.Test.YtplljpodejpbgaaGreatDoorXRefC
namespace Go.Proofs.YtplljpodejpbgaaGreatDoor
open Go.RowKit
set_option linter.unusedVariables false
set_option maxRecDepth 100000

theorem sees_blk {w : World} {g n : Nat} {xs : List Nat} (h : w.heap[g]? = some (.cells (cellsN .i64 xs).toArray 3 (0, 0))) (hn : xs.length = n) : SeesN .i64 w (.slice (some ⟨g, 0, none⟩) n n) xs := by
  subst hn
  refine ⟨g, 0, _, _, rfl, Nat.le_refl _, (fun h => by cases h), fun _ => rfl, fun j hj => ?_⟩
  have hb : Blk w g .i64 xs 3 := h
  rw [Nat.zero_add]
  exact hb.cell j hj

set_option maxRecDepth 100000 in
set_option maxHeartbeats 1000000 in
theorem table_any (w : World) : Calls Tryz.prog 78 #[] w fun e w' => ∃ hv kv, e = .returned (.tuple #[hv, kv]) ∧ SeesN .i64 w' hv H0 ∧ SeesN .i64 w' kv K0 ∧ Below w.heap.size w w' := by
  go_enter Tryz.func78, Tryz.ntmps78
  go_wp2_with fail
  go_ret2
  refine ⟨_, _, rfl, sees_blk (xs := H0) (heap_alloc2_old w _ _) rfl, sees_blk (xs := K0) (heap_alloc2_new w _ _) rfl, ((Below.refl _ _).alloc (Nat.le_refl _) _).alloc (by simp) _⟩

set_option maxRecDepth 100000 in
set_option maxHeartbeats 1000000 in
theorem rsum_any (s : ByteArray) (w : World) (hs : s.size ≤ 140737488354304) : Calls Tryz.prog 56 #[.string s] w fun e w' => e = .returned (.string (strOf (digest H0 K0 (bytesOf s)))) ∧ Below w.heap.size w w' := by
  go_enter Tryz.func56, Tryz.ntmps56
  go_wp2_with fail
  refine (table_any _).mono ?_
  rintro e w1 ⟨hv, kv, rfl, h1, h2, hB1⟩
  have hd := rdigest_any s hv kv H0 K0 w1 h1 h2 H0_words K0_words hs
  have HD := hid hd
  have HB1 := hid hB1
  clear hd hB1 h1 h2
  go_wp2_with fail
  refine HD.out.mono ?_
  rintro e w2 ⟨rfl, hB2⟩
  have HB2 := hid (HB1.out.trans (hB2.mono HB1.out.size))
  clear hB2 HD HB1
  go_wp2
  go_ret
  exact ⟨rfl, HB2.out⟩
end Go.Proofs.YtplljpodejpbgaaGreatDoor
