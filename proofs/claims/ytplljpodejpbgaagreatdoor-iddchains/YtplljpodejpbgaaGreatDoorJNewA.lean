/-
  A new identity server, as it lies ahead of its users.
-/
import Derived.Test.YtplljpodejpbgaaGreatDoorJGrant
import Derived.Test.YtplljpodejpbgaaGreatDoorJMayC
import Derived.Test.YtplljpodejpbgaaGreatDoorJText
import Derived.Laws.MakeOwn
import Derived.Maps.Own
import Derived.Carry
import Derived.Deep.CutBlock
import Derived.Deep.DeepCutAuto
namespace Go.Proofs.YtplljpodejpbgaaGreatDoor
open Go.RowKit
set_option linter.unusedVariables false
set_option linter.unusedSimpArgs false
set_option maxRecDepth 100000

def acc0 : Acc := ⟨⟨#[]⟩, ⟨#[]⟩, ⟨#[]⟩, 0, []⟩
def us0 (n : Nat) : List (Acc × Value) := List.replicate n (acc0, .slice none 0 0)
theorem aC_zero (n : Nat) : madeCells #[.string ⟨#[]⟩, .string ⟨#[]⟩, .string ⟨#[]⟩, .int .i64 0, .slice none 0 0] (n * 5) = (aC (us0 n)).toArray := by
  apply Array.ext
  · simp [madeCells, aC_len, us0]
  · intro i h1 h2
    have hi : i < n * 5 := by simpa [madeCells] using h1
    have hg : (us0 n)[i / 5]? = some (acc0, .slice none 0 0) := by
      unfold us0
      rw [List.getElem?_replicate]
      rw [if_pos (by omega)]
    obtain ⟨a, b, c, d, e⟩ := aC_get (us0 n) (i / 5) _ hg
    have hsome : ∀ x, (aC (us0 n))[i]? = some x → (aC (us0 n)).toArray[i] = x := fun x hx => by
      have := (List.getElem?_eq_some_iff.1 hx).2
      simpa using this
    have hm : i % 5 = 0 ∨ i % 5 = 1 ∨ i % 5 = 2 ∨ i % 5 = 3 ∨ i % 5 = 4 := by omega
    rcases hm with h | h | h | h | h
    · rw [hsome _ (by rw [show i = i / 5 * 5 by omega]; exact a)]
      simp [madeCells, h, acc0]
    · rw [hsome _ (by rw [show i = i / 5 * 5 + 1 by omega]; exact b)]
      simp [madeCells, h, acc0]
    · rw [hsome _ (by rw [show i = i / 5 * 5 + 2 by omega]; exact c)]
      simp [madeCells, h, acc0]
    · rw [hsome _ (by rw [show i = i / 5 * 5 + 3 by omega]; exact d)]
      simp [madeCells, h, acc0]
    · rw [hsome _ (by rw [show i = i / 5 * 5 + 4 by omega]; exact e)]
      simp [madeCells, h]
theorem make_acc (n : Nat) (hn : n ≤ 16) (w : World) : (Instr.makeSlice 70 (.int .i64 (n : Int)) (.int .i64 (n : Int))).run Tryz.prog w = .ok (.slice (some ⟨w.heap.size, 0, none⟩) n n) (w.alloc (.cells (aC (us0 n)).toArray 86)) := by
  obtain ⟨i0, hi, hz0, hz1, hz2⟩ := info_parts infoAcc
  have h := run_make (P := Tryz.prog) w 70 86 i0 _ Tryz.underlying70 hi hz0 .i64 .i64 (n : Int) (n : Int) (by omega) (by omega) (by rw [hz2]; omega) (by omega)
  rw [hz1, Int.toNat_natCast] at h
  rw [← aC_zero]
  exact h
theorem new_fin {w X X5 : World} {a m d : Nat} {n : Nat} {dr : List Int} {ad : Option Addr} {cd : Nat} {Z : Array Value} (hB : Below w.heap.size w X) (hA : X.heap[a]? = some (.cells Z 86 (0, 0))) (hM : X.heap[m]? = some (.map #[] 0))
    (hO : Owns X w.heap.size (.slice ad dr.length cd) dr) (hN : X.heap[d]? = some (.cells #[.pointer none, .slice (some ⟨a, 0, none⟩) n n, .slice ad dr.length cd, .int .i64 0, .map (some m), .slice none 0 0] 73 (0, 0)))
    (hX : X5 = X.setCell ⟨d, 0, none⟩ (.pointer (some ⟨d, 0, none⟩))) (hL : X5.heap[d]? = some (.cells #[.pointer (some ⟨d, 0, none⟩), .slice (some ⟨a, 0, none⟩) n n, .slice ad dr.length cd, .int .i64 0, .map (some m), .slice none 0 0] 73 (0, 0)))
    (hZ : Z = (aC (us0 n)).toArray) (h1 : 1 ≤ n) (h2 : n ≤ 16) (ga : w.heap.size ≤ a) (gm : w.heap.size ≤ m) (gd : w.heap.size ≤ d) :
    IdAt X5 d a m (us0 n) (.slice ad dr.length cd) dr 0 [] (.slice none 0 0) [] ∧ Below w.heap.size w X5 ∧ (∀ k, mineD d a m (.slice none 0 0) k → w.heap.size ≤ k) := by
  have hlen : (us0 n).length = n := by simp [us0]
  have ho : ∀ k, k ≠ d → X5.heap[k]? = X.heap[k]? := fun k hk => by rw [hX]; exact heap_setCell_other _ _ _ _ (by simpa using hk)
  have hmem : ∀ p ∈ us0 n, p = (acc0, .slice none 0 0) := fun p hp => (List.mem_replicate.1 hp).2
  refine ⟨⟨?_, ?_, ?_, ?_, ?_, ?_, (fun s hs => by simp at hs), List.Pairwise.nil, World.ownsRow_nil _ _ _ _, by omega, by omega⟩, by rw [hX]; exact hB.setCell (p := ⟨d, 0, none⟩) gd _, ?_⟩
  · rw [hlen]; exact hL
  · rw [ho a (ty_ne hA hN (by decide)), hA, hZ]
  · intro p hp
    rw [hmem p hp]
    exact World.ownsRow_nil _ _ _ _
  · intro p hp
    rw [hmem p hp]
    exact List.Pairwise.nil
  · refine ownsRow_same (ownsRow_base hO (Nat.zero_le _)) fun j hj => ?_
    obtain ⟨cur, hc⟩ := ownsRow_ty hO hj
    exact ho j (ty_ne hc hN (by decide))
  · refine ⟨0, .map [], ⟨#[], 0, (ho m (fun e => by rw [e] at hM; rw [hM] at hN; simp at hN)).trans hM, ?_⟩, Nat.le_refl _, ⟨fun x => ?_, fun s hs => by simp at hs, List.nodup_nil⟩⟩
    · obtain ⟨es, ck, h1, h2⟩ := World.ownsMap_made X Tryz.prog 9 sesR
      rw [heap_alloc_new] at h1
      simp at h1
      obtain ⟨rfl, rfl⟩ := h1
      exact h2
    · simp [Maps.has]
  · rintro k (rfl | rfl | rfl | hk)
    · exact gd
    · exact ga
    · exact gm
    · simp [Value.ownBlock] at hk
end Go.Proofs.YtplljpodejpbgaaGreatDoor
