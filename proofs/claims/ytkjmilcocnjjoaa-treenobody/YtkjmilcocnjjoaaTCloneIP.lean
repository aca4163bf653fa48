/-
  slices.Clone of a part of a row ([]*tree.node[int]).
-/
import Derived.Test.YtkjmilcocnjjoaaTDelIP
namespace Go.Proofs.Ytkjmilcocnjjoaa.I.P
open Go.RowKit Tm Go.Lib
set_option linter.unusedVariables false

set_option maxHeartbeats 4000000 in
set_option maxRecDepth 100000 in
theorem clone_any (b off m c : Nat) (cs : List Value) (w : World) (hm : 0 < m) (hm2 : m ≤ 4096) (hb : b < w.heap.size) (hl : cs.length = m * 1) (hc : ∀ j u, cs[j]? = some u → w.cell? ⟨b, off + j, none⟩ = some u) (h1 : ∀ u ∈ cs, u.oneCell' = true) :
    Calls Try.prog 52 #[.slice (some ⟨b, off, none⟩) m c] w fun e w' =>
      ∃ g cap, e = .returned (.slice (some ⟨g, 0, none⟩) m cap) ∧ w'.ownsRow 0 59 1 (.slice (some ⟨g, 0, none⟩) m cap) m cs ∧ w.grownBy w' none ∧ w.heap.size ≤ g := by
  obtain ⟨i0, hi0, hz0, hzs, hzb⟩ := info_parts info
  have hmade : (w.alloc (.cells #[] 59)).ownsRow 0 59 1 (.slice (some ⟨w.heap.size, 0, none⟩) 0 0) 0 [] := World.ownsRow_made w #[] 0 (Nat.zero_le _) (Nat.zero_le _) (by simp)
  have hsrc : ∀ j u, cs[j]? = some u → (w.alloc (.cells #[] 59)).cell? ((⟨b, off, none⟩ : Addr).add j) = some u := fun j u hj => by
    rw [addr_add]
    exact Lib.cell?_alloc_some _ (hc j u hj)
  have hq : ∀ W, (binOp .eql 67 (.slice (some ⟨b, off, none⟩) m c) (.slice none 0 0)).run Try.prog W = .ok (.bool false) W := fun W => Lib.run_eql_slice_nil W 67 59 (some ⟨b, off, none⟩) m c 0 0 Try.underlying67
  have HM := hid hmade
  clear hmade hc
  go_enter Try.func52, Try.ntmps52
  go_wp2_with (at_builtin; refine wpList_append_lies _ rfl _ _ 67 rfl 0 59 i0 _ 1 8 Try.underlying67 hi0 hz0 hzs hzb rfl (by decide) _ _ _ rfl HM.out ⟨b, off, none⟩ m c cs rfl hl hsrc h1 hm (by simp only [maxLen]; omega) (by omega) (Nat.zero_le _) _ rfl ?_; intro g cap' w' o1 o2 o3 o4)
  go_ret
  rw [Nat.zero_add] at o1
  have p2 : (w.alloc (.cells #[] 59)).grownBy w' (some w.heap.size) := o2
  have p3 : some w.heap.size = some g ∨ g = (w.alloc (.cells #[] 59)).heap.size := o3
  clear o2 o3
  refine ⟨_, _, rfl, by simpa using o1, ?_, ?_⟩
  · refine ⟨p2.os, p2.tape, p2.output, Nat.le_trans (by simp) p2.size, fun k hk _ => ?_⟩
    rw [p2.block k (by simp; omega) (fun e => by simp at e; omega)]
    exact Below.heap_alloc w _ k hk
  · rcases p3 with o3 | o3
    · simp at o3; omega
    · rw [o3]; simp

end Go.Proofs.Ytkjmilcocnjjoaa.I.P
