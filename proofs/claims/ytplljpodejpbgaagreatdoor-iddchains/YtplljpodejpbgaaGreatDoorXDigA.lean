/-
  What 'digest' leans on: a row of noughts that is made, a byte stored into it, the text of bytes.
-/
import Derived.Test.YtplljpodejpbgaaGreatDoorXTake
import Derived.Laws.BytesArg
import Derived.Laws.MakeOwn
namespace Go.Proofs.YtplljpodejpbgaaGreatDoor
open Go.RowKit
set_option linter.unusedVariables false
set_option maxRecDepth 100000

theorem strOfNums_cast (xs : List Nat) : strOfNums (xs.map fun (x : Nat) => (x : Int)) = strOf xs := by
  simp [strOfNums, strOf]

theorem conv_own {w : World} {base : Nat} {v : Value} {xs : List Nat} (h : OwnsN .u8 5 w base v xs) : (convert 111 9 v).run Tryz.prog w = .ok (.string (strOf xs)) w := by
  rcases h.2 with ⟨rfl, hn⟩ | ⟨g, cap, cur, rfl, hbase, hg, hcap, _, _, ht⟩
  · have : xs = [] := List.eq_nil_of_length_eq_zero hn
    subst this
    exact run_convert_bytes_nil w 111 5 Tryz.underlying111 Tryz.underlying5 0 0 9 Tryz.underlying9
  · rw [← strOfNums_cast]
    refine run_convert_bytes_arg w 111 5 Tryz.underlying111 Tryz.underlying5 g 0 _ cap _ (by simp) (fun i hi => ?_) 9 Tryz.underlying9
    have hc := h.cells (g := g) rfl i (.int .u8 ((xs.getD i 0 : Nat) : Int)) (cellsN_get _ _ _ hi)
    rw [xaddr_add] at hc
    rw [hc]
    simp [List.getD, hi]

theorem madeCells_zero (n : Nat) : madeCells #[.int .u8 0] n = (cellsN .u8 (List.replicate n 0)).toArray := by
  apply Array.ext
  · simp [madeCells, cellsN]
  · intro i h1 h2
    simp [madeCells, cellsN, Nat.mod_one]

theorem owns_made (w : World) (base l c : Nat) (hl : l ≤ c) (hc : c ≤ 140737488355328) (hb : base ≤ w.heap.size) : OwnsN .u8 5 (w.alloc (.cells (madeCells #[.int .u8 0] c) 5)) base (.slice (some ⟨w.heap.size, 0, none⟩) l c) (List.replicate l 0) := by
  refine ⟨by simp [cellsN_len], Or.inr ⟨w.heap.size, c, madeCells #[.int .u8 0] c, by rw [List.length_replicate], hb, heap_alloc_new w _, by simpa using hl, by simp only [maxLen]; omega, by simp [size_madeCells], ?_⟩⟩
  rw [madeCells_zero]
  simp only [cellsN, ← List.map_take]
  simp [Nat.min_eq_left hl]

theorem made_run (w : World) (l c : Int) (h0 : 0 ≤ l) (hlc : l ≤ c) (hc : c ≤ 140737488355328) : (Instr.makeSlice 111 (.int .i64 l) (.int .i64 c)).run Tryz.prog w = .ok (.slice (some ⟨w.heap.size, 0, none⟩) l.toNat c.toNat) (w.alloc (.cells (madeCells #[.int .u8 0] c.toNat) 5)) := by
  obtain ⟨i0, hi, hz0, hz1, hz2⟩ := info_parts Tryz.info5
  have h := run_make (P := Tryz.prog) w 111 5 i0 (.int .u8 0) Tryz.underlying111 hi hz0 .i64 .i64 l c h0 hlc (by rw [hz2]; omega) (by omega)
  rw [hz1, Nat.mul_one] at h
  exact h

theorem ownsN_store {k : IntKind} {e : TypeId} {w : World} {base g j n cap : Nat} {xs : List Nat} (y : Nat) (h : OwnsN k e w base (.slice (some ⟨g, 0, none⟩) n cap) xs) (hn : xs.length = n) :
    OwnsN k e (w.setCell ⟨g, j, none⟩ (.int k (y : Int))) base (.slice (some ⟨g, 0, none⟩) n cap) (xs.set j y) ∧ w.grownBy (w.setCell ⟨g, j, none⟩ (.int k (y : Int))) (some g) := by
  subst hn
  have hs := World.ownsRow.stored h j (.int k (y : Int))
  refine ⟨?_, hs.2⟩
  unfold OwnsN
  rw [List.length_set]
  unfold cellsN at hs ⊢
  rw [List.map_set]
  exact hs.1

end Go.Proofs.YtplljpodejpbgaaGreatDoor
