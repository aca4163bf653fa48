/-
  The law's spoil: it writes over pairs that the call made.
-/
import Derived.Test.YtomjclkijakcpaaPairs
namespace Go.Proofs.Ytomjclkijakcpaa
open Go.RowKit
set_option linter.unusedVariables false

/-- Only the block g may have changed. -/
def OnlyAt (w w' : World) (g : Nat) : Prop := w.grownBy w' (some g)
theorem onlyAt_set {w wr : World} {g o : Nat} {u : Value} (h : w.grownBy wr (some g)) : w.grownBy (wr.setCell ⟨g, o, none⟩ u) (some g) := by
  refine ⟨h.os, h.tape, h.output, by simpa using h.size, fun k hk hne => ?_⟩
  rw [Below.heap_setCell wr ⟨g, o, none⟩ u k (fun e => hne (by rw [e]))]
  exact h.block k hk hne
def RowAt (w : World) (g n : Nat) : Prop := ∃ cur : Array Value, w.heap[g]? = some (.cells cur 46 (0, 0)) ∧ cur.size = n
theorem RowAt.cells {w : World} {g n j : Nat} (h : RowAt w g n) (hj : j < n) : (∃ u, w.cell? ⟨g, j, none⟩ = some u) ∧ w.frozen? ⟨g, j, none⟩ = false := by
  obtain ⟨cur, h1, h2⟩ := h
  refine ⟨⟨cur[j]'(by omega), ?_⟩, ?_⟩
  · rw [cell_of_row w g j cur 46 (0, 0) h1]
    simp [h2, hj]
  · simp [World.frozen?, h1]
theorem RowAt.set {w : World} {g n o : Nat} {u : Value} (h : RowAt w g n) : RowAt (w.setCell ⟨g, o, none⟩ u) g n := by
  obtain ⟨cur, h1, h2⟩ := h
  refine ⟨cur.setIfInBounds o u, ?_, by simpa using h2⟩
  simp only [World.setCell, Array.getElem?_modify, h1]
  simp

set_option maxRecDepth 20000 in
set_option maxHeartbeats 1000000 in
theorem spoil_any (B : Nat) (v : Value) (l : List PairL) (w : World) (hO : OwnsP w B v l) (hl : l.length ≤ 140737488355328) :
    Calls Try.prog 17 #[v] w fun e w' => e = .returned (.tuple #[]) ∧ w.grownBy w' v.ownBlock := by
  rcases hO.2 with ⟨rfl, hn⟩ | ⟨g, cap, cur, rfl, hbase, hg, hcap, _, hcs, ht⟩
  · go_enter Try.func17, Try.ntmps17
    go_wp2_with fail
    go_loop [2] (fun i => i = .int .i64 0) (fun i => 0)
    case atStart => rfl
    case round =>
      obtain rfl := hrel
      go_wp2
      go_returns
      exact ⟨rfl, rfl, rfl, rfl, Nat.le_refl _, fun _ _ _ => rfl⟩
  · have HR := hid (show RowAt w g (cap * 2) from ⟨cur, hg, hcs⟩)
    clear hg hcs ht
    go_enter Try.func17, Try.ntmps17
    go_wp2_with fail
    go_loopw [2] (fun i wr => ∃ (k : Nat), k ≤ l.length ∧ i = .int .i64 (k : Int) ∧ RowAt wr g (cap * 2) ∧ w.grownBy wr (some g)) (fun i _ => l.length - (intOf i).toNat)
    case atStart => exact ⟨0, Nat.zero_le _, rfl, HR.out, rfl, rfl, rfl, Nat.le_refl _, fun _ _ _ => rfl⟩
    clear HR
    case round =>
      obtain ⟨k, hk, rfl, hR, hG⟩ := hrel
      by_cases hlt : k < l.length
      · have hlt' : (k : Int) < (l.length : Int) := by omega
        obtain ⟨⟨u1, c1⟩, c2⟩ := hR.cells (j := k * 2) (by omega)
        obtain ⟨⟨u2, c3⟩, c4⟩ := hR.cells (j := k * 2 + 1) (by omega)
        have c1' : wr.cell? ⟨g, 0 + k * 2, none⟩ = some u1 := by rw [Nat.zero_add]; exact c1
        have c2' : wr.frozen? ⟨g, 0 + k * 2, none⟩ = false := by rw [Nat.zero_add]; exact c2
        have c3' : wr.cell? ⟨g, 0 + k * 2 + 1, none⟩ = some u2 := by rw [Nat.zero_add]; exact c3
        have c4' : wr.frozen? ⟨g, 0 + k * 2 + 1, none⟩ = false := by rw [Nat.zero_add]; exact c4
        have HR := hid hR
        have HG := hid hG
        clear hR hG
        go_wp2
        go_roundw
        case rel => exact ⟨k + 1, by omega, by go_num, (HR.out.set).set, onlyAt_set (onlyAt_set HG.out)⟩
        case measure => simp [intOf]; omega
      · have hlt' : ¬ (k : Int) < (l.length : Int) := by omega
        have HG := hid hG
        clear hR hG
        go_wp2
        go_returns
        exact ⟨rfl, HG.out⟩

end Go.Proofs.Ytomjclkijakcpaa
