/-
  Feed of the document's reader; what lies where: a reader's block.
-/
import Derived.Test.YtllhibdjopfcnaaGreatDoorDBody
namespace Go.Proofs.YtllhibdjopfcnaaGreatDoor
open Go.RowKit
set_option linter.unusedVariables false

/-- At p lies a reader of the document's, whole. -/
def DpAt (w : World) (p : Nat) (s st : Value) : Prop := w.heap[p]? = some (.cells #[s, st] 27 (0, 0))
theorem DpAt.lt {w : World} {p : Nat} {s st : Value} (h : DpAt w p s st) : p < w.heap.size := (Array.getElem?_eq_some_iff.1 h).1
theorem DpAt.below {w w' : World} {p B : Nat} {s st : Value} (h : DpAt w p s st) (hb : Below B w w') (hp : p < B) : DpAt w' p s st := by
  unfold DpAt
  rw [hb.block p hp]
  exact h
theorem DpAt.cells {w : World} {p : Nat} {s st : Value} (h : DpAt w p s st) : w.cell? ⟨p, 0, none⟩ = some s ∧ w.cell? ⟨p, 1, none⟩ = some st ∧ w.frozen? ⟨p, 0, none⟩ = false ∧ w.frozen? ⟨p, 1, none⟩ = false := by
  unfold DpAt at h
  refine ⟨?_, ?_, ?_, ?_⟩ <;> simp [World.cell?, World.frozen?, h]
theorem DpAt.new (w : World) (s st : Value) : DpAt (w.alloc (.cells #[s, st] 27)) w.heap.size s st := heap_alloc_new w _
theorem DpAt.store {w : World} {p : Nat} {s st x y : Value} (h : DpAt w p s st) : DpAt ((w.setCell ⟨p, 0, none⟩ x).setCell ⟨p, 1, none⟩ y) p x y := by
  unfold DpAt at *
  simp only [World.setCell, Array.getElem?_modify, h]
  simp
/-- What Feed makes of a reader. -/
def fdT (P : List UInt8) (st : Int) (L : List UInt8) : List UInt8 × Int := if st ≠ 0 then (P, 80) else if 65536 < P.length + L.length then (P, 2) else (P ++ L, 0)
set_option maxRecDepth 20000 in
set_option maxHeartbeats 4000000 in
theorem rfeed_any (P L : List UInt8) (st : Int) (w : World) (hP : P.length ≤ 65536) (hL : L.length ≤ 140737488355328) :
    Calls Tryz.prog 7 #[.agg #[.string ⟨P.toArray⟩, .int .i64 st], .string ⟨L.toArray⟩] w fun e w' => e = .returned (.tuple #[.agg #[.string ⟨(fdT P st L).1.toArray⟩, .int .i64 st], .int .i64 (fdT P st L).2]) ∧ Below w.heap.size w w' := by
  have hj := str_join P L
  obtain ⟨s, hse⟩ : ∃ s : ByteArray, s = ⟨P.toArray⟩ := ⟨_, rfl⟩
  obtain ⟨u, hue⟩ : ∃ u : ByteArray, u = ⟨L.toArray⟩ := ⟨_, rfl⟩
  have hsz : s.size = P.length := by rw [hse, size_list]
  have huz : u.size = L.length := by rw [hue, size_list]
  have HSE := hid hse
  have HUE := hid hue
  have HJ := hid hj
  rw [← hse, ← hue]
  have hsl : s.size ≤ 65536 := by omega
  have hul : u.size ≤ 140737488355328 := by omega
  have HB : Hid (Below w.heap.size w ((w.alloc (.cells #[.string s, .int .i64 st] 27)).alloc (.cells #[.string ⟨#[]⟩, .int .i64 0] 27))) := hid ((below_alloc w _).alloc (by simp) _)
  clear hse hue hj
  by_cases h0 : st = 0
  · subst h0
    by_cases hf : 65536 < P.length + L.length
    · have f1 : (65536 : Int) - (s.size : Int) < (u.size : Int) := by omega
      have HT : Hid (fdT P 0 L = (P, 2)) := hid (by unfold fdT; rw [if_neg (by simp), if_pos hf])
      clear hf hsz huz
      go_enter Tryz.func7, Tryz.ntmps7
      go_wp2
      refine bodyPost_ret (v := .tuple #[.agg #[.string s, .int .i64 0], .int .i64 2]) (by simp [results, Tryz.results7, go_sem]) rfl ?_
      rw [HT.out]
      exact ⟨by simp only []; rw [HSE.out], (below_alloc w _).alloc (by simp) _⟩
    · have f1 : ¬ (65536 : Int) - (s.size : Int) < (u.size : Int) := by omega
      have HT : Hid (fdT P 0 L = (P ++ L, 0)) := hid (by unfold fdT; rw [if_neg (by simp), if_neg hf])
      clear hf hsz huz
      go_enter Tryz.func7, Tryz.ntmps7
      go_wp2
      refine bodyPost_ret (v := .tuple #[.agg #[.string (s ++ u), .int .i64 0], .int .i64 0]) (by simp [results, Tryz.results7, go_sem]) rfl ?_
      rw [HT.out]
      exact ⟨by simp only []; rw [HSE.out, HUE.out, HJ.out], (below_alloc w _).alloc (by simp) _⟩
  · have f0 : (st != 0) = true := by rw [bne_iff_ne]; exact h0
    have HT : Hid (fdT P st L = (P, 80)) := hid (by unfold fdT; rw [if_pos h0])
    clear h0 hsz huz
    go_enter Tryz.func7, Tryz.ntmps7
    go_wp2
    refine bodyPost_ret (v := .tuple #[.agg #[.string s, .int .i64 st], .int .i64 80]) (by simp [results, Tryz.results7, go_sem]) rfl ?_
    rw [HT.out]
    exact ⟨by simp only []; rw [HSE.out], (below_alloc w _).alloc (by simp) _⟩
end Go.Proofs.YtllhibdjopfcnaaGreatDoor
