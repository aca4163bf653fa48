/-
  The contracts of row's Bytes and of the document's.
-/
import Derived.Test.YtkbceaofijngoaaWPut
namespace Go.Proofs.Ytkbceaofijngoaa
open Go.RowKit
set_option linter.unusedVariables false

/-- A row's bytes; none, where it may not be. -/
def rowBytesL (r : RowV) : List Nat := if mayR r then rowB r else []

theorem cellsB_take {l : List ByteArray} {k : Nat} (hk : k < l.length) : cellsB (l.take (k + 1)) = cellsB (l.take k) ++ textB l[k] := by
  rw [List.take_succ_eq_append_getElem hk, cellsB_snoc]
theorem cellsB_takes {l : List ByteArray} (h1 : l.length ≤ 8) (h : ∀ c ∈ l, c.size ≤ 256) (k : Nat) : (cellsB (l.take k)).length ≤ 2088 := by
  have := cellsB_len (l.take k) (fun c hc => h c (List.mem_of_mem_take hc))
  rw [List.length_take] at this
  omega

set_option maxRecDepth 20000 in
set_option maxHeartbeats 2000000 in
theorem bytes_row (v : Value) (r : RowV) (vc vs vi : Value) (w : World) (h : SeesR w v r vc vs vi) :
    Calls Try.prog 10 #[v] w fun e w' => e = .returned (.tuple #[.string (strOf (rowBytesL r)), .int .i64 (errR (mayR r))]) ∧ Below w.heap.size w w' := by
  obtain ⟨W, hW⟩ : ∃ W, W = w.alloc (.cells #[.string r.key, vc, vs, vi, .int .i64 r.who] 27) := ⟨_, rfl⟩
  have hB : Below w.heap.size w W := by rw [hW]; exact below_alloc w _
  have hA : RowAt W w.heap.size (.string r.key) vc vs vi (.int .i64 r.who) := by rw [hW]; exact RowAt.new _ _ _ _ _ _
  have hsz := hA.lt
  have hS := h.below hB
  have hM := checkRow_any v r vc vs vi W hS
  have HA := hid hA
  obtain ⟨c0, c1, c2, c3, c4, _⟩ := hA.cells
  have HCS := hid (fun w1 (hb : Below W.heap.size W w1) => hS.cells.below hb)
  have HLB := hid (fun w1 (hb : Below W.heap.size W w1) => bytes_any (.agg #[vs, vi]) r.s r.i w1 (hS.lab.below hb))
  obtain rfl := h.val
  unfold rowVal at *
  have HB := hid hB
  clear h hA hB hS
  cases hm : mayR r
  · rw [hm] at hM
    have HE : Hid (rowBytesL r = []) := by unfold Hid; rw [rowBytesL, hm]; rfl
    clear HCS HLB hm
    generalize rowBytesL r = bs at *
    generalize r.who = x at *
    generalize r.key = ky at *
    go_enter Try.func10, Try.ntmps10
    go_wp2_with fail
    rw [← hW]
    refine hM.mono ?_
    clear hM hW
    rintro e w1 ⟨rfl, h1⟩
    have HF := hid (HB.out.trans (h1.mono (by omega)))
    clear h1 HB c0 c1 c2 c3 c4 HA
    unfold errR
    go_wp2
    go_ret2
    exact ⟨by rw [HE.out]; rfl, HF.out⟩
  · rw [hm] at hM
    obtain ⟨⟨k1, k2⟩, ⟨n1, n2⟩, hml, w1a, w1b⟩ := mayR_iff.1 hm
    obtain ⟨⟨m1, m2⟩, m3, m4⟩ := mayB_iff.1 hml
    have HSL := hid (setB_len m1 m2)
    have HIL := hid (setB_len m3 m4)
    have HCL := hid (fun k => cellsB_takes n1 n2 k)
    have HTL := hid (textB_len (t := r.key) (by omega))
    have HN := hid n2
    have HNC := hid (numB_len5 (n := r.cells.length) (by omega))
    have HT : Hid (∀ k, (hk : k < r.cells.length) → cellsB (r.cells.take (k + 1)) = cellsB (r.cells.take k) ++ textB r.cells[k]) := fun k hk => cellsB_take hk
    have HE : Hid (rowBytesL r = ((((textB r.key ++ numB r.cells.length) ++ cellsB r.cells) ++ (setB r.s ++ setB r.i)) ++ numB (r.who + 1).toNat)) := by
      unfold Hid
      rw [rowBytesL, hm, if_pos rfl, rowB]
      simp only [List.append_assoc]
    have HLB2 : Hid (∀ w1, Below W.heap.size W w1 → Calls Try.prog 27 #[.agg #[vs, vi]] w1 fun e w' => e = .returned (.tuple #[.string (strOf (setB r.s ++ setB r.i)), .int .i64 0]) ∧ Below w1.heap.size w1 w') := by
      unfold Hid
      intro w1 hb
      have := HLB.out w1 hb
      rw [hml, show bytesL r.s r.i = setB r.s ++ setB r.i by rw [bytesL, hml, if_pos rfl]] at this
      exact this
    have HLS := hid (show (setB r.s ++ setB r.i).length ≤ 650 by have := HSL.out; have := HIL.out; rw [List.length_append]; omega)
    have HLBY := hid (show bytesOf (strOf (setB r.s ++ setB r.i)) = setB r.s ++ setB r.i from bytesOf_strOf (fun x hx => by rcases List.mem_append.1 hx with h | h; exact setB_bytes _ x h; exact setB_bytes _ x h))
    clear n2 hm hml m1 m2 m3 m4 HSL HIL HLB
    generalize rowBytesL r = bs at *
    generalize setB r.s ++ setB r.i = lb at *
    generalize r.who = x at *
    generalize r.key = ky at *
    generalize r.cells = l at *
    go_enter Try.func10, Try.ntmps10
    go_wp2_with fail
    rw [← hW]
    refine hM.mono ?_
    clear hM hW
    rintro e w1 ⟨rfl, h1⟩
    have HW1 := hid h1
    have HF := hid (HB.out.trans (h1.mono (by omega)))
    have HA1 := HA.out.below h1 hsz
    have hs1 := h1.size
    obtain ⟨b, off, ao, cap, hvc, hcap, _, hao, hcell⟩ := HCS.out w1 h1
    subst hvc
    obtain ⟨d0, d1, d2, d3, d4, _⟩ := HA1.cells
    have HC := hid hcell
    have HA1' := hid HA1
    have hR1 := appendText_any ky (.slice none 0 0) [] w1 w1.heap.size (OwnsN.nil _ _ _ _) (Nat.le_refl _) (by omega) (by simp)
    clear h1 HB c0 c1 c2 c3 c4 HA HCS HA1 hcell
    unfold errR
    go_wp2_with fail
    refine hR1.mono ?_
    clear hR1
    rintro e w2 ⟨v2, rfl, hO2, hB2⟩
    rw [List.nil_append] at hO2
    have HB2 := hid hB2
    have hs2 := hB2.size
    obtain ⟨e0, e1, e2, e3, e4, _⟩ := (HA1'.out.below hB2 (by omega)).cells
    have hR2 := rowNumber_int (l.length : Int) v2 _ w2 w1.heap.size hO2 hs2 (by omega) (by omega) (by have := HTL.out; omega)
    rw [show ((l.length : Int)).toNat = l.length by omega] at hR2
    clear hO2 hB2 d0 d1 d2 d3 d4
    go_wp2_with fail
    refine hR2.mono ?_
    clear hR2
    rintro e w3 ⟨v3, rfl, hO3, hB3⟩
    have HO3 := hid hO3
    have HB3 := hid (HB2.out.trans hB3)
    have hs3 := hB3.size
    obtain ⟨f0, f1, f2, f3, f4, _⟩ := (HA1'.out.below HB3.out (by omega)).cells
    clear hO3 hB3 e0 e1 e2 e3 e4 HB2
    go_wp2_with fail
    go_loopw [5, 26] (fun o i wr => ∃ (k : Nat), k ≤ l.length ∧ i = .int .i64 (k : Int) ∧ OwnsN .u8 5 wr w1.heap.size o ((textB ky ++ numB l.length) ++ cellsB (l.take k)) ∧ Below w1.heap.size w1 wr) (fun _ i _ => l.length - (intOf i).toNat)
    case atStart => exact ⟨0, Nat.zero_le _, rfl, by simpa [cellsB] using HO3.out, HB3.out⟩
    clear HO3 HB3
    case round =>
      obtain ⟨k, hk, rfl, hO, hBr⟩ := hrel
      have hlen : ((textB ky ++ numB l.length) ++ cellsB (l.take k)).length ≤ 10000 := by
        have := HCL.out k
        have := HTL.out
        have := HNC.out
        simp only [List.length_append]
        omega
      have hsr := hBr.size
      have HO := hid hO
      have HBr := hid hBr
      clear hO hBr
      by_cases hlt : k < l.length
      · obtain rfl := hao (by intro h; rw [h] at hlt; simp at hlt)
        have hlt' : (k : Int) < (l.length : Int) := by omega
        have hc : wr.cell? ⟨b, off + k, none⟩ = some (.string l[k]) := by
          have h0 := HC.out k hlt
          exact (HBr.out.cell (World.block_lt_of_cell? w1 _ h0)).trans h0
        have HT2 := hid (HT.out k hlt)
        have hcs := HN.out l[k] (List.getElem_mem hlt)
        obtain ⟨y, hy⟩ : ∃ y, y = l[k] := ⟨_, rfl⟩
        rw [← hy] at hc HT2 hcs
        have hR := appendText_any y u5 _ wr w1.heap.size HO.out hsr (by omega) (by omega)
        rw [List.append_assoc, ← HT2.out] at hR
        clear hy hlen
        go_wp2_with fail
        refine hR.mono ?_
        clear hR
        rintro e w4 ⟨v4, rfl, hO4, hB4⟩
        have HO4 := hid hO4
        have HB4 := hid (HBr.out.trans hB4)
        clear hO4 hB4
        go_wp2
        go_roundw
        case rel => exact ⟨k + 1, by omega, by go_num, HO4.out, HB4.out⟩
        case measure => simp [intOf]; omega
      · have hlt' : ¬ (k : Int) < (l.length : Int) := by omega
        have hO := HO.out
        rw [List.take_of_length_le (by omega)] at hO hlen
        have HO5 := hid hO
        obtain ⟨g0, g1, g2, g3, g4, _⟩ := (HA1'.out.below HBr.out (by omega)).cells
        have hR := HLB2.out wr (HW1.out.trans (HBr.out.mono hs1))
        clear hO HO
        go_wp2_with fail
        refine hR.mono ?_
        clear hR
        rintro e w4 ⟨rfl, hB4⟩
        have HO6 := hid (HO5.out.below hB4)
        have HB4 := hid (HBr.out.trans (hB4.mono hsr))
        have hs4 := hB4.size
        obtain ⟨i0, i1, i2, i3, i4, _⟩ := (HA1'.out.below HB4.out (by omega)).cells
        have hlb := HLS.out
        have hlbs : (strOf lb).size ≤ 650 := by rw [strOf_size]; exact hlb
        clear hB4 g0 g1 g2 g3 g4 HO5 HBr
        go_wp2_with (first
          | (at_builtin
             refine wpList_appStr rfl _ _ rfl w1.heap.size u5 _ rfl HO6.out (strOf lb) rfl (by omega) (by omega) ?_
             intro v5 w5 h1 h2
             rw [HLBY.out] at h1
             have hB5 := below_grownBy HB4.out h2 (OwnsN.block HO6.out) (by omega)
             obtain ⟨j0, j1, j2, j3, j4, _⟩ := (HA1'.out.below hB5 (by omega)).cells
             have hs5 := hB5.size
             have hR := rowNumber_int (x + 1) v5 _ w5 w1.heap.size h1 hs5 (by omega) (by omega) (by rw [List.length_append]; omega)
             have HB5 := hid hB5
             clear h1 h2 hB5)
          | fail)
        refine hR.mono ?_
        clear hR
        rintro e w6 ⟨v6, rfl, hO7, hB7⟩
        have hcv := conv_own hO7
        have HB7 := hid (HF.out.trans ((HB5.out.trans hB7).mono (by have := HF.out.size; omega)))
        rw [← HE.out] at hcv
        clear hO7 hB7
        go_wp2
        go_ret2
        exact ⟨rfl, HB7.out⟩

end Go.Proofs.Ytkbceaofijngoaa
