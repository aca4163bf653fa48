/-
  The contracts of the document's Check, of Size, Counted and of the document's Size.
-/
import Derived.Test.YtkbceaofijngoaaWLeaf
namespace Go.Proofs.Ytkbceaofijngoaa
open Go.RowKit
set_option linter.unusedVariables false

set_option maxRecDepth 20000 in
set_option maxHeartbeats 1000000 in
theorem rcheckRow_any (v : Value) (r : RowV) (vc vs vi : Value) (w : World) (h : SeesR w v r vc vs vi) :
    Calls Try.prog 15 #[v] w fun e w' => e = .returned (.int .i64 (errR (mayR r))) ∧ Below w.heap.size w w' := by
  obtain ⟨W, hW⟩ : ∃ W, W = w.alloc (.cells #[.string r.key, vc, vs, vi, .int .i64 r.who] 27) := ⟨_, rfl⟩
  have hB : Below w.heap.size w W := by rw [hW]; exact below_alloc w _
  have hA : RowAt W w.heap.size (.string r.key) vc vs vi (.int .i64 r.who) := by rw [hW]; exact RowAt.new _ _ _ _ _ _
  have hsz := hA.lt
  have hM := mayRow_any v r vc vs vi W (h.below hB)
  obtain ⟨c0, c1, c2, c3, c4, _⟩ := hA.cells
  obtain rfl := h.val
  unfold rowVal at *
  have HB := hid hB
  clear h hA hB
  generalize mayR r = b0 at *
  generalize r.who = x at *
  generalize r.key = ky at *
  go_enter Try.func15, Try.ntmps15
  go_wp2_with fail
  rw [← hW]
  refine hM.mono ?_
  clear hM hW
  rintro e w1 ⟨rfl, h1⟩
  have HF := hid (HB.out.trans (h1.mono (by omega)))
  clear h1 HB c0 c1 c2 c3 c4
  cases b0
  · go_wp2
    go_ret
    exact ⟨rfl, HF.out⟩
  · go_wp2
    go_ret
    exact ⟨rfl, HF.out⟩

theorem sumC_take {l : List ByteArray} {k : Nat} (hk : k < l.length) : sumC (l.take (k + 1)) = sumC (l.take k) + l[k].size := by
  rw [List.take_succ_eq_append_getElem hk, sumC_snoc]
theorem sumC_takes {l : List ByteArray} (h1 : l.length ≤ 8) (h : ∀ c ∈ l, c.size ≤ 256) (k : Nat) : sumC (l.take k) ≤ 2048 := by
  have := sumC_le (l.take k) 256 (fun c hc => h c (List.mem_of_mem_take hc))
  rw [List.length_take] at this
  omega

set_option maxRecDepth 20000 in
set_option maxHeartbeats 1000000 in
theorem rcounted_any (v : Value) (r : RowV) (vc vs vi : Value) (w : World) (h : SeesR w v r vc vs vi) (hm : mayR r = true) :
    Calls Try.prog 24 #[v] w fun e w' => e = .returned (.int .i64 ((sizeR r : Nat) : Int)) ∧ Below w.heap.size w w' := by
  obtain ⟨W, hW⟩ : ∃ W, W = w.alloc (.cells #[.string r.key, vc, vs, vi, .int .i64 r.who] 27) := ⟨_, rfl⟩
  have hB : Below w.heap.size w W := by rw [hW]; exact below_alloc w _
  have hA : RowAt W w.heap.size (.string r.key) vc vs vi (.int .i64 r.who) := by rw [hW]; exact RowAt.new _ _ _ _ _ _
  have hS := h.below hB
  obtain ⟨c0, c1, c2, c3, c4, _⟩ := hA.cells
  obtain ⟨⟨k1, k2⟩, ⟨n1, n2⟩, _⟩ := mayR_iff.1 hm
  have HS := hid (fun k => sumC_takes n1 n2 k)
  obtain rfl := h.val
  obtain ⟨b, off, ao, cap, rfl, hcap, _, hao, hcell⟩ := hS.cells
  have HC := hid hcell
  have HN := hid n2
  have HT : Hid (∀ k, (hk : k < r.cells.length) → sumC (r.cells.take (k + 1)) = sumC (r.cells.take k) + r.cells[k].size) := fun k hk => sumC_take hk
  have HE : Hid (sizeR r = r.key.size + 16 + sumC r.cells) := rfl
  unfold rowVal at *
  have HB := hid hB
  clear h hA hB hS hcell n2 hm
  generalize sizeR r = sz at *
  generalize r.who = x at *
  generalize r.key = ky at *
  generalize r.cells = l at *
  go_enter Try.func24, Try.ntmps24
  go_wp2_with fail
  rw [← hW]
  clear hW
  go_loop [3, 4] (fun n i => ∃ (k m : Nat), k ≤ l.length ∧ i = .int .i64 (k : Int) ∧ n = .int .i64 (m : Int) ∧ m = ky.size + 16 + sumC (l.take k)) (fun _ i => l.length - (intOf i).toNat)
  case atStart => exact ⟨0, ky.size + 16, Nat.zero_le _, rfl, by go_num, by simp [sumC]⟩
  case round =>
    obtain ⟨k, m, hk, rfl, rfl, hm⟩ := hrel
    have hs := HS.out k
    have HM := hid hm
    have hm2 : m ≤ 4000 := by omega
    clear hm hs
    by_cases hlt : k < l.length
    · obtain rfl := hao (by intro h; rw [h] at hlt; simp at hlt)
      have hlt' : (k : Int) < (l.length : Int) := by omega
      have hc := HC.out k hlt
      have HT2 := hid (HT.out k hlt)
      have hsz := HN.out l[k] (List.getElem_mem hlt)
      obtain ⟨y, hy⟩ : ∃ y, y = l[k] := ⟨_, rfl⟩
      rw [← hy] at hc HT2 hsz
      clear hy
      go_wp2
      go_round
      case rel => exact ⟨k + 1, m + y.size, by omega, by go_num, by go_num, by rw [HT2.out, HM.out]; omega⟩
      case measure => simp [intOf]; omega
    · have hlt' : ¬ (k : Int) < (l.length : Int) := by omega
      have hF := HM.out
      rw [List.take_of_length_le (by omega)] at hF
      have HF := hid hF
      clear hF HM
      go_wp2
      go_ret
      exact ⟨by rw [HE.out, ← HF.out]; rfl, HB.out⟩

set_option maxRecDepth 20000 in
set_option maxHeartbeats 1000000 in
theorem rsize_any (v : Value) (r : RowV) (vc vs vi : Value) (w : World) (h : SeesR w v r vc vs vi) :
    Calls Try.prog 9 #[v] w fun e w' => e = .returned (.tuple #[.int .i64 (((if mayR r then sizeR r else 0 : Nat)) : Int), .int .i64 (errR (mayR r))]) ∧ Below w.heap.size w w' := by
  obtain ⟨W, hW⟩ : ∃ W, W = w.alloc (.cells #[.string r.key, vc, vs, vi, .int .i64 r.who] 27) := ⟨_, rfl⟩
  have hB : Below w.heap.size w W := by rw [hW]; exact below_alloc w _
  have hA : RowAt W w.heap.size (.string r.key) vc vs vi (.int .i64 r.who) := by rw [hW]; exact RowAt.new _ _ _ _ _ _
  have hsz := hA.lt
  have hS := h.below hB
  have hM := mayRow_any v r vc vs vi W hS
  have HA := hid hA
  have HQ := hid (fun w1 (hb : Below W.heap.size W w1) (hm : mayR r = true) => rcounted_any v r vc vs vi w1 (hS.below hb) hm)
  obtain ⟨c0, c1, c2, c3, c4, _⟩ := hA.cells
  obtain rfl := h.val
  unfold rowVal at *
  have HB := hid hB
  clear h hA hB hS
  generalize mayR r = b0 at *
  generalize sizeR r = sz at *
  generalize r.who = x at *
  generalize r.key = ky at *
  go_enter Try.func9, Try.ntmps9
  go_wp2_with fail
  rw [← hW]
  refine hM.mono ?_
  clear hM hW
  rintro e w1 ⟨rfl, h1⟩
  have HF := hid (HB.out.trans (h1.mono (by omega)))
  obtain ⟨d0, d1, d2, d3, d4, _⟩ := (HA.out.below h1 hsz).cells
  have HQ1 := hid (HQ.out w1 h1)
  have hs1 := HF.out.size
  clear h1 HB c0 c1 c2 c3 c4 HQ HA
  cases b0
  · go_wp2
    go_ret2
    exact ⟨rfl, HF.out⟩
  · have hQ := HQ1.out rfl
    clear HQ1
    go_wp2_with fail
    refine hQ.mono ?_
    clear hQ
    rintro e w2 ⟨rfl, h2⟩
    go_wp2
    go_ret2
    exact ⟨rfl, HF.out.trans (h2.mono hs1)⟩

set_option maxRecDepth 20000 in
set_option maxHeartbeats 1000000 in
theorem size_row (v : Value) (r : RowV) (vc vs vi : Value) (w : World) (h : SeesR w v r vc vs vi) :
    Calls Try.prog 8 #[v] w fun e w' => e = .returned (.tuple #[.int .i64 (((if mayR r then sizeR r else 0 : Nat)) : Int), .int .i64 (errR (mayR r))]) ∧ Below w.heap.size w w' := by
  obtain ⟨W, hW⟩ : ∃ W, W = w.alloc (.cells #[.string r.key, vc, vs, vi, .int .i64 r.who] 27) := ⟨_, rfl⟩
  have hB : Below w.heap.size w W := by rw [hW]; exact below_alloc w _
  have hA : RowAt W w.heap.size (.string r.key) vc vs vi (.int .i64 r.who) := by rw [hW]; exact RowAt.new _ _ _ _ _ _
  have hsz := hA.lt
  have hS := h.below hB
  have hM := checkRow_any v r vc vs vi W hS
  have HA := hid hA
  obtain ⟨c0, c1, c2, c3, c4, _⟩ := hA.cells
  have HMY := hid (fun (hm : mayR r = true) => mayR_iff.1 hm)
  have HCS := hid (fun w1 (hb : Below W.heap.size W w1) => hS.cells.below hb)
  obtain rfl := h.val
  have HT : Hid (∀ k, (hk : k < r.cells.length) → sumC (r.cells.take (k + 1)) = sumC (r.cells.take k) + r.cells[k].size) := fun k hk => sumC_take hk
  have HE : Hid (sizeR r = r.key.size + 16 + sumC r.cells) := rfl
  unfold rowVal at *
  have HB := hid hB
  clear h hA hB hS
  cases hm : mayR r
  · rw [hm] at hM
    clear HMY HT HE HCS
    generalize sizeR r = sz at *
    generalize r.who = x at *
    generalize r.key = ky at *
    go_enter Try.func8, Try.ntmps8
    go_wp2_with fail
    rw [← hW]
    refine hM.mono ?_
    clear hM hW
    rintro e w1 ⟨rfl, h1⟩
    have HF := hid (HB.out.trans (h1.mono (by omega)))
    clear h1 HB c0 c1 c2 c3 c4 HA
    unfold errR
    go_wp2
    go_ret2
    exact ⟨rfl, HF.out⟩
  · rw [hm] at hM
    obtain ⟨⟨k1, k2⟩, ⟨n1, n2⟩, _⟩ := HMY.out hm
    have HSU := hid (fun k => sumC_takes n1 n2 k)
    have HN := hid n2
    clear n2 HMY hm
    generalize sizeR r = sz at *
    generalize r.who = x at *
    generalize r.key = ky at *
    generalize r.cells = l at *
    go_enter Try.func8, Try.ntmps8
    go_wp2_with fail
    rw [← hW]
    refine hM.mono ?_
    clear hM hW
    rintro e w1 ⟨rfl, h1⟩
    have HF := hid (HB.out.trans (h1.mono (by omega)))
    have HA1 := HA.out.below h1 hsz
    obtain ⟨b, off, ao, cap, hvc, hcap, _, hao, hcell⟩ := HCS.out w1 h1
    subst hvc
    obtain ⟨d0, d1, d2, d3, d4, _⟩ := HA1.cells
    have HC := hid hcell
    clear h1 HB c0 c1 c2 c3 c4 HA HCS HA1 hcell
    unfold errR
    go_wp2_with fail
    go_loop [5, 20] (fun n i => ∃ (k m : Nat), k ≤ l.length ∧ i = .int .i64 (k : Int) ∧ n = .int .i64 (m : Int) ∧ m = ky.size + 16 + sumC (l.take k)) (fun _ i => l.length - (intOf i).toNat)
    case atStart => exact ⟨0, ky.size + 16, Nat.zero_le _, rfl, by go_num, by simp [sumC]⟩
    case round =>
      obtain ⟨k, m, hk, rfl, rfl, hm⟩ := hrel
      have hs := HSU.out k
      have HM := hid hm
      have hm2 : m ≤ 4000 := by omega
      clear hm hs
      by_cases hlt : k < l.length
      · obtain rfl := hao (by intro h; rw [h] at hlt; simp at hlt)
        have hlt' : (k : Int) < (l.length : Int) := by omega
        have hc := HC.out k hlt
        have HT2 := hid (HT.out k hlt)
        have hsz := HN.out l[k] (List.getElem_mem hlt)
        obtain ⟨y, hy⟩ : ∃ y, y = l[k] := ⟨_, rfl⟩
        rw [← hy] at hc HT2 hsz
        clear hy
        go_wp2
        go_round
        case rel => exact ⟨k + 1, m + y.size, by omega, by go_num, by go_num, by rw [HT2.out, HM.out]; omega⟩
        case measure => simp [intOf]; omega
      · have hlt' : ¬ (k : Int) < (l.length : Int) := by omega
        have hF := HM.out
        rw [List.take_of_length_le (by omega)] at hF
        have HF2 := hid hF
        clear hF HM
        go_wp2
        go_ret2
        exact ⟨by rw [HE.out, ← HF2.out]; rfl, HF.out⟩

end Go.Proofs.Ytkbceaofijngoaa
