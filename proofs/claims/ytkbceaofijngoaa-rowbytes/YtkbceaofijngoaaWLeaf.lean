/-
  The contracts of the checks of keys, cells and rows: the code's and the document's.
-/
import Derived.Test.YtkbceaofijngoaaWBase
namespace Go.Proofs.Ytkbceaofijngoaa
open Go.RowKit
set_option linter.unusedVariables false

set_option maxHeartbeats 400000 in
theorem isKey_any (k : ByteArray) (w : World) (hs : k.size ≤ 4611686018427387904) :
    Calls Try.prog 43 #[.string k] w fun e w' => e = .returned (.bool (keyOk k)) ∧ w' = w := by
  by_cases h1 : 1 ≤ k.size
  · have h1' : (1 : Int) ≤ (k.size : Int) := by omega
    have HE : Hid (keyOk k = decide ((k.size : Int) ≤ 64)) := by
      unfold Hid
      rw [keyOk, decide_eq_true h1, Bool.true_and]
      exact decide_eq_decide.2 (by omega)
    go_enter Try.func43, Try.ntmps43
    go_wp2
    go_ret
    exact ⟨ret_bool HE.out.symm, rfl⟩
  · have h1' : decide ((1 : Int) ≤ (k.size : Int)) = false := by simp; omega
    have HE : Hid (keyOk k = false) := by unfold Hid; simp [keyOk]; omega
    go_enter Try.func43, Try.ntmps43
    go_wp2
    go_ret
    exact ⟨ret_bool HE.out.symm, rfl⟩

set_option maxHeartbeats 400000 in
theorem rkey_any (k : ByteArray) (w : World) (hs : k.size ≤ 4611686018427387904) :
    Calls Try.prog 20 #[.string k] w fun e w' => e = .returned (.bool (keyOk k)) ∧ w' = w := by
  by_cases h1 : 1 ≤ k.size
  · have h1' : (1 : Int) ≤ (k.size : Int) := by omega
    have HE : Hid (keyOk k = decide ((k.size : Int) ≤ 64)) := by
      unfold Hid
      rw [keyOk, decide_eq_true h1, Bool.true_and]
      exact decide_eq_decide.2 (by omega)
    go_enter Try.func20, Try.ntmps20
    go_wp2
    go_ret
    exact ⟨ret_bool HE.out.symm, rfl⟩
  · have h1' : decide ((1 : Int) ≤ (k.size : Int)) = false := by simp; omega
    have HE : Hid (keyOk k = false) := by unfold Hid; simp [keyOk]; omega
    go_enter Try.func20, Try.ntmps20
    go_wp2
    go_ret
    exact ⟨ret_bool HE.out.symm, rfl⟩

theorem cellOk_take {l : List ByteArray} {k : Nat} (hk : k < l.length) (h : cellOk (l.take k) = true) (h1 : l[k].size ≤ 256) : cellOk (l.take (k + 1)) = true := by
  rw [List.take_succ_eq_append_getElem hk]
  simp only [cellOk, List.all_append, Bool.and_eq_true] at h ⊢
  exact ⟨h, by simpa using h1⟩
theorem cellOk_stop {l : List ByteArray} {k : Nat} (hk : k < l.length) (h1 : ¬ l[k].size ≤ 256) : cellOk l = false := by
  cases h : cellOk l
  · rfl
  · exact absurd (cellOk_iff.1 h _ (List.getElem_mem hk)) h1

set_option maxHeartbeats 400000 in
theorem areCells_any (v : Value) (l : List ByteArray) (w : World) (hS : SeesT w v l) (hlen : l.length ≤ 140737488355328) (ht : ∀ c ∈ l, c.size ≤ 4611686018427387904) :
    Calls Try.prog 44 #[v] w fun e w' => e = .returned (.bool (cellsOk l)) ∧ w' = w := by
  obtain ⟨b, off, ao, cap, rfl, hcap, _, hao, hcell⟩ := hS
  have HC := hid hcell
  have HT := hid ht
  clear hcell ht
  by_cases h8 : l.length ≤ 8
  · have h8' : decide ((8 : Int) < (l.length : Int)) = false := by simp; omega
    have HE : Hid (cellsOk l = cellOk l) := by unfold Hid; simp [cellsOk, h8]
    go_enter Try.func44, Try.ntmps44
    go_wp2
    go_loop [10] (fun i => ∃ (k : Nat), k ≤ l.length ∧ i = .int .i64 k ∧ cellOk (l.take k) = true) (fun i => l.length - (intOf i).toNat)
    case atStart => exact ⟨0, Nat.zero_le _, rfl, rfl⟩
    case round =>
      obtain ⟨k, hk, rfl, hok⟩ := hrel
      have HOK := hid hok
      clear hok
      by_cases hlt : k < l.length
      · obtain rfl := hao (by intro h; rw [h] at hlt; simp at hlt)
        have hc := HC.out k hlt
        have HN := hid (fun h => cellOk_take hlt HOK.out h)
        have HS := hid (fun h => cellOk_stop hlt h)
        have hsz := HT.out l[k] (List.getElem_mem hlt)
        obtain ⟨y, hy⟩ : ∃ y, y = l[k] := ⟨_, rfl⟩
        rw [← hy] at hc HN HS hsz
        clear hy
        by_cases h1 : y.size ≤ 256
        · have h1' : decide ((256 : Int) < (y.size : Int)) = false := by simp; omega
          go_wp2
          go_round
          case rel => exact ⟨k + 1, by omega, by go_num, HN.out h1⟩
          case measure => simp [intOf]; omega
        · have h1' : (256 : Int) < (y.size : Int) := by omega
          go_wp2
          go_ret
          exact ⟨ret_bool (by rw [HE.out, HS.out h1]), rfl⟩
      · have HF := HOK.out
        rw [List.take_of_length_le (by omega)] at HF
        have HF2 := hid HF
        clear HF
        go_wp2
        go_ret
        exact ⟨ret_bool (by rw [HE.out, HF2.out]), rfl⟩
  · have h8' : (8 : Int) < (l.length : Int) := by omega
    have HE : Hid (cellsOk l = false) := by unfold Hid; simp [cellsOk, h8]
    go_enter Try.func44, Try.ntmps44
    go_wp2
    go_ret
    exact ⟨ret_bool HE.out.symm, rfl⟩

set_option maxHeartbeats 400000 in
theorem rcells_any (v : Value) (l : List ByteArray) (w : World) (hS : SeesT w v l) (hlen : l.length ≤ 140737488355328) (ht : ∀ c ∈ l, c.size ≤ 4611686018427387904) :
    Calls Try.prog 48 #[v] w fun e w' => e = .returned (.bool (cellsOk l)) ∧ w' = w := by
  obtain ⟨b, off, ao, cap, rfl, hcap, _, hao, hcell⟩ := hS
  have HC := hid hcell
  have HT := hid ht
  clear hcell ht
  go_enter Try.func48, Try.ntmps48
  go_wp2
  go_loop [3] (fun i => ∃ (k : Nat), k ≤ l.length ∧ i = .int .i64 k ∧ cellOk (l.take k) = true) (fun i => l.length - (intOf i).toNat)
  case atStart => exact ⟨0, Nat.zero_le _, rfl, rfl⟩
  case round =>
    obtain ⟨k, hk, rfl, hok⟩ := hrel
    have HOK := hid hok
    clear hok
    by_cases hlt : k < l.length
    · obtain rfl := hao (by intro h; rw [h] at hlt; simp at hlt)
      have hc := HC.out k hlt
      have HN := hid (fun h => cellOk_take hlt HOK.out h)
      have HS := hid (fun h => cellOk_stop hlt h)
      have hsz := HT.out l[k] (List.getElem_mem hlt)
      obtain ⟨y, hy⟩ : ∃ y, y = l[k] := ⟨_, rfl⟩
      rw [← hy] at hc HN HS hsz
      clear hy
      by_cases h1 : y.size ≤ 256
      · have h1' : decide ((256 : Int) < (y.size : Int)) = false := by simp; omega
        go_wp2
        go_round
        case rel => exact ⟨k + 1, by omega, by go_num, HN.out h1⟩
        case measure => simp [intOf]; omega
      · have h1' : (256 : Int) < (y.size : Int) := by omega
        go_wp2
        go_ret
        exact ⟨ret_bool (by rw [cellsOk, HS.out h1]; simp), rfl⟩
    · have HF := HOK.out
      rw [List.take_of_length_le (by omega)] at HF
      have HE : Hid (cellsOk l = decide ((l.length : Int) ≤ 8)) := by
        unfold Hid
        rw [cellsOk, HF, Bool.and_true]
        exact decide_eq_decide.2 (by omega)
      clear HF HOK
      go_wp2
      go_ret
      exact ⟨ret_bool HE.out.symm, rfl⟩

/-- The errno of a row's check. -/
def errR (b : Bool) : Int := if b then 0 else 110

set_option maxRecDepth 20000 in
set_option maxHeartbeats 1000000 in
theorem checkRow_any (v : Value) (r : RowV) (vc vs vi : Value) (w : World) (h : SeesR w v r vc vs vi) :
    Calls Try.prog 14 #[v] w fun e w' => e = .returned (.int .i64 (errR (mayR r))) ∧ Below w.heap.size w w' := by
  obtain ⟨W, hW⟩ : ∃ W, W = w.alloc (.cells #[.string r.key, vc, vs, vi, .int .i64 r.who] 27) := ⟨_, rfl⟩
  have hB : Below w.heap.size w W := by rw [hW]; exact below_alloc w _
  have hA : RowAt W w.heap.size (.string r.key) vc vs vi (.int .i64 r.who) := by rw [hW]; exact RowAt.new _ _ _ _ _ _
  have hS := h.below hB
  have hsz := hA.lt
  have hK := isKey_any r.key W h.klen
  have hC := areCells_any vc r.cells W hS.cells h.clen h.tlen
  have hL := check_l (.agg #[vs, vi]) r.s r.i W hS.lab
  obtain ⟨c0, c1, c2, c3, c4, _⟩ := hA.cells
  obtain rfl := h.val
  unfold rowVal
  have HA := hid hA
  have HB := hid hB
  have HE : Hid (mayR r = (keyOk r.key && (cellsOk r.cells && (mayB r.s r.i && (decide (-1 ≤ r.who) && decide (r.who < 16)))))) := rfl
  clear h hS hA hB
  generalize keyOk r.key = b1 at *
  generalize cellsOk r.cells = b2 at *
  generalize mayB r.s r.i = b3 at *
  generalize mayR r = b0 at *
  generalize r.who = x at *
  generalize r.key = ky at *
  go_enter Try.func14, Try.ntmps14
  go_wp2_with fail
  rw [← hW]
  refine hK.mono ?_
  clear hK hW
  rintro e w1 ⟨rfl, rfl⟩
  cases b1
  · go_wp2
    go_ret
    exact ⟨by rw [HE.out]; rfl, HB.out⟩
  · go_wp2_with fail
    refine hC.mono ?_
    clear hC
    rintro e w2 ⟨rfl, rfl⟩
    cases b2
    · go_wp2
      go_ret
      exact ⟨by rw [HE.out]; rfl, HB.out⟩
    · go_wp2_with fail
      refine hL.mono ?_
      clear hL
      rintro e w3 ⟨rfl, h3⟩
      have HF := hid (HB.out.trans (h3.mono (by omega)))
      obtain ⟨d0, d1, d2, d3, d4, _⟩ := (HA.out.below h3 hsz).cells
      clear h3 HB HA c0 c1 c2 c3 c4
      cases b3
      · unfold errOf
        go_wp2
        go_ret
        exact ⟨by rw [HE.out]; rfl, HF.out⟩
      · unfold errOf
        by_cases h5 : -1 ≤ x
        · by_cases h6 : x < 16
          · have h5' : decide (x < -1) = false := by simp; omega
            have h6' : decide (16 ≤ x) = false := by simp; omega
            go_wp2
            go_ret
            exact ⟨by rw [HE.out]; simp [errR, h5, h6], HF.out⟩
          · have h5' : decide (x < -1) = false := by simp; omega
            have h6' : 16 ≤ x := by omega
            have h7' : decide (x < 16) = false := by simp; omega
            go_wp2
            go_ret
            exact ⟨by rw [HE.out]; simp [errR, h5, h6], HF.out⟩
        · have h5' : x < -1 := by omega
          have h7' : decide (-1 ≤ x) = false := by simp; omega
          go_wp2
          go_ret
          exact ⟨by rw [HE.out]; rw [h7']; rfl, HF.out⟩

set_option maxRecDepth 20000 in
set_option maxHeartbeats 1000000 in
theorem mayRow_any (v : Value) (r : RowV) (vc vs vi : Value) (w : World) (h : SeesR w v r vc vs vi) :
    Calls Try.prog 18 #[v] w fun e w' => e = .returned (.bool (mayR r)) ∧ Below w.heap.size w w' := by
  obtain ⟨W, hW⟩ : ∃ W, W = w.alloc (.cells #[.string r.key, vc, vs, vi, .int .i64 r.who] 27) := ⟨_, rfl⟩
  have hB : Below w.heap.size w W := by rw [hW]; exact below_alloc w _
  have hA : RowAt W w.heap.size (.string r.key) vc vs vi (.int .i64 r.who) := by rw [hW]; exact RowAt.new _ _ _ _ _ _
  have hS := h.below hB
  have hsz := hA.lt
  have hK := rkey_any r.key W h.klen
  have hC := rcells_any vc r.cells W hS.cells h.clen h.tlen
  have hL := may_any (.agg #[vs, vi]) r.s r.i W hS.lab
  obtain ⟨c0, c1, c2, c3, c4, _⟩ := hA.cells
  obtain rfl := h.val
  unfold rowVal
  have HA := hid hA
  have HB := hid hB
  have HE : Hid (mayR r = (keyOk r.key && (cellsOk r.cells && (mayB r.s r.i && (decide (-1 ≤ r.who) && decide (r.who < 16)))))) := rfl
  clear h hS hA hB
  generalize keyOk r.key = b1 at *
  generalize cellsOk r.cells = b2 at *
  generalize mayB r.s r.i = b3 at *
  generalize mayR r = b0 at *
  generalize r.who = x at *
  generalize r.key = ky at *
  go_enter Try.func18, Try.ntmps18
  go_wp2_with fail
  rw [← hW]
  refine hK.mono ?_
  clear hK hW
  rintro e w1 ⟨rfl, rfl⟩
  cases b1
  · go_wp2
    go_ret
    exact ⟨ret_bool (by rw [HE.out]; rfl), HB.out⟩
  · go_wp2_with fail
    refine hC.mono ?_
    clear hC
    rintro e w2 ⟨rfl, rfl⟩
    cases b2
    · go_wp2
      go_ret
      exact ⟨ret_bool (by rw [HE.out]; rfl), HB.out⟩
    · go_wp2_with fail
      refine hL.mono ?_
      clear hL
      rintro e w3 ⟨rfl, h3⟩
      have HF := hid (HB.out.trans (h3.mono (by omega)))
      obtain ⟨d0, d1, d2, d3, d4, _⟩ := (HA.out.below h3 hsz).cells
      clear h3 HB HA c0 c1 c2 c3 c4
      cases b3
      · go_wp2
        go_ret
        exact ⟨ret_bool (by rw [HE.out]; rfl), HF.out⟩
      · by_cases h5 : -1 ≤ x
        · by_cases h6 : x < 16
          · have h5' : decide (x < -1) = false := by simp; omega
            have h6' : decide (16 ≤ x) = false := by simp; omega
            go_wp2
            go_ret
            exact ⟨ret_bool (by rw [HE.out]; simp [h5, h6]), HF.out⟩
          · have h5' : decide (x < -1) = false := by simp; omega
            have h6' : 16 ≤ x := by omega
            have h7' : decide (x < 16) = false := by simp; omega
            go_wp2
            go_ret
            exact ⟨ret_bool (by rw [HE.out]; simp [h5, h6]), HF.out⟩
        · have h5' : x < -1 := by omega
          have h7' : decide (-1 ≤ x) = false := by simp; omega
          go_wp2
          go_ret
          exact ⟨ret_bool (by rw [HE.out]; rw [h7']; rfl), HF.out⟩

end Go.Proofs.Ytkbceaofijngoaa
