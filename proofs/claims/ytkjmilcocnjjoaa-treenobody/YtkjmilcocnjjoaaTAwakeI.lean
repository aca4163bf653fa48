/-
  Depth; awake.
-/
import Derived.Test.YtkjmilcocnjjoaaTRangeI
import Derived.Test.YtkjmilcocnjjoaaTPutTI
namespace Go.Proofs.Ytkjmilcocnjjoaa.I
open Go.RowKit Tm
set_option linter.unusedVariables false

set_option maxHeartbeats 4000000 in
set_option maxRecDepth 100000 in
theorem depth_any {w : World} {q o d : Nat} {t : LT d} {L : List It} (h : TrA w q o d t L) (hL : L ≠ []) (hd : d ≤ 1000000) :
    Calls Try.prog 13 #[.pointer (some ⟨q, 0, none⟩)] w fun e w' => e = .returned (.int .i64 ((d + 1 : Nat) : Int)) ∧ w = w' := by
  obtain ⟨c0, c1, c2, c3, cf⟩ := h.cells
  have hl0 : ¬ ((L.length : Int) = 0) := by
    have := List.length_pos_iff.2 hL; omega
  have HOK := hid h.ok
  have HL := hid h.lies
  clear h cf
  go_enter Try.func13, Try.ntmps13
  go_wp2_with fail
  refine (given_yes q w c0).mono ?_
  rintro e w' ⟨rfl, hw⟩
  subst hw
  have hl0b : ((L.length : Int) == 0) = false := by simpa using hl0
  go_wp2
  (try rw [hl0b])
  (try simp only [hl0b])
  go_loopg [3, 4] d (fun kx s3 s4 wr => ∃ (x : LT kx) (lo : Nat) (j : Nat), wr = w ∧ j + kx = d ∧ s3 = .int .i64 ((j + 1 : Nat) : Int) ∧ s4 = .pointer (some ⟨pT kx x, 0, none⟩) ∧ Hid (At w kx x ∧ okT (o - 1) (2 * o - 1) lo (2 * o - 1) kx (er kx x)))
  case atStart => exact ⟨t, _, 0, rfl, by omega, rfl, rfl, hid ⟨HL.out, HOK.out⟩⟩
  case round =>
    obtain ⟨x, lo, j, rfl, hj, rfl, rfl, hx⟩ := hrel
    cases gk with
    | zero =>
      obtain ⟨p, vi, is, rfl⟩ := at_leaf hx.out.1
      obtain ⟨a1, a2⟩ := at_lf.1 hx.out.1
      have hly := leaf_yes p 0 wr (node_cell1 a1)
      unfold ptr at hly
      have hj2 : j = d := by omega
      subst hj2
      clear hj hx a1 a2
      go_wp2_with fail
      refine hly.mono ?_
      rintro e w2 ⟨rfl, hw2⟩
      subst hw2
      go_wp2
      go_ret
      exact ⟨by simp, rfl⟩
    | succ e =>
      obtain ⟨p, vi, vk, is, ks, rfl⟩ := at_node x
      obtain ⟨a1, a2, a3, a4⟩ := at_nd.1 hx.out.1
      have hx2 := hx.out.2
      rw [er_nd] at hx2
      obtain ⟨g1, g2, g3, g4⟩ := (ok_node _ _).1 hx2
      have hks : ks.length = is.length + 1 := by simpa using g3
      obtain ⟨gk', ck, hvk, hck, hgk, hfk, hcellk⟩ := rowP_form a3 (by simp; omega)
      have hk0 := hcellk 0 (by simp; omega)
      rw [List.getElem_map] at hk0
      have hc1 := node_cell1 a1
      rw [hvk] at hc1
      have hn0 : 0 < (ks.map (pT e)).length := by simp; omega
      have hk0' : 0 < ks.length := by omega
      have HN : Hid (At wr e (ks[0]'hk0') ∧ okT (o - 1) (2 * o - 1) (o - 1) (2 * o - 1) e (er e (ks[0]'hk0'))) := hid ⟨a4 _ (List.getElem_mem hk0'), g4 _ (List.mem_map_of_mem (List.getElem_mem hk0'))⟩
      unfold ptr at hk0
      have hck3 := (kids_max a3 hvk).2.2
      obtain ⟨nk, hnk⟩ : ∃ nk, nk = (ks.map (pT e)).length := ⟨_, rfl⟩
      rw [← hnk] at hc1 hn0 hck
      generalize ks[0]'hk0' = c at hk0 HN
      have hly := leaf_no p nk ck _ wr hn0 hc1
      unfold ptr at hly
      clear hcellk hvk a3 g3 g4 a4 hx2 hnk hks hk0'
      have hw1 : IntKind.i64.wrap (((j + 1 : Nat) : Int) + 1) = ((j + 1 + 1 : Nat) : Int) := by rw [IntKind.wrap_i64]; omega
      clear a1 a2 g1 g2 hfk hx
      have hpt : pT (e + 1) (nd p vi vk is ks) = p := rfl
      rw [hpt]
      clear hpt
      go_wp2_with fail
      refine hly.mono ?_
      rintro e2 w2 ⟨rfl, hw2⟩
      subst hw2
      go_wp2
      go_roundg e
      case measure => omega
      case rel => exact ⟨c, _, j + 1, rfl, by omega, by first | rfl | (simp; done) | (simp; omega), rfl, HN⟩

def kb : ByteArray := ⟨#[98]⟩
def ka : ByteArray := ⟨#[97]⟩

set_option maxHeartbeats 4000000 in
set_option maxRecDepth 100000 in
theorem awake_any (w : World) : Calls Try.prog 9 #[] w fun e w' => e = .returned (.bool true) ∧ Below w.heap.size w w' := by
  go_enter Try.func9, Try.ntmps9
  go_wp2_with fail
  refine (new_yes 2 w (by decide) (by decide)).mono ?_
  rintro e w1 ⟨q, t, rfl, hA, hB, hc⟩
  unfold ptr
  have hp1 := put_tree hA (by decide) (by decide) (by decide) ⟨#[98]⟩ 1
  unfold ptr at hp1
  simp only [encI] at hp1
  go_wp2_with fail
  refine hp1.mono ?_
  clear hp1
  rintro e w2 ⟨rfl, d2, t2, hA2, hT2⟩
  have e2 : putL keyLt ⟨#[98]⟩ (1 : Int) [] = [(⟨#[98]⟩, 1)] := rfl
  have e2b : hasL keyLt ⟨#[98]⟩ ([] : List It) = false := rfl
  rw [e2] at hA2
  have hp2 := put_tree hA2 (by decide) (by decide) (by decide) ⟨#[97]⟩ 2
  have e3 : putL keyLt ⟨#[97]⟩ (2 : Int) [(⟨#[98]⟩, 1)] = [(⟨#[97]⟩, 2), (⟨#[98]⟩, 1)] := rfl
  have e3b : hasL keyLt ⟨#[97]⟩ ([(⟨#[98]⟩, 1)] : List It) = false := rfl
  rw [e3, e3b] at hp2
  unfold ptr at hp2
  simp only [encI] at hp2
  rw [e2b]
  clear e2 e2b e3 e3b
  go_wp2_with fail
  refine hp2.mono ?_
  clear hp2
  rintro e w3 ⟨rfl, d3, t3, hA3, hT3⟩
  have hp3 := put_tree hA3 (by decide) (by decide) (by decide) ⟨#[98]⟩ 3
  have e4 : putL keyLt ⟨#[98]⟩ (3 : Int) [(⟨#[97]⟩, 2), (⟨#[98]⟩, 1)] = [(⟨#[97]⟩, 2), (⟨#[98]⟩, 3)] := rfl
  have e4b : hasL keyLt ⟨#[98]⟩ ([(⟨#[97]⟩, 2), (⟨#[98]⟩, 1)] : List It) = true := rfl
  rw [e4, e4b] at hp3
  unfold ptr at hp3
  simp only [encI] at hp3
  clear e4 e4b
  go_wp2_with fail
  refine hp3.mono ?_
  clear hp3
  rintro e w4 ⟨rfl, d4, t4, hA4, hT4⟩
  have hr := range_any hA4 (by decide) (by decide) (by decide) ⟨#[]⟩ ⟨#[]⟩ 9 (by decide)
  have e5 : rangeL ⟨#[]⟩ ⟨#[]⟩ 9 [(⟨#[97]⟩, (2 : Int)), (⟨#[98]⟩, 3)] = [(⟨#[97]⟩, 2), (⟨#[98]⟩, 3)] := rfl
  rw [e5] at hr
  clear e5
  have hB4 : Below w.heap.size w w4 := by
    have h1 : ∀ b, 0 < cT q 0 t b → w.heap.size ≤ b := fun b hb => by
      rcases Nat.lt_or_ge b w.heap.size with h | h
      · have := hc b h; omega
      · exact h
    have g2 := hB.trans (hT2.gr.below h1 hB.size)
    have h2 : ∀ b, 0 < cT q d2 t2 b → w.heap.size ≤ b := fun b hb => by
      rcases Nat.lt_or_ge b w.heap.size with h | h
      · have := hT2.old b (Nat.lt_of_lt_of_le h hB.size); have := hc b h; omega
      · exact h
    have g3 := g2.trans (hT3.gr.below h2 g2.size)
    have h3 : ∀ b, 0 < cT q d3 t3 b → w.heap.size ≤ b := fun b hb => by
      rcases Nat.lt_or_ge b w.heap.size with h | h
      · have := hT3.old b (Nat.lt_of_lt_of_le h g2.size); have := hT2.old b (Nat.lt_of_lt_of_le h hB.size); have := hc b h; omega
      · exact h
    exact g3.trans (hT4.gr.below h3 g3.size)
  have HB4 := hid hB4
  have HA4 := hid hA4
  clear hA hA2 hA3 hT2 hT3 hT4 hB hc hB4
  go_wp2_with fail
  refine hr.mono ?_
  rintro e w5 ⟨v, rfl, hrow, hB5⟩
  have hd4 : d4 = 0 := by
    have := keys_ge 2 3 (by decide) d4 _ _ _ HA4.out.ok
    rw [HA4.out.holds] at this
    cases d4 with
    | zero => rfl
    | succ e =>
      have h1 : 1 ≤ 2 ^ e := Nat.one_le_two_pow
      rw [Nat.pow_succ] at this
      simp at this
      omega
  have hdp := depth_any (HA4.out.below hB5) (by simp) (by omega)
  rw [hd4] at hdp
  obtain ⟨g, cap, rfl, h1, h2, h3, h4, h5⟩ := ownsRow_at ⟨hrow.1, by
    rcases hrow.2 with hx | ⟨g, cap, cur, e1, e2, rest⟩
    · exact .inl hx
    · exact .inr ⟨g, cap, cur, e1, Nat.zero_le _, rest⟩⟩ (by decide)
  have k0 := h4 0 (by decide)
  have k3 := h4 3 (by decide)
  have HB5 := hid (HB4.out.trans (hB5.mono HB4.out.size))
  clear hr hrow h4 h5 hA4 hB5
  simp only [itC, encI] at k0 k3
  simp at k0 k3
  go_wp2_with fail
  refine hdp.mono ?_
  rintro e w6 ⟨rfl, hw6⟩
  subst hw6
  go_wp2
  go_ret
  exact ⟨by simp, HB5.out⟩

end Go.Proofs.Ytkjmilcocnjjoaa.I
