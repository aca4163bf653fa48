/-
  The walk of the law ShaParts.
-/
import Derived.Test.YtfefccmefmminaaDoorRefD
import Derived.Test.YtfefccmefmminaaDoorHash
namespace Go.Proofs.YtfefccmefmminaaDoor
open Go.RowKit
set_option linter.unusedVariables false

/-- The slice v reads the texts ss in the world w. -/
def SeesS (w : World) (v : Value) (ss : List ByteArray) : Prop :=
  ∃ b off ao cap, v = .slice ao ss.length cap ∧ ss.length ≤ cap ∧ (ao = none → cap = 0) ∧ (ss ≠ [] → ao = some ⟨b, off, none⟩) ∧ ∀ j, j < ss.length → w.cell? ⟨b, off + j, none⟩ = some (.string (ss.getD j ByteArray.empty))

theorem eql_some_nil (a : Addr) (w : World) : (binOp .eql 26 (.pointer (some a)) (.pointer none)).run Tryd.prog w = .ok (.bool false) w := by
  have h : ∀ d : Nat, (Op.equalIn (d + 1) 26 (.pointer (some a)) (.pointer none)).run Tryd.prog w = .ok false w := fun d => by
    simp [Op.equalIn, run_underlying Tryd.underlying26]
  simp only [binOp]
  simp [Op.equal, Op.maxDepth, h 9999]

set_option maxRecDepth 20000 in
set_option maxHeartbeats 2000000 in
theorem parts_walk (v : Value) (ss : List ByteArray) (w : World) (hR : Rounds w) (hS : SeesS w v ss) (hl : ss.length ≤ 4611686018427387904 ∧ ∀ s ∈ ss, s.size ≤ 140737488351232) : Calls Tryd.prog 4 #[v] w fun e w' => e = .returned (.bool true) ∧ Below w.heap.size w w' := by
  obtain ⟨b, off, ao, cap, rfl, hcap, _, hne, hcell⟩ := hS
  have HL := hid hl.2
  have hl1 := hl.1
  have HC := hid hcell
  have HR := hid hR
  have HNE := hid hne
  have he := eql_some_nil
  clear hcell hR hne hl
  go_enter Tryd.func4, Tryd.ntmps4
  go_wp2_with fail
  refine (new_any _).mono ?_
  rintro e w1 ⟨p, rfl, hp, hH1, hB1⟩
  have HH1 := hid hH1
  have HB1 := hid hB1
  clear hH1 hB1
  go_wp2_with fail
  go_loopw [4, 5] (fun a i wr => ∃ (k : Nat) (A : ByteArray), k ≤ ss.length ∧ i = .int .i64 k ∧ a = .string A ∧ A.size ≤ 4096 ∧ HashAt wr p (bytesOf A) ∧ Below w.heap.size w wr) (fun _ i _ => ss.length - (intOf i).toNat)
  case atStart => exact ⟨0, { data := #[] }, Nat.zero_le _, rfl, rfl, by decide, HH1.out, HB1.out⟩
  clear HH1 HB1
  case round =>
    obtain ⟨k, A, hk, rfl, rfl, hA, hH, hB⟩ := hrel
    have hpos := HR.out.pos
    have HH := hid hH
    have HB := hid hB
    have hsw := hB.size
    clear hH hB
    by_cases hlt : k < ss.length
    · have hne0 : ss ≠ [] := by intro e; rw [e] at hlt; simp at hlt
      obtain rfl := HNE.out hne0
      have hblt : b < w.heap.size := World.block_lt_of_cell? w _ (HC.out k hlt)
      have hc := (HB.out.cell (p := ⟨b, off + k, none⟩) hblt).trans (HC.out k hlt)
      obtain ⟨s, hs⟩ : ∃ s, s = ss.getD k ByteArray.empty := ⟨_, rfl⟩
      have hsz : s.size ≤ 140737488351232 := by
        rw [hs]
        simp only [List.getD, List.getElem?_eq_getElem hlt, Option.getD_some]
        exact HL.out _ (List.getElem_mem hlt)
      rw [← hs] at hc
      have hRr := HR.out.below HB.out hpos
      have hw := write_any p (bytesOf A) s wr HH.out hRr (by omega) (by rw [bytesOf_len]; omega)
      have HW := hid hw
      have zk : (k : Int) < (ss.length : Int) := by omega
      clear hs hw hRr hne0
      go_wp2_with fail
      refine HW.out.mono ?_
      rintro e w2 ⟨rfl, hH2, hG2⟩
      rw [← bytesOf_append] at hH2
      have hB2 : Below w.heap.size w w2 := below_grownBy HB.out hG2 (fun j hj => by simp at hj; omega) hsw
      have hc2 : w2.cell? ⟨b, off + k, none⟩ = some (.string s) := (hB2.cell (p := ⟨b, off + k, none⟩) hblt).trans ((HB.out.cell (p := ⟨b, off + k, none⟩) hblt).symm.trans hc)
      have HH2 := hid hH2
      have HB2 := hid hB2
      have HR2 := hid (HR.out.below hB2 hpos)
      clear HW hH2 hG2 hB2 hc
      have hAs : (A ++ s).size = A.size + s.size := by simp
      by_cases hbig : A.size + s.size ≤ 4096
      · have hlen := len_any p (bytesOf (A ++ s)) w2 HH2.out
        rw [bytesOf_len, hAs] at hlen
        have HLen := hid hlen
        by_cases h3 : k % 3 = 1
        · have hb3 : ((k : Int) % 3 == 1) = true := by rw [beq_iff_eq]; omega
          have HS1 := hid (hsum_any p (bytesOf (A ++ s)) w2 HH2.out HR2.out (by rw [bytesOf_len, hAs]; omega))
          clear hlen hAs
          go_wp2_with (first | (go_at_call 14; refine HLen.out.mono ?_; rintro e w3 ⟨rfl, rfl⟩) | (go_at_call 15; refine HS1.out.mono ?_; rintro e w4 ⟨rfl, hB4⟩; have HB4 := hid (HB2.out.trans (hB4.mono HB2.out.size)); have HH4 := hid (show HashAt w4 p (bytesOf (A ++ s)) from ⟨HH2.out.1.below hB4 HH2.out.1.lt, HH2.out.2⟩); clear hB4 HS1) | (go_at_call 8; refine (sum_any (A ++ s) w4 (HR.out.below HB4.out hpos) (by simp; omega)).mono ?_; rintro e w5 ⟨rfl, hB5⟩; have HB5 := hid (HB4.out.trans (hB5.mono HB4.out.size)); have HH5 := hid (show HashAt w5 p (bytesOf (A ++ s)) from ⟨HH4.out.1.below hB5 HH4.out.1.lt, HH4.out.2⟩); clear hB5))
          go_roundw
          case rel => exact ⟨k + 1, A ++ s, by omega, by go_num, rfl, by simp; omega, HH5.out, HB5.out⟩
          case measure => simp [intOf]; omega
        · have hb3 : ((k : Int) % 3 == 1) = false := by rw [beq_eq_false_iff_ne]; omega
          clear hlen hAs
          go_wp2_with (first | (go_at_call 14; refine HLen.out.mono ?_; rintro e w3 ⟨rfl, rfl⟩))
          go_roundw
          case rel => exact ⟨k + 1, A ++ s, by omega, by go_num, rfl, by simp; omega, HH2.out, HB2.out⟩
          case measure => simp [intOf]; omega
      · go_wp2_with fail
        refine (awake_any _ HR2.out).mono ?_
        rintro e w3 ⟨rfl, hB3⟩
        have HB3 := hid (HB2.out.trans (hB3.mono HB2.out.size))
        clear hB3
        go_wp2
        go_ret
        exact ⟨rfl, HB3.out⟩
    · have hRr := HR.out.below HB.out hpos
      have HS1 := hid (hsum_any p (bytesOf A) wr HH.out hRr (by rw [bytesOf_len]; omega))
      clear hRr
      have hge : ¬ ((k : Int) < (ss.length : Int)) := by omega
      go_wp2_with fail
      refine HS1.out.mono ?_
      rintro e w2 ⟨rfl, hB2⟩
      have HB2 := hid (HB.out.trans (hB2.mono hsw))
      have HH2 := hid (show HashAt w2 p (bytesOf A) from ⟨HH.out.1.below hB2 HH.out.1.lt, HH.out.2⟩)
      clear hB2 HS1
      go_wp2_with fail
      refine (sum_any A w2 (HR.out.below HB2.out hpos) (by omega)).mono ?_
      rintro e w3 ⟨rfl, hB3⟩
      have HB3 := hid (HB2.out.trans (hB3.mono HB2.out.size))
      have HH3 := hid (show HashAt w3 p (bytesOf A) from ⟨HH2.out.1.below hB3 HH2.out.1.lt, HH2.out.2⟩)
      clear hB3
      have HS2 := hid (hsum_any p (bytesOf A) w3 HH3.out (HR.out.below HB3.out hpos) (by rw [bytesOf_len]; omega))
      go_wp2_with fail
      refine HS2.out.mono ?_
      rintro e w4 ⟨rfl, hB4⟩
      have HB4 := hid (HB3.out.trans (hB4.mono HB3.out.size))
      clear hB4 HS2
      go_wp2_with fail
      refine (rsum_any A w4 (by omega)).mono ?_
      rintro e w5 ⟨rfl, hB5⟩
      have HB5 := hid (HB4.out.trans (hB5.mono HB4.out.size))
      clear hB5
      go_wp2_with fail
      refine (awake_any _ (HR.out.below HB5.out hpos)).mono ?_
      rintro e w6 ⟨rfl, hB6⟩
      have HB6 := hid (HB5.out.trans (hB6.mono HB5.out.size))
      clear hB6
      go_wp2
      go_ret
      exact ⟨rfl, HB6.out⟩
end Go.Proofs.YtfefccmefmminaaDoor
