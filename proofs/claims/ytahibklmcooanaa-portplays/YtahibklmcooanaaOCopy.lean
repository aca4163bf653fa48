/-
  Mailboxes: Copy.
-/
import Derived.Test.YtahibklmcooanaaONewB
import Derived.Test.YtahibklmcooanaaOUser
namespace Go.Proofs.Ytahibklmcooanaa
open Go.RowKit
set_option linter.unusedVariables false
set_option linter.unusedSimpArgs false

/-- What is copied so far. -/
def MadeC (w0 w : World) (bx n : Nat) (room : Int) (m : Nat → List Msg) (k : Nat) : Prop :=
  ∃ ql v m', ql.length = k ∧ RowAt w w0.heap.size bx n ql ∧ PoPart w0 w room ql v m' ∧ Below w0.heap.size w0 w ∧ ∀ i, i < k → m' i = m i

set_option maxHeartbeats 4000000 in
theorem copy_any (p bx : Nat) (room : Int) (ql : List (Nat × Nat)) (v : Nat → Rg) (m : Nat → List Msg) (w : World) (hP : PoAt w p bx room ql v m) :
    Calls Try.prog 12 #[.pointer (some ⟨p, 0, none⟩)] w fun e w' => ∃ p' m', e = .returned (.pointer (some ⟨p', 0, none⟩)) ∧ PoNew w w' p' room ql.length m' ∧ ∀ i, i < ql.length → m' i = m i := by
  obtain ⟨i0, hi, hz0, hz1, hz2⟩ := info_parts Try.infoBox
  obtain ⟨n, hn⟩ : ∃ n, ql.length = n := ⟨_, rfl⟩
  have n1 := hP.n1
  have n2 := hP.n2
  have r2 := hP.r2
  rw [hn] at n1 n2
  obtain ⟨c0, c1⟩ := hP.cells
  rw [hn] at c1
  have hb2 : i0.bytes * n ≤ 281474976710656 := by rw [hz2]; omega
  have hb3 : n ≤ maxLen := by simp only [maxLen]; omega
  have HP := hid hP
  have HN := hid hn
  have hg := hid (pgiven_yes p w c0)
  clear hP c0
  rw [hn]
  clear hn
  go_enter Try.func12, Try.ntmps12
  go_wp2_with fail
  refine hg.out.mono ?_
  clear hg
  rintro e wg ⟨rfl, hwg⟩
  subst hwg
  go_wp2_with (at_make; refine wpList_make_full _ rfl _ _ 59 rfl wg.heap.size 69 i0 (.agg #[.pointer none, .slice none 0 0, .slice none 0 0]) 3 Try.underlying59 hi hz0 hz1 .i64 .i64 _ _ n rfl rfl rfl rfl hb2 hb3 (Nat.le_refl _) ?_; intro w0 hown0 hgrow0; have hB0 : Below wg.heap.size wg w0 := (Below.refl _ _).grown hgrow0 (Nat.le_refl _) (fun k hk => by cases hk))
  have H0 : Hid (MadeC wg w0 wg.heap.size n room m 0) := by
    refine hid ⟨[], fun _ => rg0, fun _ => [], rfl, ?_, PoPart.nil _ _ _ _ _, hB0, fun i hi => by omega⟩
    have h := hown0
    rw [show (Value.agg #[.pointer none, .slice none 0 0, .slice none 0 0]).cells = #[.pointer none, .slice none 0 0, .slice none 0 0] from rfl, bZ_made] at h
    unfold RowAt
    simpa [bC] using h
  clear hown0 hgrow0 hB0 c1
  go_loopw [16] (fun i wr => ∃ k : Nat, k ≤ n ∧ i = .int .i64 k ∧ MadeC wg wr wg.heap.size n room m k) (fun i _ => n - (intOf i).toNat)
  case atStart => exact ⟨0, Nat.zero_le _, rfl, H0.out⟩
  case round =>
    clear H0
    obtain ⟨k, hk, rfl, qk, vk, mk, hqk, hR, hPp, hB, hm⟩ := hrel
    subst hqk
    by_cases hlt : qk.length < n
    · have hltI : (qk.length : Int) < n := by omega
      have hPr := HP.out.below hB
      obtain ⟨c0, c1⟩ := hPr.cells
      obtain ⟨b0, b1, b2⟩ := hPr.boxes qk.length (by rw [HN.out]; exact hlt)
      rw [HN.out] at c1
      have HCp := hid (Mq.copy_any (qq ql qk.length) room (v qk.length).drops (v qk.length).rv (v qk.length).f (v qk.length).rs (m qk.length) wr (hPr.box qk.length (by rw [HN.out]; exact hlt)))
      have HD := hid (hPr.dr qk.length (by rw [HN.out]; exact hlt))
      have HR := hid hR
      have HPp := hid hPp
      have HB := hid hB
      have HM := hid hm
      have hk1 : qk.length ≤ 1000 := by omega
      clear hR hPp hB hm hPr b1 b2 c0
      go_wp2_with fail
      refine HCp.out.mono ?_
      clear HCp
      rintro e w1 ⟨q', rv', rfl, hq', hQ1, hrv1, hB1⟩
      have HQ1 := hid hQ1
      have HB1 := hid hB1
      have HQ := hid hq'
      have HRV := hid hrv1
      clear hQ1 hB1 hq' hrv1 b0 c1
      go_wp2_with fail
      refine (boxOf_any qk.length q' hk1 w1).mono ?_
      rintro e w2 ⟨lb, rfl, hlb1, hlb2, hB2⟩
      have hB12 : Below wr.heap.size wr w2 := HB1.out.trans (hB2.mono HB1.out.size)
      have hR2 : RowAt w2 wg.heap.size wg.heap.size n qk := ownsRow_below HR.out hB12
      have f0 := hR2.warm (qk.length * 3)
      have f1 := hR2.warm (qk.length * 3 + 1)
      have f2 := hR2.warm (qk.length * 3 + 2)
      obtain ⟨c0, c1, c2⟩ := hR2.cell hlt
      have HF := hid (row_round HR.out hlt HPp.out HB.out hB12 (HQ1.out.below hB2) HQ.out HRV.out hlb2 (Nat.le_trans HB1.out.size hlb1) HD.out)
      clear hlb1 hlb2 hB2 hB12 hR2 HR HPp HB HQ1 HB1
      go_wp2
      go_roundw
      case rel =>
        obtain ⟨r1, r2, r3⟩ := HF.out _ rfl
        refine ⟨qk.length + 1, by omega, by go_num, _, _, _, by simp, r1, r2, r3, fun i hi => ?_⟩
        by_cases e : i = qk.length
        · simp [e]
        · simp only [e, if_false]
          exact HM.out i (by omega)
      case measure => simp [intOf]; omega
    · have hle : qk.length = n := by omega
      have hl2 : ¬ (qk.length : Int) < n := by omega
      have HL := hid (lay_any wg.heap.size room qk vk mk wg wr (by rw [hle]; exact hR) hPp hB (by omega) (by omega) r2)
      rw [hle] at HL
      have HM := hid hm
      rw [hle] at HM
      clear hR hPp hB hm hle
      go_wp2_with fail
      refine HL.out.mono ?_
      rintro e w1 ⟨p', rfl, hN⟩
      have HNN := hid hN
      clear hN
      go_wp2
      go_ret
      exact ⟨p', mk, rfl, HNN.out, HM.out⟩
end Go.Proofs.Ytahibklmcooanaa
