/-
  Mailboxes: New.
-/
import Derived.Test.YtahibklmcooanaaONew
namespace Go.Proofs.Ytahibklmcooanaa
open Go.RowKit
set_option linter.unusedVariables false
set_option linter.unusedSimpArgs false

/-- A queue that New has just made. -/
theorem qnew_any (room : Int) (w : World) (h1 : 1 ≤ room) (h2 : room ≤ 64) :
    Calls Try.prog 21 #[.int .i64 room] w fun e w' => e = .returned (.tuple #[.pointer (some ⟨w.heap.size, 0, none⟩), .int .i64 0]) ∧ Mq.QAt w' w.heap.size room 0 (.slice none 0 0) 0 [] [] ∧ Below w.heap.size w w' := by
  refine (Mq.new_any room w h1 (by omega)).mono ?_
  rintro e w' ⟨rfl, hL, hB⟩
  exact ⟨rfl, ⟨hL, World.ownsRow_nil _ _ _ _, ⟨Nat.le_refl _, Or.inr ⟨rfl, rfl⟩, fun i hi => by simp at hi⟩, by simp; omega, h1, by omega⟩, hB⟩
def rg0 : Rg := ⟨0, .slice none 0 0, 0, []⟩
/-- What is made so far. -/
def Made (w0 w : World) (bx n : Nat) (room : Int) (k : Nat) : Prop :=
  ∃ ql v m, ql.length = k ∧ RowAt w w0.heap.size bx n ql ∧ PoPart w0 w room ql v m ∧ Below w0.heap.size w0 w ∧ ∀ i, i < k → m i = []

set_option maxHeartbeats 4000000 in
theorem new_any (n : Nat) (room : Int) (w : World) (n1 : 1 ≤ n) (n2 : n ≤ 16) (h1 : 1 ≤ room) (h2 : room ≤ 64) :
    Calls Try.prog 8 #[.int .i64 n, .int .i64 room] w fun e w' => ∃ p m, e = .returned (.tuple #[.pointer (some ⟨p, 0, none⟩), .int .i64 0]) ∧ PoNew w w' p room n m ∧ ∀ i, i < n → m i = [] := by
  obtain ⟨i0, hi, hz0, hz1, hz2⟩ := info_parts Try.infoBox
  have a1 : ¬ (n : Int) < 1 := by omega
  have a2 : ¬ (16 : Int) < n := by omega
  have a3 : ¬ room < 1 := by omega
  have a4 : ¬ 64 < room := by omega
  have hb2 : i0.bytes * n ≤ 281474976710656 := by rw [hz2]; omega
  have hb3 : n ≤ maxLen := by simp only [maxLen]; omega
  go_enter Try.func8, Try.ntmps8
  go_wp2_with (at_make; refine wpList_make_full _ rfl _ _ 59 rfl w.heap.size 69 i0 (.agg #[.pointer none, .slice none 0 0, .slice none 0 0]) 3 Try.underlying59 hi hz0 hz1 .i64 .i64 _ _ n rfl rfl rfl rfl hb2 hb3 (Nat.le_refl _) ?_; intro w0 hown0 hgrow0; have hB0 : Below w.heap.size w w0 := (Below.refl _ _).grown hgrow0 (Nat.le_refl _) (fun k hk => by cases hk))
  have H0 : Hid (Made w w0 w.heap.size n room 0) := by
    refine hid ⟨[], fun _ => rg0, fun _ => [], rfl, ?_, PoPart.nil _ _ _ _ _, hB0, fun i hi => by omega⟩
    have h := hown0
    rw [show (Value.agg #[.pointer none, .slice none 0 0, .slice none 0 0]).cells = #[.pointer none, .slice none 0 0, .slice none 0 0] from rfl, bZ_made] at h
    unfold RowAt
    simpa [bC] using h
  clear hown0 hgrow0 hB0
  go_loopw [28] (fun i wr => ∃ k : Nat, k ≤ n ∧ i = .int .i64 k ∧ Made w wr w.heap.size n room k) (fun i _ => n - (intOf i).toNat)
  case atStart => exact ⟨0, Nat.zero_le _, rfl, H0.out⟩
  case round =>
    clear H0
    obtain ⟨k, hk, rfl, ql, v, m, hql, hR, hP, hB, hm⟩ := hrel
    subst hql
    by_cases hlt : ql.length < n
    · have hltI : (ql.length : Int) < n := by omega
      have HR := hid hR
      have HP := hid hP
      have HB := hid hB
      have HM := hid hm
      clear hR hP hB hm
      go_wp2_with fail
      refine (qnew_any room wr h1 h2).mono ?_
      rintro e w1 ⟨rfl, hQ1, hB1⟩
      have HQ1 := hid hQ1
      have HB1 := hid hB1
      have hk1 : ql.length ≤ 1000 := by omega
      clear hQ1 hB1
      go_wp2_with fail
      refine (boxOf_any ql.length wr.heap.size hk1 w1).mono ?_
      rintro e w2 ⟨lb, rfl, hlb1, hlb2, hB2⟩
      have hB12 : Below wr.heap.size wr w2 := HB1.out.trans (hB2.mono HB1.out.size)
      have hR2 : RowAt w2 w.heap.size w.heap.size n ql := ownsRow_below HR.out hB12
      have f0 := hR2.warm (ql.length * 3)
      have f1 := hR2.warm (ql.length * 3 + 1)
      have f2 := hR2.warm (ql.length * 3 + 2)
      obtain ⟨c0, c1, c2⟩ := hR2.cell hlt
      have HF := hid (row_round HR.out hlt HP.out HB.out hB12 (HQ1.out.below hB2) (Nat.le_refl _) (fun j hj => by simp [Value.ownBlock] at hj) hlb2 (Nat.le_trans HB1.out.size hlb1) ⟨by decide, by decide⟩)
      clear hlb1 hlb2 hB2 hB12 hR2 HR HP HB HQ1 HB1
      go_wp2
      go_roundw
      case rel =>
        obtain ⟨r1, r2, r3⟩ := HF.out _ rfl
        refine ⟨ql.length + 1, by omega, by go_num, _, _, _, by simp, r1, r2, r3, fun i hi => ?_⟩
        by_cases e : i = ql.length
        · simp [e]
        · simp only [e, if_false]
          exact HM.out i (by omega)
      case measure => simp [intOf]; omega
    · have hle : ql.length = n := by omega
      have hl2 : ¬ (ql.length : Int) < n := by omega
      have HL := hid (lay_any w.heap.size room ql v m w wr (by rw [hle]; exact hR) hP hB (by omega) (by omega) h2)
      rw [hle] at HL
      have HM := hid hm
      rw [hle] at HM
      clear hR hP hB hm hle
      go_wp2_with fail
      refine HL.out.mono ?_
      rintro e w1 ⟨p, rfl, hN⟩
      have HN := hid hN
      clear hN
      go_wp2
      go_ret2
      exact ⟨p, m, rfl, HN.out, HM.out⟩
end Go.Proofs.Ytahibklmcooanaa
