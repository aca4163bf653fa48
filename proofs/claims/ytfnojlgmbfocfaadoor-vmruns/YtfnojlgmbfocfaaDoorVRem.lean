/-
  remember: a byte is loaded, or stored.
-/
import Derived.Test.YtfnojlgmbfocfaaDoorVArr
import Derived.Deep.CutBlock
import Derived.Deep.DeepCutAuto
namespace Go.Proofs.YtfnojlgmbfocfaaDoor
open Go.RowKit
set_option linter.unusedVariables false
set_option linter.unusedSimpArgs false

theorem u8_wrap (z : Int) : IntKind.u8.wrap z = (((z % 256).toNat : Nat) : Int) := by
  simp [IntKind.wrap, IntKind.bits, IntKind.signed]
  omega

set_option maxHeartbeats 4000000 in
theorem rem_load (w : World) (B p q r : Nat) (vc vs vk vb : Value) (code : List InsL) (s : StL) (b : List Nat) (ld st : Nat) (h : MM w B p q r (memV q) vc vs vk vb code s b ld st) (hl : s.st.length ≤ 64) (h1 : 1 ≤ s.st.length) (hld : ld < 9223372036854775807) (hb : b.length ≤ 4611686018427387904) :
    Calls Tryd.prog 44 #[.pointer (some ⟨p, 0, none⟩), .int .i64 18] w fun e w' => e = .returned (.bool (decide (0 ≤ topL s.st 0 ∧ topL s.st 0 < b.length))) ∧
      ∃ vs', MM w' B p q r (memV q) vc vs' vk vb code (if 0 ≤ topL s.st 0 ∧ topL s.st 0 < b.length then ⟨s.pc, putL s.st 1 [((b.getD (topL s.st 0).toNat 0 : Nat) : Int)], s.ca⟩ else s) b (ld + 1) st ∧ Kp B q r w w' ∧ Fr B p vs vk w vs' vk w' := by
  obtain ⟨c0, c1, c2, c3, c4, f2, f3, f4⟩ := h.m.cells
  have hla := last_any w.drew B p (memV q) vc vs vk code s (h.m.below (Below.drew (Below.refl _ _))) 0 (by omega) hl
  have HM := hid h
  have hle := h.le
  have hpl := h.m.lt
  have hqB := h.q
  have hrB := h.r
  have hpq : p ≠ q := by have := h.q; have := h.m.base; omega
  have hpr : p ≠ r := by have := h.r; have := h.m.base; omega
  obtain ⟨tv, htv⟩ : ∃ tv, tv = topL s.st 0 := ⟨_, rfl⟩
  rw [← htv] at hla ⊢
  have HLD := hid (fun w1 (hm1 : MM w1 B p q r (memV q) vc vs vk vb code s b ld st) => load_any w1 q r b ld st vb hm1.h tv hld hb)
  obtain ⟨bx, hbx⟩ : ∃ bx : Nat, bx = b.getD tv.toNat 0 := ⟨_, rfl⟩
  rw [← hbx] at HLD ⊢
  have hx256 : bx < 256 := by
    rw [hbx, List.getD]
    cases hg : b[tv.toNat]? with
    | none => simp
    | some y => simp; exact h.h.lt256 y (List.mem_of_getElem? hg)
  have c1d : w.drew.cell? ⟨p, 1, none⟩ = some (memV q) := c1
  obtain ⟨x, t, hif, ht, hx⟩ : ∃ (x : Int) (t : Bool), (if 0 ≤ tv ∧ tv < (b.length : Int) then #[Value.int .u8 (bx : Int), .bool true] else #[.int .u8 0, .bool false]) = #[.int .u8 x, .bool t] ∧ t = decide (0 ≤ tv ∧ tv < (b.length : Int)) ∧ (t = true → x = (bx : Int)) := by
    by_cases hc : 0 ≤ tv ∧ tv < (b.length : Int)
    · exact ⟨bx, true, by rw [if_pos hc], (decide_eq_true hc).symm, fun _ => rfl⟩
    · exact ⟨0, false, by rw [if_neg hc], (decide_eq_false hc).symm, fun h => by cases h⟩
  obtain ⟨sN, hsN⟩ : ∃ sN : StL, sN = if 0 ≤ tv ∧ tv < (b.length : Int) then ⟨s.pc, putL s.st 1 [(bx : Int)], s.ca⟩ else s := ⟨_, rfl⟩
  have HSN : Hid ((t = true → sN = ⟨s.pc, putL s.st 1 [(bx : Int)], s.ca⟩) ∧ (t = false → sN = s)) := by
    unfold Hid
    refine ⟨fun h => ?_, fun h => ?_⟩
    · rw [h] at ht; rw [hsN, if_pos (of_decide_eq_true ht.symm)]
    · rw [h] at ht; rw [hsN, if_neg (of_decide_eq_false ht.symm)]
  rw [hif] at HLD
  rw [← ht, ← hsN]
  have HX := hid hx
  clear h hbx htv hif ht hx hsN
  unfold memV at *
  go_enter Tryd.func44, Tryd.ntmps44
  go_wp2_with fail
  go_cut [5, 6] (fun x5 x6 wx => x5 = .int .u8 x ∧ x6 = .bool t ∧ Hid (MM wx B p q r (.iface 29 (.pointer (some ⟨q, 0, none⟩))) vc vs vk vb code s b (ld + 1) st ∧ Kp B q r w wx ∧ Fr B p vs vk w vs vk wx))
  case first =>
    go_region_held3 (fun X => X.cell? ⟨p, 1, none⟩ = some (.iface 29 (.pointer (some ⟨q, 0, none⟩))))
      (first | (with_reducible exact c1d) | (with_reducible assumption))
      (first
        | (go_at_call 48
           refine hla.mono ?_
           rintro e w1 ⟨rfl, b1⟩
           have hm1 := HM.out.below (Below.trans (Below.drew (Below.refl w.heap.size w)) b1)
           have k1 := hm1.m.cells.2.1
           have hk0 : Kp B q r w w1 := Kp.of ((Below.trans (Below.drew (Below.refl w.heap.size w)) b1).mono hle)
           have HK0 := hid hk0
           have HF0 : Hid (Fr B p vs vk w vs vk w1) := Fr.of (Below.trans (Below.drew (Below.refl w.heap.size w)) b1)
           have HM1 := hid hm1
           have hld1 := HLD.out w1 hm1
           clear hla b1 hm1 hk0)
        | (go_at_call 50
           refine hld1.mono ?_
           rintro e w2 ⟨rfl, m2, kp2⟩
           have hm2 := HM1.out.asked m2 kp2
           have k2 := hm2.m.cells.2.1
           have HM2 := hid hm2
           have HK2 := hid (HK0.out.trans (kp2.mono HM1.out.le))
           have HF2 := hid (HF0.out.trans HK0.out.size (Fr.kp kp2 hqB hrB))
           clear hld1 m2 kp2 hm2))
    all_goals
      go_wp2
      go_meet
      case rel => exact ⟨rfl, rfl, HM2.out, HK2.out, HF2.out⟩
  case rest =>
    obtain ⟨rfl, rfl, hmk⟩ := hcut
    rename_i K2 hK2
    refine hK2 _ _ ?_
    cases t
    · have hs := HSN.out.2 rfl
      subst hs
      clear HX HSN
      go_wp2
      go_ret
      exact ⟨rfl, _, hmk.out.1, hmk.out.2.1, hmk.out.2.2⟩
    · have hs := HSN.out.1 rfl
      have hxx := HX.out rfl
      subst hxx
      obtain ⟨W, hW⟩ : ∃ W, W = wc.alloc (.cells #[.int .i64 (bx : Int)] 3) := ⟨_, rfl⟩
      have hbW : Below wc.heap.size wc W := by rw [hW]; exact below_alloc wc _
      have hmW := hmk.out.1.below hbW
      have hp := put_any W B p _ vc vs vk _ code s hmW.m 1 h1 hl [(bx : Int)] (by rw [hW]; exact sees_one wc _) (by simp)
      have HMW := hid hmW
      have HKW := hid (hmk.out.2.1.trans (Kp.of (hbW.mono hmk.out.1.le)))
      have HFW := hid (hmk.out.2.2.trans hmk.out.2.1.size (Fr.of hbW))
      have HS := hid hs
      clear hmW hbW HX HSN hs
      go_wp2_with fail
      rw [← hW]
      refine hp.mono ?_
      rintro e w3 ⟨rfl, vs', h3, b3, f3⟩
      have HM3 := hid (HMW.out.turned h3 b3)
      have HK3 := hid (HKW.out.trans (Kp.of b3))
      have HF3 := hid (HFW.out.trans HKW.out.size f3)
      clear h3 b3 f3 hp hW
      go_wp2
      go_ret
      exact ⟨rfl, _, by rw [HS.out]; exact HM3.out, HK3.out, HF3.out⟩

set_option maxHeartbeats 4000000 in
theorem rem_store (w : World) (B p q r : Nat) (vc vs vk vb : Value) (code : List InsL) (s : StL) (b : List Nat) (ld st : Nat) (h : MM w B p q r (memV q) vc vs vk vb code s b ld st) (hl : s.st.length ≤ 64) (h2 : 2 ≤ s.st.length) (hst : st < 9223372036854775807) (hb : b.length ≤ 4611686018427387904) :
    Calls Tryd.prog 44 #[.pointer (some ⟨p, 0, none⟩), .int .i64 19] w fun e w' => e = .returned (.bool (decide (0 ≤ topL s.st 0 ∧ topL s.st 0 < b.length))) ∧
      ∃ vs', MM w' B p q r (memV q) vc vs' vk vb code (if 0 ≤ topL s.st 0 ∧ topL s.st 0 < b.length then ⟨s.pc, putL s.st 2 [], s.ca⟩ else s) (if 0 ≤ topL s.st 0 ∧ topL s.st 0 < b.length then b.set (topL s.st 0).toNat (topL s.st 1 % 256).toNat else b) ld (st + 1) ∧ Kp B q r w w' ∧ Fr B p vs vk w vs' vk w' := by
  obtain ⟨c0, c1, c2, c3, c4, f2, f3, f4⟩ := h.m.cells
  have hla := last_any w.drew B p (memV q) vc vs vk code s (h.m.below (Below.drew (Below.refl _ _))) 0 (by omega) hl
  have HM := hid h
  have hle := h.le
  have hpl := h.m.lt
  have hqB := h.q
  have hrB := h.r
  have hpq : p ≠ q := by have := h.q; have := h.m.base; omega
  have hpr : p ≠ r := by have := h.r; have := h.m.base; omega
  have HLA := hid (fun w1 (hm1 : MM w1 B p q r (memV q) vc vs vk vb code s b ld st) => last_any w1 B p (memV q) vc vs vk code s hm1.m 1 (by omega) hl)
  obtain ⟨tv, htv⟩ : ∃ tv, tv = topL s.st 0 := ⟨_, rfl⟩
  obtain ⟨tz, htz⟩ : ∃ tz, tz = topL s.st 1 := ⟨_, rfl⟩
  rw [← htv] at hla ⊢
  rw [← htz] at HLA ⊢
  obtain ⟨bx, hbx⟩ : ∃ bx : Nat, bx = (tz % 256).toNat := ⟨_, rfl⟩
  have hw8 : IntKind.u8.wrap tz = (bx : Int) := by rw [hbx]; exact u8_wrap tz
  have hx256 : bx < 256 := by omega
  rw [← hbx]
  have HLD := hid (fun w1 (hm1 : MM w1 B p q r (memV q) vc vs vk vb code s b ld st) => store_any w1 q r b ld st vb hm1.h tv bx hx256 hst hb)
  have c1d : w.drew.cell? ⟨p, 1, none⟩ = some (memV q) := c1
  obtain ⟨t, ht⟩ : ∃ (t : Bool), t = decide (0 ≤ tv ∧ tv < (b.length : Int)) := ⟨_, rfl⟩
  obtain ⟨sN, hsN⟩ : ∃ sN : StL, sN = if 0 ≤ tv ∧ tv < (b.length : Int) then ⟨s.pc, putL s.st 2 [], s.ca⟩ else s := ⟨_, rfl⟩
  obtain ⟨bN, hbN⟩ : ∃ bN : List Nat, bN = if 0 ≤ tv ∧ tv < (b.length : Int) then b.set tv.toNat bx else b := ⟨_, rfl⟩
  have HSN : Hid ((t = true → sN = ⟨s.pc, putL s.st 2 [], s.ca⟩) ∧ (t = false → sN = s)) := by
    unfold Hid
    refine ⟨fun h => ?_, fun h => ?_⟩
    · rw [h] at ht; rw [hsN, if_pos (of_decide_eq_true ht.symm)]
    · rw [h] at ht; rw [hsN, if_neg (of_decide_eq_false ht.symm)]
  rw [← ht, ← hbN] at HLD
  rw [← ht, ← hsN, ← hbN]
  clear h hbx htv htz ht hsN hbN hx256
  unfold memV at *
  go_enter Tryd.func44, Tryd.ntmps44
  go_wp2_with fail
  go_cut [7] (fun x7 wx => x7 = .bool t ∧ Hid (MM wx B p q r (.iface 29 (.pointer (some ⟨q, 0, none⟩))) vc vs vk vb code s bN ld (st + 1) ∧ Kp B q r w wx ∧ Fr B p vs vk w vs vk wx))
  case first =>
    go_region_held3 (fun X => X.cell? ⟨p, 1, none⟩ = some (.iface 29 (.pointer (some ⟨q, 0, none⟩))))
      (first | (with_reducible exact c1d) | (with_reducible assumption))
      (first
        | (go_at_call 48
           refine hla.mono ?_
           rintro e w1 ⟨rfl, b1⟩
           have hm1 := HM.out.below (Below.trans (Below.drew (Below.refl w.heap.size w)) b1)
           have k1 := hm1.m.cells.2.1
           have hk0 : Kp B q r w w1 := Kp.of ((Below.trans (Below.drew (Below.refl w.heap.size w)) b1).mono hle)
           have HK0 := hid hk0
           have HF0 : Hid (Fr B p vs vk w vs vk w1) := Fr.of (Below.trans (Below.drew (Below.refl w.heap.size w)) b1)
           have HM1 := hid hm1
           have hla2 := HLA.out w1 hm1
           clear hla b1 hm1 hk0)
        | (go_at_call 48
           refine hla2.mono ?_
           rintro e w2 ⟨rfl, b2⟩
           have hm2 := HM1.out.below b2
           have k2 := hm2.m.cells.2.1
           have HK1 := hid (HK0.out.trans (Kp.of (b2.mono HM1.out.le)))
           have HF1 := hid (HF0.out.trans HK0.out.size (Fr.of b2))
           have HM2 := hid hm2
           have hst1 := HLD.out w2 hm2
           clear hla2 b2 hm2)
        | (go_at_call 51
           refine hst1.mono ?_
           rintro e w3 ⟨rfl, m3, kp3⟩
           have hm3 := HM2.out.asked m3 kp3
           have k3 := hm3.m.cells.2.1
           have HM3 := hid hm3
           have HK3 := hid (HK1.out.trans (kp3.mono HM2.out.le))
           have HF3 := hid (HF1.out.trans HK1.out.size (Fr.kp kp3 hqB hrB))
           clear hst1 m3 kp3 hm3))
    all_goals
      go_wp2
      go_meet
      case rel => exact ⟨rfl, HM3.out, HK3.out, HF3.out⟩
  case rest =>
    obtain ⟨rfl, hmk⟩ := hcut
    rename_i K2 hK2
    refine hK2 _ _ ?_
    cases t
    · have hs := HSN.out.2 rfl
      subst hs
      clear HSN
      go_wp2
      go_ret
      exact ⟨rfl, _, hmk.out.1, hmk.out.2.1, hmk.out.2.2⟩
    · have hs := HSN.out.1 rfl
      have hp := put_any wc B p _ vc vs vk _ code s hmk.out.1.m 2 h2 hl [] (Sees.nil wc) (by simp)
      have HS := hid hs
      clear HSN hs
      go_wp2_with fail
      refine hp.mono ?_
      rintro e w3 ⟨rfl, vs', h3, b3, f3⟩
      have HM3 := hid (hmk.out.1.turned h3 b3)
      have HK3 := hid (hmk.out.2.1.trans (Kp.of b3))
      have HF3 := hid (hmk.out.2.2.trans hmk.out.2.1.size f3)
      clear h3 b3 f3 hp
      go_wp2
      go_ret
      exact ⟨rfl, _, by rw [HS.out]; exact HM3.out, HK3.out, HF3.out⟩
end Go.Proofs.YtfnojlgmbfocfaaDoor
