/-
  Mailboxes that nobody made; the law PortNobody.
-/
import Derived.Test.YtahibklmcooanaaOAwakeB
namespace Go.Proofs.Ytahibklmcooanaa
open Go.RowKit
set_option linter.unusedVariables false
set_option linter.unusedSimpArgs false

set_option maxHeartbeats 1000000 in
theorem refused_no (pv : Value) (who to : Int) (vs vi vo : Value) (x : ByteArray) (w : World) (hN : PNob w pv) :
    Calls Try.prog 30 #[pv, suV who vs vi vo, .int .i64 to, .string x] w fun e w' => e = .returned (.int .i64 1) ∧ Below w.heap.size w w' := by
  obtain ⟨W, hW⟩ : ∃ W, W = w.alloc (.cells #[.int .i64 who, vs, vi, vo] 39) := ⟨_, rfl⟩
  have hbW : Below w.heap.size w W := by rw [hW]; exact below_alloc w _
  have hX : SuBox W w.heap.size who vs vi vo := by rw [hW]; exact SuBox.new _ _ _ _ _
  have hU := hid (isUser_no pv who W (hN.below hbW))
  obtain ⟨x0, x1, x2, x3⟩ := hX
  have HB := hid hbW
  have HW := hid hW
  clear hN hbW hW
  unfold suV
  go_enter Try.func30, Try.ntmps30
  go_wp2_with fail
  rw [← HW.out]
  clear HW
  go_wp2_with fail
  refine hU.out.mono ?_
  rintro e w1 ⟨rfl, hw1⟩
  subst hw1
  go_wp2
  go_ret
  exact ⟨rfl, HB.out⟩
set_option maxHeartbeats 1000000 in
theorem send_no (pv : Value) (who to : Int) (vs vi vo : Value) (x : ByteArray) (op : Bool) (w : World) (hN : PNob w pv) :
    Calls Try.prog 15 #[pv, suV who vs vi vo, .int .i64 to, .string x, .bool op] w fun e w' => e = .returned (.tuple #[.slice none 0 0, .int .i64 1]) ∧ Below w.heap.size w w' := by
  obtain ⟨W, hW⟩ : ∃ W, W = w.alloc (.cells #[.int .i64 who, vs, vi, vo] 39) := ⟨_, rfl⟩
  have hbW : Below w.heap.size w W := by rw [hW]; exact below_alloc w _
  have hX : SuBox W w.heap.size who vs vi vo := by rw [hW]; exact SuBox.new _ _ _ _ _
  have hR := hid (refused_no pv who to vs vi vo x W (hN.below hbW))
  obtain ⟨x0, x1, x2, x3⟩ := hX
  have HB := hid hbW
  have HW := hid hW
  have hsz := hbW.size
  clear hN hW hbW
  unfold suV at *
  go_enter Try.func15, Try.ntmps15
  go_wp2_with fail
  rw [← HW.out]
  clear HW
  go_wp2_with fail
  refine hR.out.mono ?_
  rintro e w1 ⟨rfl, hB1⟩
  have HB1 := hid (HB.out.trans (hB1.mono hsz))
  clear hB1 hR
  go_wp2
  go_ret2
  exact ⟨rfl, HB1.out⟩
theorem copy_no (pv : Value) (w : World) (hN : PNob w pv) :
    Calls Try.prog 12 #[pv] w fun e w' => e = .returned (.pointer none) ∧ w' = w := by
  have hg := hid (pgiven_no pv w hN)
  clear hN
  go_enter Try.func12, Try.ntmps12
  go_wp2_with fail
  refine hg.out.mono ?_
  rintro e w1 ⟨rfl, hw1⟩
  subst hw1
  go_wp2
  go_ret
  exact ⟨rfl, rfl⟩
theorem neqP_nil (w : World) : (binOp .neq 23 (.pointer none) (.pointer none)).run Try.prog w = .ok (.bool false) w := by
  have h : ∀ d : Nat, (Op.equalIn (d + 1) 23 (.pointer none) (.pointer none)).run Try.prog w = .ok true w := fun d => by
    simp [Op.equalIn, run_underlying Try.underlying23]
  simp only [binOp]
  simp [Op.equal, Op.maxDepth, h 9999]

set_option maxRecDepth 20000 in
set_option maxHeartbeats 4000000 in
theorem nobody_walk (who to : Int) (vs vi vo : Value) (w : World) :
    Calls Try.prog 6 #[suV who vs vi vo, .int .i64 to] w fun e w' => e = .returned (.bool true) ∧ Below w.heap.size w w' := by
  obtain ⟨W, hW⟩ : ∃ W, W = ((w.alloc (.cells #[.int .i64 who, vs, vi, vo] 39)).alloc (.cells #[.pointer none, .slice none 0 0] 61)).alloc (.cells #[.pointer none, .pointer (some ⟨w.heap.size + 1, 0, none⟩)] 23) := ⟨_, rfl⟩
  have hb : Below w.heap.size w W := by rw [hW]; exact ((below_alloc w _).alloc (by simp) _).alloc (by simp; omega) _
  have hX : SuBox W w.heap.size who vs vi vo := by rw [hW]; exact ((SuBox.new w who vs vi vo).below (below_alloc _ _)).below (below_alloc _ _)
  have s2 : ((w.alloc (.cells #[.int .i64 who, vs, vi, vo] 39)).alloc (.cells #[.pointer none, .slice none 0 0] 61)).heap.size = w.heap.size + 2 := by simp
  have l01 : W.cell? ⟨w.heap.size + 2, 0, none⟩ = some (.pointer none) ∧ W.cell? ⟨w.heap.size + 2, 1, none⟩ = some (.pointer (some ⟨w.heap.size + 1, 0, none⟩)) := by
    rw [hW, ← s2]
    generalize (w.alloc (.cells #[.int .i64 who, vs, vi, vo] 39)).alloc (.cells #[.pointer none, .slice none 0 0] 61) = V
    exact ⟨by simp, by simp⟩
  have l0 := l01.1
  have l1 := l01.2
  have z0 : W.cell? ⟨w.heap.size + 1, 0, none⟩ = some (.pointer none) := by
    have e : ((w.alloc (.cells #[.int .i64 who, vs, vi, vo] 39)).alloc (.cells #[.pointer none, .slice none 0 0] 61)).cell? ⟨w.heap.size + 1, 0, none⟩ = some (.pointer none) := by
      rw [show w.heap.size + 1 = (w.alloc (.cells #[.int .i64 who, vs, vi, vo] 39)).heap.size by simp]
      generalize w.alloc (.cells #[.int .i64 who, vs, vi, vo] 39) = V
      simp
    rw [hW]
    exact ((below_alloc _ _).cell (World.block_lt_of_cell? _ _ e)).trans e
  clear s2 l01
  have HX := hid hX
  have HB := hid hb
  have HW := hid hW
  have hPN := neqP_nil
  have hEQ := neqM
  have hGU := guardM .neq
  clear hb hX hW
  unfold suV
  go_enter Try.func6, Try.ntmps6
  go_wp2
  rw [← HW.out]
  go_loopw [6] (fun i wr => ∃ k : Nat, k ≤ 2 ∧ i = .int .i64 k ∧ Below W.heap.size W wr) (fun i _ => 2 - (intOf i).toNat)
  case atStart => exact ⟨0, by decide, rfl, Below.refl _ _⟩
  case round =>
    obtain ⟨k, hk, rfl, hBr⟩ := hrel
    have hk3 : k = 2 ∨ k < 2 := by omega
    rcases hk3 with rfl | hk2
    · have HBr := hid hBr
      clear hBr
      go_wp2_with fail
      refine (awake_any _).mono ?_
      rintro e w1 ⟨rfl, hB⟩
      go_wp2
      go_ret
      exact ⟨rfl, (HB.out.trans (HBr.out.mono HB.out.size)).trans (hB.mono (Nat.le_trans HB.out.size HBr.out.size))⟩
    · obtain ⟨pv, hpv, hN⟩ : ∃ pv, W.cell? ⟨w.heap.size + 2, k, none⟩ = some pv ∧ PNob W pv := by
        have : k = 0 ∨ k = 1 := by omega
        rcases this with rfl | rfl
        · exact ⟨_, l0, Or.inl rfl⟩
        · exact ⟨_, l1, Or.inr ⟨_, rfl, z0⟩⟩
      have c0 := (hBr.cell (World.block_lt_of_cell? W _ hpv)).trans hpv
      obtain ⟨x0, x1, x2, x3⟩ := HX.out.below hBr
      have hsn := hid (send_no pv who to vs vi vo ⟨#[120]⟩ true wr (hN.below hBr))
      unfold suV at hsn
      have HBr := hid hBr
      have hkI : (k : Int) < 2 := by omega
      clear hBr l0 l1 z0
      go_wp2_with fail
      refine hsn.out.mono ?_
      clear hsn c0 x0 x1 x2 x3
      rintro e w1 ⟨rfl, hB1⟩
      have HB1 := hid (HBr.out.trans (hB1.mono HBr.out.size))
      have htk := hid (take_no pv to w1 (fun w' hw' => isUser_no pv to w' ((hN.below HB1.out).below hw')))
      unfold Mq.mV Mq.z0 at htk
      clear hB1 HBr
      go_wp2_with fail
      refine htk.out.mono ?_
      clear htk
      rintro e w2 ⟨rfl, hB2⟩
      have HB2 := hid (HB1.out.trans (hB2.mono HB1.out.size))
      clear hB2 HB1
      have hln := hid (fun (V : World) (hV : Below w2.heap.size w2 V) => len_no pv to V (isUser_no pv to V ((hN.below HB2.out).below hV)))
      have hcp := hid (fun (V : World) (hV : Below w2.heap.size w2 V) => copy_no pv V ((hN.below HB2.out).below hV))
      have b3 := below_alloc w2 (.cells #[.int .i64 0, .string ByteArray.empty] 55)
      have HL := hid (hln.out _ b3)
      have HC := hid (hcp.out _ b3)
      have H3 := hid (HB2.out.trans (b3.mono HB2.out.size))
      clear hln hcp b3
      go_wp2_with fail
      refine HL.out.mono ?_
      rintro e w4 ⟨rfl, hw4⟩
      subst hw4
      go_wp2_with fail
      refine HC.out.mono ?_
      rintro e w5 ⟨rfl, hw5⟩
      subst hw5
      go_wp2
      go_roundw
      case rel => exact ⟨k + 1, by omega, by go_num, H3.out⟩
      case measure => simp [intOf]; omega
end Go.Proofs.Ytahibklmcooanaa
