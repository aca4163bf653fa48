/-
  The walk of the law EpNobody.
-/
import Derived.Test.YtkaffbchlngfaaaDoorEAwake
import Derived.Test.YtkaffbchlngfaaaDoorENob
namespace Go.Proofs.YtkaffbchlngfaaaDoor
open Go.RowKit
set_option linter.unusedVariables false
set_option linter.unusedSimpArgs false

theorem neqE_nil (w : World) : (binOp .neq 24 (.pointer none) (.pointer none)).run Tryd.prog w = .ok (.bool false) w := by
  have h : ∀ d : Nat, (Op.equalIn (d + 1) 24 (.pointer none) (.pointer none)).run Tryd.prog w = .ok true w := fun d => by
    simp [Op.equalIn, run_underlying Tryd.underlying24]
  simp only [binOp]
  simp [Op.equal, Op.maxDepth, h 9999]

set_option maxRecDepth 100000 in
set_option maxHeartbeats 4000000 in
theorem nobody_walk (n : Int) (s : ByteArray) (w : World) (hT : Tabs w) :
    Calls Tryd.prog 6 #[.int .i64 n, .string s] w fun e w' => e = .returned (.bool true) ∧ Below w.heap.size w w' := by
  obtain ⟨W, hW⟩ : ∃ W, W = (w.alloc (.cells #[.pointer none, .slice none 0 0, .pointer none, .pointer none] 60)).alloc (.cells #[.pointer none, .pointer (some ⟨w.heap.size, 0, none⟩)] 24) := ⟨_, rfl⟩
  have hb : Below w.heap.size w W := by rw [hW]; exact below_alloc2 w _ _
  have z : W.heap[w.heap.size]? = some (.cells #[.pointer none, .slice none 0 0, .pointer none, .pointer none] 60 (0, 0)) ∧ W.heap[w.heap.size + 1]? = some (.cells #[.pointer none, .pointer (some ⟨w.heap.size, 0, none⟩)] 24 (0, 0)) := by
    rw [hW]
    exact blk2 (Below.refl _ _)
  have hz2 := (Array.getElem?_eq_some_iff.1 z.2).1
  have HL : Hid (∀ wr, Below W.heap.size W wr → ∀ k, k < 2 → ∃ v, wr.cell? ⟨w.heap.size + 1, k, none⟩ = some v ∧ ENo wr v) := fun wr hr k hk => by
    have y1 := (hr.block w.heap.size (by omega)).trans z.1
    have y2 := (hr.block (w.heap.size + 1) hz2).trans z.2
    match k, hk with
    | 0, _ => exact ⟨_, by simp [World.cell?, y2], .inl rfl⟩
    | 1, _ => exact ⟨_, by simp [World.cell?, y2], .inr ⟨w.heap.size, rfl, by simp [World.cell?, y1]⟩⟩
  have HAW : Hid (∀ wr, Below W.heap.size W wr → Calls Tryd.prog 10 #[] wr fun e w' => e = .returned (.bool true) ∧ Below wr.heap.size wr w') := fun wr hr => awake_any wr (hT.below (hb.trans (hr.mono hb.size)))
  have HB := hid hb
  clear hb z hT hz2
  go_enter Tryd.func6, Tryd.ntmps6
  go_wp2
  rw [← hW]
  clear hW
  go_loopw [6] (fun i wr => ∃ k : Nat, k ≤ 2 ∧ i = .int .i64 k ∧ Hid (Below W.heap.size W wr)) (fun i _ => 2 - (intOf i).toNat)
  case atStart => exact ⟨0, by omega, rfl, Below.refl _ _⟩
  case round =>
    obtain ⟨k, hk, rfl, HR⟩ := hrel
    by_cases hlt : k < 2
    · obtain ⟨v, hv, hno⟩ := HL.out wr HR.out k hlt
      have hrun := run_no v wr hno n
      have HNO := hid hno
      clear hno
      go_wp2_with fail
      refine hrun.mono ?_
      rintro e w1 ⟨rfl, b1⟩
      obtain ⟨X, hX⟩ : ∃ X, X = w1.alloc (.cells #[.int .i64 0, .int .i64 0, .int .i64 0] 52) := ⟨_, rfl⟩
      have bX : Below w1.heap.size w1 X := by rw [hX]; exact below_alloc w1 _
      have bR : Below wr.heap.size wr X := b1.trans (bX.mono b1.size)
      have hno : ENo X v := HNO.out.below bR
      have HBX := hid (HR.out.trans (bR.mono HR.out.size))
      have hargs := args_no v X hno n
      have htext := text_no v X hno 0 0
      have hend := end_no v X hno
      have hbegin := begin_no v X hno s 1
      have hgive := give_no v X hno n
      have hbusy := busy_no v X hno
      have hinput := input_no v X hno
      have hfuel := fuel_no v X hno
      have hlay := lay_no v X hno 0 ⟨#[]⟩
      have hpages := pages_no v X hno
      have hcopy := copy_no v X hno
      have hnil := neqE_nil X
      clear hrun b1 bX bR hno hv
      go_wp2_with fail
      rw [← hX]
      clear hX
      refine hargs.mono ?_
      rintro e w2 ⟨rfl, hw2⟩
      subst w2
      clear hargs
      go_wp2_with fail
      refine htext.mono ?_
      rintro e w2 ⟨rfl, hw2⟩
      subst w2
      clear htext
      go_wp2_with fail
      refine hend.mono ?_
      rintro e w2 ⟨rfl, hw2⟩
      subst w2
      clear hend
      go_wp2_with fail
      refine hbegin.mono ?_
      rintro e w2 ⟨rfl, hw2⟩
      subst w2
      clear hbegin
      go_wp2_with fail
      refine hgive.mono ?_
      rintro e w2 ⟨rfl, hw2⟩
      subst w2
      clear hgive
      go_wp2_with fail
      refine hbusy.mono ?_
      rintro e w2 ⟨rfl, hw2⟩
      subst w2
      clear hbusy
      go_wp2_with fail
      refine hinput.mono ?_
      rintro e w2 ⟨rfl, hw2⟩
      subst w2
      clear hinput
      go_wp2_with fail
      refine hfuel.mono ?_
      rintro e w2 ⟨rfl, hw2⟩
      subst w2
      clear hfuel
      go_wp2_with fail
      refine hlay.mono ?_
      rintro e w2 ⟨rfl, hw2⟩
      subst w2
      clear hlay
      go_wp2_with fail
      refine hpages.mono ?_
      rintro e w2 ⟨rfl, hw2⟩
      subst w2
      clear hpages
      go_wp2_with fail
      refine hcopy.mono ?_
      rintro e w2 ⟨rfl, hw2⟩
      subst w2
      clear hcopy
      go_wp2
      go_roundw
      case rel => exact ⟨k + 1, by omega, by go_num, HBX⟩
      case measure => simp [intOf]; omega
    · have haw := HAW.out wr HR.out
      have hk2 : k = 2 := by omega
      subst hk2
      go_wp2_with fail
      refine haw.mono ?_
      rintro e w2 ⟨rfl, b2⟩
      have HE := hid (HB.out.trans ((HR.out.trans (b2.mono HR.out.size)).mono HB.out.size))
      clear haw b2
      go_wp2
      go_ret
      exact ⟨rfl, HE.out⟩
end Go.Proofs.YtkaffbchlngfaaaDoor
