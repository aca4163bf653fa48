/-
  ParseNobody: a parser that nobody made answers nothing: the walk.
-/
import Derived.Test.YtllhibdjopfcnaaDoorPNobody
namespace Go.Proofs.YtllhibdjopfcnaaDoor
open Go.RowKit
set_option linter.unusedVariables false

set_option maxRecDepth 20000 in
set_option maxHeartbeats 16000000 in
theorem nobody_walk (s0 : ByteArray) (w : World) (hM : ML w) :
    Calls Tryd.prog 6 #[.string s0] w fun e w' => e = .returned (.bool true) ∧ Below w.heap.size w w' := by
  have hgl := hM.lt
  have HM := hid hM
  have hN1 : (w.alloc (.cells #[.pointer none, .string ⟨#[]⟩, .int .i64 0] 46)).heap[w.heap.size]? = some (.cells #[.pointer none, .string ⟨#[]⟩, .int .i64 0] 46 (0, 0)) := heap_alloc_new w _
  have hB1 := below_alloc w (.cells #[.pointer none, .string ⟨#[]⟩, .int .i64 0] 46)
  obtain ⟨w1, hw1⟩ : ∃ w1, w1 = w.alloc (.cells #[.pointer none, .string ⟨#[]⟩, .int .i64 0] 46) := ⟨_, rfl⟩
  rw [← hw1] at hN1 hB1
  have hz1 : w1.heap.size = w.heap.size + 1 := by rw [hw1]; simp
  have c1 : w1.cell? ⟨w.heap.size, 0, none⟩ = some (.pointer none) := by simp [World.cell?, hN1]
  have hN2 : (w1.alloc (.cells #[.pointer none, .pointer (some ⟨w.heap.size, 0, none⟩)] 30)).heap[w1.heap.size]? = some (.cells #[.pointer none, .pointer (some ⟨w.heap.size, 0, none⟩)] 30 (0, 0)) := heap_alloc_new w1 _
  have hB2 := below_alloc w1 (.cells #[.pointer none, .pointer (some ⟨w.heap.size, 0, none⟩)] 30)
  obtain ⟨w2, hw2⟩ : ∃ w2, w2 = w1.alloc (.cells #[.pointer none, .pointer (some ⟨w.heap.size, 0, none⟩)] 30) := ⟨_, rfl⟩
  rw [← hw2] at hN2 hB2
  have hz2 : w2.heap.size = w.heap.size + 2 := by rw [hw2]; simp; omega
  have hNo2 : NoAt w2 (.pointer (some ⟨w.heap.size, 0, none⟩)) := Or.inr ⟨w.heap.size, rfl, by omega, (hB2.cell (p := ⟨w.heap.size, 0, none⟩) (by simp only; omega)).trans c1⟩
  have d0 : w2.cell? ⟨w.heap.size + 1, 0, none⟩ = some (.pointer none) := by rw [← hz1]; simp [World.cell?, hN2]
  have d1 : w2.cell? ⟨w.heap.size + 1, 1, none⟩ = some (.pointer (some ⟨w.heap.size, 0, none⟩)) := by rw [← hz1]; simp [World.cell?, hN2]
  have HBw := hid (hB1.trans (hB2.mono (by omega)))
  have HW : Hid (w2 = (w.alloc (.cells #[.pointer none, .string ⟨#[]⟩, .int .i64 0] 46)).alloc (.cells #[.pointer none, .pointer (some ⟨w.heap.size, 0, none⟩)] 30)) := by unfold Hid; rw [hw2, hw1]
  have HNO := hid hNo2
  have HD0 := hid d0
  have HD1 := hid d1
  have HZ2 := hid hz2
  obtain ⟨p, hp⟩ : ∃ p, p = w.heap.size := ⟨_, rfl⟩
  clear hN1 hB1 hw1 hz1 c1 hN2 hB2 hw2 hNo2 d0 d1 hM hz2
  go_enter Tryd.func6, Tryd.ntmps6
  go_wp2_with fail
  rw [← HW.out]
  go_loopw [4] (fun i wr => ∃ (k : Nat), k ≤ 2 ∧ i = .int .i64 (k : Int) ∧ Below w2.heap.size w2 wr) (fun i _ => 2 - (intOf i).toNat)
  case atStart => exact ⟨0, by omega, rfl, Below.refl _ _⟩
  case round =>
    obtain ⟨k, hk, rfl, hB⟩ := hrel
    have HB := hid hB
    have hz := HZ2.out
    have e0 := (hB.cell (p := ⟨w.heap.size + 1, 0, none⟩) (by simp; omega)).trans HD0.out
    have e1 := (hB.cell (p := ⟨w.heap.size + 1, 1, none⟩) (by simp; omega)).trans HD1.out
    have hNo := HNO.out.below hB
    have hMr := (HM.out.below HBw.out hgl).below hB (by omega)
    clear hB hz
    rcases (by omega : k = 0 ∨ k = 1 ∨ k = 2) with rfl | rfl | rfl
    · skip
      have hNx := next_no (.pointer none) wr (Or.inl rfl)
      have HNo := hid (show NoAt wr (.pointer none) from Or.inl rfl)
      have hsb := HB.out.size
      go_wp2_with fail
      refine hNx.mono ?_
      clear hNx
      rintro e w3 ⟨rfl, hB3⟩
      have hR4 := ReqAt.new w3 (.string ⟨#[]⟩) (.string ⟨#[]⟩) (.int .i64 0) (.slice none 0 0) (.string ⟨#[]⟩) (.slice none 0 0) (.string ⟨#[]⟩) (.bool false)
      have hBa := below_alloc w3 (.cells #[.string ⟨#[]⟩, .string ⟨#[]⟩, .int .i64 0, .slice none 0 0, .string ⟨#[]⟩, .slice none 0 0, .string ⟨#[]⟩, .bool false] 38)
      obtain ⟨y0, y1, y2, y3, y4, y5, y6, y7⟩ := hR4.cells
      have hB4 := hB3.trans (hBa.mono hB3.size)
      have hNo4 := HNo.out.below hB4
      have hFe := feed_no (.pointer none) s0 _ hNo4
      have HB4 := hid (HB.out.trans (hB4.mono hsb))
      have HSa := hid (fun w => rsame_zero w)
      have HNo4 := hid hNo4
      have hsb4 := hB4.size
      clear hB3 hR4 hBa hB4 hNo4 HNo
      go_wp2_with fail
      refine hFe.mono ?_
      clear hFe
      rintro e w5 ⟨rfl, hw5⟩
      subst hw5
      go_wp2_with fail
      refine (HSa.out _).mono ?_
      clear HSa
      rintro e w6 ⟨rfl, hB6⟩
      have hNo6 := HNo4.out.below hB6
      have HB6 := hid (HB4.out.trans (hB6.mono HB4.out.size))
      have hL := left_no (.pointer none) w6 hNo6
      have hBr := broken_no (.pointer none) w6 hNo6
      have hC := copy_no (.pointer none) w6 hNo6
      clear hB6 hNo6 HNo4 HB4 y0 y1 y2 y3 y4 y5 y6 y7
      go_wp2_with fail
      refine hL.mono ?_
      clear hL
      rintro e w7 ⟨rfl, hw7⟩
      subst hw7
      go_wp2_with fail
      refine hBr.mono ?_
      clear hBr
      rintro e w8 ⟨rfl, hw8⟩
      subst hw8
      go_wp2_with fail
      refine hC.mono ?_
      clear hC
      rintro e w9 ⟨rfl, hw9⟩
      subst hw9
      go_wp2
      go_roundw
      case rel => exact ⟨1, by omega, by go_num, HB6.out⟩
      case measure => simp [intOf]
    · skip
      have hNx := next_no (.pointer (some ⟨w.heap.size, 0, none⟩)) wr (hNo)
      have HNo := hid (show NoAt wr (.pointer (some ⟨w.heap.size, 0, none⟩)) from hNo)
      have hsb := HB.out.size
      go_wp2_with fail
      refine hNx.mono ?_
      clear hNx
      rintro e w3 ⟨rfl, hB3⟩
      have hR4 := ReqAt.new w3 (.string ⟨#[]⟩) (.string ⟨#[]⟩) (.int .i64 0) (.slice none 0 0) (.string ⟨#[]⟩) (.slice none 0 0) (.string ⟨#[]⟩) (.bool false)
      have hBa := below_alloc w3 (.cells #[.string ⟨#[]⟩, .string ⟨#[]⟩, .int .i64 0, .slice none 0 0, .string ⟨#[]⟩, .slice none 0 0, .string ⟨#[]⟩, .bool false] 38)
      obtain ⟨y0, y1, y2, y3, y4, y5, y6, y7⟩ := hR4.cells
      have hB4 := hB3.trans (hBa.mono hB3.size)
      have hNo4 := HNo.out.below hB4
      have hFe := feed_no (.pointer (some ⟨w.heap.size, 0, none⟩)) s0 _ hNo4
      have HB4 := hid (HB.out.trans (hB4.mono hsb))
      have HSa := hid (fun w => rsame_zero w)
      have HNo4 := hid hNo4
      have hsb4 := hB4.size
      clear hB3 hR4 hBa hB4 hNo4 HNo
      go_wp2_with fail
      refine hFe.mono ?_
      clear hFe
      rintro e w5 ⟨rfl, hw5⟩
      subst hw5
      go_wp2_with fail
      refine (HSa.out _).mono ?_
      clear HSa
      rintro e w6 ⟨rfl, hB6⟩
      have hNo6 := HNo4.out.below hB6
      have HB6 := hid (HB4.out.trans (hB6.mono HB4.out.size))
      have hL := left_no (.pointer (some ⟨w.heap.size, 0, none⟩)) w6 hNo6
      have hBr := broken_no (.pointer (some ⟨w.heap.size, 0, none⟩)) w6 hNo6
      have hC := copy_no (.pointer (some ⟨w.heap.size, 0, none⟩)) w6 hNo6
      clear hB6 hNo6 HNo4 HB4 y0 y1 y2 y3 y4 y5 y6 y7
      go_wp2_with fail
      refine hL.mono ?_
      clear hL
      rintro e w7 ⟨rfl, hw7⟩
      subst hw7
      go_wp2_with fail
      refine hBr.mono ?_
      clear hBr
      rintro e w8 ⟨rfl, hw8⟩
      subst hw8
      go_wp2_with fail
      refine hC.mono ?_
      clear hC
      rintro e w9 ⟨rfl, hw9⟩
      subst hw9
      go_wp2
      go_roundw
      case rel => exact ⟨2, by omega, by go_num, HB6.out⟩
      case measure => simp [intOf]
    · have hA := awakeP_any wr hMr
      clear hNo hMr
      go_wp2_with fail
      refine hA.mono ?_
      clear hA
      rintro e w6 ⟨rfl, hB6⟩
      have HB6 := hid (HB.out.trans (hB6.mono HB.out.size))
      clear hB6
      go_wp2
      go_ret
      exact ⟨rfl, HBw.out.trans (HB6.out.mono HBw.out.size)⟩
end Go.Proofs.YtllhibdjopfcnaaDoor
