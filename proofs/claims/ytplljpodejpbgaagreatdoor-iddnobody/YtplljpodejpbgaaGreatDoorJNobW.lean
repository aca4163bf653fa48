/-
  The walk of the law IddNobody.
-/
import Derived.Test.YtplljpodejpbgaaGreatDoorJAwake
namespace Go.Proofs.YtplljpodejpbgaaGreatDoor
open Go.RowKit
set_option linter.unusedVariables false
set_option linter.unusedSimpArgs false
set_option maxRecDepth 100000

set_option maxHeartbeats 4000000 in
theorem nobody_walk (n : Int) (s : ByteArray) (w : World) (hT : Tb w) :
    Calls Tryz.prog 6 #[.int .i64 n, .string s] w fun e w' => e = .returned (.bool true) ∧ Below w.heap.size w w' := by
  obtain ⟨V, hV⟩ : ∃ V, V = w.alloc (.cells #[.pointer none, .slice none 0 0, .slice none 0 0, .int .i64 0, .map none, .slice none 0 0] 73) := ⟨_, rfl⟩
  obtain ⟨W, hW⟩ : ∃ W, W = V.alloc (.cells #[.pointer none, .pointer (some ⟨w.heap.size, 0, none⟩)] 27) := ⟨_, rfl⟩
  have hbV : Below w.heap.size w V := by rw [hV]; exact below_alloc w _
  have hbVW : Below V.heap.size V W := by rw [hW]; exact below_alloc V _
  have hVs : V.heap.size = w.heap.size + 1 := by rw [hV]; simp
  have hb : Below w.heap.size w W := hbV.trans (hbVW.mono hbV.size)
  have z1 : W.heap[w.heap.size]? = some (.cells #[.pointer none, .slice none 0 0, .slice none 0 0, .int .i64 0, .map none, .slice none 0 0] 73 (0, 0)) := by
    rw [hbVW.block _ (by omega), hV]
    exact heap_alloc_new w _
  have z2 : W.heap[w.heap.size + 1]? = some (.cells #[.pointer none, .pointer (some ⟨w.heap.size, 0, none⟩)] 27 (0, 0)) := by
    rw [hW, ← hVs]
    exact heap_alloc_new V _
  have hz2 := (Array.getElem?_eq_some_iff.1 z2).1
  have HL : Hid (∀ wr, Below W.heap.size W wr → ∀ k, k < 2 → ∃ v, wr.cell? ⟨w.heap.size + 1, k, none⟩ = some v ∧ DNo wr v) := fun wr hr k hk => by
    have y1 := (hr.block w.heap.size (by omega)).trans z1
    have y2 := (hr.block (w.heap.size + 1) hz2).trans z2
    match k, hk with
    | 0, _ => exact ⟨_, by simp [World.cell?, y2], .inl rfl⟩
    | 1, _ => exact ⟨_, by simp [World.cell?, y2], .inr ⟨w.heap.size, rfl, by simp [World.cell?, y1]⟩⟩
  have HAW : Hid (∀ wr, Below W.heap.size W wr → Calls Tryz.prog 10 #[] wr fun e w' => e = .returned (.bool true) ∧ Below wr.heap.size wr w') := fun wr hr => awake_any wr (hT.below (hb.trans (hr.mono hb.size)))
  have HB := hid hb
  have hWV : W = (w.alloc (.cells #[.pointer none, .slice none 0 0, .slice none 0 0, .int .i64 0, .map none, .slice none 0 0] 73)).alloc (.cells #[.pointer none, .pointer (some ⟨w.heap.size, 0, none⟩)] 27) := by rw [hW, hV]
  have HW := hid hWV
  clear hb z1 z2 hT hz2 hV hW hbV hbVW hVs hWV
  go_enter Tryz.func6, Tryz.ntmps6
  go_wp2
  rw [← HW.out]
  clear HW
  go_loopw [6] (fun i wr => ∃ k : Nat, k ≤ 2 ∧ i = .int .i64 k ∧ Hid (Below W.heap.size W wr)) (fun i _ => 2 - (intOf i).toNat)
  case atStart => exact ⟨0, by omega, rfl, Below.refl _ _⟩
  case round =>
    obtain ⟨k, hk, rfl, HR⟩ := hrel
    by_cases hlt : k < 2
    · obtain ⟨v, hv, hno⟩ := HL.out wr HR.out k hlt
      have h1 := hid (login_no v s s wr hno)
      have h2 := hid (logout_no v s wr hno)
      have h3 := hid (who_no v s wr hno)
      have h4 := hid (subject_no v n wr hno)
      have HNO := hid hno
      clear hno
      go_wp2_with fail
      refine h1.out.mono ?_
      rintro e w1 ⟨rfl, hw⟩
      subst w1
      go_wp2_with fail
      refine h2.out.mono ?_
      rintro e w1 ⟨rfl, hw⟩
      subst w1
      go_wp2_with fail
      refine h3.out.mono ?_
      rintro e w1 ⟨rfl, hw⟩
      subst w1
      go_wp2_with fail
      refine h4.out.mono ?_
      rintro e w1 ⟨rfl, b1⟩
      obtain ⟨X, hX⟩ : ∃ X, X = w1.alloc (.cells #[.int .i64 0, .slice none 0 0, .slice none 0 0, .slice none 0 0] 78) := ⟨_, rfl⟩
      have bX : Below w1.heap.size w1 X := by rw [hX]; exact below_alloc w1 _
      have bR : Below wr.heap.size wr X := b1.trans (bX.mono b1.size)
      have hno := HNO.out.below bR
      have HBX := hid (HR.out.trans (bR.mono HR.out.size))
      have h5 := hid (make_no v n n X hno)
      have h6 := hid (give_no v n n n n X hno)
      have h7 := hid (tokens_no v n X hno)
      have h8 := hid (own_no v n X hno)
      have h9 := hid (grants_no v X hno)
      have h10 := hid (copy_no v X hno)
      have hnil := neqD_nil X
      clear h1 h2 h3 h4 b1 bX bR hno hv
      go_wp2_with fail
      rw [← hX]
      clear hX
      refine h5.out.mono ?_
      rintro e w2 ⟨rfl, hw2⟩
      subst w2
      go_wp2_with fail
      refine h6.out.mono ?_
      rintro e w2 ⟨rfl, hw2⟩
      subst w2
      go_wp2_with fail
      refine h7.out.mono ?_
      rintro e w2 ⟨rfl, hw2⟩
      subst w2
      go_wp2_with fail
      refine h8.out.mono ?_
      rintro e w2 ⟨rfl, hw2⟩
      subst w2
      go_wp2_with fail
      refine h9.out.mono ?_
      rintro e w2 ⟨rfl, hw2⟩
      subst w2
      go_wp2_with fail
      refine h10.out.mono ?_
      rintro e w2 ⟨rfl, hw2⟩
      subst w2
      clear h5 h6 h7 h8 h9 h10
      go_wp2
      go_roundw
      case rel => exact ⟨k + 1, by omega, by go_num, HBX⟩
      case measure => simp [intOf]; omega
    · have haw := HAW.out wr HR.out
      have hk2 : k = 2 := by omega
      subst hk2
      go_wp2_with fail
      refine haw.mono ?_
      rintro e w2 ⟨rfl, b2⟩
      have HE := hid (HB.out.trans ((HR.out.trans (b2.mono HR.out.size)).mono HB.out.size))
      clear haw b2
      go_wp2
      go_ret
      exact ⟨rfl, HE.out⟩
end Go.Proofs.YtplljpodejpbgaaGreatDoor
