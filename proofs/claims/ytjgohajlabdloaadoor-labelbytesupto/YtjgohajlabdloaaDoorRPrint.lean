/-
  The document's Print.
-/
import Derived.Test.YtjgohajlabdloaaDoorRText
import Derived.Test.YtjgohajlabdloaaDoorPrint
namespace Go.Proofs.YtjgohajlabdloaaDoor
open Go.RowKit
set_option linter.unusedVariables false

set_option maxRecDepth 20000 in
set_option maxHeartbeats 2000000 in
theorem rprint_any (v : Value) (s i : List Int) (w : World) (h : SeesL w v s i) (hP : Pow w) :
    Calls Tryd.prog 8 #[v] w fun e w' => e = .returned (.tuple #[.string ⟨(textL s i).toArray⟩, .int .i64 (errOf (mayB s i))]) ∧ Below w.heap.size w w' := by
  have hR : ∀ o, Calls Tryd.prog 18 #[v] (w.alloc o) fun e w' => e = .returned (.bool (mayB s i)) ∧ Below (w.alloc o).heap.size (w.alloc o) w' := fun o => may_any v s i _ (h.box o)
  have HR := hid hR
  have HZ := hid (fun o => below_alloc w o)
  have HP := hid hP
  obtain ⟨u, x, rfl, h1, h2, h3, h4⟩ := h
  have HS := hid h1
  have HI := hid h2
  have HA := hid (Boxed.new w u x)
  obtain ⟨c1, c2⟩ := Boxed.new w u x
  clear hR h1 h2 h3 h4 hP
  cases hm : mayB s i
  · rw [hm] at HR
    have HE : Hid (textL s i = []) := by unfold Hid; simp [textL, hm]
    go_enter Tryd.func8, Tryd.ntmps8
    go_wp2_with fail
    refine (HR.out _).mono ?_
    clear HR
    rintro e w1 ⟨rfl, k1⟩
    have HF := hid ((HZ.out _).trans (k1.mono (HZ.out _).size))
    clear k1 HZ c1 c2
    go_wp2
    go_ret2
    exact ⟨by rw [HE.out]; rfl, HF.out⟩
  · rw [hm] at HR
    have HE : Hid (textL s i = 123 :: (commasL s ++ 124 :: (commasL i ++ [125]))) := by unfold Hid; simp [textL, hm, printL]
    obtain ⟨⟨m1, m2⟩, m3, m4⟩ := mayB_iff.1 hm
    have HM := hid m2
    have HM2 := hid m4
    have hb1 := commasL_bound s m2.2
    have hb2 := commasL_bound i m4.2
    have HP1 := hid (print_str (commasL s) (commasL i))
    clear m2 m4
    go_enter Tryd.func8, Tryd.ntmps8
    go_wp2_with fail
    refine (HR.out _).mono ?_
    clear HR
    rintro e w1 ⟨rfl, k1⟩
    have HF := hid ((HZ.out _).trans (k1.mono (HZ.out _).size))
    have HA1 := hid (HA.out.below k1)
    have hszp : w.heap.size < w1.heap.size := by have := k1.size; simp at this; omega
    clear k1 HZ c1 c2 HA
    obtain ⟨c1, c2⟩ := HA1.out
    have hd1 : Below w1.heap.size w1 w1.drew := Below.drew (Below.refl _ _)
    have hR1 := hid (setText_any u s w1.drew ((HS.out.below HF.out).below hd1) m1 HM.out ((HP.out.below HF.out).below hd1))
    have hR2 := hid (fun (w2 : World) (hB : Below w1.heap.size w1 w2) => setText_any x i w2 ((HI.out.below HF.out).below hB) m3 HM2.out ((HP.out.below HF.out).below hB))
    clear hd1
    obtain ⟨T1, hT1⟩ : ∃ T, T = (⟨(commasL s).toArray⟩ : ByteArray) := ⟨_, rfl⟩
    obtain ⟨T2, hT2⟩ : ∃ T, T = (⟨(commasL i).toArray⟩ : ByteArray) := ⟨_, rfl⟩
    have hz1 : T1.size ≤ 704 := by rw [hT1, Lib.size_eq]; show (commasL s).length ≤ 704; omega
    have hz2 : T2.size ≤ 704 := by rw [hT2, Lib.size_eq]; show (commasL i).length ≤ 704; omega
    have n1 : ¬ 9223372036854775807 < 1 + T1.size := by omega
    have n2 : ¬ 9223372036854775807 < 1 + T1.size + 1 := by omega
    have n3 : ¬ 9223372036854775807 < 1 + T1.size + 1 + T2.size := by omega
    have n4 : ¬ 9223372036854775807 < 1 + T1.size + 1 + T2.size + 1 := by omega
    rw [← hT1] at hR1 HP1
    rw [← hT2] at hR2 HP1
    clear hT1 hT2 hb1 hb2
    go_wp2_with fail
    go_region_held3 (fun w' => w'.cell? ⟨w.heap.size, 0, none⟩ = some u ∧ w'.cell? ⟨w.heap.size, 1, none⟩ = some x)
      (first | (refine ⟨?_, ?_⟩ <;> first | assumption | (simp [*]; done)))
      (first
        | (go_at_call 21; refine hR1.out.mono ?_; rintro e w2 ⟨rfl, hB2⟩
           have HB2 := hid ((Below.drew (Below.refl w1.heap.size w1)).trans hB2)
           obtain ⟨d1, d2⟩ := HA1.out.below HB2.out
           have HR2 := hid (hR2.out w2 HB2.out)
           clear hR1 hR2 hB2)
        | (go_at_call 21; refine HR2.out.mono ?_; rintro e w3 ⟨rfl, hB3⟩
           have HB3 := hid (HB2.out.trans (hB3.mono HB2.out.size))
           obtain ⟨d3, d4⟩ := HA1.out.below HB3.out
           clear HR2 hB3 d1 d2))
    go_wp2
    go_ret2
    exact ⟨by rw [HE.out, ← HP1.out]; rfl, HF.out.trans (HB3.out.mono (by omega))⟩
end Go.Proofs.YtjgohajlabdloaaDoor
