/-
  The walk of LabelBack. (Laid by wip/tools/lab_back.py.)
-/
import Derived.Test.YtjgohajlabdloaaDoorPrint
import Derived.Test.YtjgohajlabdloaaDoorOf
import Derived.Test.YtjgohajlabdloaaDoorLabW
namespace Go.Proofs.YtjgohajlabdloaaDoor
open Go.RowKit
set_option linter.unusedVariables false
set_option linter.unusedSimpArgs false

theorem alikeB_self (s i : List Int) : alikeB s i s i = true := by simp [alikeB]
theorem of_back {s i : List Int} (t : ByteArray) (hm : mayB s i = true) : ofL (bytesOf (strOf (setB s ++ setB i) ++ t)) = some (s, i, (setB s ++ setB i).length) := by
  obtain ⟨⟨m1, m2⟩, m3, m4⟩ := mayB_iff.1 hm
  rw [bytesOf_append, bytesOf_strOf]
  · exact ofL_back _ m1 m2.1 m2.2 m3 m4.1 m4.2
  · intro x hx
    rcases List.mem_append.1 hx with h | h
    · exact setB_bytes _ x h
    · exact setB_bytes _ x h
theorem parse_back {s i : List Int} (hm : mayB s i = true) : parseL (printL s i) = some (s, i) := by
  obtain ⟨h1, h2⟩ : okB s = true ∧ okB i = true := by simpa [mayB] using hm
  exact parseL_print h1 h2
theorem printL_len {s i : List Int} (hm : mayB s i = true) : (printL s i).length ≤ 4611686018427387904 := by
  obtain ⟨⟨m1, m2⟩, m3, m4⟩ := mayB_iff.1 hm
  have h1 := commasL_bound s m2.2
  have h2 := commasL_bound i m4.2
  simp [printL]
  omega

set_option maxRecDepth 20000 in
set_option maxHeartbeats 4000000 in
theorem back_walk (v : Value) (s i : List Int) (t : ByteArray) (w : World) (h : SeesL w v s i) (ht : t.size ≤ 140737488351232) (hP : Pow w) :
    Calls Tryd.prog 4 #[v, .string t] w fun e w' => e = .returned (.bool true) ∧ Below w.heap.size w w' := by
  have h0 := h
  obtain ⟨u, x, rfl, a1, a2, a3, a4⟩ := h
  obtain ⟨W, hW⟩ : ∃ W, W = w.alloc (.cells #[u, x] 24) := ⟨_, rfl⟩
  have d : SeesL W (.agg #[u, x]) s i := by rw [hW]; exact h0.box _
  have HA := hid (show Boxed W w.heap.size u x by rw [hW]; exact Boxed.new _ _ _)
  have HZ := hid (show Below w.heap.size w W by rw [hW]; exact below_alloc _ _)
  have hsz := HZ.out.size
  have hPW := hP.below HZ.out
  have FB := hid (fun w1 (h : Below W.heap.size W w1) => bytes_any _ s i w1 (d.below h))
  have FP := hid (fun w1 (h : Below W.heap.size W w1) => print_any _ s i w1 (d.below h) (hPW.below h))
  have FC := hid (fun w1 (h : Below W.heap.size W w1) => refCheck_any _ s i w1 (d.below h))
  have Awa := hid (fun w1 (h : Below W.heap.size W w1) => awake_any w1)
  have HW := hid hW
  have HD := hid d
  have HB := hid (Below.refl W.heap.size W)
  clear h0 a1 a2 a3 a4 hW d hP hPW
  obtain ⟨c1, c2⟩ := HA.out
  cases hm : mayB s i
  · have e1 : bytesL s i = [] := by simp [bytesL, hm]
    have e2 : textL s i = [] := by simp [textL, hm]
    have e3 : strOf [] = ⟨#[]⟩ := rfl
    rw [hm, e1, e3] at FB
    rw [hm, e2] at FP
    rw [hm] at FC
    rw [show errOf false = 20 from rfl] at FB FP FC
    clear e1 e2 e3
    go_enter Tryd.func4, Tryd.ntmps4
    go_wp2_with fail
    rw [← HW.out]
    clear HW
    refine (FB.out _ HB.out).mono ?_
    clear c1 c2
    rintro e w' ⟨rfl, h'⟩
    have HBn := hid (HB.out.trans (h'.mono HB.out.size))
    clear HB h'
    have HB := HBn
    clear HBn
    obtain ⟨c1, c2⟩ := HA.out.below HB.out
    go_wp2_with fail
    refine (FP.out _ HB.out).mono ?_
    clear c1 c2
    rintro e w' ⟨rfl, h'⟩
    have HBn := hid (HB.out.trans (h'.mono HB.out.size))
    clear HB h'
    have HB := HBn
    clear HBn
    obtain ⟨c1, c2⟩ := HA.out.below HB.out
    go_wp2_with fail
    refine (FC.out _ HB.out).mono ?_
    clear c1 c2
    rintro e w' ⟨rfl, h'⟩
    have HBn := hid (HB.out.trans (h'.mono HB.out.size))
    clear HB h'
    have HB := HBn
    clear HBn
    obtain ⟨c1, c2⟩ := HA.out.below HB.out
    go_wp2_with fail
    refine (Awa.out _ HB.out).mono ?_
    clear c1 c2
    rintro e w' ⟨rfl, h'⟩
    have HBn := hid (HB.out.trans (h'.mono HB.out.size))
    clear HB h'
    have HB := HBn
    clear HBn
    obtain ⟨c1, c2⟩ := HA.out.below HB.out
    go_wp2
    go_ret
    exact ⟨rfl, HZ.out.trans (HB.out.mono hsz)⟩
  · have e1 : bytesL s i = setB s ++ setB i := by simp [bytesL, hm]
    have e2 : textL s i = printL s i := by simp [textL, hm]
    obtain ⟨⟨m1, m2⟩, m3, m4⟩ := mayB_iff.1 hm
    have hz1 := setB_len m1 m2
    have hz2 := setB_len m3 m4
    rw [hm, e1] at FB
    rw [hm, e2] at FP
    rw [show errOf true = 0 from rfl] at FB FP
    obtain ⟨X, hX⟩ : ∃ X, X = strOf (setB s ++ setB i) := ⟨_, rfl⟩
    have hXs : X.size = (setB s ++ setB i).length := by rw [hX, strOf_size]
    have hXl : X.size ≤ 650 := by rw [hXs, List.length_append]; omega
    have FO := hid (fun w1 => labOf_any (strOf (setB s ++ setB i) ++ t) w1 (by rw [ByteArray.size_append', ← hX]; omega))
    rw [of_back t hm] at FO
    rw [show errOf (some (s, i, (setB s ++ setB i).length)).isSome = 0 from rfl, show ofN (some (s, i, (setB s ++ setB i).length)) = (setB s ++ setB i).length from rfl, show ofS (some (s, i, (setB s ++ setB i).length)) = s from rfl, show ofI (some (s, i, (setB s ++ setB i).length)) = i from rfl, ← hXs, ← hX] at FO
    have FR := hid (fun w1 => parse_any (printL s i) w1 (printL_len hm))
    rw [parse_back hm] at FR
    rw [show errP (some (s, i)) = 0 from rfl, show labS (some (s, i)) = s from rfl, show labI (some (s, i)) = i from rfl] at FR
    rw [← hX] at FB
    obtain ⟨Y, hY⟩ : ∃ Y, Y = (⟨(printL s i).toArray⟩ : ByteArray) := ⟨_, rfl⟩
    rw [← hY] at FP FR
    have n1 : ¬ 9223372036854775807 < X.size + t.size := by omega
    clear e1 e2 hX hXs hY m2 m4 FC hz1 hz2
    go_enter Tryd.func4, Tryd.ntmps4
    go_wp2_with fail
    rw [← HW.out]
    clear HW
    refine (FB.out _ HB.out).mono ?_
    clear c1 c2
    rintro e w' ⟨rfl, h'⟩
    have HBn := hid (HB.out.trans (h'.mono HB.out.size))
    clear HB h'
    have HB := HBn
    clear HBn
    obtain ⟨c1, c2⟩ := HA.out.below HB.out
    go_wp2_with fail
    refine (FP.out _ HB.out).mono ?_
    clear c1 c2
    rintro e w' ⟨rfl, h'⟩
    have HBn := hid (HB.out.trans (h'.mono HB.out.size))
    clear HB h'
    have HB := HBn
    clear HBn
    obtain ⟨c1, c2⟩ := HA.out.below HB.out
    go_wp2_with fail
    refine (FO.out _).mono ?_
    clear FO
    rintro e w3 ⟨ja, jb, rfl, qa, qb, h'⟩
    obtain ⟨jao, jac, hva⟩ := Owns.form qa
    obtain ⟨jbo, jbc, hvb⟩ := Owns.form qb
    subst hva
    subst hvb
    clear c1 c2
    have HBn := hid (HB.out.trans (h'.mono HB.out.size))
    clear HB h'
    have HB := HBn
    clear HBn
    have h' := below_alloc w3 (.cells #[.slice jao s.length jac, .slice jbo i.length jbc] 24)
    have KJ := hid (show SeesL _ (.agg #[.slice jao s.length jac, .slice jbo i.length jbc]) s i from ⟨_, _, rfl, (qa.below h').sees, (qb.below h').sees, by omega, by omega⟩)
    have LJ := hid (LabAt.new w3 (.slice jao s.length jac) (.slice jbo i.length jbc))
    have HBn := hid (HB.out.trans (h'.mono HB.out.size))
    clear HB h'
    have HB := HBn
    clear HBn
    obtain ⟨c1, c2⟩ := HA.out.below HB.out
    clear qa qb
    go_wp2_with fail
    refine (FR.out _).mono ?_
    clear FR
    rintro e w4 ⟨ma, mb, rfl, qa, qb, h'⟩
    obtain ⟨mao, mac, hva⟩ := Owns.form qa
    obtain ⟨mbo, mbc, hvb⟩ := Owns.form qb
    subst hva
    subst hvb
    clear c1 c2
    have KJn := hid (KJ.out.below h')
    have LJn := hid (LJ.out.below h' LJ.out.lt)
    clear KJ LJ
    have KJ := KJn
    have LJ := LJn
    clear KJn LJn
    have HBn := hid (HB.out.trans (h'.mono HB.out.size))
    clear HB h'
    have HB := HBn
    clear HBn
    have h' := below_alloc w4 (.cells #[.slice mao s.length mac, .slice mbo i.length mbc] 24)
    have KM := hid (show SeesL _ (.agg #[.slice mao s.length mac, .slice mbo i.length mbc]) s i from ⟨_, _, rfl, (qa.below h').sees, (qb.below h').sees, by omega, by omega⟩)
    have LM := hid (LabAt.new w4 (.slice mao s.length mac) (.slice mbo i.length mbc))
    have KJn := hid (KJ.out.below h')
    have LJn := hid (LJ.out.below h' LJ.out.lt)
    clear KJ LJ
    have KJ := KJn
    have LJ := LJn
    clear KJn LJn
    have HBn := hid (HB.out.trans (h'.mono HB.out.size))
    clear HB h'
    have HB := HBn
    clear HBn
    obtain ⟨c1, c2⟩ := HA.out.below HB.out
    clear qa qb
    obtain ⟨l1, l2, _, _⟩ := LJ.out.cells
    go_wp2_with fail
    refine (alike_any _ _ s i s i _ KJ.out (HD.out.below HB.out)).mono ?_
    clear c1 c2 l1 l2
    rintro e w' ⟨rfl, h'⟩
    rw [alikeB_self]
    have KMn := hid (KM.out.below h')
    have LMn := hid (LM.out.below h' LM.out.lt)
    clear KM LM
    have KM := KMn
    have LM := LMn
    clear KMn LMn
    have HBn := hid (HB.out.trans (h'.mono HB.out.size))
    clear HB h'
    have HB := HBn
    clear HBn
    obtain ⟨c1, c2⟩ := HA.out.below HB.out
    obtain ⟨l1, l2, _, _⟩ := LM.out.cells
    go_wp2_with fail
    refine (alike_any _ _ s i s i _ KM.out (HD.out.below HB.out)).mono ?_
    clear c1 c2 l1 l2
    rintro e w' ⟨rfl, h'⟩
    rw [alikeB_self]
    have HBn := hid (HB.out.trans (h'.mono HB.out.size))
    clear HB h'
    have HB := HBn
    clear HBn
    obtain ⟨c1, c2⟩ := HA.out.below HB.out
    go_wp2_with fail
    refine (Awa.out _ HB.out).mono ?_
    clear c1 c2
    rintro e w' ⟨rfl, h'⟩
    have HBn := hid (HB.out.trans (h'.mono HB.out.size))
    clear HB h'
    have HB := HBn
    clear HBn
    obtain ⟨c1, c2⟩ := HA.out.below HB.out
    go_wp2
    go_ret
    exact ⟨rfl, HZ.out.trans (HB.out.mono hsz)⟩

end Go.Proofs.YtjgohajlabdloaaDoor
