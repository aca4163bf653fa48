/-
  The walk of LabelBytes. (Laid by wip/tools/lab_byteswalk.py.)
-/
import Derived.Test.YtjgohajlabdloaaDoorBackWalk
import Derived.Test.YtjgohajlabdloaaDoorRBytes
import Derived.Test.YtjgohajlabdloaaDoorRPrint
import Derived.Test.YtjgohajlabdloaaDoorROf
import Derived.Test.YtjgohajlabdloaaDoorRParse
namespace Go.Proofs.YtjgohajlabdloaaDoor
open Go.RowKit
set_option linter.unusedVariables false
set_option linter.unusedSimpArgs false

theorem readK_len : ∀ (m : Nat) (last : Int) (acc : List Int) (pos : Nat) (rest : List Nat) (l : List Int) (p : Nat), readK m last acc pos rest = some (l, p) → l.length = acc.length + m
  | 0, last, acc, pos, rest, l, p, h => by
    simp only [readK, Option.some.injEq, Prod.mk.injEq] at h
    rw [← h.1]
    rfl
  | m + 1, last, acc, pos, rest, l, p, h => by
    rw [readK] at h
    split at h
    · cases h
    · split at h
      · cases h
      · have := readK_len m _ _ _ _ l p h
        rw [List.length_append, List.length_singleton] at this
        omega
theorem readS_len {D : List Nat} {l : List Int} {p : Nat} (h : readS D = some (l, p)) : l.length ≤ 64 := by
  rw [readS] at h
  split at h
  · cases h
  · split at h
    · cases h
    · have := readK_len _ _ _ _ _ _ _ h
      simp only [List.length_nil] at this
      omega
theorem ofL_len (D : List Nat) : (ofS (ofL D)).length ≤ 64 ∧ (ofI (ofL D)).length ≤ 64 := by
  rw [ofL]
  cases h1 : readS D with
  | none => exact ⟨by simp [ofS], by simp [ofI]⟩
  | some a =>
    obtain ⟨a, p⟩ := a
    simp only
    cases h2 : readS (D.drop p) with
    | none => exact ⟨by simp [ofS], by simp [ofI]⟩
    | some b =>
      obtain ⟨b, q⟩ := b
      exact ⟨readS_len h1, readS_len h2⟩
theorem listed_len {l : List UInt8} (h : (listedL l).2 = true) : (listedL l).1.length ≤ 64 := by
  obtain ⟨h1, h2⟩ := from_listed l
  rw [h] at h1
  rw [← h2 h]
  rw [fromOK, Bool.and_eq_true] at h1
  exact (okB_iff.1 h1.2).1
theorem parseL_len (l : List UInt8) : (labS (parseL l)).length ≤ 64 ∧ (labI (parseL l)).length ≤ 64 := by
  rw [parseL]
  split
  · rename_i h
    simp only [Bool.and_eq_true] at h
    exact ⟨listed_len h.1.2, listed_len h.2⟩
  · exact ⟨by simp [labS], by simp [labI]⟩

set_option maxRecDepth 20000 in
set_option maxHeartbeats 4000000 in
theorem bytes_walk (v : Value) (s i : List Int) (t r : ByteArray) (w : World) (h : SeesL w v s i) (ht : t.size ≤ 140737488351232) (htb : t.size ≤ 1048576) (hr : r.size ≤ 140737488351232) (hrb : r.size ≤ 1048576) (hP : Pow w) :
    Calls Tryd.prog 3 #[v, .string t, .string r] w fun e w' => e = .returned (.bool true) ∧ Below w.heap.size w w' := by
  have h0 := h
  obtain ⟨u, x, rfl, a1, a2, a3, a4⟩ := h
  obtain ⟨W, hW⟩ : ∃ W, W = w.alloc (.cells #[u, x] 24) := ⟨_, rfl⟩
  have d : SeesL W (.agg #[u, x]) s i := by rw [hW]; exact h0.box _
  have HA := hid (show Boxed W w.heap.size u x by rw [hW]; exact Boxed.new _ _ _)
  have HZ := hid (show Below w.heap.size w W by rw [hW]; exact below_alloc _ _)
  have hsz := HZ.out.size
  have hPW := hP.below HZ.out
  have FB := hid (fun w1 (h : Below W.heap.size W w1) => bytes_any _ s i w1 (d.below h))
  have FBR := hid (fun w1 (h : Below W.heap.size W w1) => rbytes_any _ s i w1 (d.below h))
  have FP := hid (fun w1 (h : Below W.heap.size W w1) => print_any _ s i w1 (d.below h) (hPW.below h))
  have FPR := hid (fun w1 (h : Below W.heap.size W w1) => rprint_any _ s i w1 (d.below h) (hPW.below h))
  have Awa := hid (fun w1 (h : Below W.heap.size W w1) => awake_any w1)
  have FO := hid (fun w1 => labOf_any t w1 (by omega))
  have FOR := hid (fun w1 => rOf_any t w1 (by omega))
  have FQ := hid (fun w1 => parse_any r.data.toList w1 (by rw [← Lib.size_eq]; omega))
  have FQR := hid (fun w1 => rparse_any r.data.toList w1 (by rw [← Lib.size_eq]; omega))
  rw [show (⟨r.data.toList.toArray⟩ : ByteArray) = r from rfl] at FQ FQR
  obtain ⟨z1, z2⟩ := ofL_len (bytesOf t)
  obtain ⟨z3, z4⟩ := parseL_len r.data.toList
  generalize strOf (bytesL s i) = X at *
  generalize (⟨(textL s i).toArray⟩ : ByteArray) = Y at *
  generalize errOf (mayB s i) = E at *
  generalize errOf (ofL (bytesOf t)).isSome = E2 at *
  generalize ofN (ofL (bytesOf t)) = N2 at *
  generalize ofS (ofL (bytesOf t)) = S2 at *
  generalize ofI (ofL (bytesOf t)) = I2 at *
  generalize errP (parseL r.data.toList) = E3 at *
  generalize labS (parseL r.data.toList) = S3 at *
  generalize labI (parseL r.data.toList) = I3 at *
  have HW := hid hW
  have HB := hid (Below.refl W.heap.size W)
  clear h0 a1 a2 a3 a4 hW d hP hPW
  obtain ⟨c1, c2⟩ := HA.out
  go_enter Tryd.func3, Tryd.ntmps3
  go_wp2_with fail
  rw [← HW.out]
  clear HW
  refine (FB.out _ HB.out).mono ?_
  clear c1 c2
  rintro e w' ⟨rfl, h'⟩
  have HBn := hid (HB.out.trans (h'.mono HB.out.size))
  clear HB h'
  have HB := HBn
  clear HBn
  obtain ⟨c1, c2⟩ := HA.out.below HB.out
  go_wp2_with fail
  refine (FBR.out _ HB.out).mono ?_
  clear c1 c2
  rintro e w' ⟨rfl, h'⟩
  have HBn := hid (HB.out.trans (h'.mono HB.out.size))
  clear HB h'
  have HB := HBn
  clear HBn
  obtain ⟨c1, c2⟩ := HA.out.below HB.out
  go_wp2_with fail
  refine (FP.out _ HB.out).mono ?_
  clear c1 c2
  rintro e w' ⟨rfl, h'⟩
  have HBn := hid (HB.out.trans (h'.mono HB.out.size))
  clear HB h'
  have HB := HBn
  clear HBn
  obtain ⟨c1, c2⟩ := HA.out.below HB.out
  go_wp2_with fail
  refine (FPR.out _ HB.out).mono ?_
  clear c1 c2
  rintro e w' ⟨rfl, h'⟩
  have HBn := hid (HB.out.trans (h'.mono HB.out.size))
  clear HB h'
  have HB := HBn
  clear HBn
  obtain ⟨c1, c2⟩ := HA.out.below HB.out
  go_wp2_with fail
  refine (FO.out _).mono ?_
  clear FO
  rintro e w3 ⟨ja, jb, rfl, qa, qb, h'⟩
  obtain ⟨jao, jac, hva⟩ := Owns.form qa
  obtain ⟨jbo, jbc, hvb⟩ := Owns.form qb
  subst hva
  subst hvb
  clear c1 c2
  have HBn := hid (HB.out.trans (h'.mono HB.out.size))
  clear HB h'
  have HB := HBn
  clear HBn
  have h' := below_alloc w3 (.cells #[.slice jao S2.length jac, .slice jbo I2.length jbc] 24)
  have KJ := hid (show SeesL _ (.agg #[.slice jao S2.length jac, .slice jbo I2.length jbc]) S2 I2 from ⟨_, _, rfl, (qa.below h').sees, (qb.below h').sees, by omega, by omega⟩)
  have LJ := hid (LabAt.new w3 (.slice jao S2.length jac) (.slice jbo I2.length jbc))
  have HBn := hid (HB.out.trans (h'.mono HB.out.size))
  clear HB h'
  have HB := HBn
  clear HBn
  obtain ⟨c1, c2⟩ := HA.out.below HB.out
  clear qa qb
  go_wp2_with fail
  refine (FOR.out _).mono ?_
  clear FOR
  rintro e w4 ⟨ma, mb, rfl, qa, qb, h'⟩
  obtain ⟨mao, mac, hva⟩ := Owns.form qa
  obtain ⟨mbo, mbc, hvb⟩ := Owns.form qb
  subst hva
  subst hvb
  clear c1 c2
  have KJn := hid (KJ.out.below h')
  have LJn := hid (LJ.out.below h' LJ.out.lt)
  clear KJ LJ
  have KJ := KJn
  have LJ := LJn
  clear KJn LJn
  have HBn := hid (HB.out.trans (h'.mono HB.out.size))
  clear HB h'
  have HB := HBn
  clear HBn
  have h' := below_alloc w4 (.cells #[.slice mao S2.length mac, .slice mbo I2.length mbc] 24)
  have KM := hid (show SeesL _ (.agg #[.slice mao S2.length mac, .slice mbo I2.length mbc]) S2 I2 from ⟨_, _, rfl, (qa.below h').sees, (qb.below h').sees, by omega, by omega⟩)
  have LM := hid (LabAt.new w4 (.slice mao S2.length mac) (.slice mbo I2.length mbc))
  have KJn := hid (KJ.out.below h')
  have LJn := hid (LJ.out.below h' LJ.out.lt)
  clear KJ LJ
  have KJ := KJn
  have LJ := LJn
  clear KJn LJn
  have HBn := hid (HB.out.trans (h'.mono HB.out.size))
  clear HB h'
  have HB := HBn
  clear HBn
  obtain ⟨c1, c2⟩ := HA.out.below HB.out
  clear qa qb
  go_wp2_with fail
  refine (FQ.out _).mono ?_
  clear FQ
  rintro e w5 ⟨na, nb, rfl, qa, qb, h'⟩
  obtain ⟨nao, nac, hva⟩ := Owns.form qa
  obtain ⟨nbo, nbc, hvb⟩ := Owns.form qb
  subst hva
  subst hvb
  clear c1 c2
  have KJn := hid (KJ.out.below h')
  have LJn := hid (LJ.out.below h' LJ.out.lt)
  clear KJ LJ
  have KJ := KJn
  have LJ := LJn
  clear KJn LJn
  have KMn := hid (KM.out.below h')
  have LMn := hid (LM.out.below h' LM.out.lt)
  clear KM LM
  have KM := KMn
  have LM := LMn
  clear KMn LMn
  have HBn := hid (HB.out.trans (h'.mono HB.out.size))
  clear HB h'
  have HB := HBn
  clear HBn
  have h' := below_alloc w5 (.cells #[.slice nao S3.length nac, .slice nbo I3.length nbc] 24)
  have KN := hid (show SeesL _ (.agg #[.slice nao S3.length nac, .slice nbo I3.length nbc]) S3 I3 from ⟨_, _, rfl, (qa.below h').sees, (qb.below h').sees, by omega, by omega⟩)
  have LN := hid (LabAt.new w5 (.slice nao S3.length nac) (.slice nbo I3.length nbc))
  have KJn := hid (KJ.out.below h')
  have LJn := hid (LJ.out.below h' LJ.out.lt)
  clear KJ LJ
  have KJ := KJn
  have LJ := LJn
  clear KJn LJn
  have KMn := hid (KM.out.below h')
  have LMn := hid (LM.out.below h' LM.out.lt)
  clear KM LM
  have KM := KMn
  have LM := LMn
  clear KMn LMn
  have HBn := hid (HB.out.trans (h'.mono HB.out.size))
  clear HB h'
  have HB := HBn
  clear HBn
  obtain ⟨c1, c2⟩ := HA.out.below HB.out
  clear qa qb
  go_wp2_with fail
  refine (FQR.out _).mono ?_
  clear FQR
  rintro e w6 ⟨oa, ob, rfl, qa, qb, h'⟩
  obtain ⟨oao, oac, hva⟩ := Owns.form qa
  obtain ⟨obo, obc, hvb⟩ := Owns.form qb
  subst hva
  subst hvb
  clear c1 c2
  have KJn := hid (KJ.out.below h')
  have LJn := hid (LJ.out.below h' LJ.out.lt)
  clear KJ LJ
  have KJ := KJn
  have LJ := LJn
  clear KJn LJn
  have KMn := hid (KM.out.below h')
  have LMn := hid (LM.out.below h' LM.out.lt)
  clear KM LM
  have KM := KMn
  have LM := LMn
  clear KMn LMn
  have KNn := hid (KN.out.below h')
  have LNn := hid (LN.out.below h' LN.out.lt)
  clear KN LN
  have KN := KNn
  have LN := LNn
  clear KNn LNn
  have HBn := hid (HB.out.trans (h'.mono HB.out.size))
  clear HB h'
  have HB := HBn
  clear HBn
  have h' := below_alloc w6 (.cells #[.slice oao S3.length oac, .slice obo I3.length obc] 24)
  have KO := hid (show SeesL _ (.agg #[.slice oao S3.length oac, .slice obo I3.length obc]) S3 I3 from ⟨_, _, rfl, (qa.below h').sees, (qb.below h').sees, by omega, by omega⟩)
  have LO := hid (LabAt.new w6 (.slice oao S3.length oac) (.slice obo I3.length obc))
  have KJn := hid (KJ.out.below h')
  have LJn := hid (LJ.out.below h' LJ.out.lt)
  clear KJ LJ
  have KJ := KJn
  have LJ := LJn
  clear KJn LJn
  have KMn := hid (KM.out.below h')
  have LMn := hid (LM.out.below h' LM.out.lt)
  clear KM LM
  have KM := KMn
  have LM := LMn
  clear KMn LMn
  have KNn := hid (KN.out.below h')
  have LNn := hid (LN.out.below h' LN.out.lt)
  clear KN LN
  have KN := KNn
  have LN := LNn
  clear KNn LNn
  have HBn := hid (HB.out.trans (h'.mono HB.out.size))
  clear HB h'
  have HB := HBn
  clear HBn
  obtain ⟨c1, c2⟩ := HA.out.below HB.out
  clear qa qb
  obtain ⟨l1, l2, _, _⟩ := LJ.out.cells
  obtain ⟨l3, l4, _, _⟩ := LM.out.cells
  go_wp2_with fail
  refine (alike_any _ _ S2 I2 S2 I2 _ KJ.out KM.out).mono ?_
  clear c1 c2 l1 l2 l3 l4
  rintro e w' ⟨rfl, h'⟩
  rw [alikeB_self]
  have KNn := hid (KN.out.below h')
  have LNn := hid (LN.out.below h' LN.out.lt)
  clear KN LN
  have KN := KNn
  have LN := LNn
  clear KNn LNn
  have KOn := hid (KO.out.below h')
  have LOn := hid (LO.out.below h' LO.out.lt)
  clear KO LO
  have KO := KOn
  have LO := LOn
  clear KOn LOn
  have HBn := hid (HB.out.trans (h'.mono HB.out.size))
  clear HB h'
  have HB := HBn
  clear HBn
  obtain ⟨c1, c2⟩ := HA.out.below HB.out
  obtain ⟨l1, l2, _, _⟩ := LN.out.cells
  obtain ⟨l3, l4, _, _⟩ := LO.out.cells
  go_wp2_with fail
  refine (alike_any _ _ S3 I3 S3 I3 _ KN.out KO.out).mono ?_
  clear c1 c2 l1 l2 l3 l4
  rintro e w' ⟨rfl, h'⟩
  rw [alikeB_self]
  have HBn := hid (HB.out.trans (h'.mono HB.out.size))
  clear HB h'
  have HB := HBn
  clear HBn
  obtain ⟨c1, c2⟩ := HA.out.below HB.out
  go_wp2_with fail
  refine (Awa.out _ HB.out).mono ?_
  clear c1 c2
  rintro e w' ⟨rfl, h'⟩
  have HBn := hid (HB.out.trans (h'.mono HB.out.size))
  clear HB h'
  have HB := HBn
  clear HBn
  obtain ⟨c1, c2⟩ := HA.out.below HB.out
  go_wp2
  go_ret
  exact ⟨rfl, HZ.out.trans (HB.out.mono hsz)⟩

end Go.Proofs.YtjgohajlabdloaaDoor
