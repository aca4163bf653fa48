/-
  Which users may be: all of a list.
-/
import Derived.Test.YtplljpodejpbgaaGreatDoorJMayB
namespace Go.Proofs.YtplljpodejpbgaaGreatDoor
open Go.RowKit
set_option linter.unusedVariables false
set_option linter.unusedSimpArgs false
set_option maxRecDepth 100000

def uC : List UsL → List Value
  | [] => []
  | u :: r => .string u.name :: .string u.salt :: .string u.digest :: .bool u.op :: uC r
theorem uC_len (l : List UsL) : (uC l).length = l.length * 4 := by
  induction l with
  | nil => rfl
  | cons p r ih => simp [uC, ih]; omega
theorem uC_get : ∀ (l : List UsL) (j : Nat) (u : UsL), l[j]? = some u → (uC l)[j * 4]? = some (.string u.name) ∧ (uC l)[j * 4 + 1]? = some (.string u.salt) ∧ (uC l)[j * 4 + 2]? = some (.string u.digest) ∧ (uC l)[j * 4 + 3]? = some (.bool u.op)
  | [], j, g, h => by simp at h
  | q :: r, 0, g, h => by simp at h; subst h; simp [uC]
  | q :: r, j + 1, g, h => by
    have ih := uC_get r j g (by simpa using h)
    rw [show (j + 1) * 4 = j * 4 + 1 + 1 + 1 + 1 by omega]
    simpa [uC] using ih
theorem seesU {w : World} {v : Value} {l : List UsL} (h : SeesK 4 w v l.length (uC l)) : ∃ b off ao cap, v = .slice ao l.length cap ∧ l.length ≤ cap ∧ (0 < l.length → ao = some ⟨b, off, none⟩) ∧
    ∀ j u, l[j]? = some u → w.cell? ⟨b, off + j * 4, none⟩ = some (.string u.name) ∧ w.cell? ⟨b, off + j * 4 + 1, none⟩ = some (.string u.salt) ∧ w.cell? ⟨b, off + j * 4 + 2, none⟩ = some (.string u.digest) ∧ w.cell? ⟨b, off + j * 4 + 3, none⟩ = some (.bool u.op) := by
  obtain ⟨hl, b, off, ao, cap, h1, h2, h3, h4, h5⟩ := h
  refine ⟨b, off, ao, cap, h1, h2, h4, fun j u hj => ?_⟩
  have g : ∀ i x, (uC l)[i]? = some x → w.cell? ⟨b, off + i, none⟩ = some x := fun i x hx => by
    have hi := (List.getElem?_eq_some_iff.1 hx).1
    rw [h5 i hi]
    simp [List.getD, hx]
  obtain ⟨a, c, d, e⟩ := uC_get l j u hj
  exact ⟨g _ _ a, by have := g _ _ c; rwa [← Nat.add_assoc] at this, by have := g _ _ d; rwa [← Nat.add_assoc] at this, by have := g _ _ e; rwa [← Nat.add_assoc] at this⟩

def mayTo (l : List UsL) : Nat → Bool
  | 0 => true
  | k + 1 => mayTo l k && (match l[k]? with
    | some u => oneB u && !Lib.containsS ((l.take k).map (·.name)) u.name
    | none => false)
def mayB (l : List UsL) : Bool := decide (1 ≤ l.length) && decide (l.length ≤ 16) && mayTo l l.length
theorem mayTo_false {l : List UsL} {k : Nat} (h : mayTo l k = false) : ∀ n, k ≤ n → mayTo l n = false
  | 0, hk => by
    have : k = 0 := by omega
    subst this; exact h
  | n + 1, hk => by
    by_cases he : k = n + 1
    · subst he; exact h
    · rw [mayTo, mayTo_false h n (by omega)]; rfl
theorem info9 : (Tryz.prog.info? 9).map (fun i => (i.zero, i.size, i.bytes)) = some (some (.string ⟨#[]⟩), 1, 16) := by kernel_rfl
theorem seesName (X : World) (s : ByteArray) : SeesK 1 (X.alloc (.cells #[.string s] 9)) (.slice (some ⟨X.heap.size, 0, none⟩) 1 1) 1 (tC [s]) := by
  refine ⟨rfl, X.heap.size, 0, _, 1, rfl, Nat.le_refl _, (fun h => by cases h), fun _ => rfl, fun j hj => ?_⟩
  have : j = 0 := by simp [tC] at hj; omega
  subst this
  simp [tC]

set_option maxHeartbeats 4000000 in
theorem mayBe_any (v : Value) (l : List UsL) (w : World) (hS : SeesK 4 w v l.length (uC l)) (hz : ∀ u ∈ l, u.name.size ≤ 140737488355328 ∧ u.salt.size ≤ 140737488355328 ∧ u.digest.size ≤ 140737488355328) :
    Calls Tryz.prog 29 #[v] w fun e w' => e = .returned (.bool (mayB l)) ∧ Below w.heap.size w w' := by
  obtain ⟨b, off, ao, cap, rfl, hcap, hao, hcell⟩ := seesU hS
  by_cases a1 : l.length < 1
  · have HV := hid (show mayB l = false by simp [mayB]; omega)
    have b1 : (l.length : Int) < 1 := by omega
    clear a1 hcell hS
    go_enter Tryz.func29, Tryz.ntmps29
    go_wp2
    go_ret
    exact ⟨ret_bool HV.out.symm, Below.refl _ _⟩
  have b1 : ¬ (l.length : Int) < 1 := by omega
  by_cases a2 : 16 < l.length
  · have HV := hid (show mayB l = false by simp [mayB]; omega)
    have b2 : (16 : Int) < (l.length : Int) := by omega
    clear a1 a2 hcell hS
    go_enter Tryz.func29, Tryz.ntmps29
    go_wp2
    go_ret
    exact ⟨ret_bool HV.out.symm, Below.refl _ _⟩
  have b2 : ¬ (16 : Int) < (l.length : Int) := by omega
  obtain rfl := hao (by omega)
  have HV := hid (show mayB l = mayTo l l.length by simp [mayB]; intro _; omega)
  have hbl : b < w.heap.size := World.block_lt_of_cell? w _ (hcell 0 (l[0]'(by omega)) (List.getElem?_eq_getElem _)).1
  have HC := hid hcell
  have HZ := hid hz
  clear a1 hcell hS hao hz
  go_enter Tryz.func29, Tryz.ntmps29
  go_wp2
  go_loopw [3, 5, 16] (fun nm _ i wr => ∃ k : Nat, k ≤ l.length ∧ i = .int .i64 k ∧ Hid (mayTo l k = true) ∧ wr.ownsRow w.heap.size 9 1 nm k (tC ((l.take k).map (·.name))) ∧ Below w.heap.size w wr) (fun _ _ i _ => l.length - (intOf i).toNat)
  case atStart => exact ⟨0, Nat.zero_le _, rfl, rfl, World.ownsRow_nil _ _ _ _, Below.refl _ _⟩
  case round =>
    obtain ⟨k, hk, rfl, HM, hO, hB⟩ := hrel
    obtain ⟨an, cn, rfl⟩ := row_shape hO
    by_cases hlt : k < l.length
    · obtain ⟨u, hu⟩ : ∃ u, l[k]? = some u := ⟨_, List.getElem?_eq_getElem hlt⟩
      have hum : u ∈ l := List.mem_of_getElem? hu
      obtain ⟨z1, z2, z3⟩ := HZ.out u hum
      obtain ⟨c0, c1, c2, c3⟩ := HC.out k u hu
      have d0 := (hB.cell (p := ⟨b, off + k * 4, none⟩) hbl).trans c0
      have d1 := (hB.cell (p := ⟨b, off + k * 4 + 1, none⟩) hbl).trans c1
      have d2 := (hB.cell (p := ⟨b, off + k * 4 + 2, none⟩) hbl).trans c2
      have d3 := (hB.cell (p := ⟨b, off + k * 4 + 3, none⟩) hbl).trans c3
      obtain ⟨W, hW⟩ : ∃ W, W = wr.alloc (.cells #[.string u.name, .string u.salt, .string u.digest, .bool u.op] 55) := ⟨_, rfl⟩
      have hbW : Below wr.heap.size wr W := by rw [hW]; exact below_alloc wr _
      have hX : UBox W wr.heap.size u := by unfold UBox; rw [hW]; exact heap_alloc_new wr _
      have hXl : wr.heap.size < W.heap.size := by rw [hW]; simp
      have hone := mayOne_any u W z1 z2 z3
      have HX := hid hX
      have HO := hid hO
      have HB := hid hB
      have HW := hid hW
      have HBW := hid hbW
      have HU := hid hu
      have hsw := hB.size
      obtain ⟨x0, x1, x2, x3⟩ := hX.cells
      obtain ⟨nm, sl, dg, op⟩ := u
      simp only at d0 d1 d2 d3 x0 x1 x2 x3 z1 z2 z3
      unfold uV at hone
      simp only at hone
      have hi : (k : Int) < (l.length : Int) := by omega
      have hstep : mayTo l (k + 1) = (oneB ⟨nm, sl, dg, op⟩ && !Lib.containsS ((l.take k).map (·.name)) nm) := by
        rw [mayTo, HM.out, HU.out, Bool.true_and]
      have HS := hid hstep
      have HL := hid hXl
      clear c0 c1 c2 c3 hX hO hB hW hbW hu hum hstep
      have HNF := hid (fun h : mayTo l (k + 1) = false => show mayB l = false by rw [HV.out]; exact mayTo_false h l.length (by omega))
      have hkn : ((l.take k).map (·.name)).length = k := by simp; omega
      have HKN := hid hkn
      clear hkn
      cases ho : oneB ⟨nm, sl, dg, op⟩ with
      | false =>
        rw [ho] at hone HS
        have HE := hid (HNF.out HS.out)
        have HONE := hid hone
        clear hone ho HNF
        go_wp2_with fail
        rw [← HW.out]
        clear HW
        go_wp2_with fail
        refine HONE.out.mono ?_
        rintro e w1 ⟨rfl, hb1⟩
        have HB1 := hid (HB.out.trans ((HBW.out.trans (hb1.mono HBW.out.size)).mono hsw))
        clear hb1 HONE
        go_wp2
        go_ret
        exact ⟨ret_bool HE.out.symm, HB1.out⟩
      | true =>
        rw [ho] at hone HS
        have HONE := hid hone
        clear hone ho
        cases hc : Lib.containsS ((l.take k).map (·.name)) nm with
        | true =>
          rw [hc] at HS
          have HE := hid (HNF.out HS.out)
          have HC2 := hid hc
          clear hc HNF
          go_wp2_with fail
          rw [← HW.out]
          clear HW
          go_wp2_with fail
          refine HONE.out.mono ?_
          rintro e w1 ⟨rfl, hb1⟩
          have HB1 := hid (HB.out.trans ((HBW.out.trans (hb1.mono HBW.out.size)).mono hsw))
          have y := HX.out.below hb1
          obtain ⟨y0, y1, y2, y3⟩ := y.cells
          simp only at y0 y1 y2 y3
          have hsn := (sees_of_row HO.out).below (HBW.out.trans (hb1.mono HBW.out.size))
          have hhas := hasS_any (.slice an k cn) ((l.take k).map (·.name)) nm w1 (by rw [HKN.out]; exact hsn) (by rw [HKN.out]; omega)
          rw [HC2.out] at hhas
          have HH := hid hhas
          clear hb1 HONE y hsn hhas
          go_wp2_with fail
          refine HH.out.mono ?_
          rintro e w2 ⟨rfl, hw⟩
          subst w2
          clear HH
          go_wp2
          go_ret
          exact ⟨ret_bool HE.out.symm, HB1.out⟩
        | false =>
          rw [hc] at HS
          have HC2 := hid hc
          clear hc HNF
          go_wp2_with fail
          rw [← HW.out]
          clear HW
          go_wp2_with fail
          refine HONE.out.mono ?_
          rintro e w1 ⟨rfl, hb1⟩
          have hbw1 := HBW.out.trans (hb1.mono HBW.out.size)
          have HB1 := hid (HB.out.trans (hbw1.mono hsw))
          have y := HX.out.below hb1
          obtain ⟨y0, y1, y2, y3⟩ := y.cells
          simp only at y0 y1 y2 y3
          have hsn := (sees_of_row HO.out).below hbw1
          have HO1 := hid (ownsRow_below HO.out hbw1)
          have hhas := hasS_any (.slice an k cn) ((l.take k).map (·.name)) nm w1 (by rw [HKN.out]; exact hsn) (by rw [HKN.out]; omega)
          rw [HC2.out] at hhas
          have HH := hid hhas
          clear hb1 HONE y hsn hhas hbw1
          go_wp2_with fail
          refine HH.out.mono ?_
          rintro e w2 ⟨rfl, hw⟩
          subst w2
          clear HH
          have hs1 := HB1.out.size
          go_wp2_with (at_builtin; refine wpList_appK Tryz.underlying39 info9 rfl (by decide) rfl _ _ rfl w.heap.size (.slice an k cn) k (tC ((l.take k).map (·.name))) rfl (ownsRow_below HO1.out (below_alloc w1 _)) (.slice (some ⟨w1.heap.size, 0, none⟩) 1 1) 1 (tC [nm]) rfl (seesName w1 nm) (tC_one _) (by omega) (by simp only [maxLen]; omega) (by simp; omega) ?_; intro v4 w4 hO4 hG4)
          have HO4 := hid hO4
          have HB4 := hid (below_grownBy (HB1.out.trans ((below_alloc w1 _).mono hs1)) hG4 (fun j hj => ownsRow_ge HO1.out hj) (by simp; omega))
          have HT : Hid (tC ((l.take (k + 1)).map (·.name)) = tC ((l.take k).map (·.name)) ++ tC [nm]) := by
            show _ = _
            rw [List.take_add_one, HU.out]
            simp [tC]
          clear hO4 hG4
          go_roundw
          case rel => exact ⟨k + 1, by omega, by go_num, HS.out, by rw [HT.out]; exact HO4.out, HB4.out⟩
          case measure => simp [intOf]; omega
    · have hk' : k = l.length := by omega
      subst hk'
      have HE := hid (HV.out.trans HM.out)
      have HBE := hid hB
      clear hB hO
      go_wp2
      go_ret
      exact ⟨ret_bool HE.out.symm, HBE.out⟩
end Go.Proofs.YtplljpodejpbgaaGreatDoor
