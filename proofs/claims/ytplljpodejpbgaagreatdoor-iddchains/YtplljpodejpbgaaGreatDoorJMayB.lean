/-
  Which users may be: one user, all users.
-/
import Derived.Test.YtplljpodejpbgaaGreatDoorJMay
import Derived.Test.YtplljpodejpbgaaGreatDoorShelfB
import Derived.Deep.AppendLies
namespace Go.Proofs.YtplljpodejpbgaaGreatDoor
open Go.RowKit
set_option linter.unusedVariables false
set_option linter.unusedSimpArgs false
set_option maxRecDepth 100000

def uV (u : UsL) : Value := .agg #[.string u.name, .string u.salt, .string u.digest, .bool u.op]
def UBox (w : World) (p : Nat) (u : UsL) : Prop := w.heap[p]? = some (.cells #[.string u.name, .string u.salt, .string u.digest, .bool u.op] 55 (0, 0))
theorem UBox.cells {w : World} {p : Nat} {u : UsL} (h : UBox w p u) : w.cell? ⟨p, 0, none⟩ = some (.string u.name) ∧ w.cell? ⟨p, 1, none⟩ = some (.string u.salt) ∧ w.cell? ⟨p, 2, none⟩ = some (.string u.digest) ∧ w.cell? ⟨p, 3, none⟩ = some (.bool u.op) := by
  unfold UBox at h
  simp [World.cell?, h]
theorem UBox.below {w w' : World} {p : Nat} {u : UsL} (h : UBox w p u) (hb : Below w.heap.size w w') : UBox w' p u := (hb.block p (Array.getElem?_eq_some_iff.1 h).1).trans h

set_option maxHeartbeats 2000000 in
theorem mayOne_any (u : UsL) (w : World) (h1 : u.name.size ≤ 140737488355328) (h2 : u.salt.size ≤ 140737488355328) (h3 : u.digest.size ≤ 140737488355328) :
    Calls Tryz.prog 61 #[uV u] w fun e w' => e = .returned (.bool (oneB u)) ∧ Below w.heap.size w w' := by
  obtain ⟨n, s, g, op⟩ := u
  simp only at h1 h2 h3
  obtain ⟨W, hW⟩ : ∃ W, W = w.alloc (.cells #[.string n, .string s, .string g, .bool op] 55) := ⟨_, rfl⟩
  have hbW : Below w.heap.size w W := by rw [hW]; exact below_alloc w _
  have hX : UBox W w.heap.size ⟨n, s, g, op⟩ := by unfold UBox; rw [hW]; exact heap_alloc_new w _
  obtain ⟨c0, c1, c2, c3⟩ := hX.cells
  simp only at c0 c1 c2 c3
  have hvis := hid (visible_any n W (by omega))
  have HB := hid hbW
  have HW := hid hW
  unfold uV
  simp only
  clear hbW hW hX
  by_cases a1 : n.size < 1
  · have HV := hid (show oneB ⟨n, s, g, op⟩ = false by simp [oneB]; omega)
    have b1 : (n.size : Int) < 1 := by omega
    clear a1
    go_enter Tryz.func61, Tryz.ntmps61
    go_wp2_with fail
    rw [← HW.out]
    clear HW
    go_wp2
    go_ret
    exact ⟨ret_bool HV.out.symm, HB.out⟩
  have b1 : ¬ (n.size : Int) < 1 := by omega
  by_cases a2 : 32 < n.size
  · have HV := hid (show oneB ⟨n, s, g, op⟩ = false by simp [oneB]; omega)
    have b2 : (32 : Int) < (n.size : Int) := by omega
    clear a1 a2
    go_enter Tryz.func61, Tryz.ntmps61
    go_wp2_with fail
    rw [← HW.out]
    clear HW
    go_wp2
    go_ret
    exact ⟨ret_bool HV.out.symm, HB.out⟩
  have b2 : ¬ (32 : Int) < (n.size : Int) := by omega
  by_cases a3 : visB n = true
  · by_cases a4 : 32 < s.size
    · have HV := hid (show oneB ⟨n, s, g, op⟩ = false by simp [oneB]; omega)
      have b4 : (32 : Int) < (s.size : Int) := by omega
      rw [a3] at hvis
      clear a1 a2 a3 a4
      go_enter Tryz.func61, Tryz.ntmps61
      go_wp2_with fail
      rw [← HW.out]
      clear HW
      go_wp2_with fail
      refine hvis.out.mono ?_
      rintro e w1 ⟨rfl, hw⟩
      subst w1
      go_wp2
      go_ret
      exact ⟨ret_bool HV.out.symm, HB.out⟩
    have b4 : ¬ (32 : Int) < (s.size : Int) := by omega
    by_cases a5 : g.size = 64
    · have hunx := hid (unhex_any g W (by omega))
      have b5 : ((g.size : Int) != 64) = false := by rw [show (g.size : Int) = 64 by omega]; rfl
      have HV : Hid (oneB ⟨n, s, g, op⟩ = (unhexOf (bytesOf g)).isSome) := by
        show oneB ⟨n, s, g, op⟩ = _
        simp only [oneB, a3, show decide (1 ≤ n.size) = true from decide_eq_true (by omega), show decide (n.size ≤ 32) = true from decide_eq_true (by omega), show decide (s.size ≤ 32) = true from decide_eq_true (by omega), show decide (g.size = 64) = true from decide_eq_true a5, Bool.true_and, Bool.and_true]
      rw [a3] at hvis
      clear a1 a2 a3 a4 a5
      cases hu : unhexOf (bytesOf g) with
      | none =>
        rw [hu] at hunx HV
        unfold unhexV at hunx
        clear hu
        go_enter Tryz.func61, Tryz.ntmps61
        go_wp2_with fail
        rw [← HW.out]
        clear HW
        go_wp2_with fail
        refine hvis.out.mono ?_
        rintro e w1 ⟨rfl, hw⟩
        subst w1
        go_wp2_with fail
        refine hunx.out.mono ?_
        rintro e w1 ⟨rfl, hb1⟩
        have HB1 := hid (HB.out.trans (hb1.mono HB.out.size))
        clear hb1
        go_wp2
        go_ret
        exact ⟨ret_bool HV.out.symm, HB1.out⟩
      | some l =>
        rw [hu] at hunx HV
        unfold unhexV at hunx
        clear hu
        go_enter Tryz.func61, Tryz.ntmps61
        go_wp2_with fail
        rw [← HW.out]
        clear HW
        go_wp2_with fail
        refine hvis.out.mono ?_
        rintro e w1 ⟨rfl, hw⟩
        subst w1
        go_wp2_with fail
        refine hunx.out.mono ?_
        rintro e w1 ⟨rfl, hb1⟩
        have HB1 := hid (HB.out.trans (hb1.mono HB.out.size))
        clear hb1
        go_wp2
        go_ret
        exact ⟨ret_bool HV.out.symm, HB1.out⟩
    · have HV := hid (show oneB ⟨n, s, g, op⟩ = false by simp [oneB, a5])
      have b5 : ((g.size : Int) != 64) = true := by simp; omega
      rw [a3] at hvis
      clear a1 a2 a3 a4 a5
      go_enter Tryz.func61, Tryz.ntmps61
      go_wp2_with fail
      rw [← HW.out]
      clear HW
      go_wp2_with fail
      refine hvis.out.mono ?_
      rintro e w1 ⟨rfl, hw⟩
      subst w1
      go_wp2
      go_ret
      exact ⟨ret_bool HV.out.symm, HB.out⟩
  · have a3' : visB n = false := by simpa using a3
    have HV := hid (show oneB ⟨n, s, g, op⟩ = false by simp [oneB, a3'])
    rw [a3'] at hvis
    clear a1 a2 a3 a3'
    go_enter Tryz.func61, Tryz.ntmps61
    go_wp2_with fail
    rw [← HW.out]
    clear HW
    go_wp2_with fail
    refine hvis.out.mono ?_
    rintro e w1 ⟨rfl, hw⟩
    subst w1
    go_wp2
    go_ret
    exact ⟨ret_bool HV.out.symm, HB.out⟩

/-- A list of texts. -/
def tC (l : List ByteArray) : List Value := l.map Value.string
theorem tC_one (l : List ByteArray) : ∀ v ∈ tC l, v.oneCell' = true := by
  intro v hv
  obtain ⟨z, _, rfl⟩ := List.mem_map.1 hv
  rfl
set_option maxHeartbeats 1000000 in
theorem hasS_any (v : Value) (l : List ByteArray) (x : ByteArray) (w : World) (hS : SeesK 1 w v l.length (tC l)) (hl : l.length ≤ 1048576) :
    Calls Tryz.prog 62 #[v, .string x] w fun e w' => e = .returned (.bool (Lib.containsS l x)) ∧ w = w' := by
  obtain ⟨_, b, off, ao, cap, rfl, hcap, hnil, hao, hcell⟩ := hS
  by_cases h0 : l = []
  · subst h0
    go_enter Tryz.func62, Tryz.ntmps62
    go_wp2_with fail
    refine (Tryz.slices_Contains_string_empty _ _ _ _).mono ?_
    rintro e w1 ⟨rfl, hw⟩
    subst w1
    go_wp2
    go_ret
    exact ⟨rfl, rfl⟩
  · have hpos : 0 < l.length := by cases l with | nil => exact absurd rfl h0 | cons a b => simp
    obtain rfl := hao hpos
    have hc := hid (Tryz.slices_Contains_string b off l.length cap l x w (Nat.le_refl _) (by omega) (fun j hj => by
      rw [hcell j (by simpa [tC] using hj)]
      simp [tC, List.getD, hj]))
    clear hcell hao hnil h0 hpos
    go_enter Tryz.func62, Tryz.ntmps62
    go_wp2_with fail
    refine hc.out.mono ?_
    rintro e w1 ⟨rfl, hw⟩
    subst w1
    go_wp2
    go_ret
    exact ⟨rfl, rfl⟩
end Go.Proofs.YtplljpodejpbgaaGreatDoor
