/-
  fresh, Get, Trim: the code's and the document's.
-/
import Derived.Test.YtomjclkijakcpaaDoorSame
import Derived.Test.YtomjclkijakcpaaDoorForm
import Derived.Laws.IdiomStrings
import Derived.Lib.SlTrimSet
namespace Go.Proofs.YtomjclkijakcpaaDoor
open Go.RowKit
set_option linter.unusedVariables false

set_option maxHeartbeats 1000000 in
theorem fresh_any (l : List UInt8) (w : World) :
    Calls Tryd.prog 12 #[.string ⟨l.toArray⟩] w fun e w' => e = .returned (.string ⟨l.toArray⟩) ∧ Below w.heap.size w w' := by
  have h1 := run_bytes_of_string (P := Tryd.prog) w 9 38 5 ⟨l.toArray⟩ Tryd.underlying9 Tryd.underlying38 Tryd.underlying5
  obtain ⟨C, hC⟩ : ∃ C, C = grownCap w (⟨l.toArray⟩ : ByteArray).size 0 5 := ⟨_, rfl⟩
  rw [← hC] at h1
  obtain ⟨R, hR⟩ : ∃ R, R = bytesRow ⟨l.toArray⟩ C := ⟨_, rfl⟩
  rw [← hR] at h1
  obtain ⟨w1, hw1⟩ : ∃ w1, w1 = w.drew.alloc (.cells R 5 (R.size, R.size + 1)) := ⟨_, rfl⟩
  rw [← hw1, size_list] at h1
  have h2 := run_convert_bytes_back (P := Tryd.prog) w1 38 9 5 ⟨w.heap.size, 0, none⟩ C l Tryd.underlying38 Tryd.underlying5 Tryd.underlying9 (fun j hj => by
    rw [addr_add, Nat.zero_add, hw1]
    have := World.cell?_alloc_mark w.drew R 5 (R.size, R.size + 1) j
    rw [show w.drew.heap.size = w.heap.size from rfl] at this
    rw [this, hR, bytesRow_at _ _ _ (by simpa using hj)]
    simp)
  have HB : Hid (Below w.heap.size w w1) := by
    unfold Hid
    rw [hw1]
    exact (Below.drew (Below.refl _ _)).alloc (Nat.le_refl _) _
  clear hC hR hw1
  go_enter Tryd.func12, Tryd.ntmps12
  go_wp2
  go_ret
  exact ⟨rfl, HB.out⟩

/-! ### Get -/
def getL (l : List PairL) (n : List UInt8) : Option (List UInt8) := (l.find? (fun p => p.1 == n)).map (·.2)
theorem getL_at {l : List PairL} {n : List UInt8} {k : Nat} (h : k < l.length) (hno : ∀ j (hj : j < l.length), j < k → (l[j].1 == n) = false) (he : (l[k].1 == n) = true) : getL l n = some l[k].2 := by
  have : l.find? (fun p => p.1 == n) = some l[k] := by
    rw [List.find?_eq_some_iff_getElem]
    refine ⟨he, k, h, rfl, fun j hj => ?_⟩
    rw [hno j (by omega) hj]
    rfl
  rw [getL, this]
  rfl
theorem getL_none {l : List PairL} {n : List UInt8} (hno : ∀ j (hj : j < l.length), (l[j].1 == n) = false) : getL l n = none := by
  have : l.find? (fun p => p.1 == n) = none := by
    rw [List.find?_eq_none]
    intro p hp
    obtain ⟨j, hj, rfl⟩ := List.getElem_of_mem hp
    rw [hno j hj]
    simp
  rw [getL, this]
  rfl

set_option maxRecDepth 20000 in
set_option maxHeartbeats 1000000 in
theorem rget_any (v : Value) (l : List PairL) (n : List UInt8) (w : World) (hS : SeesP w v l) (hbig : l.length ≤ 140737488355328) :
    Calls Tryd.prog 5 #[v, .string ⟨n.toArray⟩] w fun e w' => e = .returned (.tuple #[.string ⟨((getL l n).getD []).toArray⟩, .bool (getL l n).isSome]) ∧ w' = w := by
  obtain ⟨b, off, ao, cap, rfl, hcap, _, hao, hcell⟩ := hS
  have HC := hid hcell
  clear hcell
  obtain ⟨G, hG⟩ : ∃ G, G = getL l n := ⟨_, rfl⟩
  rw [← hG]
  have HG := hid hG
  clear hG
  go_enter Tryd.func5, Tryd.ntmps5
  go_wp2_with fail
  go_loop [6] (fun i => ∃ (k : Nat), k ≤ l.length ∧ i = .int .i64 (k : Int) ∧ ∀ j (hj : j < l.length), j < k → (l[j].1 == n) = false) (fun i => l.length - (intOf i).toNat)
  case atStart => exact ⟨0, Nat.zero_le _, rfl, fun j hj h => by omega⟩
  case round =>
    obtain ⟨k, hk, rfl, hno⟩ := hrel
    have HNo := hid hno
    clear hno
    by_cases hlt : k < l.length
    · have hlt' : (k : Int) < (l.length : Int) := by omega
      obtain rfl := hao (by intro h; rw [h] at hlt; simp at hlt)
      obtain ⟨d1, d2⟩ := HC.out k hlt
      unfold strV at d1 d2
      have HA := hid (fun he => getL_at hlt HNo.out he)
      have HN : Hid ((l[k].1 == n) = false → ∀ j (hj : j < l.length), j < k + 1 → (l[j].1 == n) = false) := by
        unfold Hid
        intro he j hj hjk
        by_cases hjk' : j = k
        · subst hjk'; exact he
        · exact HNo.out j hj (by omega)
      obtain ⟨p, hp⟩ : ∃ p, p = l[k] := ⟨_, rfl⟩
      rw [← hp] at d1 d2 HA HN
      clear hp
      cases he : (p.1 == n) with
      | true =>
        have HE := hid (HA.out he)
        clear HA HN
        go_wp2
        go_ret2
        exact ⟨by rw [HG.out, HE.out]; rfl, rfl⟩
      | false =>
        have HE := hid (HN.out he)
        clear HA HN
        go_wp2
        go_round
        case rel => exact ⟨k + 1, by omega, by go_num, HE.out⟩
        case measure => simp [intOf]; omega
    · have hlt' : ¬ (k : Int) < (l.length : Int) := by omega
      have HE := hid (getL_none (l := l) (n := n) (fun j hj => HNo.out j hj (by omega)))
      go_wp2
      go_ret2
      exact ⟨by rw [HG.out, HE.out]; rfl, rfl⟩

set_option maxRecDepth 20000 in
set_option maxHeartbeats 1000000 in
theorem get_any (v : Value) (l : List PairL) (n : List UInt8) (w : World) (hS : SeesP w v l) (hbig : l.length ≤ 140737488355328) :
    Calls Tryd.prog 4 #[v, .string ⟨n.toArray⟩] w fun e w' => e = .returned (.tuple #[.string ⟨((getL l n).getD []).toArray⟩, .bool (getL l n).isSome]) ∧ Below w.heap.size w w' := by
  obtain ⟨b, off, ao, cap, rfl, hcap, _, hao, hcell⟩ := hS
  have HC := hid hcell
  clear hcell
  obtain ⟨G, hG⟩ : ∃ G, G = getL l n := ⟨_, rfl⟩
  rw [← hG]
  have HG := hid hG
  clear hG
  go_enter Tryd.func4, Tryd.ntmps4
  go_wp2_with fail
  go_loopw [10] (fun i wr => ∃ (k : Nat), k ≤ l.length ∧ i = .int .i64 (k : Int) ∧ (∀ j (hj : j < l.length), j < k → (l[j].1 == n) = false) ∧ Below w.heap.size w wr) (fun i _ => l.length - (intOf i).toNat)
  case atStart => exact ⟨0, Nat.zero_le _, rfl, fun j hj h => by omega, Below.refl _ _⟩
  case round =>
    obtain ⟨k, hk, rfl, hno, hB⟩ := hrel
    have HNo := hid hno
    clear hno
    by_cases hlt : k < l.length
    · have hlt' : (k : Int) < (l.length : Int) := by omega
      obtain rfl := hao (by intro h; rw [h] at hlt; simp at hlt)
      obtain ⟨d1, d2⟩ := HC.out k hlt
      have hb1 := World.block_lt_of_cell? w _ d1
      have hb2 := World.block_lt_of_cell? w _ d2
      rw [← hB.cell hb1] at d1
      rw [← hB.cell hb2] at d2
      unfold strV at d1 d2
      have HA := hid (fun he => getL_at hlt HNo.out he)
      have HN : Hid ((l[k].1 == n) = false → ∀ j (hj : j < l.length), j < k + 1 → (l[j].1 == n) = false) := by
        unfold Hid
        intro he j hj hjk
        by_cases hjk' : j = k
        · subst hjk'; exact he
        · exact HNo.out j hj (by omega)
      obtain ⟨p, hp⟩ : ∃ p, p = l[k] := ⟨_, rfl⟩
      rw [← hp] at d1 d2 HA HN
      have HB2 := hid (hB.trans ((below_alloc wr (.cells #[.string ⟨p.1.toArray⟩, .string ⟨p.2.toArray⟩] 31)).mono hB.size))
      clear hp hb1 hb2 hB
      cases he : (p.1 == n) with
      | true =>
        have HE := hid (HA.out he)
        have hF := fresh_any p.2 (wr.alloc (.cells #[.string ⟨p.1.toArray⟩, .string ⟨p.2.toArray⟩] 31))
        clear HA HN
        go_wp2_with fail
        refine hF.mono ?_
        clear hF
        rintro e w3 ⟨rfl, hB3⟩
        have HB3 := hid (HB2.out.trans (hB3.mono HB2.out.size))
        clear hB3 HB2
        go_wp2
        go_ret2
        exact ⟨by rw [HG.out, HE.out]; rfl, HB3.out⟩
      | false =>
        have HE := hid (HN.out he)
        clear HA HN
        go_wp2
        go_roundw
        case rel => exact ⟨k + 1, by omega, by go_num, HE.out, HB2.out⟩
        case measure => simp [intOf]; omega
    · have hlt' : ¬ (k : Int) < (l.length : Int) := by omega
      have HE := hid (getL_none (l := l) (n := n) (fun j hj => HNo.out j hj (by omega)))
      have HB := hid hB
      clear hB
      go_wp2
      go_ret2
      exact ⟨by rw [HG.out, HE.out]; rfl, HB.out⟩

end Go.Proofs.YtomjclkijakcpaaDoor
