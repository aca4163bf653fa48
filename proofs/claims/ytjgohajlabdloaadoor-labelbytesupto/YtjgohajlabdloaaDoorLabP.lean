/-
  Reading a text: category, strings.Cut at one byte.
-/
import Derived.Test.YtjgohajlabdloaaDoorLabC
import Derived.Test.YtjgohajlabdloaaDoorShelf
namespace Go.Proofs.YtjgohajlabdloaaDoor
open Go.RowKit
set_option linter.unusedVariables false

/-- One digit more. -/
def catStep (m : Int) (c : UInt8) : Option Int :=
  if (c.toNat : Int) - 48 < 0 ∨ 9 < (c.toNat : Int) - 48 ∨ (2147483647 - ((c.toNat : Int) - 48)) / 10 < m ∨ m * 10 + ((c.toNat : Int) - 48) = 0 then none else some (m * 10 + ((c.toNat : Int) - 48))
def catRun : Int → List UInt8 → Option Int
  | m, [] => some m
  | m, c :: r => (catStep m c).bind fun m' => catRun m' r
/-- The category that digits tell; 0: none. -/
def catV (l : List UInt8) : Int := (catRun 0 l).getD 0

theorem drop_byte (s : ByteArray) (k : Nat) (h : k < s.size) : s.data.toList.drop k = s[k] :: s.data.toList.drop (k + 1) := by
  have h' : k < s.data.toList.length := by rw [← Lib.size_eq]; exact h
  rw [List.drop_eq_getElem_cons h']
  rfl

set_option maxHeartbeats 400000 in
theorem category_any (s : ByteArray) (w : World) (hs : s.size ≤ 4611686018427387904) :
    Calls Tryd.prog 45 #[.string s] w fun e w' => e = .returned (.tuple #[.int .i64 (catV s.data.toList), .bool (decide (0 < catV s.data.toList))]) ∧ w' = w := by
  go_enter Tryd.func45, Tryd.ntmps45
  go_wp2
  go_loop [4, 9] (fun n i => ∃ (k : Nat) (m : Int), k ≤ s.size ∧ i = .int .i64 k ∧ n = .int .i64 m ∧ 0 ≤ m ∧ m ≤ 2147483647 ∧ catRun 0 s.data.toList = catRun m (s.data.toList.drop k)) (fun _ i => s.size - (intOf i).toNat)
  case atStart => exact ⟨0, 0, Nat.zero_le _, rfl, rfl, by omega, by omega, rfl⟩
  case round =>
    obtain ⟨k, m, hk, rfl, rfl, hm0, hm1, hrun⟩ := hrel
    by_cases hlt : k < s.size
    · rw [drop_byte s k hlt] at hrun
      have hb : (s[k]'hlt).toNat < 256 := UInt8.toNat_lt _
      have hrun' : catRun 0 s.data.toList = (catStep m (s[k]'hlt)).bind fun m' => catRun m' (s.data.toList.drop (k + 1)) := hrun
      have HR := hid hrun'
      clear hrun hrun'
      by_cases h1 : (((s[k]'hlt).toNat : Int)) - 48 < 0
      · have HV : Hid (catV s.data.toList = 0) := by
          unfold Hid catV
          rw [HR.out, catStep, if_pos (Or.inl h1)]
          rfl
        go_wp2
        go_ret2
        exact ⟨by rw [HV.out]; rfl, rfl⟩
      have h1' : decide ((((s[k]'hlt).toNat : Int)) - 48 < 0) = false := by simp; omega
      by_cases h2 : 9 < (((s[k]'hlt).toNat : Int)) - 48
      · have HV : Hid (catV s.data.toList = 0) := by
          unfold Hid catV
          rw [HR.out, catStep, if_pos (Or.inr (Or.inl h2))]
          rfl
        go_wp2
        go_ret2
        exact ⟨by rw [HV.out]; rfl, rfl⟩
      have h2' : decide (9 < (((s[k]'hlt).toNat : Int)) - 48) = false := by simp; omega
      by_cases h3 : (2147483647 - ((((s[k]'hlt).toNat : Int)) - 48)) / 10 < m
      · have HV : Hid (catV s.data.toList = 0) := by
          unfold Hid catV
          rw [HR.out, catStep, if_pos (Or.inr (Or.inr (Or.inl h3)))]
          rfl
        go_wp2
        go_ret2
        exact ⟨by rw [HV.out]; rfl, rfl⟩
      have h3' : decide ((2147483647 - ((((s[k]'hlt).toNat : Int)) - 48)) / 10 < m) = false := by simp; omega
      by_cases h4 : m * 10 + ((((s[k]'hlt).toNat : Int)) - 48) = 0
      · have h4' : (m * 10 + ((((s[k]'hlt).toNat : Int)) - 48) == 0) = true := by simpa using h4
        have HV : Hid (catV s.data.toList = 0) := by
          unfold Hid catV
          rw [HR.out, catStep, if_pos (Or.inr (Or.inr (Or.inr h4)))]
          rfl
        clear h4
        go_wp2
        go_ret2
        exact ⟨by rw [HV.out]; rfl, rfl⟩
      · have h4' : (m * 10 + ((((s[k]'hlt).toNat : Int)) - 48) == 0) = false := by simpa using h4
        have HV : Hid (catRun 0 s.data.toList = catRun (m * 10 + ((((s[k]'hlt).toNat : Int)) - 48)) (s.data.toList.drop (k + 1))) := by
          unfold Hid
          rw [HR.out, catStep, if_neg (by omega)]
          rfl
        have h5 : m * 10 + ((((s[k]'hlt).toNat : Int)) - 48) ≤ 2147483647 := by omega
        have h6 : 0 ≤ m * 10 + ((((s[k]'hlt).toNat : Int)) - 48) := by omega
        go_wp2
        go_round
        case rel => exact ⟨k + 1, _, by omega, by go_num, rfl, h6, h5, HV.out⟩
        case measure => simp [intOf]; omega
    · have HV : Hid (catV s.data.toList = m) := by
        unfold Hid catV
        rw [hrun, List.drop_eq_nil_of_le (by rw [← Lib.size_eq]; omega)]
        rfl
      clear hrun
      go_wp2
      go_ret2
      exact ⟨by rw [HV.out]; rfl, rfl⟩

theorem indexByte_lt : ∀ (l : List UInt8) (c : UInt8), Lib.indexByte l c = -1 ∨ ∃ k : Nat, Lib.indexByte l c = k ∧ k < l.length
  | [], c => Or.inl rfl
  | b :: l, c => by
    unfold Lib.indexByte
    by_cases h : (b == c) = true
    · rw [if_pos h]
      exact Or.inr ⟨0, rfl, by simp⟩
    · rw [if_neg h]
      rcases indexByte_lt l c with h1 | ⟨k, h1, h2⟩
      · rw [h1]
        exact Or.inl rfl
      · rw [h1, if_neg (by simp)]
        exact Or.inr ⟨k + 1, by omega, by simp; omega⟩

/-- A text around the first c. -/
def cutL (l : List UInt8) (c : UInt8) : List UInt8 × List UInt8 × Bool :=
  if 0 ≤ Lib.indexByte l c then (l.take (Lib.indexByte l c).toNat, l.drop ((Lib.indexByte l c).toNat + 1), true) else (l, [], false)

theorem extract_list (l : List UInt8) (a b : Nat) : (⟨l.toArray⟩ : ByteArray).extract a b = ⟨((l.drop a).take (b - a)).toArray⟩ := by
  rw [ByteArray.extract_mk]

set_option maxHeartbeats 400000 in
theorem cut57_any (l : List UInt8) (c : UInt8) (w : World) (hs : l.length ≤ 4611686018427387904) :
    Calls Tryd.prog 42 #[.string ⟨l.toArray⟩, .string ⟨#[c]⟩] w fun e w' => e = .returned (.tuple #[.string ⟨(cutL l c).1.toArray⟩, .string ⟨(cutL l c).2.1.toArray⟩, .bool (cutL l c).2.2]) ∧ ∃ n, w' = w.drewN n := by
  obtain ⟨s, hs'⟩ : ∃ s : ByteArray, s = ⟨l.toArray⟩ := ⟨_, rfl⟩
  have hsz : s.size = l.length := by rw [hs', Lib.size_eq]
  have hI := Tryd.stringslite_Index_one s c w
  rw [show s.data.toList = l by rw [hs']] at hI
  rw [← hs']
  have HS := hid hs'
  clear hs'
  rcases indexByte_lt l c with h | ⟨k, h, h2⟩
  · rw [h] at hI
    have HE : Hid (cutL l c = (l, [], false)) := by unfold Hid; rw [cutL, h]; rfl
    go_enter Tryd.func42, Tryd.ntmps42
    go_wp2_with fail
    refine hI.mono ?_
    rintro e w' ⟨rfl, rfl⟩
    go_wp2
    go_ret3
    refine ⟨?_, 0, rfl⟩
    rw [HE.out, HS.out]
    rfl
  · rw [h] at hI
    have HE : Hid (cutL l c = (l.take k, l.drop (k + 1), true)) := by unfold Hid; rw [cutL, h, if_pos (by omega)]; rfl
    have h1 : (k : Int) + 1 ≤ (s.size : Int) := by omega
    have h2' : (k : Int) ≤ (s.size : Int) := by omega
    go_enter Tryd.func42, Tryd.ntmps42
    go_wp2_with fail
    refine hI.mono ?_
    rintro e w' ⟨rfl, rfl⟩
    go_wp2
    go_quiet (fail)
    go_wp2
    go_ret3
    refine ⟨?_, _, rfl⟩
    rw [HE.out, HS.out, extract_list, extract_list]
    simp
    rw [List.take_of_length_le (by simp)]

set_option maxHeartbeats 400000 in
theorem cut_any (l : List UInt8) (c : UInt8) (w : World) (hs : l.length ≤ 4611686018427387904) :
    Calls Tryd.prog 28 #[.string ⟨l.toArray⟩, .string ⟨#[c]⟩] w fun e w' => e = .returned (.tuple #[.string ⟨(cutL l c).1.toArray⟩, .string ⟨(cutL l c).2.1.toArray⟩, .bool (cutL l c).2.2]) ∧ ∃ n, w' = w.drewN n := by
  have hI := cut57_any l c w hs
  go_enter Tryd.func28, Tryd.ntmps28
  go_wp2_with fail
  refine hI.mono ?_
  rintro e w' ⟨rfl, n, rfl⟩
  go_wp2
  go_ret3
  exact ⟨rfl, n, rfl⟩

/-- At p lies a variable. -/
def VarAt (w : World) (p : Nat) (v : Value) : Prop := w.heap[p]? = some (.cells #[v] 22 (0, 0))
theorem VarAt.lt {w : World} {p : Nat} {v : Value} (h : VarAt w p v) : p < w.heap.size := (Array.getElem?_eq_some_iff.1 h).1
theorem VarAt.below {w w' : World} {p B : Nat} {v : Value} (h : VarAt w p v) (hb : Below B w w') (hp : p < B) : VarAt w' p v := by
  unfold VarAt
  rw [hb.block p hp]
  exact h
theorem VarAt.cells {w : World} {p : Nat} {v : Value} (h : VarAt w p v) : w.cell? ⟨p, 0, none⟩ = some v ∧ w.frozen? ⟨p, 0, none⟩ = false := by
  unfold VarAt at h
  refine ⟨?_, ?_⟩ <;> simp [World.cell?, World.frozen?, h]
theorem VarAt.store {w : World} {p : Nat} {v v' : Value} (h : VarAt w p v) : VarAt (w.setCell ⟨p, 0, none⟩ v') p v' := by
  unfold VarAt at *
  simp only [World.setCell, Array.getElem?_modify, h]
  simp
theorem VarAt.drewN {w : World} {p : Nat} {v : Value} (h : VarAt w p v) (n : Nat) : VarAt (w.drewN n) p v := by
  unfold VarAt at *
  have := (below_drewN (Below.refl w.heap.size w) n).block p (Array.getElem?_eq_some_iff.1 h).1
  rw [this]
  exact h

set_option maxHeartbeats 400000 in
theorem take_any (l : List UInt8) (p : Nat) (v : Value) (out : List Int) (w : World) (hl : l.length ≤ 4611686018427387904) (hc : VarAt w p v) (hO : Owns w (p + 1) v out) (ho : out.length ≤ 64) :
    Calls Tryd.prog 44 #[.string ⟨l.toArray⟩, .pointer (some ⟨p, 0, none⟩)] w fun e w' => ∃ v', e = .returned (.bool (decide (0 < catV l) && okB (out ++ [catV l]))) ∧ VarAt w' p v' ∧ Owns w' (p + 1) v' (out ++ [catV l]) ∧ Below p w w' := by
  have hR := category_any (⟨l.toArray⟩ : ByteArray) w (by rw [Lib.size_eq]; exact hl)
  rw [show (⟨l.toArray⟩ : ByteArray).data.toList = l from rfl] at hR
  obtain ⟨ao, cap, rfl⟩ : ∃ ao cap, v = .slice ao out.length cap := by
    obtain ⟨b, off, ao, cap, rfl, _⟩ := hO.sees
    exact ⟨ao, cap, rfl⟩
  obtain ⟨k1, k2⟩ := hc.cells
  have HC := hid hc
  have HO := hid hO
  have hlt := hc.lt
  clear hc hO
  generalize catV l = cat at *
  cases hbc : decide (0 < cat)
  · rw [hbc] at hR
    go_enter Tryd.func44, Tryd.ntmps44
    go_wp2_with fail
    refine hR.mono ?_
    clear hR
    rintro e w1 ⟨rfl, hw1⟩
    subst hw1
    go_wp2_with (first
      | (at_builtin
         refine wpList_app rfl _ _ rfl (p + 1) (.slice ao out.length cap) out rfl (Owns.below HO.out (below_alloc w1 _)) _ [cat] rfl (sees_one _ _) (by simp only [List.length_singleton]; omega) (by simp; omega) ?_
         intro v2 w2 h1 h2
         have hq : VarAt w2 p (.slice ao out.length cap) := by
           have hq1 : VarAt (w1.alloc (.cells #[.int .i64 cat] 3)) p (.slice ao out.length cap) := HC.out.below (below_alloc w1 _) hlt
           unfold VarAt at hq1 ⊢
           rw [h2.block p (by simp; omega) (fun h => by have := (HO.out.lt p h.symm).1; omega)]
           exact hq1
         have HB : Hid (Below p w1 w2) := by
           refine hid (Below.grown ((below_alloc w1 (.cells #[.int .i64 cat] 3)).mono (by omega)) h2 (by simp; omega) (fun k hk => ?_))
           have := (HO.out.lt k hk).1
           omega
         obtain ⟨ao2, cap2, rfl⟩ : ∃ ao2 cap2, v2 = .slice ao2 (out.length + 1) cap2 := by
           obtain ⟨b, off, ao2, cap2, rfl, _⟩ := h1.sees
           exact ⟨ao2, cap2, by simp⟩
         have HO2 := hid h1
         have HQ := hid hq
         obtain ⟨k3, k4⟩ := hq.cells
         clear k1 k2 h1 h2 hq HO HC)
      | fail)
    have HO3 := hid (ownsRow_setCell_below HO2.out (a := ⟨p, 0, none⟩) (by simp) (.slice ao2 (out.length + 1) cap2))
    have HV3 := hid (HQ.out.store (v' := .slice ao2 (out.length + 1) cap2))
    have HB3 := hid (HB.out.setCell (p := ⟨p, 0, none⟩) (by simp) (.slice ao2 (out.length + 1) cap2))
    go_ret
    exact ⟨_, rfl, HV3.out, HO3.out, HB3.out⟩
  · rw [hbc] at hR
    go_enter Tryd.func44, Tryd.ntmps44
    go_wp2_with fail
    refine hR.mono ?_
    clear hR
    rintro e w1 ⟨rfl, hw1⟩
    subst hw1
    go_wp2_with (first
      | (at_builtin
         refine wpList_app rfl _ _ rfl (p + 1) (.slice ao out.length cap) out rfl (Owns.below HO.out (below_alloc w1 _)) _ [cat] rfl (sees_one _ _) (by simp only [List.length_singleton]; omega) (by simp; omega) ?_
         intro v2 w2 h1 h2
         have hq : VarAt w2 p (.slice ao out.length cap) := by
           have hq1 : VarAt (w1.alloc (.cells #[.int .i64 cat] 3)) p (.slice ao out.length cap) := HC.out.below (below_alloc w1 _) hlt
           unfold VarAt at hq1 ⊢
           rw [h2.block p (by simp; omega) (fun h => by have := (HO.out.lt p h.symm).1; omega)]
           exact hq1
         have HB : Hid (Below p w1 w2) := by
           refine hid (Below.grown ((below_alloc w1 (.cells #[.int .i64 cat] 3)).mono (by omega)) h2 (by simp; omega) (fun k hk => ?_))
           have := (HO.out.lt k hk).1
           omega
         obtain ⟨ao2, cap2, rfl⟩ : ∃ ao2 cap2, v2 = .slice ao2 (out.length + 1) cap2 := by
           obtain ⟨b, off, ao2, cap2, rfl, _⟩ := h1.sees
           exact ⟨ao2, cap2, by simp⟩
         have HO2 := hid h1
         have HQ := hid hq
         obtain ⟨k3, k4⟩ := hq.cells
         clear k1 k2 h1 h2 hq HO HC)
      | fail)
    have HO3 := hid (ownsRow_setCell_below HO2.out (a := ⟨p, 0, none⟩) (by simp) (.slice ao2 (out.length + 1) cap2))
    have HV3 := hid (HQ.out.store (v' := .slice ao2 (out.length + 1) cap2))
    have HB3 := hid (HB.out.setCell (p := ⟨p, 0, none⟩) (by simp) (.slice ao2 (out.length + 1) cap2))
    refine (mayBe_any (.slice ao2 (out.length + 1) cap2) (out ++ [cat]) (w2.setCell ⟨p, 0, none⟩ (.slice ao2 (out.length + 1) cap2)) (Owns.sees HO3.out) (by simp; omega)).mono ?_
    rintro e w4 ⟨rfl, hw4⟩
    subst hw4
    go_wp2
    go_ret
    exact ⟨_, rfl, HV3.out, HO3.out, HB3.out⟩


/-- The parts of a text between commas, one by one: what they tell, and whether all of them do. -/
def runL : Nat → List Int → List UInt8 → List Int × Bool
  | 0, out, _ => (out, true)
  | f + 1, out, l =>
    if decide (0 < catV (cutL l 44).1) && okB (out ++ [catV (cutL l 44).1]) then
      (if (cutL l 44).2.2 then runL f (out ++ [catV (cutL l 44).1]) (cutL l 44).2.1 else (out ++ [catV (cutL l 44).1], true))
    else (out ++ [catV (cutL l 44).1], false)
def listedL (l : List UInt8) : List Int × Bool := if l = [] then ([], true) else runL (l.length + 1) [] l

theorem cutL_len (l : List UInt8) (c : UInt8) : (cutL l c).1.length ≤ l.length ∧ ((cutL l c).2.2 = true → (cutL l c).2.1.length < l.length) ∧ (cutL l c).2.1.length ≤ l.length := by
  rcases indexByte_lt l c with h | ⟨k, h, h2⟩
  · have : cutL l c = (l, [], false) := by rw [cutL, h]; rfl
    rw [this]
    exact ⟨Nat.le_refl _, (fun h => by cases h), by simp⟩
  · have : cutL l c = (l.take k, l.drop (k + 1), true) := by rw [cutL, h, if_pos (by omega)]; rfl
    rw [this]
    refine ⟨by simp; omega, (fun _ => by simp; omega), by simp⟩

def lenOf : Value → Nat
  | .string b => b.size
  | _ => 0
def isT : Value → Nat
  | .bool true => 1
  | _ => 0
theorem lenOf_str (l : List UInt8) : lenOf (.string ⟨l.toArray⟩) = l.length := by
  show (ByteArray.mk l.toArray).size = l.length
  rw [Lib.size_eq]

theorem below_drewN' (w : World) (B n : Nat) : Below B w (w.drewN n) := below_drewN (Below.refl _ _) n

set_option maxHeartbeats 400000 in
theorem parts_any (l : List UInt8) (p : Nat) (w : World) (hs : l.length ≤ 4611686018427387904) (hc : VarAt w p (.slice none 0 0)) :
    Calls Tryd.prog 43 #[.string ⟨l.toArray⟩, .func (.func 44) #[] #[.pointer (some ⟨p, 0, none⟩)]] w fun e w' => ∃ v', e = .returned (.bool (listedL l).2) ∧ VarAt w' p v' ∧ Owns w' (p + 1) v' (listedL l).1 ∧ Below p w w' := by
  obtain ⟨R0, hR0⟩ : ∃ R0, listedL l = R0 := ⟨_, rfl⟩
  rw [hR0]
  have HR0 := hid hR0
  have HC := hid hc
  have hlt := hc.lt
  clear hR0 hc
  go_enter Tryd.func43, Tryd.ntmps43
  go_wp2
  go_loopw [0, 5] (fun s m wr => ∃ (l' : List UInt8) (b : Bool) (out : List Int) (v : Value) (f : Nat), s = .string ⟨l'.toArray⟩ ∧ m = .bool b ∧ l'.length ≤ l.length ∧ l'.length < f ∧ out.length ≤ 64 ∧ R0 = (if b then runL f out l' else (out, true)) ∧ VarAt wr p v ∧ Owns wr (p + 1) v out ∧ Below p w wr) (fun s m _ => isT m * (lenOf s + 1))
  case atStart =>
    refine ⟨l, !l.isEmpty, [], .slice none 0 0, l.length + 1, rfl, rfl, Nat.le_refl _, by omega, by simp, ?_, HC.out, World.ownsRow_nil _ _ _ _, Below.refl _ _⟩
    rw [← HR0.out, listedL]
    cases l <;> simp
  case round =>
    obtain ⟨l', b, out, v, f, rfl, rfl, hl, hf, ho, hR, hV, hO, hB⟩ := hrel
    cases b
    · have HR := hid hR
      have HV := hid hV
      have HO := hid hO
      have HB := hid hB
      clear hR hV hO hB
      go_wp2
      go_ret
      refine ⟨v, ?_, HV.out, ?_, HB.out⟩
      · rw [HR.out]; rfl
      · rw [HR.out]; exact HO.out
    · obtain ⟨f', rfl⟩ : ∃ f', f = f' + 1 := ⟨f - 1, by omega⟩
      obtain ⟨g1, g2, g3⟩ := cutL_len l' 44
      have hRR : R0 = if decide (0 < catV (cutL l' 44).1) && okB (out ++ [catV (cutL l' 44).1]) then (if (cutL l' 44).2.2 then runL f' (out ++ [catV (cutL l' 44).1]) (cutL l' 44).2.1 else (out ++ [catV (cutL l' 44).1], true)) else (out ++ [catV (cutL l' 44).1], false) := hR
      have HR := hid hRR
      have HV := hid hV
      have HO := hid hO
      have HB := hid hB
      have hCut := cut_any l' 44 wr (by omega)
      generalize cutL l' 44 = cc at *
      obtain ⟨c1, c2, c3⟩ := cc
      clear hR hRR hV hO hB
      go_wp2_with fail
      refine hCut.mono ?_
      clear hCut
      rintro e w1 ⟨rfl, n, hw1⟩
      have hB1 : Below p wr w1 := by rw [hw1]; exact below_drewN' _ _ _
      have hV1 : VarAt w1 p v := by rw [hw1]; exact HV.out.drewN n
      have hO1 : Owns w1 (p + 1) v out := by rw [hw1]; exact HO.out.below (below_drewN' _ _ _)
      clear hw1
      have hT := take_any c1 p v out w1 (by omega) hV1 hO1 ho
      have HB1 := hid hB1
      clear hV1 hO1 hB1 HV HO
      go_wp2_with fail
      refine hT.mono ?_
      clear hT
      rintro e w2 ⟨v2, rfl, hV2, hO2, hB2⟩
      have HV2 := hid hV2
      have HO2 := hid hO2
      have HB2 := hid ((HB.out.trans HB1.out).trans hB2)
      clear hV2 hO2 hB2 HB HB1
      cases hok : (decide (0 < catV c1) && okB (out ++ [catV c1]))
      · have HR' : Hid (R0 = (out ++ [catV c1], false)) := by unfold Hid; rw [HR.out]; simp only [hok]; rfl
        clear HR
        go_wp2
        go_ret
        refine ⟨v2, ?_, HV2.out, ?_, HB2.out⟩
        · rw [HR'.out]; rfl
        · rw [HR'.out]; exact HO2.out
      · have HR' : Hid (R0 = (if c3 then runL f' (out ++ [catV c1]) c2 else (out ++ [catV c1], true))) := by unfold Hid; rw [HR.out]; simp only [hok]; rfl
        clear HR
        have hlen : (out ++ [catV c1]).length ≤ 64 := by
          rw [Bool.and_eq_true] at hok
          exact (okB_iff.1 hok.2).1
        have HOK := hid hok
        clear hok
        cases c3
        · go_wp2
          go_roundw
          case rel => exact ⟨c2, false, out ++ [catV c1], v2, c2.length + 1, rfl, rfl, by omega, by omega, hlen, HR'.out, HV2.out, HO2.out, HB2.out⟩
          case measure => simp [isT, lenOf_str]
        · have g2' := g2 rfl
          go_wp2
          go_roundw
          case rel => exact ⟨c2, true, out ++ [catV c1], v2, f', rfl, rfl, by omega, by omega, hlen, HR'.out, HV2.out, HO2.out, HB2.out⟩
          case measure => simp [isT, lenOf_str]; omega

set_option maxHeartbeats 400000 in
theorem listed_any (l : List UInt8) (w : World) (hs : l.length ≤ 4611686018427387904) :
    Calls Tryd.prog 29 #[.string ⟨l.toArray⟩] w fun e w' => ∃ v', e = .returned (.tuple #[v', .bool (listedL l).2]) ∧ Owns w' w.heap.size v' (listedL l).1 ∧ Below w.heap.size w w' := by
  have hP := parts_any l w.heap.size (w.alloc (.cells #[.slice none 0 0] 22)) hs (heap_alloc_new w _)
  have HZ := hid (below_alloc w (.cells #[.slice none 0 0] 22))
  generalize listedL l = R at *
  go_enter Tryd.func29, Tryd.ntmps29
  go_wp2_with fail
  refine hP.mono ?_
  clear hP
  rintro e w1 ⟨v1, rfl, hV, hO, hB⟩
  obtain ⟨k1, k2⟩ := hV.cells
  have HO := hid hO
  have HB := hid (HZ.out.trans hB)
  obtain ⟨ao, cap, rfl⟩ : ∃ ao cap, v1 = .slice ao R.1.length cap := by
    obtain ⟨b, off, ao, cap, rfl, _⟩ := hO.sees
    exact ⟨ao, cap, rfl⟩
  clear hV hO hB HZ
  go_wp2
  go_ret2
  exact ⟨_, rfl, owns_le HO.out (by omega), HB.out⟩

def parseL (l : List UInt8) : Option (List Int × List Int) :=
  let r1 := Lib.trimPrefix l [123]
  let r2 := Lib.trimSuffix r1 [125]
  if Lib.hasPrefix l [123] && Lib.hasSuffix r1 [125] && (cutL r2 124).2.2 && (listedL (cutL r2 124).1).2 && (listedL (cutL r2 124).2.1).2 then some ((listedL (cutL r2 124).1).1, (listedL (cutL r2 124).2.1).1) else none
def errP (o : Option (List Int × List Int)) : Int := if o.isSome then 0 else 20

theorem trimPrefix_len (l p : List UInt8) : (Lib.trimPrefix l p).length ≤ l.length := by
  unfold Lib.trimPrefix
  split
  · simp
  · omega
theorem trimSuffix_len (l p : List UInt8) : (Lib.trimSuffix l p).length ≤ l.length := by
  unfold Lib.trimSuffix
  split
  · simp
  · omega

end Go.Proofs.YtjgohajlabdloaaDoor
