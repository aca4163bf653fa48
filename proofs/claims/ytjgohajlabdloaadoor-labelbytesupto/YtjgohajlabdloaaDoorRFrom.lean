/-
  The document's SetFrom.
-/
import Derived.Test.YtjgohajlabdloaaDoorRDig
import Derived.Test.YtjgohajlabdloaaDoorROf
import Derived.Test.YtjgohajlabdloaaDoorLabQ
namespace Go.Proofs.YtjgohajlabdloaaDoor
open Go.RowKit
set_option linter.unusedVariables false

theorem take_cut {l : List UInt8} {c : UInt8} {k : Nat} (hk : k ≤ l.length) (hno : ∀ j, j < k → l.getD j 0 ≠ c) : c ∉ l.take k := by
  intro h
  obtain ⟨i, hi, he⟩ := List.getElem_of_mem h
  rw [List.length_take] at hi
  have hil : i < l.length := by omega
  refine hno i (by omega) ?_
  rw [List.getElem_take] at he
  simp [List.getD, hil, he]
theorem byte_eq {b : UInt8} {n : Nat} (h : b.toNat = n) : b = UInt8.ofNat n := by rw [← h, UInt8.ofNat_toNat]
/-- The part that ends at i. -/
def partOf (L : List UInt8) (f i : Nat) : List UInt8 := (L.drop f).take (i - f)
theorem partOf_len {L : List UInt8} {f i : Nat} (h : f ≤ i) (hi : i ≤ L.length) : (partOf L f i).length = i - f := by
  rw [partOf, List.length_take, List.length_drop]; omega
theorem part_split {L : List UInt8} {m i : Nat} {c : UInt8} (h : m ≤ i) (hi : i < L.length) (hc : L.getD i 0 = c) : L.drop m = partOf L m i ++ c :: L.drop (i + 1) := by
  have e := List.take_append_drop (i - m) (L.drop m)
  rw [List.drop_drop, show m + (i - m) = i by omega, List.drop_eq_getElem_cons hi] at e
  have h38 : L[i] = c := by
    simp only [List.getD, List.getElem?_eq_getElem hi, Option.getD_some] at hc
    exact hc
  rw [h38] at e
  exact e.symm
theorem part_no {L : List UInt8} {m i : Nat} {c : UInt8} (h : m ≤ i) (hno : ∀ j, m ≤ j → j < i → L.getD j 0 ≠ c) (hi : i ≤ L.length) : c ∉ partOf L m i := by
  refine take_cut (by rw [List.length_drop]; omega) (fun j hj => ?_)
  have := hno (m + j) (by omega) (by omega)
  rw [List.getD, List.getElem?_drop]
  exact this

/-- How far the document has read a list. -/
structure FAt (L : List UInt8) (m i : Nat) (out : List Int) : Prop where
  le : m ≤ i
  no : ∀ j, m ≤ j → j < i → L.getD j 0 ≠ 44
  run : (m ≤ L.length ∧ ∃ f, L.length - m < f ∧ fromR (L.length + 1) [] L = fromR f out (L.drop m)) ∨ (m = L.length + 1 ∧ fromR (L.length + 1) [] L = (out, true))
  len : out.length ≤ m
theorem FAt.start (L : List UInt8) : FAt L 0 0 [] := ⟨Nat.le_refl _, fun j h1 h2 => by omega, Or.inl ⟨Nat.zero_le _, L.length + 1, by omega, rfl⟩, Nat.le_refl _⟩
theorem FAt.next {L : List UInt8} {m i : Nat} {out : List Int} (h : FAt L m i out) (hi : L.getD i 0 ≠ 44) : FAt L m (i + 1) out := by
  obtain ⟨h1, h2, h3, h4⟩ := h
  refine ⟨by omega, fun j g1 g2 => ?_, h3, h4⟩
  by_cases hj : j = i
  · subst hj; exact hi
  · exact h2 j g1 (by omega)
theorem FAt.part {L : List UInt8} {m i : Nat} {out : List Int} (h : FAt L m i out) (hi : i ≤ L.length) (he : i = L.length ∨ L.getD i 0 = 44) :
    (digV (partOf L m i) < 0 → fromR (L.length + 1) [] L = (out, false)) ∧ (¬ digV (partOf L m i) < 0 → FAt L (i + 1) (i + 1) (out ++ [digV (partOf L m i)])) := by
  obtain ⟨h1, h2, h3, h4⟩ := h
  have hno : (44 : UInt8) ∉ partOf L m i := part_no h1 h2 hi
  obtain ⟨hm, f, hf, hr⟩ : m ≤ L.length ∧ ∃ f, L.length - m < f ∧ fromR (L.length + 1) [] L = fromR f out (L.drop m) := by
    rcases h3 with h3 | ⟨hm, _⟩
    · exact h3
    · omega
  obtain ⟨f, rfl⟩ : ∃ g, f = g + 1 := ⟨f - 1, by omega⟩
  by_cases hlt : i < L.length
  · have hc : L.getD i 0 = 44 := by
      rcases he with he | he
      · omega
      · exact he
    have hcut : cutL (L.drop m) 44 = (partOf L m i, L.drop (i + 1), true) := by
      rw [part_split h1 hlt hc]
      exact cutL_at _ hno
    rw [show fromR (f + 1) out (L.drop m) = if digV (cutL (L.drop m) 44).1 < 0 then (out, false) else (if (cutL (L.drop m) 44).2.2 then fromR f (out ++ [digV (cutL (L.drop m) 44).1]) (cutL (L.drop m) 44).2.1 else (out ++ [digV (cutL (L.drop m) 44).1], true)) from rfl, hcut] at hr
    simp only [if_true] at hr
    refine ⟨fun hd => by rw [hr, if_pos hd], fun hd => ⟨Nat.le_refl _, fun j g1 g2 => by omega, Or.inl ⟨by omega, f, by omega, by rw [hr, if_neg hd]⟩, by rw [List.length_append, List.length_singleton]; omega⟩⟩
  · have hil : i = L.length := by omega
    have hd : L.drop m = partOf L m i := by
      rw [partOf, List.take_of_length_le (by rw [List.length_drop]; omega)]
    have hcut : cutL (L.drop m) 44 = (partOf L m i, [], false) := by
      rw [hd]
      exact cutL_none hno
    rw [show fromR (f + 1) out (L.drop m) = if digV (cutL (L.drop m) 44).1 < 0 then (out, false) else (if (cutL (L.drop m) 44).2.2 then fromR f (out ++ [digV (cutL (L.drop m) 44).1]) (cutL (L.drop m) 44).2.1 else (out ++ [digV (cutL (L.drop m) 44).1], true)) from rfl, hcut] at hr
    simp only [Bool.false_eq_true, if_false] at hr
    refine ⟨fun hd => by rw [hr, if_pos hd], fun hd => ⟨Nat.le_refl _, fun j g1 g2 => by omega, Or.inr ⟨by omega, by rw [hr, if_neg hd]⟩, by rw [List.length_append, List.length_singleton]; omega⟩⟩
theorem FAt.done {L : List UInt8} {m i : Nat} {out : List Int} (h : FAt L m i out) (hm : m = L.length + 1) : fromR (L.length + 1) [] L = (out, true) := by
  rcases h.run with ⟨h1, _⟩ | ⟨_, h2⟩
  · omega
  · exact h2

set_option maxRecDepth 20000 in
set_option maxHeartbeats 2000000 in
theorem setFrom_any (l : List UInt8) (w : World) (hs : l.length ≤ 1048576) :
    Calls Tryd.prog 30 #[.string ⟨l.toArray⟩] w fun e w' => ∃ v', e = .returned (.tuple #[v', .bool (fromOK (fromL l))]) ∧ Owns w' w.heap.size v' (fromL l).1 ∧ Below w.heap.size w w' := by
  obtain ⟨s, hse⟩ : ∃ s : ByteArray, s = ⟨l.toArray⟩ := ⟨_, rfl⟩
  have hsz : s.size = l.length := by rw [hse, Lib.size_eq]
  have hsl : s.data.toList = l := by rw [hse]
  rw [← hse]
  by_cases hl0 : l = []
  · have HF : Hid (fromL l = ([], true)) := by unfold Hid; rw [fromL, if_pos hl0]
    have hs0 : s = ⟨#[]⟩ := by rw [hse, hl0]
    subst hs0
    clear hse hsl hsz hl0
    go_enter Tryd.func30, Tryd.ntmps30
    go_wp2
    go_ret2
    exact ⟨_, by rw [HF.out]; rfl, by rw [HF.out]; exact World.ownsRow_nil _ _ _ _, Below.refl _ _⟩
  have hne : s.toList.isEmpty = false := by
    rw [ByteArray.toList_eq, hsl]
    cases l with
    | nil => exact absurd rfl hl0
    | cons a b => rfl
  have HFL : Hid (fromL l = fromR (l.length + 1) [] l) := by unfold Hid; rw [fromL, if_neg hl0]
  obtain ⟨R, hR⟩ : ∃ R, R = fromL l := ⟨_, rfl⟩
  rw [← hR] at HFL ⊢
  have HSE := hid hse
  have HSL := hid hsl
  have HSZ := hid hsz
  obtain ⟨B, hBe⟩ : ∃ B, B = w.heap.size := ⟨_, rfl⟩
  have hB0 : B ≤ w.heap.size := by omega
  rw [← hBe]
  clear hse hsl hsz hR hBe hl0
  go_enter Tryd.func30, Tryd.ntmps30
  go_wp2_with fail
  go_loopw [4, 5, 6] (fun u f i wr => ∃ (k m : Nat) (out : List Int), k ≤ l.length + 1 ∧ i = .int .i64 (k : Int) ∧ f = .int .i64 (m : Int) ∧ FAt l m k out ∧ (k = l.length + 1 → m = l.length + 1) ∧ Owns wr B u out ∧ Below B w wr) (fun _ _ i _ => l.length + 1 - (intOf i).toNat)
  case atStart => exact ⟨0, 0, [], Nat.zero_le _, rfl, rfl, FAt.start l, fun h => by omega, World.ownsRow_nil _ _ _ _, Below.refl _ _⟩
  case round =>
    obtain ⟨k, m, out, hk, rfl, rfl, hR, hkm, hO, hB⟩ := hrel
    have hsw : B ≤ wr.heap.size := Nat.le_trans hB0 hB.size
    have hsz := HSZ.out
    have hmk := hR.le
    have hol := hR.len
    obtain ⟨ao, cap, rfl⟩ := Owns.form hO
    have HO := hid hO
    have HB := hid hB
    have HR := hid hR
    clear hO hB hR
    by_cases hkl : k ≤ l.length
    · have hkl' : (k : Int) ≤ (s.size : Int) := by omega
      clear hkm
      by_cases hgo : k < l.length ∧ l.getD k 0 ≠ 44
      · obtain ⟨hlt, hne2⟩ := hgo
        have hlt' : (k : Int) < (s.size : Int) := by omega
        have hls : k < s.size := by omega
        have hb : ((((s[k]'hls).toNat : Nat) : Int) != 44) = true := by
          rw [bne_iff_ne]
          intro e
          apply hne2
          rw [← HSL.out, getD_byte s k hls]
          have := byte_eq (b := s[k]'hls) (n := 44) (by omega)
          simpa using this
        have HN := hid (HR.out.next hne2)
        clear hne2 hsz HR
        go_wp2
        go_roundw
        case rel => exact ⟨k + 1, m, out, by omega, by go_num, rfl, HN.out, fun h => by omega, HO.out, HB.out⟩
        case measure => simp [intOf]; omega
      · have hend : k = l.length ∨ l.getD k 0 = 44 := by
          by_cases h : k = l.length
          · exact Or.inl h
          · refine Or.inr ?_
            by_cases h2 : l.getD k 0 = 44
            · exact h2
            · exact absurd ⟨by omega, h2⟩ hgo
        obtain ⟨hP1, hP2⟩ := HR.out.part hkl hend
        have hcond : ∀ (Z : Prop), (¬ (k : Int) < (s.size : Int) → Z) → ((h : k < s.size) → (k : Int) < (s.size : Int) → ((((s[k]'h).toNat : Nat) : Int) != 44) = false → Z) → Z := by
          intro Z z1 z2
          rcases hend with h | h
          · exact z1 (by omega)
          · by_cases hlt : k < s.size
            · refine z2 hlt (by omega) ?_
              have : s[k]'hlt = 44 := by rw [← getD_byte s k hlt, HSL.out]; exact h
              rw [this]; rfl
            · exact z1 (by omega)
        have HP1 := hid hP1
        have HP2 := hid hP2
        have hmk' : (m : Int) ≤ (k : Int) := by omega
        have he : s.extract m k = ⟨(partOf l m k).toArray⟩ := by rw [HSE.out, extract_list]; rfl
        have HX := hid he
        have hRP := fun w1 => digits_any ⟨(partOf l m k).toArray⟩ w1 (by rw [Lib.size_eq]; show (partOf l m k).length ≤ _; rw [partOf_len hmk hkl]; omega)
        rw [show (⟨(partOf l m k).toArray⟩ : ByteArray).data.toList = partOf l m k from rfl] at hRP
        obtain ⟨D, hD⟩ : ∃ D, D = digV (partOf l m k) := ⟨_, rfl⟩
        rw [← hD] at hRP HP1 HP2
        have HRP := hid hRP
        clear hP1 hP2 he hRP hgo hend hsz HR hD
        by_cases hd : D < 0
        · have HF : Hid (R = (out, false)) := by unfold Hid; rw [HFL.out, HP1.out hd]
          clear HP1 HP2
          refine hcond _ (fun c1 => ?_) (fun c0 c1 c2 => ?_)
          all_goals
            clear hcond
            go_wp2_with fail
            rw [HX.out]
            refine (HRP.out _).mono ?_
            clear HRP
            rintro e w1 ⟨rfl, hw1⟩
            subst hw1
            go_wp2
            go_ret2
            exact ⟨_, by rw [HF.out]; rfl, by rw [HF.out]; exact HO.out, HB.out⟩
        · have HN := hid (HP2.out hd)
          clear HP1 HP2
          refine hcond _ (fun c1 => ?_) (fun c0 c1 c2 => ?_)
          all_goals
            clear hcond
            go_wp2_with fail
            rw [HX.out]
            refine (HRP.out _).mono ?_
            clear HRP
            rintro e w1 ⟨rfl, hw1⟩
            subst hw1
            go_wp2_with (first
              | (at_builtin
                 refine wpList_app rfl _ _ rfl B (.slice ao out.length cap) out rfl (Owns.below HO.out (below_alloc w1 _)) _ [D] rfl (sees_one _ _) (by simp only [List.length_singleton]; omega) (by simp; omega) ?_
                 intro v3 w3 hO3 hG3
                 have HO3 := hid hO3
                 have HB3 := hid (below_grownBy (HB.out.trans ((below_alloc w1 _).mono hsw)) hG3 (Owns.block HO.out) (by simp; omega))
                 clear hO3 hG3)
              | fail)
            go_roundw
            case rel => exact ⟨k + 1, k + 1, _, by omega, by go_num, by go_num, HN.out, fun h => by omega, HO3.out, HB3.out⟩
            case measure => simp [intOf]; omega
    · have hkl' : ¬ (k : Int) ≤ (s.size : Int) := by omega
      have hm := hkm (by omega)
      have HF : Hid (R = (out, true)) := by unfold Hid; rw [HFL.out, HR.out.done (by omega)]
      have hC := fun w1 h => cats_any (.slice ao out.length cap) out w1 ((HO.out.sees).below (w' := w1) h) (by omega)
      have HC := hid (hC wr (Below.refl _ _))
      clear hkm hsz HR hC
      cases hcb : catsB out
      · rw [hcb] at HC
        have HG : Hid (fromOK R = false) := by unfold Hid; rw [HF.out]; simp [fromOK, okB, hcb]
        clear hcb
        go_wp2_with fail
        refine HC.out.mono ?_
        clear HC
        rintro e w1 ⟨rfl, hB1⟩
        have HO1 := hid (HO.out.below hB1)
        have HB1 := hid (HB.out.trans (hB1.mono hsw))
        clear hB1
        go_wp2
        go_ret2
        exact ⟨_, by rw [HG.out]; rfl, by rw [HF.out]; exact HO1.out, HB1.out⟩
      · rw [hcb] at HC
        have HG : Hid (fromOK R = decide (out.length ≤ 64)) := by unfold Hid; rw [HF.out]; simp [fromOK, okB, hcb]
        clear hcb
        go_wp2_with fail
        refine HC.out.mono ?_
        clear HC
        rintro e w1 ⟨rfl, hB1⟩
        have HO1 := hid (HO.out.below hB1)
        have HB1 := hid (HB.out.trans (hB1.mono hsw))
        clear hB1
        by_cases h64 : out.length ≤ 64
        · have h64' : (out.length : Int) ≤ 64 := by omega
          go_wp2
          go_ret2
          exact ⟨.slice ao out.length cap, by rw [HG.out]; simp [h64]; try omega, by rw [HF.out]; exact HO1.out, HB1.out⟩
        · have h64' : ¬ (out.length : Int) ≤ 64 := by omega
          go_wp2
          go_ret2
          exact ⟨.slice ao out.length cap, by rw [HG.out]; simp [h64]; try omega, by rw [HF.out]; exact HO1.out, HB1.out⟩
end Go.Proofs.YtjgohajlabdloaaDoor
