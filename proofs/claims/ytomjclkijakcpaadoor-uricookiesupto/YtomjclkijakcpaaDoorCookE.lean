/-
  Cookies of the document.
-/
import Derived.Test.YtomjclkijakcpaaDoorCookD
import Derived.Deep.LoopGhost
namespace Go.Proofs.YtomjclkijakcpaaDoor
open Go.RowKit
set_option linter.unusedVariables false

theorem take_cut {c : UInt8} {l : List UInt8} {k : Nat} (hk : k ≤ l.length) (hno : ∀ j, j < k → l.getD j 0 ≠ c) : c ∉ l.take k := by
  intro h
  obtain ⟨i, hi, he⟩ := List.getElem_of_mem h
  rw [List.length_take] at hi
  have hil : i < l.length := by omega
  refine hno i (by omega) ?_
  rw [List.getElem_take] at he
  simp [List.getD, hil, he]
theorem getD_str (s : ByteArray) (k : Nat) (h : k < s.size) : s.data.toList.getD k 0 = s[k] := by
  have hl : k < s.data.toList.length := by rw [len_str]; exact h
  simp only [List.getD, List.getElem?_eq_getElem hl, Option.getD_some]
  rfl
theorem cookAll_nil : cookAll [] = [] := by
  unfold cookAll
  rw [splitC]
  show cookP [] ++ [] = []
  rw [List.append_nil, cookP]
  have : Lib.trimS ([] : List UInt8) [32, 9] = [] := rfl
  rw [this]
  rfl
theorem cookAll_app {l : List UInt8} (r : List UInt8) (h : 59 ∉ l) : cookAll (l ++ 59 :: r) = cookP l ++ cookAll r := by
  rw [cookAll_cut, cutC_app r h]; simp
theorem cookAll_one {l : List UInt8} (h : 59 ∉ l) : cookAll l = cookP l := by
  rw [cookAll_cut, cutC_none h]; simp

structure CAt (L : List UInt8) (from' i : Nat) (out : List PairL) : Prop where
  le : from' ≤ i
  no : ∀ j, from' ≤ j → j < i → L.getD j 0 ≠ 59
  pairs : cookAll L = out ++ cookAll (L.drop from')
theorem CAt.start (L : List UInt8) : CAt L 0 0 [] := ⟨Nat.le_refl _, fun j h1 h2 => by omega, by simp⟩
theorem CAt.next {L : List UInt8} {f i : Nat} {out : List PairL} (h : CAt L f i out) (hi : L.getD i 0 ≠ 59) : CAt L f (i + 1) out := by
  obtain ⟨h1, h2, h3⟩ := h
  refine ⟨by omega, fun j g1 g2 => ?_, h3⟩
  by_cases hj : j = i
  · subst hj; exact hi
  · exact h2 j g1 (by omega)
def partOf (L : List UInt8) (f i : Nat) : List UInt8 := (L.drop f).take (i - f)
theorem partOf_len {L : List UInt8} {f i : Nat} (h : f ≤ i) (hi : i ≤ L.length) : (partOf L f i).length = i - f := by
  rw [partOf, List.length_take, List.length_drop]; omega
theorem part_no {L : List UInt8} {f i : Nat} {out : List PairL} (h : CAt L f i out) (hi : i ≤ L.length) : (59 : UInt8) ∉ partOf L f i := by
  refine take_cut (by rw [List.length_drop]; omega) (fun j hj => ?_)
  have := h.no (f + j) (by omega) (by have := h.le; omega)
  rw [List.getD, List.getElem?_drop]
  exact this
theorem CAt.part {L : List UInt8} {f i : Nat} {out : List PairL} (h : CAt L f i out) (hi : i ≤ L.length) (he : i = L.length ∨ L.getD i 0 = 59) : CAt L (i + 1) (i + 1) (out ++ cookP (partOf L f i)) := by
  have hno := part_no h hi
  refine ⟨Nat.le_refl _, fun j g1 g2 => by omega, ?_⟩
  by_cases hl : i = L.length
  · have hd : L.drop f = partOf L f i := by
      rw [partOf, List.take_of_length_le (by rw [List.length_drop]; omega)]
    have hz : L.drop (i + 1) = [] := List.drop_eq_nil_of_le (by omega)
    rw [hz, cookAll_nil, List.append_nil, h.pairs, hd, cookAll_one hno]
  · have hlt : i < L.length := by omega
    have hle := h.le
    have h59 : L[i] = 59 := by
      rcases he with e | e
      · exact absurd e hl
      · simp only [List.getD, List.getElem?_eq_getElem hlt, Option.getD_some] at e
        exact e
    have hsplit : L.drop f = partOf L f i ++ 59 :: L.drop (i + 1) := by
      have e := List.take_append_drop (i - f) (L.drop f)
      rw [List.drop_drop, show f + (i - f) = i by omega, List.drop_eq_getElem_cons hlt, h59] at e
      exact e.symm
    rw [h.pairs, hsplit, cookAll_app _ hno, List.append_assoc]
theorem CAt.done {L : List UInt8} {f i : Nat} {out : List PairL} (h : CAt L f i out) (ho : out.length ≤ 32) (he : L.length < f ∨ 32 ≤ out.length) : cookL L = out := by
  unfold cookL
  rw [h.pairs]
  rcases he with he | he
  · rw [List.drop_eq_nil_of_le (by omega), cookAll_nil, List.append_nil, List.take_of_length_le ho]
  · have : out.length = 32 := by omega
    rw [← this, List.take_left]
/-- The cookie, by the place of the first '='. -/
theorem cookP_at {p P : List UInt8} (hP : P = Lib.trimS p [32, 9]) {j : Nat} (hj : j < P.length) (hno : ∀ i, i < j → P.getD i 0 ≠ 61) (he : P.getD j 0 = 61) : cookP p = [(P.take j, P.drop (j + 1))] := by
  have hna := take_cut (c := 61) (Nat.le_of_lt hj) hno
  have h61 : P[j] = 61 := by
    simp only [List.getD, List.getElem?_eq_getElem hj, Option.getD_some] at he
    exact he
  have e := List.take_append_drop j P
  rw [List.drop_eq_getElem_cons hj, h61] at e
  have hc := cutC_app (c := 61) (l := P.take j) (P.drop (j + 1)) hna
  rw [e] at hc
  unfold cookP
  rw [← hP, hc]
  simp
theorem cookP_none {p P : List UInt8} (hP : P = Lib.trimS p [32, 9]) (hno : ∀ i, i < P.length → P.getD i 0 ≠ 61) : cookP p = [] := by
  have hna := take_cut (c := 61) (Nat.le_refl P.length) hno
  rw [List.take_of_length_le (Nat.le_refl _)] at hna
  unfold cookP
  rw [← hP, cutC_none hna]
  simp
theorem news_str (w : World) (x y : ByteArray) (p : PairL) (hx : x = ⟨p.1.toArray⟩) (hy : y = ⟨p.2.toArray⟩) (t : TypeId) : ∀ j u, (cellsP [p])[j]? = some u → (w.alloc (.cells #[.string x, .string y] t)).cell? ((⟨w.heap.size, 0, none⟩ : Addr).add j) = some u := by
  subst hx hy
  exact news_pair w p.1 p.2 t

set_option maxRecDepth 20000 in
set_option maxHeartbeats 8000000 in
theorem rcookies_any (l : List UInt8) (w : World) (hs : l.length ≤ 70368744177664) :
    Calls Tryd.prog 8 #[.string ⟨l.toArray⟩] w fun e w' => ∃ v', e = .returned v' ∧ OwnsP w' w.heap.size v' (cookL l) ∧ Below w.heap.size w w' := by
  obtain ⟨s, hse⟩ : ∃ s : ByteArray, s = ⟨l.toArray⟩ := ⟨_, rfl⟩
  have hsz : s.size = l.length := by rw [hse, size_list]
  have hsl : s.data.toList = l := by rw [hse]
  rw [← hse]
  have HSE := hid hse
  have HSL := hid hsl
  have HSZ := hid hsz
  obtain ⟨O, hO⟩ : ∃ x, x = cookL l := ⟨_, rfl⟩
  rw [← hO]
  have HOO := hid hO
  obtain ⟨B, hBe⟩ : ∃ B, B = w.heap.size := ⟨_, rfl⟩
  have hB0 : B ≤ w.heap.size := by omega
  rw [← hBe]
  clear hse hsl hsz hO hBe
  go_enter Tryd.func8, Tryd.ntmps8
  go_wp2_with fail
  go_loopg [3, 4, 5] (l.length + 1) (fun g u f i wr => ∃ (k m : Nat) (out : List PairL), k ≤ l.length + 1 ∧ l.length + 1 - k ≤ g ∧ i = .int .i64 (k : Int) ∧ f = .int .i64 (m : Int) ∧ CAt l m k out ∧ out.length ≤ 32 ∧ (k = l.length + 1 → m = l.length + 1) ∧ OwnsP wr B u out ∧ Below B w wr)
  case atStart => exact ⟨0, 0, [], by omega, by omega, rfl, rfl, CAt.start l, by simp, fun h => by omega, OwnsP.nil _ _, Below.refl _ _⟩
  case round =>
    obtain ⟨k, m, out, hk, hg, rfl, rfl, hR, ho, hkm, hO, hB⟩ := hrel
    have hsw : B ≤ wr.heap.size := Nat.le_trans hB0 hB.size
    have hsz := HSZ.out
    have hmk := hR.le
    obtain ⟨ao, cap, rfl⟩ := hO.shape
    have HO := hid hO
    have HB := hid hB
    have HR := hid hR
    clear hO hB hR
    by_cases hin : k ≤ l.length ∧ out.length < 32
    · obtain ⟨hkl, ho32⟩ := hin
      have hkl' : (k : Int) ≤ (s.size : Int) := by omega
      have ho32' : (out.length : Int) < 32 := by omega
      clear hkm
      by_cases hgo : k < l.length ∧ l.getD k 0 ≠ 59
      · obtain ⟨hlt, hne⟩ := hgo
        have hlt' : (k : Int) < (s.size : Int) := by omega
        have hls : k < s.size := by omega
        have hb : ((((s[k]'hls).toNat : Nat) : Int) != 59) = true := by
          rw [bne_iff_ne]
          intro e
          apply hne
          rw [← HSL.out, getD_str s k hls]
          have := byte_eq (b := s[k]'hls) (n := 59) (by omega)
          simpa using this
        have HN := hid (HR.out.next hne)
        clear hne hsz HR
        go_wp2
        go_roundg (l.length + 1 - (k + 1))
        case measure => omega
        case rel => exact ⟨k + 1, m, out, by omega, Nat.le_refl _, by go_num, rfl, HN.out, ho, fun h => by omega, HO.out, HB.out⟩
      · have hend : k = l.length ∨ l.getD k 0 = 59 := by
          by_cases h : k = l.length
          · exact Or.inl h
          · refine Or.inr ?_
            by_cases h2 : l.getD k 0 = 59
            · exact h2
            · exact absurd ⟨by omega, h2⟩ hgo
        have HP := hid (HR.out.part hkl hend)
        have hcond : ∀ (Z : Prop), (¬ (k : Int) < (s.size : Int) → Z) → ((h : k < s.size) → (k : Int) < (s.size : Int) → ((((s[k]'h).toNat : Nat) : Int) != 59) = false → Z) → Z := by
          intro Z z1 z2
          rcases hend with h | h
          · exact z1 (by omega)
          · by_cases hlt : k < s.size
            · refine z2 hlt (by omega) ?_
              have : s[k]'hlt = 59 := by rw [← getD_str s k hlt, HSL.out]; exact h
              rw [this]; rfl
            · exact z1 (by omega)
        have hmk' : (m : Int) ≤ (k : Int) := by omega
        have he : s.extract m k = ⟨(partOf l m k).toArray⟩ := by rw [HSE.out, extract_list]; rfl
        have HX := hid he
        have hpl := partOf_len hmk hkl
        have hT := fun w => rtrim_any (partOf l m k) w (by omega)
        have htl := trimS_len (partOf l m k)
        have HC1 := hid (fun P (hP : P = Lib.trimS (partOf l m k) [32, 9]) j hj hno he => cookP_at (p := partOf l m k) (P := P) hP (j := j) hj hno he)
        have HC0 := hid (fun P (hP : P = Lib.trimS (partOf l m k) [32, 9]) hno => cookP_none (p := partOf l m k) (P := P) hP hno)
        obtain ⟨P, hP⟩ : ∃ P, P = Lib.trimS (partOf l m k) [32, 9] := ⟨_, rfl⟩
        have HA := hid (fun j hj hno he => HC1.out P hP j hj hno he)
        have HZ := hid (fun hno => HC0.out P hP hno)
        rw [← hP] at hT htl
        obtain ⟨CK, hCK⟩ : ∃ x, x = cookP (partOf l m k) := ⟨_, rfl⟩
        rw [← hCK] at HP HA HZ
        have hPl : P.length ≤ 70368744177664 := by omega
        obtain ⟨t, ht⟩ : ∃ t : ByteArray, t = ⟨P.toArray⟩ := ⟨_, rfl⟩
        have htz : t.size = P.length := by rw [ht, size_list]
        have htd : t.data.toList = P := by rw [ht]
        have HTE := hid ht
        have HTZ := hid htz
        have HTD := hid htd
        rw [← ht] at hT
        have HT := hid hT
        clear hT he hgo hend hsz HR htl hpl hP hCK HC1 HC0 ht htz htd
        refine hcond _ (fun c1 => ?_) (fun c0 c1 c2 => ?_)
        all_goals
          clear hcond
          go_wp2_with fail
          rw [HX.out]
          refine (HT.out _).mono ?_
          clear HT
          rintro e w1 ⟨rfl, hw1⟩
          subst hw1
          go_wp2_with fail
          go_loopg [3, 7] P.length (fun g2 uu jj wq => ∃ (j : Nat), uu = .slice ao out.length cap ∧ j ≤ P.length ∧ P.length - j ≤ g2 ∧ jj = .int .i64 (j : Int) ∧ (∀ i, i < j → P.getD i 0 ≠ 61) ∧ wq = w1)
          case atStart => exact ⟨0, rfl, by omega, by omega, rfl, fun i h => by omega, rfl⟩
          case round =>
            obtain ⟨j, rfl, hj, hgj, rfl, hno, hwq⟩ := hrel
            have hwq := hwq.symm
            subst hwq
            have HNo := hid hno
            have htz := HTZ.out
            clear hno
            by_cases hjl : j < P.length
            · have hjs : j < t.size := by omega
              have hjs' : (j : Int) < (t.size : Int) := by omega
              have i1 := index_byte t .i64 (j : Int) j rfl hjs
              have hgd : P.getD j 0 = t[j]'hjs := by rw [← HTD.out]; exact getD_str t j hjs
              by_cases h61 : t[j]'hjs = 61
              · have hb : ((((t[j]'hjs).toNat : Nat) : Int) == 61) = true := by rw [h61]; rfl
                have hck := HA.out j hjl HNo.out (by rw [hgd]; exact h61)
                rw [hck] at HP
                have hj1 : (j : Int) + 1 ≤ (t.size : Int) := by omega
                have hj2 : (j : Int) ≤ (t.size : Int) := by omega
                have ww : IntKind.i64.wrap ((j : Int) + 1) = (j : Int) + 1 := by have := wrap_i64_nat (j + 1) (by omega); simpa using this
                have h00 : (0 : Int) ≤ (j : Int) + 1 := by omega
                have hnn : ((j : Int) + 1).toNat = j + 1 := by omega
                have e1 : t.extract 0 j = ⟨(P.take j).toArray⟩ := by rw [HTE.out, extract_list]; simp
                have e2 : t.extract (j + 1) t.size = ⟨(P.drop (j + 1)).toArray⟩ := by rw [htz, HTE.out, extract_list, List.take_of_length_le (by simp)]
                have HE1 := hid e1
                have HE2 := hid e2
                obtain ⟨b, hbe⟩ : ∃ b, b = t[j]'hjs := ⟨_, rfl⟩
                rw [← hbe] at i1 hb
                clear hgd h61 hck e1 e2 hbe htz HA HZ
                go_wp2_with fail
                go_region_held3 (fun _ => True) (trivial)
                  (first | (refine step_appP (by rfl) _ _ (by rfl) B (.slice ao out.length cap) out (by rfl) ?ho _ (P.take j, P.drop (j + 1)) (by rfl) (news_str w1 _ _ (P.take j, P.drop (j + 1)) HE1.out HE2.out 31) (by omega) (by simp; omega) ?_; (case ho => exact OwnsP.below HO.out (below_ad w1 _)); intro v4 w4 hO4 hG4))
                all_goals
                  have HO4 := hid hO4
                  have HB4 := hid (below_grownBy (HB.out.trans ((below_ad w1 _).mono hsw)) hG4 (OwnsP.block HO.out) (by simp; omega))
                  clear hO4 hG4
                  go_wp2
                  go_roundg (l.length + 1 - (k + 1))
                  case measure => omega
                  case rel => exact ⟨k + 1, k + 1, _, by omega, Nat.le_refl _, by go_num, by go_num, HP.out, by simp; omega, fun h => by omega, HO4.out, HB4.out⟩
              · have hb : ((((t[j]'hjs).toNat : Nat) : Int) == 61) = false := by
                  rw [beq_eq_false_iff_ne]
                  intro e
                  apply h61
                  have := byte_eq (b := t[j]'hjs) (n := 61) (by omega)
                  simpa using this
                have HN : Hid (∀ i, i < j + 1 → P.getD i 0 ≠ 61) := by
                  unfold Hid
                  intro i hi
                  by_cases hij : i = j
                  · subst hij; rw [hgd]; exact h61
                  · exact HNo.out i (by omega)
                obtain ⟨b, hbe⟩ : ∃ b, b = t[j]'hjs := ⟨_, rfl⟩
                rw [← hbe] at i1 hb
                clear hgd h61 hbe htz
                go_wp2
                go_roundg (P.length - (j + 1))
                case measure => omega
                case rel => exact ⟨j + 1, rfl, by omega, Nat.le_refl _, by go_num, HN.out, rfl⟩
            · have hjs' : ¬ (j : Int) < (t.size : Int) := by omega
              have hck := HZ.out (fun i hi => HNo.out i (by omega))
              rw [hck, List.append_nil] at HP
              clear hck htz HA HZ
              go_wp2
              go_roundg (l.length + 1 - (k + 1))
              case measure => omega
              case rel => exact ⟨k + 1, k + 1, out, by omega, Nat.le_refl _, by go_num, by go_num, HP.out, ho, fun h => by omega, HO.out, HB.out⟩
    · have HE : Hid (O = out) := by
        unfold Hid
        rw [HOO.out]
        refine HR.out.done ho ?_
        by_cases hkl : k ≤ l.length
        · exact Or.inr (by omega)
        · exact Or.inl (by have := hkm (by omega); omega)
      have hcase : (¬ (k : Int) ≤ (s.size : Int)) ∨ ((k : Int) ≤ (s.size : Int) ∧ ¬ (out.length : Int) < 32) := by omega
      clear hkm hsz hin HR
      rcases hcase with c1 | ⟨c1, c2⟩
      all_goals
        go_wp2
        go_ret
        exact ⟨_, rfl, by rw [HE.out]; exact HO.out, HB.out⟩

end Go.Proofs.YtomjclkijakcpaaDoor
