/-
  Trim of the document.
-/
import Derived.Test.YtkidcoolcjmcfaaDoorCRPrint
import Derived.Test.YtkidcoolcjmcfaaDoorCDMath
namespace Go.Proofs.YtkidcoolcjmcfaaDoor
open Go.RowKit
set_option linter.unusedVariables false

theorem byte_ne {b : UInt8} {n : Nat} (h : b.toNat ≠ n) (hn : n < 256) : b ≠ UInt8.ofNat n := by
  intro e
  apply h
  rw [e, UInt8.toNat_ofNat']
  exact Nat.mod_eq_of_lt hn
theorem byte_eq {b : UInt8} {n : Nat} (h : b.toNat = n) : b = UInt8.ofNat n := by
  rw [← h]; simp
theorem dropWhile_all {l : List UInt8} {p : UInt8 → Bool} (h : ∀ c ∈ l, p c = true) : l.dropWhile p = [] := by
  induction l with
  | nil => rfl
  | cons b r ih =>
    rw [List.dropWhile_cons, if_pos (h b (by simp))]
    exact ih (fun c hc => h c (by simp [hc]))
theorem trim_all {l : List UInt8} (h : ∀ c ∈ l, blB c = true) : Lib.trimS l [32, 9] = [] := by
  unfold Lib.trimS Lib.trimRightS
  rw [dropWhile_all (p := fun x => [32, 9].contains x) (fun c hc => h c (by simpa using hc))]
  rfl
theorem trim_ab {l : List UInt8} {k m : Nat} (hkm : k ≤ m) (hm : m ≤ l.length) (h1 : ∀ j (hj : j < l.length), j < k → blB l[j] = true) (h2 : ∀ j (hj : j < l.length), m ≤ j → blB l[j] = true)
    (hk : k = l.length ∨ ∃ h : k < l.length, blB l[k] = false) (hme : m = k ∨ ∃ h : m - 1 < l.length, blB l[m - 1] = false) : Lib.trimS l [32, 9] = (l.drop k).take (m - k) := by
  rcases hk with hk | ⟨hkl, hkb⟩
  · rw [trim_all]
    · rw [List.drop_eq_nil_of_le (by omega)]
      simp
    · intro c hc
      obtain ⟨j, hj, rfl⟩ := List.getElem_of_mem hc
      exact h1 j hj (by omega)
  · have hlt : k < m := by
      by_cases h : k < m
      · exact h
      · have := h2 k hkl (by omega)
        rw [hkb] at this
        cases this
    have hmb : ∃ h : m - 1 < l.length, blB l[m - 1] = false := by
      rcases hme with h | h
      · omega
      · exact h
    obtain ⟨hml, hmb⟩ := hmb
    have e1 : Lib.trimRightS l [32, 9] = l.take m := by
      refine Lib.trimRightS_take l [32, 9] m hm (fun j b hj hb => ?_) (fun b _ hb => ?_)
      · have hjl : j < l.length := (List.getElem?_eq_some_iff.1 hb).1
        have := h2 j hjl hj
        rw [List.getElem?_eq_getElem hjl] at hb
        cases hb
        exact this
      · rw [List.getElem?_eq_getElem hml] at hb
        cases hb
        exact hmb
    have e2 : Lib.trimLeftS (l.take m) [32, 9] = (l.take m).drop k := by
      refine Lib.trimLeftS_drop (l.take m) [32, 9] k (by rw [List.length_take]; omega) (fun j b hj hb => ?_) (fun b hb => ?_)
      · have hjl : j < l.length := by omega
        rw [List.getElem?_take, if_pos (by omega), List.getElem?_eq_getElem hjl] at hb
        cases hb
        exact h1 j hjl hj
      · rw [List.getElem?_take, if_pos hlt, List.getElem?_eq_getElem hkl] at hb
        cases hb
        exact hkb
    rw [Lib.trimS, e1, e2, List.drop_take]

theorem byte_is {b : UInt8} {n : Nat} (h : ((b.toNat : Int) == (n : Int)) = true) : b = UInt8.ofNat n := by
  have : (b.toNat : Int) = n := by simpa using h
  exact byte_eq (by omega)
theorem byte_isnt {b : UInt8} {n : Nat} (hn : n < 256) (h : ((b.toNat : Int) == (n : Int)) = false) : b ≠ UInt8.ofNat n := by
  refine byte_ne ?_ hn
  intro e
  rw [e] at h
  simp at h
theorem blank_cases (b : UInt8) (Z : Prop) (z1 : ((b.toNat : Int) == 32) = true → blB b = true → Z) (z2 : ((b.toNat : Int) == 32) = false → ((b.toNat : Int) == 9) = true → blB b = true → Z) (z3 : ((b.toNat : Int) == 32) = false → ((b.toNat : Int) == 9) = false → blB b = false → Z) : Z := by
  cases h1 : ((b.toNat : Int) == 32) with
  | true => exact z1 h1 ((blB_iff b).2 (Or.inl (byte_is (n := 32) h1)))
  | false =>
    cases h2 : ((b.toNat : Int) == 9) with
    | true => exact z2 h1 h2 ((blB_iff b).2 (Or.inr (byte_is (n := 9) h2)))
    | false =>
      refine z3 h1 h2 ?_
      have n1 := byte_isnt (n := 32) (by decide) h1
      have n2 := byte_isnt (n := 9) (by decide) h2
      cases hb : blB b with
      | false => rfl
      | true =>
        rcases (blB_iff b).1 hb with e | e
        · exact absurd e n1
        · exact absurd e n2

set_option maxRecDepth 20000 in
set_option maxHeartbeats 2000000 in
theorem rtrim_any (l : List UInt8) (w : World) (hs : l.length ≤ 140737488355328) :
    Calls Tryd.prog 28 #[.string ⟨l.toArray⟩] w fun e w' => e = .returned (.string ⟨(Lib.trimS l [32, 9]).toArray⟩) ∧ w' = w := by
  obtain ⟨s, hse⟩ : ∃ s : ByteArray, s = ⟨l.toArray⟩ := ⟨_, rfl⟩
  have hsz : s.size = l.length := by rw [hse, size_list]
  have hsl : s.data.toList = l := by rw [hse]
  have hgt : ∀ j (h : j < s.size) (h' : j < l.length), s[j] = l[j] := by
    intro j h h'
    subst hsl
    rfl
  rw [← hse]
  have HSE := hid hse
  have HSZ := hid hsz
  have HGT := hid hgt
  obtain ⟨T, hT⟩ : ∃ T, T = Lib.trimS l [32, 9] := ⟨_, rfl⟩
  rw [← hT]
  have HT := hid hT
  clear hse hsz hsl hgt hT
  go_enter Tryd.func28, Tryd.ntmps28
  go_wp2_with fail
  go_loop [3] (fun a => ∃ (k : Nat), k ≤ l.length ∧ a = .int .i64 (k : Int) ∧ ∀ j (hj : j < l.length), j < k → blB l[j] = true) (fun a => l.length - (intOf a).toNat)
  case atStart => exact ⟨0, Nat.zero_le _, rfl, fun j hj h => by omega⟩
  case round =>
    obtain ⟨k, hk, rfl, hno⟩ := hrel
    have hsz := HSZ.out
    have HNo := hid hno
    clear hno
    by_cases hlt : k < l.length
    · have hls : k < s.size := by omega
      have hlt' : (k : Int) < (s.size : Int) := by omega
      have i1 := index_byte s .i64 (k : Int) k rfl hls
      rw [HGT.out k hls hlt] at i1
      have HG : Hid (blB l[k] = true → ∀ j (hj : j < l.length), j < k + 1 → blB l[j] = true) := by
        unfold Hid
        intro he j hj hjk
        by_cases h : j = k
        · subst h; exact he
        · exact HNo.out j hj (by omega)
      have HE : Hid (blB l[k] = false → (k = l.length ∨ ∃ h : k < l.length, blB l[k] = false)) := hid (fun he => Or.inr ⟨hlt, he⟩)
      obtain ⟨b, hb⟩ : ∃ b, b = l[k] := ⟨_, rfl⟩
      rw [← hb] at i1 HG
      have HBe := hid hb
      clear hb hsz
      refine blank_cases b _ (fun z1 zb => ?_) (fun z1 z2 zb => ?_) (fun z1 z2 zb => ?_)
      · have HN := hid (HG.out zb)
        clear HG HE zb
        go_wp2
        go_round
        case rel => exact ⟨k + 1, by omega, by go_num, HN.out⟩
        case measure => simp [intOf]; omega
      · have HN := hid (HG.out zb)
        clear HG HE zb
        go_wp2
        go_round
        case rel => exact ⟨k + 1, by omega, by go_num, HN.out⟩
        case measure => simp [intOf]; omega
      · have HKE := hid (HE.out (by rw [← HBe.out]; exact zb))
        clear HG HE zb HBe
        go_wp2_with fail
        go_loop [4] (fun b => ∃ (m : Nat), k ≤ m ∧ m ≤ l.length ∧ b = .int .i64 (m : Int) ∧ ∀ j (hj : j < l.length), m ≤ j → blB l[j] = true) (fun b => (intOf b).toNat)
        case atStart => exact ⟨l.length, hk, Nat.le_refl _, by rw [HSZ.out], fun j hj h => by omega⟩
        case round =>
          obtain ⟨m, hkm, hm, rfl, hno2⟩ := hrel
          have hsz := HSZ.out
          have HNo2 := hid hno2
          clear hno2
          by_cases hgt2 : k < m
          · have hgt' : (k : Int) < (m : Int) := by omega
            obtain ⟨m', rfl⟩ : ∃ m', m = m' + 1 := ⟨m - 1, by omega⟩
            have hml : m' < l.length := by omega
            have hms : m' < s.size := by omega
            have hs1 : ((m' + 1 : Nat) : Int) - 1 = (m' : Int) := by omega
            have i2 := index_byte s .i64 (m' : Int) m' rfl hms
            have i2' := index_byte s .i64 (((m' + 1 : Nat) : Int) - 1) m' (by omega) hms
            have i2w := index_byte s .i64 (IntKind.i64.wrap (((m' + 1 : Nat) : Int) - 1)) m' (by rw [hs1, wrap_i64_nat m' (by omega)]) hms
            have ww : IntKind.i64.wrap (((m' + 1 : Nat) : Int) - 1) = (m' : Int) := by rw [hs1, wrap_i64_nat m' (by omega)]
            rw [HGT.out m' hms hml] at i2 i2' i2w
            have HG2 : Hid (blB l[m'] = true → ∀ j (hj : j < l.length), m' ≤ j → blB l[j] = true) := by
              unfold Hid
              intro he j hj hjk
              by_cases h : j = m'
              · subst h; exact he
              · exact HNo2.out j hj (by omega)
            have HD2 : Hid (blB l[m'] = false → T = (l.drop k).take (m' + 1 - k)) := by
              unfold Hid
              intro he
              rw [HT.out]
              exact trim_ab hkm hm HNo.out HNo2.out HKE.out (Or.inr ⟨hml, he⟩)
            obtain ⟨c, hc⟩ : ∃ b, b = l[m'] := ⟨_, rfl⟩
            rw [← hc] at i2 i2' i2w HG2 HD2
            clear hc hsz
            refine blank_cases c _ (fun y1 yb => ?_) (fun y1 y2 yb => ?_) (fun y1 y2 yb => ?_)
            · have HN := hid (HG2.out yb)
              clear HG2 HD2 yb
              go_wp2
              go_round
              case rel => exact ⟨m', by omega, by omega, by go_num, HN.out⟩
              case measure => simp [intOf]
            · have HN := hid (HG2.out yb)
              clear HG2 HD2 yb
              go_wp2
              go_round
              case rel => exact ⟨m', by omega, by omega, by go_num, HN.out⟩
              case measure => simp [intOf]
            · have HN := hid (HD2.out yb)
              have hle1 : (k : Int) ≤ ((m' + 1 : Nat) : Int) := by omega
              have hle2 : ((m' + 1 : Nat) : Int) ≤ (s.size : Int) := by omega
              clear HG2 HD2 yb
              go_wp2
              go_ret
              refine ⟨?_, rfl⟩
              rw [HN.out, HSE.out]
              simp [extract_listC]
          · have hgt' : ¬ (k : Int) < (m : Int) := by omega
            have hmk : m = k := by omega
            have HN : Hid (T = []) := by
              unfold Hid
              rw [HT.out, trim_ab hkm hm HNo.out HNo2.out HKE.out (Or.inl hmk), hmk]
              simp
            have hle1 : (k : Int) ≤ (m : Int) := by omega
            have hle2 : (m : Int) ≤ (s.size : Int) := by omega
            have HMK := hid hmk
            clear hmk hsz
            go_wp2
            go_ret
            refine ⟨?_, rfl⟩
            rw [HN.out, HSE.out, HMK.out]
            simp; rfl
    · have hlt' : ¬ (k : Int) < (s.size : Int) := by omega
      have HKE : Hid (k = l.length ∨ ∃ h : k < l.length, blB l[k] = false) := hid (Or.inl (by omega))
      have hge : l.length ≤ k := by omega
      clear hlt hsz
      go_wp2_with fail
      go_loop [4] (fun b => ∃ (m : Nat), k ≤ m ∧ m ≤ l.length ∧ b = .int .i64 (m : Int) ∧ ∀ j (hj : j < l.length), m ≤ j → blB l[j] = true) (fun b => (intOf b).toNat)
      case atStart => exact ⟨l.length, hk, Nat.le_refl _, by rw [HSZ.out], fun j hj h => by omega⟩
      case round =>
        obtain ⟨m, hkm, hm, rfl, hno2⟩ := hrel
        have hsz := HSZ.out
        have HNo2 := hid hno2
        clear hno2
        by_cases hgt2 : k < m
        · exfalso; omega
        · have hgt' : ¬ (k : Int) < (m : Int) := by omega
          have hmk : m = k := by omega
          have HN : Hid (T = []) := by
            unfold Hid
            rw [HT.out, trim_ab hkm hm HNo.out HNo2.out HKE.out (Or.inl hmk), hmk]
            simp
          have hle1 : (k : Int) ≤ (m : Int) := by omega
          have hle2 : (m : Int) ≤ (s.size : Int) := by omega
          have HMK := hid hmk
          clear hmk hsz
          go_wp2
          go_ret
          refine ⟨?_, rfl⟩
          rw [HN.out, HSE.out, HMK.out]
          simp; rfl

end Go.Proofs.YtkidcoolcjmcfaaDoor
