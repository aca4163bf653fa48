/-
  Where a key stands among a node's: strings.Compare, the comparing function, slices.BinarySearchFunc, find.
-/
import Derived.Test.YtkjmilcocnjjoaaTBase
namespace Go.Proofs.Ytkjmilcocnjjoaa.I
open Go.RowKit Tm
set_option linter.unusedVariables false

/-- A slice reads items. -/
def SeesI (w : World) (v : Value) (l : List (ByteArray × Int)) : Prop :=
  ∃ b ao cap, v = .slice ao l.length cap ∧ l.length ≤ cap ∧ cap ≤ maxLen ∧ (ao = none → l.length = 0) ∧ (l ≠ [] → ao = some ⟨b, 0, none⟩ ∧ b < w.heap.size) ∧
    ∀ j, (h : j < l.length) → w.cell? ⟨b, j * 2, none⟩ = some (.string l[j].1) ∧ w.cell? ⟨b, j * 2 + 1, none⟩ = some (encI l[j].2)

/-- A row of items that is whole a node's. -/
def RowI (w : World) (v : Value) (l : List (ByteArray × Int)) : Prop := w.ownsRow 0 47 2 v l.length (itC encI l)
theorem RowI.sees {w : World} {v : Value} {l : List (ByteArray × Int)} (h : RowI w v l) : SeesI w v l := by
  by_cases hl : l = []
  · subst hl
    obtain ⟨ao, cap, rfl, h1, h2⟩ := ownsRow_shape h
    exact ⟨0, ao, cap, rfl, h1, h2, fun _ => rfl, fun hne => absurd rfl hne, fun j hj => by simp at hj⟩
  · obtain ⟨g, cap, rfl, h1, h2, h3, h4, h5⟩ := ownsRow_at h (List.length_pos_iff.2 hl)
    refine ⟨g, _, cap, rfl, h1, h2, (fun e => by cases e), fun _ => ⟨rfl, h3⟩, fun j hj => ?_⟩
    obtain ⟨e1, e2⟩ := itC_get encI l j hj
    rw [h4 (j * 2) (by omega), h4 (j * 2 + 1) (by omega), e1, e2]
    exact ⟨rfl, rfl⟩
theorem SeesI.below {w w' : World} {v : Value} {l : List (ByteArray × Int)} (h : SeesI w v l) (hb : Below w.heap.size w w') : SeesI w' v l := by
  obtain ⟨b, ao, cap, hv, hc, hm, hn, ha, hcell⟩ := h
  have hs := hb.size
  refine ⟨b, ao, cap, hv, hc, hm, hn, fun hne => ⟨(ha hne).1, by have := (ha hne).2; omega⟩, fun j hj => ?_⟩
  obtain ⟨h1, h2⟩ := hcell j hj
  exact ⟨(hb.cell (World.block_lt_of_cell? w _ h1)).trans h1, (hb.cell (World.block_lt_of_cell? w _ h2)).trans h2⟩

set_option maxRecDepth 100000 in
theorem compareString_any (a b : ByteArray) (w : World) :
    Calls Try.prog 84 #[.string a, .string b] w fun e w' => e = .returned (.int .i64 (cmpB a b)) ∧ w' = w := by
  go_enter Try.func84, Try.ntmps84
  go_wp2_with fail
  rw [run_callFunc_extern Try.func89 (by kernel_rfl) (by kernel_rfl) (by kernel_rfl) (e := Extern.BytealgCompare.compare) (by kernel_rfl), Lib.run_compareString]
  simp only [Result.andThen]
  rw [Oper.upon_value]
  go_wp2
  go_ret
  exact ⟨rfl, rfl⟩

theorem compare_any (a b : ByteArray) (w : World) :
    Calls Try.prog 69 #[.string a, .string b] w fun e w' => e = .returned (.int .i64 (cmpB a b)) ∧ w' = w := by
  go_enter Try.func69, Try.ntmps69
  go_wp2_with fail
  refine (compareString_any _ _ _).mono ?_
  rintro e w' ⟨rfl, rfl⟩
  go_wp2
  go_ret
  exact ⟨rfl, rfl⟩

/-- The comparing function boxes the item. -/
theorem cmp_any (a k : ByteArray) (v : Int) (w : World) :
    Calls Try.prog 68 #[.agg #[.string a, encI v], .string k] w fun e w' => e = .returned (.int .i64 (cmpB a k)) ∧ Below w.heap.size w w' := by
  simp only [encI]
  go_enter Try.func68, Try.ntmps68
  go_wp2_with fail
  refine (compare_any _ _ _).mono ?_
  rintro e w' ⟨rfl, rfl⟩
  go_wp2
  go_ret
  exact ⟨rfl, (Below.refl _ w).alloc (Nat.le_refl _) _⟩

theorem srt_mono {l : List (ByteArray × Int)} (hs : srt keyLt l) (k : ByteArray) (a b : Nat) (hab : a ≤ b) (hb : b < l.length) (h : cmpB l[b].1 k < 0) : cmpB l[a].1 k < 0 := by
  rcases Nat.lt_or_eq_of_le hab with hlt | rfl
  · have := List.pairwise_iff_getElem.1 hs a b (by omega) hb hlt
    exact (lt_cmp _ _).2 (totB.tr _ _ _ this ((lt_cmp _ _).1 h))
  · exact h

theorem at_bound (l : List (ByteArray × Int)) (k : ByteArray) (i : Nat) (hi : i ≤ l.length) (h1 : ∀ t, (h : t < i) → cmpB (l[t]'(by omega)).1 k < 0) (h2 : ∀ t, i ≤ t → (h : t < l.length) → 0 ≤ cmpB l[t].1 k) : atL keyLt k l = i := by
  have e : l = l.take i ++ l.drop i := (List.take_append_drop i l).symm
  rw [e, at_mid k (l.take i) (l.drop i)]
  · simp; omega
  · intro x hx
    obtain ⟨t, ht, rfl⟩ := List.getElem_of_mem hx
    simp only [List.length_take] at ht
    rw [List.getElem_take]
    exact (lt_cmp _ _).1 (h1 t (by omega))
  · intro x hx
    rw [List.head?_drop] at hx
    obtain ⟨ht, rfl⟩ := List.getElem?_eq_some_iff.1 hx
    have := h2 i (Nat.le_refl _) ht
    simp only [keyLt, decide_eq_false_iff_not]
    omega

theorem has_bound (l : List (ByteArray × Int)) (k : ByteArray) : hasL keyLt k l = (if h : atL keyLt k l < l.length then decide (cmpB (l[atL keyLt k l]).1 k = 0) else false) := by
  by_cases h : atL keyLt k l < l.length
  · rw [dif_pos h]
    have hn := at_not (lt := keyLt) k l h
    cases hh : hasL keyLt k l with
    | true =>
      obtain ⟨_, h2⟩ := (has_iff k l).1 hh
      exact (decide_eq_true ((eq_cmp _ _).2 ⟨hn, h2⟩)).symm
    | false =>
      refine (decide_eq_false fun he => ?_).symm
      have := (has_iff (lt := keyLt) k l).2 ⟨h, ((eq_cmp _ _).1 he).2⟩
      rw [hh] at this; cases this
  · rw [dif_neg h]
    cases hh : hasL keyLt k l with
    | true => exact absurd ((has_iff k l).1 hh).1 h
    | false => rfl

set_option maxHeartbeats 4000000 in
set_option maxRecDepth 100000 in
theorem search_any (v : Value) (l : List (ByteArray × Int)) (k : ByteArray) (w : World) (hv : SeesI w v l) (hs : srt keyLt l) (hsz : l.length ≤ 4096) :
    Calls Try.prog 67 #[v, .string k, .func (.func 68) #[] #[]] w fun e w' =>
      e = .returned (.tuple #[.int .i64 (atL keyLt k l : Nat), .bool (hasL keyLt k l)]) ∧ Below w.heap.size w w' := by
  obtain ⟨b, ao, cap, rfl, hcap, hmx, hnil, hao, hcell⟩ := hv
  have HM : Hid (cap ≤ maxLen) := hmx
  clear hmx
  have HA : Hid (l ≠ [] → ao = some ⟨b, 0, none⟩ ∧ b < w.heap.size) := hao
  have HC : Hid (∀ j, (h : j < l.length) → w.cell? ⟨b, j * 2, none⟩ = some (.string l[j].1) ∧ w.cell? ⟨b, j * 2 + 1, none⟩ = some (encI l[j].2)) := hcell
  have HS : Hid (srt keyLt l) := hs
  clear hao hcell hs
  generalize hcnt : atL keyLt k l = cnt
  have CN : Hid (atL keyLt k l = cnt) := hcnt
  clear hcnt
  generalize hfin : hasL keyLt k l = fin
  have FIN : Hid (hasL keyLt k l = fin) := hfin
  clear hfin
  obtain ⟨n, hn⟩ : ∃ n, n = l.length := ⟨_, rfl⟩
  have HN : Hid (l.length = n) := hn.symm
  rw [← hn] at hcap hsz hnil ⊢
  clear hn
  go_enter Try.func67, Try.ntmps67
  go_wp2
  go_loopg [9, 10] n (fun kx s9 s10 wr => ∃ lo hi : Nat, s9 = .int .i64 lo ∧ s10 = .int .i64 hi ∧ lo ≤ hi ∧ hi ≤ n ∧ hi - lo ≤ kx ∧ Hid (Below w.heap.size w wr) ∧
    Hid ((∀ t, (h : t < l.length) → t < lo → cmpB l[t].1 k < 0) ∧ (∀ t, hi ≤ t → (h : t < l.length) → 0 ≤ cmpB l[t].1 k)))
  case atStart =>
    have I0 : Hid ((∀ t, (h : t < l.length) → t < 0 → cmpB l[t].1 k < 0) ∧ (∀ t, n ≤ t → (h : t < l.length) → 0 ≤ cmpB l[t].1 k)) :=
      hid ⟨fun t _ h => absurd h (Nat.not_lt_zero _), fun t h1 h2 => by have := HN.out; omega⟩
    exact ⟨0, n, rfl, rfl, Nat.zero_le _, Nat.le_refl _, by omega, hid (Below.refl _ _), I0⟩
  case round =>
    obtain ⟨lo, hi, rfl, rfl, hlh, hin, hg, HB, I⟩ := hrel
    by_cases hlt : lo < hi
    · have hm : (lo + hi) / 2 < l.length := by rw [HN.out]; omega
      have hne : l ≠ [] := fun e => by subst e; simp at hm
      obtain ⟨rfl, hbl⟩ := HA.out hne
      obtain ⟨c1, c2⟩ := HC.out _ hm
      generalize hy : l[(lo + hi) / 2] = y at c1 c2
      have Y : Hid (l[(lo + hi) / 2] = y) := hy
      clear hy
      have c1' : wr.cell? ⟨b, ((lo + hi) / 2) * 2, none⟩ = some (.string y.1) := (HB.out.cell hbl).trans c1
      have c2' : wr.cell? ⟨b, ((lo + hi) / 2) * 2 + 1, none⟩ = some (encI y.2) := (HB.out.cell hbl).trans c2
      clear c1 c2
      have hc := cmp_any y.1 k y.2 wr
      simp only [encI] at hc c2'
      by_cases hyx : cmpB y.1 k < 0
      · go_wp2_with fail
        refine hc.mono ?_
        rintro e w' ⟨rfl, hw'⟩
        go_wp2
        go_roundg (hi - ((lo + hi) / 2 + 1))
        case measure => omega
        case rel =>
          have I2 : Hid ((∀ t, (h : t < l.length) → t < (lo + hi) / 2 + 1 → cmpB l[t].1 k < 0) ∧ (∀ t, hi ≤ t → (h : t < l.length) → 0 ≤ cmpB l[t].1 k)) :=
            hid ⟨fun t h ht => srt_mono HS.out k t ((lo + hi) / 2) (by omega) hm (by rw [Y.out]; exact hyx), I.out.2⟩
          exact ⟨(lo + hi) / 2 + 1, hi, by rw [show ((lo : Int) + (hi : Int)) / 2 + 1 = (((lo + hi) / 2 + 1 : Nat) : Int) by omega], rfl, by omega, hin, Nat.le_refl _, hid (HB.out.trans (hw'.mono HB.out.size)), I2⟩
      · go_wp2_with fail
        refine hc.mono ?_
        rintro e w' ⟨rfl, hw'⟩
        go_wp2
        go_roundg ((lo + hi) / 2 - lo)
        case measure => omega
        case rel =>
          have I2 : Hid ((∀ t, (h : t < l.length) → t < lo → cmpB l[t].1 k < 0) ∧ (∀ t, (lo + hi) / 2 ≤ t → (h : t < l.length) → 0 ≤ cmpB l[t].1 k)) :=
            hid ⟨I.out.1, fun t ht h => Int.not_lt.1 fun hx => by have := srt_mono HS.out k ((lo + hi) / 2) t ht h hx; rw [Y.out] at this; omega⟩
          exact ⟨lo, (lo + hi) / 2, rfl, by rw [show ((lo : Int) + (hi : Int)) / 2 = (((lo + hi) / 2 : Nat) : Int) by omega], by omega, by omega, Nat.le_refl _, hid (HB.out.trans (hw'.mono HB.out.size)), I2⟩
    · obtain rfl : hi = lo := by omega
      have ecnt : cnt = hi := by
        rw [← CN.out]
        exact at_bound l k hi (by rw [HN.out]; exact hin) (fun t ht => I.out.1 t (by rw [HN.out]; omega) ht) I.out.2
      subst ecnt
      by_cases hn : cnt < n
      · have hm : cnt < l.length := by rw [HN.out]; omega
        have hne : l ≠ [] := fun e => by subst e; simp at hm
        obtain ⟨rfl, hbl⟩ := HA.out hne
        obtain ⟨c1, c2⟩ := HC.out _ hm
        have hfn : fin = decide (cmpB l[cnt].1 k = 0) := by
          rw [← FIN.out, has_bound]
          simp only [CN.out]
          rw [dif_pos hm]
        generalize hy : l[cnt] = y at c1 c2 hfn
        clear hy
        have c1' : wr.cell? ⟨b, cnt * 2, none⟩ = some (.string y.1) := (HB.out.cell hbl).trans c1
        have c2' : wr.cell? ⟨b, cnt * 2 + 1, none⟩ = some (encI y.2) := (HB.out.cell hbl).trans c2
        clear c1 c2
        have hc := cmp_any y.1 k y.2 wr
        simp only [encI] at hc c2'
        have FN : Hid (fin = decide (cmpB y.1 k = 0)) := hfn
        clear hfn
        by_cases hyx : cmpB y.1 k = 0
        · have hyx' : (cmpB y.1 k == 0) = true := by simpa using hyx
          have FT : Hid (fin = true) := hid (FN.out.trans (decide_eq_true hyx))
          clear hyx FN
          go_wp2_with fail
          refine hc.mono ?_
          rintro e w' ⟨rfl, hw'⟩
          go_wp2
          go_ret2
          exact ⟨by rw [FT.out]; simp, HB.out.trans (hw'.mono HB.out.size)⟩
        · have hyx' : (cmpB y.1 k == 0) = false := by simpa using hyx
          have FT : Hid (fin = false) := hid (FN.out.trans (decide_eq_false hyx))
          clear hyx FN
          go_wp2_with fail
          refine hc.mono ?_
          rintro e w' ⟨rfl, hw'⟩
          go_wp2
          go_ret2
          exact ⟨by rw [FT.out]; simp, HB.out.trans (hw'.mono HB.out.size)⟩
      · have FT : Hid (fin = false) := by
          unfold Hid
          rw [← FIN.out, has_bound]
          rw [dif_neg (by rw [CN.out, HN.out]; exact hn)]
        go_wp2
        go_ret2
        exact ⟨by rw [FT.out]; simp, HB.out⟩

set_option maxHeartbeats 4000000 in
theorem find_any (p : Nat) (vi : Value) (l : List (ByteArray × Int)) (k : ByteArray) (w : World) (hp : w.cell? ⟨p, 0, none⟩ = some vi) (hv : SeesI w vi l) (hs : srt keyLt l) (hsz : l.length ≤ 4096) :
    Calls Try.prog 48 #[ptr p, .string k] w fun e w' =>
      e = .returned (.tuple #[.int .i64 (atL keyLt k l : Nat), .bool (hasL keyLt k l)]) ∧ Below w.heap.size w w' := by
  have hc := search_any vi l k w hv hs hsz
  obtain ⟨b, ao, cap, rfl, hcap, hmx, hnil, hao, hcell⟩ := hv
  clear hcap hmx hnil hao hcell hs
  unfold ptr
  go_enter Try.func48, Try.ntmps48
  go_wp2_with fail
  refine hc.mono ?_
  rintro e w' ⟨rfl, hw'⟩
  go_wp2
  go_ret2
  exact ⟨rfl, hw'⟩

end Go.Proofs.Ytkjmilcocnjjoaa.I
