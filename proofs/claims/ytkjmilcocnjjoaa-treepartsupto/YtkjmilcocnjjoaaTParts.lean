/-
  TreeParts: the walk.
-/
import Derived.Test.YtkjmilcocnjjoaaTPartsM
import Derived.Laws.StructEq
namespace Go.Proofs.Ytkjmilcocnjjoaa.S
open Go.RowKit Tm
set_option linter.unusedVariables false

theorem fieldsI : (Try.prog.fieldsOf 57).toList.map (fun f => (f.name, f.type, f.offset)) = [("Key", 9, 0), ("Value", 9, 1)] := by kernel_rfl
theorem underI : Try.prog.underlying 57 = some (.struct (Try.prog.fieldsOf 57)) := by kernel_rfl
theorem stoodI : Try.prog.stoodInHeld 57 = false := by kernel_rfl
theorem guardTI : Try.prog.eqGuardType Try.prog.depth 57 = false := by kernel_rfl
theorem neqI (a b c d : ByteArray) (w : World) : (binOp .neq 57 (.agg #[.string a, .string b]) (.agg #[.string c, .string d])).run Try.prog w = .ok (.bool (!(a.toList == c.toList && b.toList == d.toList))) w := by
  rw [run_neq_struct, run_equalIn_agg w 9999 57 _ _ underI stoodI]
  have h := fieldsI
  match hfs : (Try.prog.fieldsOf 57).toList with
  | [] => rw [hfs] at h; simp at h
  | [_] => rw [hfs] at h; simp at h
  | f1 :: f2 :: f3 :: r => rw [hfs] at h; simp at h
  | [f1, f2] =>
    rw [hfs] at h
    simp at h
    obtain ⟨⟨n1, t1, o1⟩, n2, t2, o2⟩ := h
    simp [Op.eqFields, n1, t1, o1, n2, t2, o2, go_sem]
    by_cases h1 : a.toList = c.toList
    · by_cases h2 : b.toList = d.toList
      · simp [h1, h2]
      · simp [h1, h2]
    · simp [h1]
theorem guardI (x y : Operand) (xs ys : Array Value) (w : World) : (eqGuard .neq 57 x y (.agg xs) (.agg ys)).run Try.prog w = .ok () w := run_eqGuard_agg w .neq 57 x y xs ys guardTI
theorem neqI_same (x y : ByteArray) (w : World) : (binOp .neq 57 (.agg #[.string x, .string y]) (.agg #[.string x, .string y])).run Try.prog w = .ok (.bool false) w := by
  rw [neqI]; simp

/-- A slice reads texts. -/
def SeesK (w : World) (v : Value) (xs : List ByteArray) : Prop :=
  ∃ b off ao cap, v = .slice ao xs.length cap ∧ xs.length ≤ cap ∧ (ao = none → cap = 0) ∧ (xs ≠ [] → ao = some ⟨b, off, none⟩ ∧ b < w.heap.size) ∧ ∀ j, (h : j < xs.length) → w.cell? ⟨b, off + j, none⟩ = some (.string xs[j])

/-- What the law carries of its tree. -/
def Kept (W wr : World) (q : Nat) (L : List It) : Prop := ∃ d, ∃ t : LT d, TrA wr q 3 d t L ∧ Below W.heap.size W wr ∧ ∀ b, b < W.heap.size → cT q d t b = 0

theorem Kept.below {W wr w' : World} {q : Nat} {L : List It} (h : Kept W wr q L) (hb : Below wr.heap.size wr w') : Kept W w' q L := by
  obtain ⟨d, t, h1, h2, h3⟩ := h
  exact ⟨d, t, h1.below hb, h2.trans (hb.mono h2.size), h3⟩

theorem put_kept {W wr : World} {q : Nat} {L : List It} (h : Kept W wr q L) (hL : L.length < 4611686018427387904) (k v : ByteArray) :
    Calls Try.prog 22 #[.pointer (some ⟨q, 0, none⟩), .string k, .string v] wr fun e w' => ∃ bb : Bool, e = .returned (.bool bb) ∧ Kept W w' q (putL keyLt k v L) := by
  obtain ⟨d, t, h1, h2, h3⟩ := h
  refine (put_tree h1 (by decide) (by decide) hL k v).mono ?_
  rintro e w' ⟨rfl, d', t', k1, k2⟩
  refine ⟨_, rfl, d', t', k1, h2.trans (k2.gr.below (fun b hb => ?_) h2.size), fun b hb => ?_⟩
  · rcases Nat.lt_or_ge b W.heap.size with hlt | hge
    · have := h3 b hlt; omega
    · exact hge
  · have := k2.old b (Nat.lt_of_lt_of_le hb h2.size); have := h3 b hb; omega

theorem range_kept {W wr : World} {q : Nat} {L : List It} (h : Kept W wr q L) (hL : L.length ≤ 1099511627776) (k tt : ByteArray) (m : Int) :
    Calls Try.prog 23 #[.pointer (some ⟨q, 0, none⟩), .string k, .string tt, .int .i64 m] wr fun e w' => ∃ v, e = .returned v ∧ RowI w' v (rangeL k tt m L) ∧ Below wr.heap.size wr w' ∧ Kept W w' q L := by
  have hk := h
  obtain ⟨d, t, h1, h2, h3⟩ := h
  refine (range_tot h1 (by decide) (by decide) hL k tt m).mono ?_
  rintro e w' ⟨v, rfl, k1, k2⟩
  refine ⟨v, rfl, ⟨k1.1, ?_⟩, k2, hk.below k2⟩
  rcases k1.2 with hx | ⟨g, cap, cur, e1, e2, rest⟩
  · exact .inl hx
  · exact .inr ⟨g, cap, cur, e1, Nat.zero_le _, rest⟩

set_option maxHeartbeats 8000000 in
set_option maxRecDepth 100000 in
theorem parts_walk (a b : ByteArray) (ks : List ByteArray) (v : Value) (W : World) (hv : SeesK W v ks) (hlen : ks.length ≤ 1048576) :
    Calls Try.prog 5 #[v, .string a, .string b] W fun e w' => e = .returned (.bool true) ∧ Below W.heap.size W w' := by
  obtain ⟨bk, off, ao, cap, rfl, hcap, hnil, hao, hcell⟩ := hv
  have HAO := hid hao
  have HC := hid hcell
  clear hao hcell
  obtain ⟨n, hn⟩ : ∃ n, n = ks.length := ⟨_, rfl⟩
  rw [← hn] at hlen hcap ⊢
  have HN := hid hn
  clear hn
  go_enter Try.func5, Try.ntmps5
  go_wp2_with fail
  refine (new_yes 3 W (by decide) (by decide)).mono ?_
  rintro e w1 ⟨q, t, rfl, hA, hB, hc⟩
  have hK : Kept W w1 q (putAll (ks.take 0)) := ⟨0, t, by simpa [putAll] using hA, hB, hc⟩
  have HK := hid hK
  clear hA hB hc hK
  unfold ptr
  go_wp2
  go_loopw [9] (fun i wr => ∃ j : Nat, i = .int .i64 (j : Int) ∧ j ≤ n ∧ Hid (Kept W wr q (putAll (ks.take j)))) (fun i _ => n - (intOf i).toNat)
  case atStart => exact ⟨0, rfl, Nat.zero_le _, HK⟩
  case round =>
    clear HK
    obtain ⟨j, rfl, hj, hK⟩ := hrel
    by_cases hlt : j < n
    · have hjk : j < ks.length := by rw [← HN.out]; exact hlt
      have hne : ks ≠ [] := fun e => by subst e; simp at hjk
      obtain ⟨rfl, hbk⟩ := HAO.out hne
      have hcj := HC.out j hjk
      obtain ⟨_, _, _, hBw, _⟩ := hK.out
      have cj : wr.cell? ⟨bk, off + j, none⟩ = some (.string ks[j]) := (hBw.cell (p := ⟨bk, off + j, none⟩) hbk).trans hcj
      generalize hkj : ks[j] = kj at cj
      have HKJ := hid hkj
      have hpl : (putAll (ks.take j)).length ≤ 1048576 := Nat.le_trans (putAll_len _) (by simp; omega)
      have hput := put_kept (W := W) (wr := wr.drew) (hK.out.below (Below.drew (Below.refl _ _))) (by omega) kj kj
      have HP : Hid (∀ w', Below W.heap.size W w' → w'.cell? ⟨bk, off + j, none⟩ = some (.string kj)) := hid (fun w' hb => by rw [← HKJ.out]; exact (hb.cell (p := ⟨bk, off + j, none⟩) hbk).trans hcj)
      clear hkj hcj hBw
      go_wp2_with fail
      go_region_held3 (fun X => X.cell? ⟨bk, off + j, none⟩ = some (.string kj))
        (first | (exact cj) | assumption)
        (first
          | (go_at_call 22
             refine hput.mono ?_
             rintro e wz ⟨bb, rfl, hKz⟩
             have kz : wz.cell? ⟨bk, off + j, none⟩ = some (.string kj) := by obtain ⟨_, _, _, hb, _⟩ := hKz; exact HP.out wz hb
             have HKZ := hid hKz
             clear hput hKz))
      all_goals
        go_wp2
        go_roundw
        case rel =>
          refine ⟨j + 1, by simp, by omega, ?_⟩
          have e : ks.take (j + 1) = ks.take j ++ [kj] := by rw [List.take_succ_eq_append_getElem hjk, HKJ.out]
          rw [e, putAll_snoc]
          exact HKZ
        case measure => simp [intOf]; omega
    · obtain rfl : j = n := by omega
      have hall : ks.take j = ks := by rw [HN.out, List.take_length]
      rw [hall] at hK
      have hpl : (putAll ks).length ≤ j := by rw [HN.out]; exact putAll_len ks
      have hr1 := range_kept hK.out (by omega) a ⟨#[]⟩ (j : Int)
      have HK := hid hK.out
      clear hall hK
      go_wp2_with fail
      refine hr1.mono ?_
      clear hr1
      rintro e w2 ⟨v1, rfl, ra1, hb1, hk1⟩
      have hr2 := range_kept hk1 (by omega) a b (j : Int)
      go_wp2_with fail
      refine hr2.mono ?_
      clear hr2
      rintro e w3 ⟨v2, rfl, ra2, hb2, hk2⟩
      have hr3 := range_kept hk2 (by omega) b ⟨#[]⟩ (j : Int)
      go_wp2_with fail
      refine hr3.mono ?_
      clear hr3
      rintro e w4 ⟨v3, rfl, ra3, hb3, hk3⟩
      have hsrt : srt keyLt (putAll ks) := by obtain ⟨_, _, h, _⟩ := hk3; exact h.srt
      have hB4 : Below W.heap.size W w4 := by obtain ⟨_, _, _, h, _⟩ := hk3; exact h
      have rb1 : RowI w4 v1 (rangeL a ⟨#[]⟩ (j : Int) (putAll ks)) := ownsRow_gr (F := fun _ => False) (ownsRow_gr (F := fun _ => False) ra1 (Gr.of_below hb2 _) (fun _ _ => id)) (Gr.of_below hb3 _) (fun _ _ => id)
      have rb2 : RowI w4 v2 (rangeL a b (j : Int) (putAll ks)) := ownsRow_gr (F := fun _ => False) ra2 (Gr.of_below hb3 _) (fun _ _ => id)
      have hle := range_le (a := a) (b := b) (m := (j : Int)) (L := putAll ks) (by omega)
      rw [range_open (by omega)] at rb1 ra3
      have hlm : (geL keyLt a (putAll ks)).length ≤ 1048576 := by
        have : (geL keyLt a (putAll ks)).length ≤ (putAll ks).length := by unfold geL; simp
        omega
      have hlh : (geL keyLt b (putAll ks)).length ≤ 1048576 := by
        have : (geL keyLt b (putAll ks)).length ≤ (putAll ks).length := by unfold geL; simp
        omega
      obtain ⟨ao1, cap1, hv1, _, _⟩ := ownsRow_shape rb1
      obtain ⟨ao2, cap2, hv2, _, _⟩ := ownsRow_shape rb2
      obtain ⟨ao3, cap3, hv3, _, _⟩ := ownsRow_shape ra3
      have HB4 := hid hB4
      have HS := hid hsrt
      have HR1 := hid rb1
      have HR2 := hid rb2
      have HR3 := hid ra3
      have HV1 := hid hv1
      have HV2 := hid hv2
      have HV3 := hid hv3
      have haw := fun X (h : Below W.heap.size W X) => (I.awake_any X).mono (R' := fun e w' => e = .returned (.bool true) ∧ Below W.heap.size W w') (fun e w' ⟨h1, h2⟩ => ⟨h1, h.trans (h2.mono h.size)⟩)
      have HAW := hid haw
      have hcut : b ≠ ⟨#[]⟩ → keyLt b a = false → rangeL a b (j : Int) (putAll ks) ++ geL keyLt b (putAll ks) = geL keyLt a (putAll ks) := fun h1 h2 => by
        rw [range_cut (by omega) h1]; exact (ge_cut a b _ hsrt h2).symm
      have HCUT := hid hcut
      have HVAL : Hid (∀ x ∈ geL keyLt a (putAll ks), x.1 = x.2) := hid (fun x hx => putAll_vals ks x (List.mem_of_mem_drop hx))
      have HSR : Hid (srt keyLt (geL keyLt a (putAll ks))) := hid (List.Pairwise.sublist (List.drop_sublist _ _) hsrt)
      generalize geL keyLt a (putAll ks) = LA at *
      generalize geL keyLt b (putAll ks) = LH at *
      generalize rangeL a b (j : Int) (putAll ks) = LL at *
      clear hsrt hB4 ra1 ra2 ra3 rb1 rb2 hb1 hb2 hb3 hk1 hk2 hk3 hcut haw HK
      subst hv1
      subst hv2
      subst hv3
      by_cases hbe : b = ⟨#[]⟩
      · subst hbe
        have haw := HAW.out w4 HB4.out
        have hdec : decide ((LL.length : Int) ≤ (LA.length : Int)) = true := by simp; omega
        go_wp2_with fail
        refine haw.mono ?_
        rintro e w5 ⟨rfl, h5⟩
        go_wp2
        go_ret
        exact ⟨by simp, h5⟩
      · have q1 : (b.toList == []) = false := by
          rw [ByteArray.toList_eq]
          cases hd : b.data.toList with
          | nil => exact absurd (by obtain ⟨⟨l⟩⟩ := b; simp at hd; subst hd; rfl) hbe
          | cons => rfl
        cases hgt : keyLt b a with
        | true =>
          have q2 : Op.bytesLess a.toList b.toList = false := by rw [less_key]; exact not_both totB hgt
          have q3 : (a.toList == b.toList) = false := by
            rw [ByteArray.toList_eq, ByteArray.toList_eq]
            cases he : (a.data.toList == b.data.toList) with
            | false => rfl
            | true =>
              have e1 : a.data.toList = b.data.toList := by simpa using he
              have : keyLt b a = false := by simp [keyLt, cmpB, e1, cmp_refl]
              rw [hgt] at this; cases this
          have haw := HAW.out w4 HB4.out
          have hdec : decide ((LL.length : Int) ≤ (LA.length : Int)) = true := by simp; omega
          clear hgt
          go_wp2_with fail
          refine haw.mono ?_
          rintro e w5 ⟨rfl, h5⟩
          go_wp2
          go_ret
          exact ⟨by simp, h5⟩
        | false =>
          have q2 : (Op.bytesLess a.toList b.toList || a.toList == b.toList) = true := by
            cases hl : keyLt a b with
            | true => rw [less_key, hl]; rfl
            | false =>
              have := totB.tri a b hl hgt
              subst this
              simp
          have hLA := HCUT.out hbe hgt
          have hlen2 : (LL.length : Int) + (LH.length : Int) = (LA.length : Int) := by rw [← hLA]; simp
          have HLA := hid hLA
          have hw1 : IntKind.i64.wrap ((LL.length : Int) + (LH.length : Int)) = (LA.length : Int) := by rw [hlen2, IntKind.wrap_i64]; omega
          have HL2 := hid hlen2
          clear hLA hgt hlen2 HCUT
          go_wp2
          go_loopw [13] (fun s wr => ∃ i : Nat, s = .int .i64 (i : Int) ∧ i ≤ LA.length ∧ Hid (Below W.heap.size W wr ∧ Below w4.heap.size w4 wr)) (fun s _ => LA.length - (intOf s).toNat)
          case atStart => exact ⟨0, rfl, Nat.zero_le _, hid ⟨HB4.out, Below.refl _ _⟩⟩
          case round =>
            obtain ⟨i, rfl, hi, hBB⟩ := hrel
            by_cases hil : i < LA.length
            · obtain ⟨g1, c1, e1, hc1, hg1, hf1, hcell1⟩ := row_form HR1.out (by omega)
              cases e1
              have hx := HVAL.out _ (List.getElem_mem hil)
              obtain ⟨x1, x2⟩ := hcell1 i hil
              rw [← hx] at x2
              have y1 := (hBB.out.2.cell (p := ⟨g1, i * 2, none⟩) hg1).trans x1
              have y2 := (hBB.out.2.cell (p := ⟨g1, i * 2 + 1, none⟩) hg1).trans x2
              have hcp1 := (items_max HR1.out rfl).2.2
              obtain ⟨kx, hkx⟩ : ∃ kx, kx = (LA[i]).1 := ⟨_, rfl⟩
              rw [← hkx] at y1 y2
              simp only [encS] at y2
              have HKX := hid hkx
              have HXE : Hid (LA[i] = (kx, kx)) := hid (by rw [hkx]; exact Prod.ext rfl hx.symm)
              have HC1 := hid hcell1
              have HG1 := hid hg1
              clear x1 x2 hkx hx hcell1 hf1
              have hB5 : Below w4.heap.size w4 (wr.alloc (.cells #[.string kx, .string kx] 57)) := hBB.out.2.alloc hBB.out.2.size _
              obtain ⟨wx, hwx⟩ : ∃ wx, wx = wr.alloc (.cells #[.string kx, .string kx] 57) := ⟨_, rfl⟩
              obtain ⟨B, hBn⟩ : ∃ B, B = wr.heap.size := ⟨_, rfl⟩
              have hxb : wx.heap[B]? = some (.cells #[.string kx, .string kx] 57 (0, 0)) := by rw [hwx, hBn]; exact heap_alloc_new wr _
              have z1 : wx.cell? ⟨B, 0, none⟩ = some (.string kx) := by simp [World.cell?, hxb]
              have z2 : wx.cell? ⟨B, 1, none⟩ = some (.string kx) := by simp [World.cell?, hxb]
              rw [← hwx] at hB5
              have HB5 := hid hB5
              have HBX : Hid (Below W.heap.size W wx) := hid (by rw [hwx]; exact hBB.out.1.alloc hBB.out.1.size _)
              have hneq := neqI_same kx kx
              have hgrd := guardI
              have hself : (kx.toList == kx.toList) = true := by simp
              clear hxb hB5
              go_wp2_with fail
              rw [← hwx, ← hBn]
              clear y1 y2 hwx hBn
              by_cases hpo : 0 < i
              · by_cases hlo : i < LL.length
                · have hp : (0 : Int) < (i : Int) := by omega
                  have hi1 : i - 1 < LA.length := by omega
                  have py := (HB5.out.cell (p := ⟨g1, (i - 1) * 2, none⟩) HG1.out).trans (HC1.out (i - 1) hi1).1
                  obtain ⟨ky, hky⟩ : ∃ ky, ky = (LA[i - 1]).1 := ⟨_, rfl⟩
                  rw [← hky] at py
                  have hlt : Op.bytesLess ky.toList kx.toList = true := by
                    rw [less_key, hky, HKX.out]
                    exact List.pairwise_iff_getElem.1 HSR.out (i - 1) i hi1 hil (by omega)
                  have hwi : IntKind.i64.wrap ((i : Int) - 1) = (i : Int) - 1 := by rw [IntKind.wrap_i64]; omega
                  have hti : ((i : Int) - 1).toNat = i - 1 := by omega
                  have hb1 : (0 : Int) ≤ (i : Int) - 1 := by omega
                  have hb2 : (i : Int) - 1 < (LA.length : Int) := by omega
                  have hb3 : i - 1 < LA.length := hi1
                  clear hky
                  have hlw : (i : Int) < (LL.length : Int) := by omega
                  have hlw2 : ¬ ((LL.length : Int) ≤ (i : Int)) := by omega
                  obtain ⟨g2, c2, e2, hc2, hg2, hf2, hcell2⟩ := row_form HR2.out (by omega)
                  cases e2
                  obtain ⟨m1, m2⟩ := hcell2 i hlo
                  have hxx : LL[i] = (kx, kx) := by
                    rw [← HXE.out]
                    simp only [← HLA.out]
                    rw [List.getElem_append_left hlo]
                  rw [hxx] at m1 m2
                  have n1 := (HB5.out.cell (p := ⟨g2, i * 2, none⟩) hg2).trans m1
                  have n2 := (HB5.out.cell (p := ⟨g2, i * 2 + 1, none⟩) hg2).trans m2
                  simp only [encS] at n2
                  have hcp2 := (items_max HR2.out rfl).2.2
                  clear m1 m2 hxx hcell2 hf2
                  refine wp_region_noPanic ?_
                  refine wp_region_held_drew (S := fun X => X = wx.drew) (by kernel_rfl) ?_ (fun hHeld => ?_)
                  · rfl
                  refine wpAnyH_take (i := 0) (oi := { dst := some 90, op := Op.fieldAddr 57 (Operand.tmp 14) 0, type := 0, pos := "law.go:206", after := #[], guard := none }) (v := (.pointer (some ⟨B, 0, none⟩))) rfl (by kernel_rfl) (by kernel_rfl) (by kernel_rfl) (fun _ _ _ h => h) (Or.inl ⟨by rfl, ?_⟩) (by assumption) ?_
                  · intro w hSw
                    try dsimp only at hSw
                    subst hSw
                    go_simp
                  try simp only [Act.put, List.setIfInBounds_toArray, List.set_cons_zero, List.set_cons_succ]
                  refine wpAnyH_take (i := 1) (oi := { dst := some 91, op := Op.load 9 (Operand.tmp 90), type := 9, pos := "law.go:206", after := #[{ on := 0, ground := Ground.data }], guard := none }) (v := (.string kx)) rfl (by kernel_rfl) (by kernel_rfl) (by kernel_rfl) (fun _ _ _ h => h) (Or.inl ⟨by rfl, ?_⟩) (by assumption) ?_
                  · intro w hSw
                    try dsimp only at hSw
                    subst hSw
                    go_simp
                  try simp only [Act.put, List.setIfInBounds_toArray, List.set_cons_zero, List.set_cons_succ]
                  refine wpAnyH_take (i := 2) (oi := { dst := some 92, op := Op.fieldAddr 57 (Operand.tmp 14) 1, type := 0, pos := "law.go:206", after := #[], guard := none }) (v := (.pointer (some ⟨B, 1, none⟩))) rfl (by kernel_rfl) (by kernel_rfl) (by kernel_rfl) (fun _ _ _ h => h) (Or.inl ⟨by rfl, ?_⟩) (by assumption) ?_
                  · intro w hSw
                    try dsimp only at hSw
                    subst hSw
                    go_simp
                  try simp only [Act.put, List.setIfInBounds_toArray, List.set_cons_zero, List.set_cons_succ]
                  refine wpAnyH_take (i := 3) (oi := { dst := some 93, op := Op.load 9 (Operand.tmp 92), type := 9, pos := "law.go:206", after := #[{ on := 2, ground := Ground.data }], guard := none }) (v := (.string kx)) rfl (by kernel_rfl) (by kernel_rfl) (by kernel_rfl) (fun _ _ _ h => h) (Or.inl ⟨by rfl, ?_⟩) (by assumption) ?_
                  · intro w hSw
                    try dsimp only at hSw
                    subst hSw
                    go_simp
                  try simp only [Act.put, List.setIfInBounds_toArray, List.set_cons_zero, List.set_cons_succ]
                  refine wpAnyH_take (i := 4) (oi := { dst := some 94, op := Op.binOp BinOp.neq 9 (Operand.tmp 91) (Operand.tmp 93) 9, type := 4, pos := "law.go:206", after := #[{ on := 1, ground := Ground.data }, { on := 3, ground := Ground.data }], guard := none }) (v := (.bool false)) rfl (by kernel_rfl) (by kernel_rfl) (by kernel_rfl) (fun _ _ _ h => h) (Or.inl ⟨by rfl, ?_⟩) (by assumption) ?_
                  · intro w hSw
                    try dsimp only at hSw
                    subst hSw
                    go_simp
                  try simp only [Act.put, List.setIfInBounds_toArray, List.set_cons_zero, List.set_cons_succ]
                  refine wpAnyH_take (i := 5) (oi := { dst := some 95, op := Op.move (Operand.tmp 94), type := 4, pos := "law.go:206", after := #[{ on := 4, ground := Ground.data }], guard := none }) (v := (.bool false)) rfl (by kernel_rfl) (by kernel_rfl) (by kernel_rfl) (fun _ _ _ h => h) (Or.inl ⟨by rfl, ?_⟩) (by assumption) ?_
                  · intro w hSw
                    try dsimp only at hSw
                    subst hSw
                    go_simp
                  try simp only [Act.put, List.setIfInBounds_toArray, List.set_cons_zero, List.set_cons_succ]
                  refine wpAnyH_take (i := 6) (oi := { dst := some 96, op := Op.move (Operand.tmp 13), type := 3, pos := "law.go:206", after := #[{ on := 5, ground := Ground.guard }], guard := some (5, false) }) (v := (.int .i64 (i : Int))) rfl (by kernel_rfl) (by kernel_rfl) (by kernel_rfl) (fun _ _ _ h => h) (Or.inl ⟨by rfl, ?_⟩) (by assumption) ?_
                  · intro w hSw
                    try dsimp only at hSw
                    subst hSw
                    go_simp
                  try simp only [Act.put, List.setIfInBounds_toArray, List.set_cons_zero, List.set_cons_succ]
                  refine wpAnyH_take (i := 7) (oi := { dst := some 97, op := Op.binOp BinOp.gtr 3 (Operand.tmp 96) (Operand.const (Value.int IntKind.i64 0)) 3, type := 4, pos := "law.go:206", after := #[{ on := 6, ground := Ground.data }, { on := 5, ground := Ground.guard }], guard := some (5, false) }) (v := (.bool true)) rfl (by kernel_rfl) (by kernel_rfl) (by kernel_rfl) (fun _ _ _ h => h) (Or.inl ⟨by rfl, ?_⟩) (by assumption) ?_
                  · intro w hSw
                    try dsimp only at hSw
                    subst hSw
                    go_simp
                  try simp only [Act.put, List.setIfInBounds_toArray, List.set_cons_zero, List.set_cons_succ]
                  refine wpAnyH_take (i := 8) (oi := { dst := some 98, op := Op.move (Operand.tmp 97), type := 4, pos := "law.go:206", after := #[{ on := 7, ground := Ground.data }, { on := 5, ground := Ground.chain }, { on := 5, ground := Ground.guard }], guard := some (5, false) }) (v := (.bool true)) rfl (by kernel_rfl) (by kernel_rfl) (by kernel_rfl) (fun _ _ _ h => h) (Or.inl ⟨by rfl, ?_⟩) (by assumption) ?_
                  · intro w hSw
                    try dsimp only at hSw
                    subst hSw
                    go_simp
                  try simp only [Act.put, List.setIfInBounds_toArray, List.set_cons_zero, List.set_cons_succ]
                  refine wpAnyH_take (i := 9) (oi := { dst := some 99, op := Op.move (Operand.tmp 10), type := 54, pos := "law.go:206", after := #[{ on := 8, ground := Ground.guard }], guard := some (8, true) }) (v := (.slice (some ⟨g1, 0, none⟩) LA.length cap1)) rfl (by kernel_rfl) (by kernel_rfl) (by kernel_rfl) (fun _ _ _ h => h) (Or.inl ⟨by rfl, ?_⟩) (by assumption) ?_
                  · intro w hSw
                    try dsimp only at hSw
                    subst hSw
                    go_simp
                  try simp only [Act.put, List.setIfInBounds_toArray, List.set_cons_zero, List.set_cons_succ]
                  refine wpAnyH_take (i := 10) (oi := { dst := some 100, op := Op.move (Operand.tmp 13), type := 3, pos := "law.go:206", after := #[{ on := 8, ground := Ground.guard }], guard := some (8, true) }) (v := (.int .i64 (i : Int))) rfl (by kernel_rfl) (by kernel_rfl) (by kernel_rfl) (fun _ _ _ h => h) (Or.inl ⟨by rfl, ?_⟩) (by assumption) ?_
                  · intro w hSw
                    try dsimp only at hSw
                    subst hSw
                    go_simp
                  try simp only [Act.put, List.setIfInBounds_toArray, List.set_cons_zero, List.set_cons_succ]
                  refine wpAnyH_take (i := 11) (oi := { dst := some 101, op := Op.binOp BinOp.sub 3 (Operand.tmp 100) (Operand.const (Value.int IntKind.i64 1)) 3, type := 3, pos := "law.go:206", after := #[{ on := 10, ground := Ground.data }, { on := 8, ground := Ground.guard }], guard := some (8, true) }) (v := (.int .i64 ((i : Int) - 1))) rfl (by kernel_rfl) (by kernel_rfl) (by kernel_rfl) (fun _ _ _ h => h) (Or.inl ⟨by rfl, ?_⟩) (by assumption) ?_
                  · intro w hSw
                    try dsimp only at hSw
                    subst hSw
                    go_simp
                  try simp only [Act.put, List.setIfInBounds_toArray, List.set_cons_zero, List.set_cons_succ]
                  refine wpAnyH_take (i := 12) (oi := { dst := some 102, op := Op.indexAddr 54 (Operand.tmp 99) (Operand.tmp 101), type := 0, pos := "law.go:206", after := #[{ on := 9, ground := Ground.data }, { on := 11, ground := Ground.data }, { on := 8, ground := Ground.guard }], guard := some (8, true) }) (v := (.pointer (some ⟨g1, (i - 1) * 2, none⟩))) rfl (by kernel_rfl) (by kernel_rfl) (by kernel_rfl) (fun _ _ _ h => h) (Or.inl ⟨by rfl, ?_⟩) (by assumption) ?_
                  · intro w hSw
                    try dsimp only at hSw
                    subst hSw
                    go_simp
                    intro hcon
                    omega
                  try simp only [Act.put, List.setIfInBounds_toArray, List.set_cons_zero, List.set_cons_succ]
                  refine wpAnyH_take (i := 13) (oi := { dst := some 103, op := Op.fieldAddr 57 (Operand.tmp 102) 0, type := 0, pos := "law.go:206", after := #[{ on := 12, ground := Ground.data }, { on := 8, ground := Ground.guard }], guard := some (8, true) }) (v := (.pointer (some ⟨g1, (i - 1) * 2, none⟩))) rfl (by kernel_rfl) (by kernel_rfl) (by kernel_rfl) (fun _ _ _ h => h) (Or.inl ⟨by rfl, ?_⟩) (by assumption) ?_
                  · intro w hSw
                    try dsimp only at hSw
                    subst hSw
                    go_simp
                  try simp only [Act.put, List.setIfInBounds_toArray, List.set_cons_zero, List.set_cons_succ]
                  refine wpAnyH_take (i := 14) (oi := { dst := some 104, op := Op.load 9 (Operand.tmp 103), type := 9, pos := "law.go:206", after := #[{ on := 13, ground := Ground.data }, { on := 8, ground := Ground.guard }], guard := some (8, true) }) (v := (.string ky)) rfl (by kernel_rfl) (by kernel_rfl) (by kernel_rfl) (fun _ _ _ h => h) (Or.inl ⟨by rfl, ?_⟩) (by assumption) ?_
                  · intro w hSw
                    try dsimp only at hSw
                    subst hSw
                    go_simp
                  try simp only [Act.put, List.setIfInBounds_toArray, List.set_cons_zero, List.set_cons_succ]
                  refine wpAnyH_take (i := 15) (oi := { dst := some 105, op := Op.fieldAddr 57 (Operand.tmp 14) 0, type := 0, pos := "law.go:206", after := #[{ on := 8, ground := Ground.guard }], guard := some (8, true) }) (v := (.pointer (some ⟨B, 0, none⟩))) rfl (by kernel_rfl) (by kernel_rfl) (by kernel_rfl) (fun _ _ _ h => h) (Or.inl ⟨by rfl, ?_⟩) (by assumption) ?_
                  · intro w hSw
                    try dsimp only at hSw
                    subst hSw
                    go_simp
                  try simp only [Act.put, List.setIfInBounds_toArray, List.set_cons_zero, List.set_cons_succ]
                  refine wpAnyH_take (i := 16) (oi := { dst := some 106, op := Op.load 9 (Operand.tmp 105), type := 9, pos := "law.go:206", after := #[{ on := 15, ground := Ground.data }, { on := 8, ground := Ground.guard }], guard := some (8, true) }) (v := (.string kx)) rfl (by kernel_rfl) (by kernel_rfl) (by kernel_rfl) (fun _ _ _ h => h) (Or.inl ⟨by rfl, ?_⟩) (by assumption) ?_
                  · intro w hSw
                    try dsimp only at hSw
                    subst hSw
                    go_simp
                  try simp only [Act.put, List.setIfInBounds_toArray, List.set_cons_zero, List.set_cons_succ]
                  refine wpAnyH_take (i := 17) (oi := { dst := some 107, op := Op.binOp BinOp.geq 9 (Operand.tmp 104) (Operand.tmp 106) 9, type := 4, pos := "law.go:206", after := #[{ on := 14, ground := Ground.data }, { on := 16, ground := Ground.data }, { on := 8, ground := Ground.guard }], guard := some (8, true) }) (v := (.bool false)) rfl (by kernel_rfl) (by kernel_rfl) (by kernel_rfl) (fun _ _ _ h => h) (Or.inl ⟨by rfl, ?_⟩) (by assumption) ?_
                  · intro w hSw
                    try dsimp only at hSw
                    subst hSw
                    go_simp
                  try simp only [Act.put, List.setIfInBounds_toArray, List.set_cons_zero, List.set_cons_succ]
                  refine wpAnyH_take (i := 18) (oi := { dst := some 108, op := Op.pick (Operand.tmp 98) (Operand.tmp 107) (Operand.const (Value.bool false)), type := 4, pos := "law.go:206", after := #[{ on := 8, ground := Ground.data }, { on := 17, ground := Ground.data }, { on := 5, ground := Ground.guard }], guard := some (5, false) }) (v := (.bool false)) rfl (by kernel_rfl) (by kernel_rfl) (by kernel_rfl) (fun _ _ _ h => h) (Or.inl ⟨by rfl, ?_⟩) (by assumption) ?_
                  · intro w hSw
                    try dsimp only at hSw
                    subst hSw
                    go_simp
                  try simp only [Act.put, List.setIfInBounds_toArray, List.set_cons_zero, List.set_cons_succ]
                  refine wpAnyH_take (i := 19) (oi := { dst := some 109, op := Op.pick (Operand.tmp 95) (Operand.const (Value.bool true)) (Operand.tmp 108), type := 4, pos := "law.go:206", after := #[{ on := 5, ground := Ground.data }, { on := 18, ground := Ground.data }], guard := none }) (v := (.bool false)) rfl (by kernel_rfl) (by kernel_rfl) (by kernel_rfl) (fun _ _ _ h => h) (Or.inl ⟨by rfl, ?_⟩) (by assumption) ?_
                  · intro w hSw
                    try dsimp only at hSw
                    subst hSw
                    go_simp
                  try simp only [Act.put, List.setIfInBounds_toArray, List.set_cons_zero, List.set_cons_succ]
                  refine wpAnyH_take (i := 20) (oi := { dst := some 110, op := Op.move (Operand.tmp 109), type := 4, pos := "law.go:206", after := #[{ on := 19, ground := Ground.data }, { on := 8, ground := Ground.chain }], guard := none }) (v := (.bool false)) rfl (by kernel_rfl) (by kernel_rfl) (by kernel_rfl) (fun _ _ _ h => h) (Or.inl ⟨by rfl, ?_⟩) (by assumption) ?_
                  · intro w hSw
                    try dsimp only at hSw
                    subst hSw
                    go_simp
                  try simp only [Act.put, List.setIfInBounds_toArray, List.set_cons_zero, List.set_cons_succ]
                  refine wpAnyH_take (i := 21) (oi := { dst := some 111, op := Op.move (Operand.tmp 13), type := 3, pos := "law.go:206", after := #[{ on := 20, ground := Ground.guard }], guard := some (20, false) }) (v := (.int .i64 (i : Int))) rfl (by kernel_rfl) (by kernel_rfl) (by kernel_rfl) (fun _ _ _ h => h) (Or.inl ⟨by rfl, ?_⟩) (by assumption) ?_
                  · intro w hSw
                    try dsimp only at hSw
                    subst hSw
                    go_simp
                  try simp only [Act.put, List.setIfInBounds_toArray, List.set_cons_zero, List.set_cons_succ]
                  refine wpAnyH_take (i := 22) (oi := { dst := some 112, op := Op.move (Operand.tmp 11), type := 54, pos := "law.go:206", after := #[{ on := 20, ground := Ground.guard }], guard := some (20, false) }) (v := (.slice (some ⟨g2, 0, none⟩) LL.length cap2)) rfl (by kernel_rfl) (by kernel_rfl) (by kernel_rfl) (fun _ _ _ h => h) (Or.inl ⟨by rfl, ?_⟩) (by assumption) ?_
                  · intro w hSw
                    try dsimp only at hSw
                    subst hSw
                    go_simp
                  try simp only [Act.put, List.setIfInBounds_toArray, List.set_cons_zero, List.set_cons_succ]
                  refine wpAnyH_take (i := 23) (oi := { dst := some 113, op := Op.call { callee := Callee.builtin Builtin.len, args := #[Operand.tmp 112], argTypes := #[54] }, type := 3, pos := "law.go:206", after := #[{ on := 22, ground := Ground.data }, { on := 20, ground := Ground.guard }], guard := some (20, false) }) (v := (.int .i64 (LL.length : Int))) rfl (by kernel_rfl) (by kernel_rfl) (by kernel_rfl) (fun _ _ _ h => h) (Or.inl ⟨by rfl, ?_⟩) (by assumption) ?_
                  · intro w hSw
                    try dsimp only at hSw
                    subst hSw
                    go_simp
                  try simp only [Act.put, List.setIfInBounds_toArray, List.set_cons_zero, List.set_cons_succ]
                  refine wpAnyH_take (i := 24) (oi := { dst := some 114, op := Op.binOp BinOp.lss 3 (Operand.tmp 111) (Operand.tmp 113) 3, type := 4, pos := "law.go:206", after := #[{ on := 21, ground := Ground.data }, { on := 23, ground := Ground.data }, { on := 20, ground := Ground.guard }], guard := some (20, false) }) (v := (.bool true)) rfl (by kernel_rfl) (by kernel_rfl) (by kernel_rfl) (fun _ _ _ h => h) (Or.inl ⟨by rfl, ?_⟩) (by assumption) ?_
                  · intro w hSw
                    try dsimp only at hSw
                    subst hSw
                    go_simp
                  try simp only [Act.put, List.setIfInBounds_toArray, List.set_cons_zero, List.set_cons_succ]
                  refine wpAnyH_take (i := 25) (oi := { dst := some 115, op := Op.move (Operand.tmp 114), type := 4, pos := "law.go:206", after := #[{ on := 24, ground := Ground.data }, { on := 20, ground := Ground.chain }, { on := 20, ground := Ground.guard }], guard := some (20, false) }) (v := (.bool true)) rfl (by kernel_rfl) (by kernel_rfl) (by kernel_rfl) (fun _ _ _ h => h) (Or.inl ⟨by rfl, ?_⟩) (by assumption) ?_
                  · intro w hSw
                    try dsimp only at hSw
                    subst hSw
                    go_simp
                  try simp only [Act.put, List.setIfInBounds_toArray, List.set_cons_zero, List.set_cons_succ]
                  refine wpAnyH_take (i := 26) (oi := { dst := some 116, op := Op.move (Operand.tmp 11), type := 54, pos := "law.go:206", after := #[{ on := 25, ground := Ground.guard }], guard := some (25, true) }) (v := (.slice (some ⟨g2, 0, none⟩) LL.length cap2)) rfl (by kernel_rfl) (by kernel_rfl) (by kernel_rfl) (fun _ _ _ h => h) (Or.inl ⟨by rfl, ?_⟩) (by assumption) ?_
                  · intro w hSw
                    try dsimp only at hSw
                    subst hSw
                    go_simp
                  try simp only [Act.put, List.setIfInBounds_toArray, List.set_cons_zero, List.set_cons_succ]
                  refine wpAnyH_take (i := 27) (oi := { dst := some 117, op := Op.move (Operand.tmp 13), type := 3, pos := "law.go:206", after := #[{ on := 25, ground := Ground.guard }], guard := some (25, true) }) (v := (.int .i64 (i : Int))) rfl (by kernel_rfl) (by kernel_rfl) (by kernel_rfl) (fun _ _ _ h => h) (Or.inl ⟨by rfl, ?_⟩) (by assumption) ?_
                  · intro w hSw
                    try dsimp only at hSw
                    subst hSw
                    go_simp
                  try simp only [Act.put, List.setIfInBounds_toArray, List.set_cons_zero, List.set_cons_succ]
                  refine wpAnyH_take (i := 28) (oi := { dst := some 118, op := Op.indexAddr 54 (Operand.tmp 116) (Operand.tmp 117), type := 0, pos := "law.go:206", after := #[{ on := 26, ground := Ground.data }, { on := 27, ground := Ground.data }, { on := 25, ground := Ground.guard }], guard := some (25, true) }) (v := (.pointer (some ⟨g2, i * 2, none⟩))) rfl (by kernel_rfl) (by kernel_rfl) (by kernel_rfl) (fun _ _ _ h => h) (Or.inl ⟨by rfl, ?_⟩) (by assumption) ?_
                  · intro w hSw
                    try dsimp only at hSw
                    subst hSw
                    go_simp
                  try simp only [Act.put, List.setIfInBounds_toArray, List.set_cons_zero, List.set_cons_succ]
                  refine wpAnyH_take (i := 29) (oi := { dst := some 119, op := Op.load 57 (Operand.tmp 118), type := 57, pos := "law.go:206", after := #[{ on := 28, ground := Ground.data }, { on := 25, ground := Ground.guard }], guard := some (25, true) }) (v := (.agg #[.string kx, .string kx])) rfl (by kernel_rfl) (by kernel_rfl) (by kernel_rfl) (fun _ _ _ h => h) (Or.inl ⟨by rfl, ?_⟩) (by assumption) ?_
                  · intro w hSw
                    try dsimp only at hSw
                    subst hSw
                    go_simp
                  try simp only [Act.put, List.setIfInBounds_toArray, List.set_cons_zero, List.set_cons_succ]
                  refine wpAnyH_take (i := 30) (oi := { dst := some 120, op := Op.load 57 (Operand.tmp 14), type := 57, pos := "law.go:206", after := #[{ on := 25, ground := Ground.guard }], guard := some (25, true) }) (v := (.agg #[.string kx, .string kx])) rfl (by kernel_rfl) (by kernel_rfl) (by kernel_rfl) (fun _ _ _ h => h) (Or.inl ⟨by rfl, ?_⟩) (by assumption) ?_
                  · intro w hSw
                    try dsimp only at hSw
                    subst hSw
                    go_simp
                  try simp only [Act.put, List.setIfInBounds_toArray, List.set_cons_zero, List.set_cons_succ]
                  refine wpAnyH_take (i := 31) (oi := { dst := some 121, op := Op.binOp BinOp.neq 57 (Operand.tmp 119) (Operand.tmp 120) 57, type := 4, pos := "law.go:206", after := #[{ on := 29, ground := Ground.data }, { on := 30, ground := Ground.data }, { on := 25, ground := Ground.guard }], guard := some (25, true) }) (v := (.bool false)) rfl (by kernel_rfl) (by kernel_rfl) (by kernel_rfl) (fun _ _ _ h => h) (Or.inl ⟨by rfl, ?_⟩) (by assumption) ?_
                  · intro w hSw
                    try dsimp only at hSw
                    subst hSw
                    go_simp
                  try simp only [Act.put, List.setIfInBounds_toArray, List.set_cons_zero, List.set_cons_succ]
                  refine wpAnyH_take (i := 32) (oi := { dst := some 122, op := Op.pick (Operand.tmp 115) (Operand.tmp 121) (Operand.const (Value.bool false)), type := 4, pos := "law.go:206", after := #[{ on := 25, ground := Ground.data }, { on := 31, ground := Ground.data }, { on := 20, ground := Ground.guard }], guard := some (20, false) }) (v := (.bool false)) rfl (by kernel_rfl) (by kernel_rfl) (by kernel_rfl) (fun _ _ _ h => h) (Or.inl ⟨by rfl, ?_⟩) (by assumption) ?_
                  · intro w hSw
                    try dsimp only at hSw
                    subst hSw
                    go_simp
                  try simp only [Act.put, List.setIfInBounds_toArray, List.set_cons_zero, List.set_cons_succ]
                  refine wpAnyH_take (i := 33) (oi := { dst := some 123, op := Op.pick (Operand.tmp 110) (Operand.const (Value.bool true)) (Operand.tmp 122), type := 4, pos := "law.go:206", after := #[{ on := 20, ground := Ground.data }, { on := 32, ground := Ground.data }], guard := none }) (v := (.bool false)) rfl (by kernel_rfl) (by kernel_rfl) (by kernel_rfl) (fun _ _ _ h => h) (Or.inl ⟨by rfl, ?_⟩) (by assumption) ?_
                  · intro w hSw
                    try dsimp only at hSw
                    subst hSw
                    go_simp
                  try simp only [Act.put, List.setIfInBounds_toArray, List.set_cons_zero, List.set_cons_succ]
                  refine wpAnyH_take (i := 34) (oi := { dst := some 124, op := Op.move (Operand.tmp 123), type := 4, pos := "law.go:206", after := #[{ on := 33, ground := Ground.data }, { on := 25, ground := Ground.chain }], guard := none }) (v := (.bool false)) rfl (by kernel_rfl) (by kernel_rfl) (by kernel_rfl) (fun _ _ _ h => h) (Or.inl ⟨by rfl, ?_⟩) (by assumption) ?_
                  · intro w hSw
                    try dsimp only at hSw
                    subst hSw
                    go_simp
                  try simp only [Act.put, List.setIfInBounds_toArray, List.set_cons_zero, List.set_cons_succ]
                  refine wpAnyH_take (i := 35) (oi := { dst := some 125, op := Op.move (Operand.tmp 13), type := 3, pos := "law.go:206", after := #[{ on := 34, ground := Ground.guard }], guard := some (34, false) }) (v := (.int .i64 (i : Int))) rfl (by kernel_rfl) (by kernel_rfl) (by kernel_rfl) (fun _ _ _ h => h) (Or.inl ⟨by rfl, ?_⟩) (by assumption) ?_
                  · intro w hSw
                    try dsimp only at hSw
                    subst hSw
                    go_simp
                  try simp only [Act.put, List.setIfInBounds_toArray, List.set_cons_zero, List.set_cons_succ]
                  refine wpAnyH_take (i := 36) (oi := { dst := some 126, op := Op.move (Operand.tmp 11), type := 54, pos := "law.go:206", after := #[{ on := 34, ground := Ground.guard }], guard := some (34, false) }) (v := (.slice (some ⟨g2, 0, none⟩) LL.length cap2)) rfl (by kernel_rfl) (by kernel_rfl) (by kernel_rfl) (fun _ _ _ h => h) (Or.inl ⟨by rfl, ?_⟩) (by assumption) ?_
                  · intro w hSw
                    try dsimp only at hSw
                    subst hSw
                    go_simp
                  try simp only [Act.put, List.setIfInBounds_toArray, List.set_cons_zero, List.set_cons_succ]
                  refine wpAnyH_take (i := 37) (oi := { dst := some 127, op := Op.call { callee := Callee.builtin Builtin.len, args := #[Operand.tmp 126], argTypes := #[54] }, type := 3, pos := "law.go:206", after := #[{ on := 36, ground := Ground.data }, { on := 34, ground := Ground.guard }], guard := some (34, false) }) (v := (.int .i64 (LL.length : Int))) rfl (by kernel_rfl) (by kernel_rfl) (by kernel_rfl) (fun _ _ _ h => h) (Or.inl ⟨by rfl, ?_⟩) (by assumption) ?_
                  · intro w hSw
                    try dsimp only at hSw
                    subst hSw
                    go_simp
                  try simp only [Act.put, List.setIfInBounds_toArray, List.set_cons_zero, List.set_cons_succ]
                  refine wpAnyH_take (i := 38) (oi := { dst := some 128, op := Op.binOp BinOp.geq 3 (Operand.tmp 125) (Operand.tmp 127) 3, type := 4, pos := "law.go:206", after := #[{ on := 35, ground := Ground.data }, { on := 37, ground := Ground.data }, { on := 34, ground := Ground.guard }], guard := some (34, false) }) (v := (.bool false)) rfl (by kernel_rfl) (by kernel_rfl) (by kernel_rfl) (fun _ _ _ h => h) (Or.inl ⟨by rfl, ?_⟩) (by assumption) ?_
                  · intro w hSw
                    try dsimp only at hSw
                    subst hSw
                    go_simp
                  try simp only [Act.put, List.setIfInBounds_toArray, List.set_cons_zero, List.set_cons_succ]
                  refine wpAnyH_take (i := 39) (oi := { dst := some 129, op := Op.move (Operand.tmp 128), type := 4, pos := "law.go:206", after := #[{ on := 38, ground := Ground.data }, { on := 34, ground := Ground.chain }, { on := 34, ground := Ground.guard }], guard := some (34, false) }) (v := (.bool false)) rfl (by kernel_rfl) (by kernel_rfl) (by kernel_rfl) (fun _ _ _ h => h) (Or.inl ⟨by rfl, ?_⟩) (by assumption) ?_
                  · intro w hSw
                    try dsimp only at hSw
                    subst hSw
                    go_simp
                  try simp only [Act.put, List.setIfInBounds_toArray, List.set_cons_zero, List.set_cons_succ]
                  refine wpAnyH_take (i := 40) (oi := { dst := some 130, op := Op.move (Operand.tmp 12), type := 54, pos := "law.go:206", after := #[{ on := 39, ground := Ground.guard }], guard := some (39, true) }) (v := undef) rfl (by kernel_rfl) (by kernel_rfl) (by kernel_rfl) (fun _ _ _ h => h) (Or.inr ⟨by rfl, rfl⟩) (by assumption) ?_
                  try simp only [Act.put, List.setIfInBounds_toArray, List.set_cons_zero, List.set_cons_succ]
                  refine wpAnyH_take (i := 41) (oi := { dst := some 131, op := Op.move (Operand.tmp 13), type := 3, pos := "law.go:206", after := #[{ on := 39, ground := Ground.guard }], guard := some (39, true) }) (v := undef) rfl (by kernel_rfl) (by kernel_rfl) (by kernel_rfl) (fun _ _ _ h => h) (Or.inr ⟨by rfl, rfl⟩) (by assumption) ?_
                  try simp only [Act.put, List.setIfInBounds_toArray, List.set_cons_zero, List.set_cons_succ]
                  refine wpAnyH_take (i := 42) (oi := { dst := some 132, op := Op.move (Operand.tmp 11), type := 54, pos := "law.go:206", after := #[{ on := 39, ground := Ground.guard }], guard := some (39, true) }) (v := undef) rfl (by kernel_rfl) (by kernel_rfl) (by kernel_rfl) (fun _ _ _ h => h) (Or.inr ⟨by rfl, rfl⟩) (by assumption) ?_
                  try simp only [Act.put, List.setIfInBounds_toArray, List.set_cons_zero, List.set_cons_succ]
                  refine wpAnyH_take (i := 43) (oi := { dst := some 133, op := Op.call { callee := Callee.builtin Builtin.len, args := #[Operand.tmp 132], argTypes := #[54] }, type := 3, pos := "law.go:206", after := #[{ on := 42, ground := Ground.data }, { on := 39, ground := Ground.guard }], guard := some (39, true) }) (v := undef) rfl (by kernel_rfl) (by kernel_rfl) (by kernel_rfl) (fun _ _ _ h => h) (Or.inr ⟨by rfl, rfl⟩) (by assumption) ?_
                  try simp only [Act.put, List.setIfInBounds_toArray, List.set_cons_zero, List.set_cons_succ]
                  refine wpAnyH_take (i := 44) (oi := { dst := some 134, op := Op.binOp BinOp.sub 3 (Operand.tmp 131) (Operand.tmp 133) 3, type := 3, pos := "law.go:206", after := #[{ on := 41, ground := Ground.data }, { on := 43, ground := Ground.data }, { on := 39, ground := Ground.guard }], guard := some (39, true) }) (v := undef) rfl (by kernel_rfl) (by kernel_rfl) (by kernel_rfl) (fun _ _ _ h => h) (Or.inr ⟨by rfl, rfl⟩) (by assumption) ?_
                  try simp only [Act.put, List.setIfInBounds_toArray, List.set_cons_zero, List.set_cons_succ]
                  refine wpAnyH_take (i := 45) (oi := { dst := some 135, op := Op.indexAddr 54 (Operand.tmp 130) (Operand.tmp 134), type := 0, pos := "law.go:206", after := #[{ on := 40, ground := Ground.data }, { on := 44, ground := Ground.data }, { on := 39, ground := Ground.guard }], guard := some (39, true) }) (v := undef) rfl (by kernel_rfl) (by kernel_rfl) (by kernel_rfl) (fun _ _ _ h => h) (Or.inr ⟨by rfl, rfl⟩) (by assumption) ?_
                  try simp only [Act.put, List.setIfInBounds_toArray, List.set_cons_zero, List.set_cons_succ]
                  refine wpAnyH_take (i := 46) (oi := { dst := some 136, op := Op.load 57 (Operand.tmp 135), type := 57, pos := "law.go:206", after := #[{ on := 45, ground := Ground.data }, { on := 39, ground := Ground.guard }], guard := some (39, true) }) (v := undef) rfl (by kernel_rfl) (by kernel_rfl) (by kernel_rfl) (fun _ _ _ h => h) (Or.inr ⟨by rfl, rfl⟩) (by assumption) ?_
                  try simp only [Act.put, List.setIfInBounds_toArray, List.set_cons_zero, List.set_cons_succ]
                  refine wpAnyH_take (i := 47) (oi := { dst := some 137, op := Op.load 57 (Operand.tmp 14), type := 57, pos := "law.go:206", after := #[{ on := 39, ground := Ground.guard }], guard := some (39, true) }) (v := undef) rfl (by kernel_rfl) (by kernel_rfl) (by kernel_rfl) (fun _ _ _ h => h) (Or.inr ⟨by rfl, rfl⟩) (by assumption) ?_
                  try simp only [Act.put, List.setIfInBounds_toArray, List.set_cons_zero, List.set_cons_succ]
                  refine wpAnyH_take (i := 48) (oi := { dst := some 138, op := Op.binOp BinOp.neq 57 (Operand.tmp 136) (Operand.tmp 137) 57, type := 4, pos := "law.go:206", after := #[{ on := 46, ground := Ground.data }, { on := 47, ground := Ground.data }, { on := 39, ground := Ground.guard }], guard := some (39, true) }) (v := undef) rfl (by kernel_rfl) (by kernel_rfl) (by kernel_rfl) (fun _ _ _ h => h) (Or.inr ⟨by rfl, rfl⟩) (by assumption) ?_
                  try simp only [Act.put, List.setIfInBounds_toArray, List.set_cons_zero, List.set_cons_succ]
                  refine wpAnyH_take (i := 49) (oi := { dst := some 139, op := Op.pick (Operand.tmp 129) (Operand.tmp 138) (Operand.const (Value.bool false)), type := 4, pos := "law.go:206", after := #[{ on := 39, ground := Ground.data }, { on := 48, ground := Ground.data }, { on := 34, ground := Ground.guard }], guard := some (34, false) }) (v := (.bool false)) rfl (by kernel_rfl) (by kernel_rfl) (by kernel_rfl) (fun _ _ _ h => h) (Or.inl ⟨by rfl, ?_⟩) (by assumption) ?_
                  · intro w hSw
                    try dsimp only at hSw
                    subst hSw
                    go_simp
                  try simp only [Act.put, List.setIfInBounds_toArray, List.set_cons_zero, List.set_cons_succ]
                  refine wpAnyH_take (i := 50) (oi := { dst := some 140, op := Op.pick (Operand.tmp 124) (Operand.const (Value.bool true)) (Operand.tmp 139), type := 4, pos := "law.go:206", after := #[{ on := 34, ground := Ground.data }, { on := 49, ground := Ground.data }], guard := none }) (v := (.bool false)) rfl (by kernel_rfl) (by kernel_rfl) (by kernel_rfl) (fun _ _ _ h => h) (Or.inl ⟨by rfl, ?_⟩) (by assumption) ?_
                  · intro w hSw
                    try dsimp only at hSw
                    subst hSw
                    go_simp
                  try simp only [Act.put, List.setIfInBounds_toArray, List.set_cons_zero, List.set_cons_succ]
                  refine wpAnyH_done (by kernel_rfl) ?_ _
                  refine NoPanic.normal ?_
                  go_wp2
                  go_roundw
                  case rel => exact ⟨i + 1, by simp, by omega, hid ⟨HBX.out.trans (Below.drew (Below.refl _ _)), HB5.out.trans (Below.drew (Below.refl _ _))⟩⟩
                  case measure => simp [intOf]; omega
                · have hp : (0 : Int) < (i : Int) := by omega
                  have hi1 : i - 1 < LA.length := by omega
                  have py := (HB5.out.cell (p := ⟨g1, (i - 1) * 2, none⟩) HG1.out).trans (HC1.out (i - 1) hi1).1
                  obtain ⟨ky, hky⟩ : ∃ ky, ky = (LA[i - 1]).1 := ⟨_, rfl⟩
                  rw [← hky] at py
                  have hlt : Op.bytesLess ky.toList kx.toList = true := by
                    rw [less_key, hky, HKX.out]
                    exact List.pairwise_iff_getElem.1 HSR.out (i - 1) i hi1 hil (by omega)
                  have hwi : IntKind.i64.wrap ((i : Int) - 1) = (i : Int) - 1 := by rw [IntKind.wrap_i64]; omega
                  have hti : ((i : Int) - 1).toNat = i - 1 := by omega
                  have hb1 : (0 : Int) ≤ (i : Int) - 1 := by omega
                  have hb2 : (i : Int) - 1 < (LA.length : Int) := by omega
                  have hb3 : i - 1 < LA.length := hi1
                  clear hky
                  have hlw : ¬ ((i : Int) < (LL.length : Int)) := by omega
                  have hlw2 : (LL.length : Int) ≤ (i : Int) := by omega
                  have hll : LA.length = LL.length + LH.length := by rw [← HLA.out]; simp
                  have hih : i - LL.length < LH.length := by omega
                  obtain ⟨g3, c3, e3, hc3, hg3, hf3, hcell3⟩ := row_form HR3.out (by omega)
                  cases e3
                  obtain ⟨m1, m2⟩ := hcell3 (i - LL.length) hih
                  have hxx : LH[i - LL.length] = (kx, kx) := by
                    rw [← HXE.out]
                    simp only [← HLA.out]
                    rw [List.getElem_append_right (by omega)]
                  rw [hxx] at m1 m2
                  have n1 := (HB5.out.cell (p := ⟨g3, (i - LL.length) * 2, none⟩) hg3).trans m1
                  have n2 := (HB5.out.cell (p := ⟨g3, (i - LL.length) * 2 + 1, none⟩) hg3).trans m2
                  simp only [encS] at n2
                  have hcp3 := (items_max HR3.out rfl).2.2
                  have hwj : IntKind.i64.wrap ((i : Int) - (LL.length : Int)) = (i : Int) - (LL.length : Int) := by rw [IntKind.wrap_i64]; omega
                  have htj : ((i : Int) - (LL.length : Int)).toNat = i - LL.length := by omega
                  have hb4 : (0 : Int) ≤ (i : Int) - (LL.length : Int) := by omega
                  have hb5 : (i : Int) - (LL.length : Int) < (LH.length : Int) := by omega
                  clear m1 m2 hxx hcell3 hf3 hll
                  refine wp_region_noPanic ?_
                  refine wp_region_held_drew (S := fun X => X = wx.drew) (by kernel_rfl) ?_ (fun hHeld => ?_)
                  · rfl
                  refine wpAnyH_take (i := 0) (oi := { dst := some 90, op := Op.fieldAddr 57 (Operand.tmp 14) 0, type := 0, pos := "law.go:206", after := #[], guard := none }) (v := (.pointer (some ⟨B, 0, none⟩))) rfl (by kernel_rfl) (by kernel_rfl) (by kernel_rfl) (fun _ _ _ h => h) (Or.inl ⟨by rfl, ?_⟩) (by assumption) ?_
                  · intro w hSw
                    try dsimp only at hSw
                    subst hSw
                    go_simp
                  try simp only [Act.put, List.setIfInBounds_toArray, List.set_cons_zero, List.set_cons_succ]
                  refine wpAnyH_take (i := 1) (oi := { dst := some 91, op := Op.load 9 (Operand.tmp 90), type := 9, pos := "law.go:206", after := #[{ on := 0, ground := Ground.data }], guard := none }) (v := (.string kx)) rfl (by kernel_rfl) (by kernel_rfl) (by kernel_rfl) (fun _ _ _ h => h) (Or.inl ⟨by rfl, ?_⟩) (by assumption) ?_
                  · intro w hSw
                    try dsimp only at hSw
                    subst hSw
                    go_simp
                  try simp only [Act.put, List.setIfInBounds_toArray, List.set_cons_zero, List.set_cons_succ]
                  refine wpAnyH_take (i := 2) (oi := { dst := some 92, op := Op.fieldAddr 57 (Operand.tmp 14) 1, type := 0, pos := "law.go:206", after := #[], guard := none }) (v := (.pointer (some ⟨B, 1, none⟩))) rfl (by kernel_rfl) (by kernel_rfl) (by kernel_rfl) (fun _ _ _ h => h) (Or.inl ⟨by rfl, ?_⟩) (by assumption) ?_
                  · intro w hSw
                    try dsimp only at hSw
                    subst hSw
                    go_simp
                  try simp only [Act.put, List.setIfInBounds_toArray, List.set_cons_zero, List.set_cons_succ]
                  refine wpAnyH_take (i := 3) (oi := { dst := some 93, op := Op.load 9 (Operand.tmp 92), type := 9, pos := "law.go:206", after := #[{ on := 2, ground := Ground.data }], guard := none }) (v := (.string kx)) rfl (by kernel_rfl) (by kernel_rfl) (by kernel_rfl) (fun _ _ _ h => h) (Or.inl ⟨by rfl, ?_⟩) (by assumption) ?_
                  · intro w hSw
                    try dsimp only at hSw
                    subst hSw
                    go_simp
                  try simp only [Act.put, List.setIfInBounds_toArray, List.set_cons_zero, List.set_cons_succ]
                  refine wpAnyH_take (i := 4) (oi := { dst := some 94, op := Op.binOp BinOp.neq 9 (Operand.tmp 91) (Operand.tmp 93) 9, type := 4, pos := "law.go:206", after := #[{ on := 1, ground := Ground.data }, { on := 3, ground := Ground.data }], guard := none }) (v := (.bool false)) rfl (by kernel_rfl) (by kernel_rfl) (by kernel_rfl) (fun _ _ _ h => h) (Or.inl ⟨by rfl, ?_⟩) (by assumption) ?_
                  · intro w hSw
                    try dsimp only at hSw
                    subst hSw
                    go_simp
                  try simp only [Act.put, List.setIfInBounds_toArray, List.set_cons_zero, List.set_cons_succ]
                  refine wpAnyH_take (i := 5) (oi := { dst := some 95, op := Op.move (Operand.tmp 94), type := 4, pos := "law.go:206", after := #[{ on := 4, ground := Ground.data }], guard := none }) (v := (.bool false)) rfl (by kernel_rfl) (by kernel_rfl) (by kernel_rfl) (fun _ _ _ h => h) (Or.inl ⟨by rfl, ?_⟩) (by assumption) ?_
                  · intro w hSw
                    try dsimp only at hSw
                    subst hSw
                    go_simp
                  try simp only [Act.put, List.setIfInBounds_toArray, List.set_cons_zero, List.set_cons_succ]
                  refine wpAnyH_take (i := 6) (oi := { dst := some 96, op := Op.move (Operand.tmp 13), type := 3, pos := "law.go:206", after := #[{ on := 5, ground := Ground.guard }], guard := some (5, false) }) (v := (.int .i64 (i : Int))) rfl (by kernel_rfl) (by kernel_rfl) (by kernel_rfl) (fun _ _ _ h => h) (Or.inl ⟨by rfl, ?_⟩) (by assumption) ?_
                  · intro w hSw
                    try dsimp only at hSw
                    subst hSw
                    go_simp
                  try simp only [Act.put, List.setIfInBounds_toArray, List.set_cons_zero, List.set_cons_succ]
                  refine wpAnyH_take (i := 7) (oi := { dst := some 97, op := Op.binOp BinOp.gtr 3 (Operand.tmp 96) (Operand.const (Value.int IntKind.i64 0)) 3, type := 4, pos := "law.go:206", after := #[{ on := 6, ground := Ground.data }, { on := 5, ground := Ground.guard }], guard := some (5, false) }) (v := (.bool true)) rfl (by kernel_rfl) (by kernel_rfl) (by kernel_rfl) (fun _ _ _ h => h) (Or.inl ⟨by rfl, ?_⟩) (by assumption) ?_
                  · intro w hSw
                    try dsimp only at hSw
                    subst hSw
                    go_simp
                  try simp only [Act.put, List.setIfInBounds_toArray, List.set_cons_zero, List.set_cons_succ]
                  refine wpAnyH_take (i := 8) (oi := { dst := some 98, op := Op.move (Operand.tmp 97), type := 4, pos := "law.go:206", after := #[{ on := 7, ground := Ground.data }, { on := 5, ground := Ground.chain }, { on := 5, ground := Ground.guard }], guard := some (5, false) }) (v := (.bool true)) rfl (by kernel_rfl) (by kernel_rfl) (by kernel_rfl) (fun _ _ _ h => h) (Or.inl ⟨by rfl, ?_⟩) (by assumption) ?_
                  · intro w hSw
                    try dsimp only at hSw
                    subst hSw
                    go_simp
                  try simp only [Act.put, List.setIfInBounds_toArray, List.set_cons_zero, List.set_cons_succ]
                  refine wpAnyH_take (i := 9) (oi := { dst := some 99, op := Op.move (Operand.tmp 10), type := 54, pos := "law.go:206", after := #[{ on := 8, ground := Ground.guard }], guard := some (8, true) }) (v := (.slice (some ⟨g1, 0, none⟩) LA.length cap1)) rfl (by kernel_rfl) (by kernel_rfl) (by kernel_rfl) (fun _ _ _ h => h) (Or.inl ⟨by rfl, ?_⟩) (by assumption) ?_
                  · intro w hSw
                    try dsimp only at hSw
                    subst hSw
                    go_simp
                  try simp only [Act.put, List.setIfInBounds_toArray, List.set_cons_zero, List.set_cons_succ]
                  refine wpAnyH_take (i := 10) (oi := { dst := some 100, op := Op.move (Operand.tmp 13), type := 3, pos := "law.go:206", after := #[{ on := 8, ground := Ground.guard }], guard := some (8, true) }) (v := (.int .i64 (i : Int))) rfl (by kernel_rfl) (by kernel_rfl) (by kernel_rfl) (fun _ _ _ h => h) (Or.inl ⟨by rfl, ?_⟩) (by assumption) ?_
                  · intro w hSw
                    try dsimp only at hSw
                    subst hSw
                    go_simp
                  try simp only [Act.put, List.setIfInBounds_toArray, List.set_cons_zero, List.set_cons_succ]
                  refine wpAnyH_take (i := 11) (oi := { dst := some 101, op := Op.binOp BinOp.sub 3 (Operand.tmp 100) (Operand.const (Value.int IntKind.i64 1)) 3, type := 3, pos := "law.go:206", after := #[{ on := 10, ground := Ground.data }, { on := 8, ground := Ground.guard }], guard := some (8, true) }) (v := (.int .i64 ((i : Int) - 1))) rfl (by kernel_rfl) (by kernel_rfl) (by kernel_rfl) (fun _ _ _ h => h) (Or.inl ⟨by rfl, ?_⟩) (by assumption) ?_
                  · intro w hSw
                    try dsimp only at hSw
                    subst hSw
                    go_simp
                  try simp only [Act.put, List.setIfInBounds_toArray, List.set_cons_zero, List.set_cons_succ]
                  refine wpAnyH_take (i := 12) (oi := { dst := some 102, op := Op.indexAddr 54 (Operand.tmp 99) (Operand.tmp 101), type := 0, pos := "law.go:206", after := #[{ on := 9, ground := Ground.data }, { on := 11, ground := Ground.data }, { on := 8, ground := Ground.guard }], guard := some (8, true) }) (v := (.pointer (some ⟨g1, (i - 1) * 2, none⟩))) rfl (by kernel_rfl) (by kernel_rfl) (by kernel_rfl) (fun _ _ _ h => h) (Or.inl ⟨by rfl, ?_⟩) (by assumption) ?_
                  · intro w hSw
                    try dsimp only at hSw
                    subst hSw
                    go_simp
                    intro hcon
                    omega
                  try simp only [Act.put, List.setIfInBounds_toArray, List.set_cons_zero, List.set_cons_succ]
                  refine wpAnyH_take (i := 13) (oi := { dst := some 103, op := Op.fieldAddr 57 (Operand.tmp 102) 0, type := 0, pos := "law.go:206", after := #[{ on := 12, ground := Ground.data }, { on := 8, ground := Ground.guard }], guard := some (8, true) }) (v := (.pointer (some ⟨g1, (i - 1) * 2, none⟩))) rfl (by kernel_rfl) (by kernel_rfl) (by kernel_rfl) (fun _ _ _ h => h) (Or.inl ⟨by rfl, ?_⟩) (by assumption) ?_
                  · intro w hSw
                    try dsimp only at hSw
                    subst hSw
                    go_simp
                  try simp only [Act.put, List.setIfInBounds_toArray, List.set_cons_zero, List.set_cons_succ]
                  refine wpAnyH_take (i := 14) (oi := { dst := some 104, op := Op.load 9 (Operand.tmp 103), type := 9, pos := "law.go:206", after := #[{ on := 13, ground := Ground.data }, { on := 8, ground := Ground.guard }], guard := some (8, true) }) (v := (.string ky)) rfl (by kernel_rfl) (by kernel_rfl) (by kernel_rfl) (fun _ _ _ h => h) (Or.inl ⟨by rfl, ?_⟩) (by assumption) ?_
                  · intro w hSw
                    try dsimp only at hSw
                    subst hSw
                    go_simp
                  try simp only [Act.put, List.setIfInBounds_toArray, List.set_cons_zero, List.set_cons_succ]
                  refine wpAnyH_take (i := 15) (oi := { dst := some 105, op := Op.fieldAddr 57 (Operand.tmp 14) 0, type := 0, pos := "law.go:206", after := #[{ on := 8, ground := Ground.guard }], guard := some (8, true) }) (v := (.pointer (some ⟨B, 0, none⟩))) rfl (by kernel_rfl) (by kernel_rfl) (by kernel_rfl) (fun _ _ _ h => h) (Or.inl ⟨by rfl, ?_⟩) (by assumption) ?_
                  · intro w hSw
                    try dsimp only at hSw
                    subst hSw
                    go_simp
                  try simp only [Act.put, List.setIfInBounds_toArray, List.set_cons_zero, List.set_cons_succ]
                  refine wpAnyH_take (i := 16) (oi := { dst := some 106, op := Op.load 9 (Operand.tmp 105), type := 9, pos := "law.go:206", after := #[{ on := 15, ground := Ground.data }, { on := 8, ground := Ground.guard }], guard := some (8, true) }) (v := (.string kx)) rfl (by kernel_rfl) (by kernel_rfl) (by kernel_rfl) (fun _ _ _ h => h) (Or.inl ⟨by rfl, ?_⟩) (by assumption) ?_
                  · intro w hSw
                    try dsimp only at hSw
                    subst hSw
                    go_simp
                  try simp only [Act.put, List.setIfInBounds_toArray, List.set_cons_zero, List.set_cons_succ]
                  refine wpAnyH_take (i := 17) (oi := { dst := some 107, op := Op.binOp BinOp.geq 9 (Operand.tmp 104) (Operand.tmp 106) 9, type := 4, pos := "law.go:206", after := #[{ on := 14, ground := Ground.data }, { on := 16, ground := Ground.data }, { on := 8, ground := Ground.guard }], guard := some (8, true) }) (v := (.bool false)) rfl (by kernel_rfl) (by kernel_rfl) (by kernel_rfl) (fun _ _ _ h => h) (Or.inl ⟨by rfl, ?_⟩) (by assumption) ?_
                  · intro w hSw
                    try dsimp only at hSw
                    subst hSw
                    go_simp
                  try simp only [Act.put, List.setIfInBounds_toArray, List.set_cons_zero, List.set_cons_succ]
                  refine wpAnyH_take (i := 18) (oi := { dst := some 108, op := Op.pick (Operand.tmp 98) (Operand.tmp 107) (Operand.const (Value.bool false)), type := 4, pos := "law.go:206", after := #[{ on := 8, ground := Ground.data }, { on := 17, ground := Ground.data }, { on := 5, ground := Ground.guard }], guard := some (5, false) }) (v := (.bool false)) rfl (by kernel_rfl) (by kernel_rfl) (by kernel_rfl) (fun _ _ _ h => h) (Or.inl ⟨by rfl, ?_⟩) (by assumption) ?_
                  · intro w hSw
                    try dsimp only at hSw
                    subst hSw
                    go_simp
                  try simp only [Act.put, List.setIfInBounds_toArray, List.set_cons_zero, List.set_cons_succ]
                  refine wpAnyH_take (i := 19) (oi := { dst := some 109, op := Op.pick (Operand.tmp 95) (Operand.const (Value.bool true)) (Operand.tmp 108), type := 4, pos := "law.go:206", after := #[{ on := 5, ground := Ground.data }, { on := 18, ground := Ground.data }], guard := none }) (v := (.bool false)) rfl (by kernel_rfl) (by kernel_rfl) (by kernel_rfl) (fun _ _ _ h => h) (Or.inl ⟨by rfl, ?_⟩) (by assumption) ?_
                  · intro w hSw
                    try dsimp only at hSw
                    subst hSw
                    go_simp
                  try simp only [Act.put, List.setIfInBounds_toArray, List.set_cons_zero, List.set_cons_succ]
                  refine wpAnyH_take (i := 20) (oi := { dst := some 110, op := Op.move (Operand.tmp 109), type := 4, pos := "law.go:206", after := #[{ on := 19, ground := Ground.data }, { on := 8, ground := Ground.chain }], guard := none }) (v := (.bool false)) rfl (by kernel_rfl) (by kernel_rfl) (by kernel_rfl) (fun _ _ _ h => h) (Or.inl ⟨by rfl, ?_⟩) (by assumption) ?_
                  · intro w hSw
                    try dsimp only at hSw
                    subst hSw
                    go_simp
                  try simp only [Act.put, List.setIfInBounds_toArray, List.set_cons_zero, List.set_cons_succ]
                  refine wpAnyH_take (i := 21) (oi := { dst := some 111, op := Op.move (Operand.tmp 13), type := 3, pos := "law.go:206", after := #[{ on := 20, ground := Ground.guard }], guard := some (20, false) }) (v := (.int .i64 (i : Int))) rfl (by kernel_rfl) (by kernel_rfl) (by kernel_rfl) (fun _ _ _ h => h) (Or.inl ⟨by rfl, ?_⟩) (by assumption) ?_
                  · intro w hSw
                    try dsimp only at hSw
                    subst hSw
                    go_simp
                  try simp only [Act.put, List.setIfInBounds_toArray, List.set_cons_zero, List.set_cons_succ]
                  refine wpAnyH_take (i := 22) (oi := { dst := some 112, op := Op.move (Operand.tmp 11), type := 54, pos := "law.go:206", after := #[{ on := 20, ground := Ground.guard }], guard := some (20, false) }) (v := (.slice ao2 LL.length cap2)) rfl (by kernel_rfl) (by kernel_rfl) (by kernel_rfl) (fun _ _ _ h => h) (Or.inl ⟨by rfl, ?_⟩) (by assumption) ?_
                  · intro w hSw
                    try dsimp only at hSw
                    subst hSw
                    go_simp
                  try simp only [Act.put, List.setIfInBounds_toArray, List.set_cons_zero, List.set_cons_succ]
                  refine wpAnyH_take (i := 23) (oi := { dst := some 113, op := Op.call { callee := Callee.builtin Builtin.len, args := #[Operand.tmp 112], argTypes := #[54] }, type := 3, pos := "law.go:206", after := #[{ on := 22, ground := Ground.data }, { on := 20, ground := Ground.guard }], guard := some (20, false) }) (v := (.int .i64 (LL.length : Int))) rfl (by kernel_rfl) (by kernel_rfl) (by kernel_rfl) (fun _ _ _ h => h) (Or.inl ⟨by rfl, ?_⟩) (by assumption) ?_
                  · intro w hSw
                    try dsimp only at hSw
                    subst hSw
                    go_simp
                  try simp only [Act.put, List.setIfInBounds_toArray, List.set_cons_zero, List.set_cons_succ]
                  refine wpAnyH_take (i := 24) (oi := { dst := some 114, op := Op.binOp BinOp.lss 3 (Operand.tmp 111) (Operand.tmp 113) 3, type := 4, pos := "law.go:206", after := #[{ on := 21, ground := Ground.data }, { on := 23, ground := Ground.data }, { on := 20, ground := Ground.guard }], guard := some (20, false) }) (v := (.bool false)) rfl (by kernel_rfl) (by kernel_rfl) (by kernel_rfl) (fun _ _ _ h => h) (Or.inl ⟨by rfl, ?_⟩) (by assumption) ?_
                  · intro w hSw
                    try dsimp only at hSw
                    subst hSw
                    go_simp
                  try simp only [Act.put, List.setIfInBounds_toArray, List.set_cons_zero, List.set_cons_succ]
                  refine wpAnyH_take (i := 25) (oi := { dst := some 115, op := Op.move (Operand.tmp 114), type := 4, pos := "law.go:206", after := #[{ on := 24, ground := Ground.data }, { on := 20, ground := Ground.chain }, { on := 20, ground := Ground.guard }], guard := some (20, false) }) (v := (.bool false)) rfl (by kernel_rfl) (by kernel_rfl) (by kernel_rfl) (fun _ _ _ h => h) (Or.inl ⟨by rfl, ?_⟩) (by assumption) ?_
                  · intro w hSw
                    try dsimp only at hSw
                    subst hSw
                    go_simp
                  try simp only [Act.put, List.setIfInBounds_toArray, List.set_cons_zero, List.set_cons_succ]
                  refine wpAnyH_take (i := 26) (oi := { dst := some 116, op := Op.move (Operand.tmp 11), type := 54, pos := "law.go:206", after := #[{ on := 25, ground := Ground.guard }], guard := some (25, true) }) (v := undef) rfl (by kernel_rfl) (by kernel_rfl) (by kernel_rfl) (fun _ _ _ h => h) (Or.inr ⟨by rfl, rfl⟩) (by assumption) ?_
                  try simp only [Act.put, List.setIfInBounds_toArray, List.set_cons_zero, List.set_cons_succ]
                  refine wpAnyH_take (i := 27) (oi := { dst := some 117, op := Op.move (Operand.tmp 13), type := 3, pos := "law.go:206", after := #[{ on := 25, ground := Ground.guard }], guard := some (25, true) }) (v := undef) rfl (by kernel_rfl) (by kernel_rfl) (by kernel_rfl) (fun _ _ _ h => h) (Or.inr ⟨by rfl, rfl⟩) (by assumption) ?_
                  try simp only [Act.put, List.setIfInBounds_toArray, List.set_cons_zero, List.set_cons_succ]
                  refine wpAnyH_take (i := 28) (oi := { dst := some 118, op := Op.indexAddr 54 (Operand.tmp 116) (Operand.tmp 117), type := 0, pos := "law.go:206", after := #[{ on := 26, ground := Ground.data }, { on := 27, ground := Ground.data }, { on := 25, ground := Ground.guard }], guard := some (25, true) }) (v := undef) rfl (by kernel_rfl) (by kernel_rfl) (by kernel_rfl) (fun _ _ _ h => h) (Or.inr ⟨by rfl, rfl⟩) (by assumption) ?_
                  try simp only [Act.put, List.setIfInBounds_toArray, List.set_cons_zero, List.set_cons_succ]
                  refine wpAnyH_take (i := 29) (oi := { dst := some 119, op := Op.load 57 (Operand.tmp 118), type := 57, pos := "law.go:206", after := #[{ on := 28, ground := Ground.data }, { on := 25, ground := Ground.guard }], guard := some (25, true) }) (v := undef) rfl (by kernel_rfl) (by kernel_rfl) (by kernel_rfl) (fun _ _ _ h => h) (Or.inr ⟨by rfl, rfl⟩) (by assumption) ?_
                  try simp only [Act.put, List.setIfInBounds_toArray, List.set_cons_zero, List.set_cons_succ]
                  refine wpAnyH_take (i := 30) (oi := { dst := some 120, op := Op.load 57 (Operand.tmp 14), type := 57, pos := "law.go:206", after := #[{ on := 25, ground := Ground.guard }], guard := some (25, true) }) (v := undef) rfl (by kernel_rfl) (by kernel_rfl) (by kernel_rfl) (fun _ _ _ h => h) (Or.inr ⟨by rfl, rfl⟩) (by assumption) ?_
                  try simp only [Act.put, List.setIfInBounds_toArray, List.set_cons_zero, List.set_cons_succ]
                  refine wpAnyH_take (i := 31) (oi := { dst := some 121, op := Op.binOp BinOp.neq 57 (Operand.tmp 119) (Operand.tmp 120) 57, type := 4, pos := "law.go:206", after := #[{ on := 29, ground := Ground.data }, { on := 30, ground := Ground.data }, { on := 25, ground := Ground.guard }], guard := some (25, true) }) (v := undef) rfl (by kernel_rfl) (by kernel_rfl) (by kernel_rfl) (fun _ _ _ h => h) (Or.inr ⟨by rfl, rfl⟩) (by assumption) ?_
                  try simp only [Act.put, List.setIfInBounds_toArray, List.set_cons_zero, List.set_cons_succ]
                  refine wpAnyH_take (i := 32) (oi := { dst := some 122, op := Op.pick (Operand.tmp 115) (Operand.tmp 121) (Operand.const (Value.bool false)), type := 4, pos := "law.go:206", after := #[{ on := 25, ground := Ground.data }, { on := 31, ground := Ground.data }, { on := 20, ground := Ground.guard }], guard := some (20, false) }) (v := (.bool false)) rfl (by kernel_rfl) (by kernel_rfl) (by kernel_rfl) (fun _ _ _ h => h) (Or.inl ⟨by rfl, ?_⟩) (by assumption) ?_
                  · intro w hSw
                    try dsimp only at hSw
                    subst hSw
                    go_simp
                  try simp only [Act.put, List.setIfInBounds_toArray, List.set_cons_zero, List.set_cons_succ]
                  refine wpAnyH_take (i := 33) (oi := { dst := some 123, op := Op.pick (Operand.tmp 110) (Operand.const (Value.bool true)) (Operand.tmp 122), type := 4, pos := "law.go:206", after := #[{ on := 20, ground := Ground.data }, { on := 32, ground := Ground.data }], guard := none }) (v := (.bool false)) rfl (by kernel_rfl) (by kernel_rfl) (by kernel_rfl) (fun _ _ _ h => h) (Or.inl ⟨by rfl, ?_⟩) (by assumption) ?_
                  · intro w hSw
                    try dsimp only at hSw
                    subst hSw
                    go_simp
                  try simp only [Act.put, List.setIfInBounds_toArray, List.set_cons_zero, List.set_cons_succ]
                  refine wpAnyH_take (i := 34) (oi := { dst := some 124, op := Op.move (Operand.tmp 123), type := 4, pos := "law.go:206", after := #[{ on := 33, ground := Ground.data }, { on := 25, ground := Ground.chain }], guard := none }) (v := (.bool false)) rfl (by kernel_rfl) (by kernel_rfl) (by kernel_rfl) (fun _ _ _ h => h) (Or.inl ⟨by rfl, ?_⟩) (by assumption) ?_
                  · intro w hSw
                    try dsimp only at hSw
                    subst hSw
                    go_simp
                  try simp only [Act.put, List.setIfInBounds_toArray, List.set_cons_zero, List.set_cons_succ]
                  refine wpAnyH_take (i := 35) (oi := { dst := some 125, op := Op.move (Operand.tmp 13), type := 3, pos := "law.go:206", after := #[{ on := 34, ground := Ground.guard }], guard := some (34, false) }) (v := (.int .i64 (i : Int))) rfl (by kernel_rfl) (by kernel_rfl) (by kernel_rfl) (fun _ _ _ h => h) (Or.inl ⟨by rfl, ?_⟩) (by assumption) ?_
                  · intro w hSw
                    try dsimp only at hSw
                    subst hSw
                    go_simp
                  try simp only [Act.put, List.setIfInBounds_toArray, List.set_cons_zero, List.set_cons_succ]
                  refine wpAnyH_take (i := 36) (oi := { dst := some 126, op := Op.move (Operand.tmp 11), type := 54, pos := "law.go:206", after := #[{ on := 34, ground := Ground.guard }], guard := some (34, false) }) (v := (.slice ao2 LL.length cap2)) rfl (by kernel_rfl) (by kernel_rfl) (by kernel_rfl) (fun _ _ _ h => h) (Or.inl ⟨by rfl, ?_⟩) (by assumption) ?_
                  · intro w hSw
                    try dsimp only at hSw
                    subst hSw
                    go_simp
                  try simp only [Act.put, List.setIfInBounds_toArray, List.set_cons_zero, List.set_cons_succ]
                  refine wpAnyH_take (i := 37) (oi := { dst := some 127, op := Op.call { callee := Callee.builtin Builtin.len, args := #[Operand.tmp 126], argTypes := #[54] }, type := 3, pos := "law.go:206", after := #[{ on := 36, ground := Ground.data }, { on := 34, ground := Ground.guard }], guard := some (34, false) }) (v := (.int .i64 (LL.length : Int))) rfl (by kernel_rfl) (by kernel_rfl) (by kernel_rfl) (fun _ _ _ h => h) (Or.inl ⟨by rfl, ?_⟩) (by assumption) ?_
                  · intro w hSw
                    try dsimp only at hSw
                    subst hSw
                    go_simp
                  try simp only [Act.put, List.setIfInBounds_toArray, List.set_cons_zero, List.set_cons_succ]
                  refine wpAnyH_take (i := 38) (oi := { dst := some 128, op := Op.binOp BinOp.geq 3 (Operand.tmp 125) (Operand.tmp 127) 3, type := 4, pos := "law.go:206", after := #[{ on := 35, ground := Ground.data }, { on := 37, ground := Ground.data }, { on := 34, ground := Ground.guard }], guard := some (34, false) }) (v := (.bool true)) rfl (by kernel_rfl) (by kernel_rfl) (by kernel_rfl) (fun _ _ _ h => h) (Or.inl ⟨by rfl, ?_⟩) (by assumption) ?_
                  · intro w hSw
                    try dsimp only at hSw
                    subst hSw
                    go_simp
                  try simp only [Act.put, List.setIfInBounds_toArray, List.set_cons_zero, List.set_cons_succ]
                  refine wpAnyH_take (i := 39) (oi := { dst := some 129, op := Op.move (Operand.tmp 128), type := 4, pos := "law.go:206", after := #[{ on := 38, ground := Ground.data }, { on := 34, ground := Ground.chain }, { on := 34, ground := Ground.guard }], guard := some (34, false) }) (v := (.bool true)) rfl (by kernel_rfl) (by kernel_rfl) (by kernel_rfl) (fun _ _ _ h => h) (Or.inl ⟨by rfl, ?_⟩) (by assumption) ?_
                  · intro w hSw
                    try dsimp only at hSw
                    subst hSw
                    go_simp
                  try simp only [Act.put, List.setIfInBounds_toArray, List.set_cons_zero, List.set_cons_succ]
                  refine wpAnyH_take (i := 40) (oi := { dst := some 130, op := Op.move (Operand.tmp 12), type := 54, pos := "law.go:206", after := #[{ on := 39, ground := Ground.guard }], guard := some (39, true) }) (v := (.slice (some ⟨g3, 0, none⟩) LH.length cap3)) rfl (by kernel_rfl) (by kernel_rfl) (by kernel_rfl) (fun _ _ _ h => h) (Or.inl ⟨by rfl, ?_⟩) (by assumption) ?_
                  · intro w hSw
                    try dsimp only at hSw
                    subst hSw
                    go_simp
                  try simp only [Act.put, List.setIfInBounds_toArray, List.set_cons_zero, List.set_cons_succ]
                  refine wpAnyH_take (i := 41) (oi := { dst := some 131, op := Op.move (Operand.tmp 13), type := 3, pos := "law.go:206", after := #[{ on := 39, ground := Ground.guard }], guard := some (39, true) }) (v := (.int .i64 (i : Int))) rfl (by kernel_rfl) (by kernel_rfl) (by kernel_rfl) (fun _ _ _ h => h) (Or.inl ⟨by rfl, ?_⟩) (by assumption) ?_
                  · intro w hSw
                    try dsimp only at hSw
                    subst hSw
                    go_simp
                  try simp only [Act.put, List.setIfInBounds_toArray, List.set_cons_zero, List.set_cons_succ]
                  refine wpAnyH_take (i := 42) (oi := { dst := some 132, op := Op.move (Operand.tmp 11), type := 54, pos := "law.go:206", after := #[{ on := 39, ground := Ground.guard }], guard := some (39, true) }) (v := (.slice ao2 LL.length cap2)) rfl (by kernel_rfl) (by kernel_rfl) (by kernel_rfl) (fun _ _ _ h => h) (Or.inl ⟨by rfl, ?_⟩) (by assumption) ?_
                  · intro w hSw
                    try dsimp only at hSw
                    subst hSw
                    go_simp
                  try simp only [Act.put, List.setIfInBounds_toArray, List.set_cons_zero, List.set_cons_succ]
                  refine wpAnyH_take (i := 43) (oi := { dst := some 133, op := Op.call { callee := Callee.builtin Builtin.len, args := #[Operand.tmp 132], argTypes := #[54] }, type := 3, pos := "law.go:206", after := #[{ on := 42, ground := Ground.data }, { on := 39, ground := Ground.guard }], guard := some (39, true) }) (v := (.int .i64 (LL.length : Int))) rfl (by kernel_rfl) (by kernel_rfl) (by kernel_rfl) (fun _ _ _ h => h) (Or.inl ⟨by rfl, ?_⟩) (by assumption) ?_
                  · intro w hSw
                    try dsimp only at hSw
                    subst hSw
                    go_simp
                  try simp only [Act.put, List.setIfInBounds_toArray, List.set_cons_zero, List.set_cons_succ]
                  refine wpAnyH_take (i := 44) (oi := { dst := some 134, op := Op.binOp BinOp.sub 3 (Operand.tmp 131) (Operand.tmp 133) 3, type := 3, pos := "law.go:206", after := #[{ on := 41, ground := Ground.data }, { on := 43, ground := Ground.data }, { on := 39, ground := Ground.guard }], guard := some (39, true) }) (v := (.int .i64 ((i : Int) - (LL.length : Int)))) rfl (by kernel_rfl) (by kernel_rfl) (by kernel_rfl) (fun _ _ _ h => h) (Or.inl ⟨by rfl, ?_⟩) (by assumption) ?_
                  · intro w hSw
                    try dsimp only at hSw
                    subst hSw
                    go_simp
                  try simp only [Act.put, List.setIfInBounds_toArray, List.set_cons_zero, List.set_cons_succ]
                  refine wpAnyH_take (i := 45) (oi := { dst := some 135, op := Op.indexAddr 54 (Operand.tmp 130) (Operand.tmp 134), type := 0, pos := "law.go:206", after := #[{ on := 40, ground := Ground.data }, { on := 44, ground := Ground.data }, { on := 39, ground := Ground.guard }], guard := some (39, true) }) (v := (.pointer (some ⟨g3, (i - LL.length) * 2, none⟩))) rfl (by kernel_rfl) (by kernel_rfl) (by kernel_rfl) (fun _ _ _ h => h) (Or.inl ⟨by rfl, ?_⟩) (by assumption) ?_
                  · intro w hSw
                    try dsimp only at hSw
                    subst hSw
                    go_simp
                  try simp only [Act.put, List.setIfInBounds_toArray, List.set_cons_zero, List.set_cons_succ]
                  refine wpAnyH_take (i := 46) (oi := { dst := some 136, op := Op.load 57 (Operand.tmp 135), type := 57, pos := "law.go:206", after := #[{ on := 45, ground := Ground.data }, { on := 39, ground := Ground.guard }], guard := some (39, true) }) (v := (.agg #[.string kx, .string kx])) rfl (by kernel_rfl) (by kernel_rfl) (by kernel_rfl) (fun _ _ _ h => h) (Or.inl ⟨by rfl, ?_⟩) (by assumption) ?_
                  · intro w hSw
                    try dsimp only at hSw
                    subst hSw
                    go_simp
                  try simp only [Act.put, List.setIfInBounds_toArray, List.set_cons_zero, List.set_cons_succ]
                  refine wpAnyH_take (i := 47) (oi := { dst := some 137, op := Op.load 57 (Operand.tmp 14), type := 57, pos := "law.go:206", after := #[{ on := 39, ground := Ground.guard }], guard := some (39, true) }) (v := (.agg #[.string kx, .string kx])) rfl (by kernel_rfl) (by kernel_rfl) (by kernel_rfl) (fun _ _ _ h => h) (Or.inl ⟨by rfl, ?_⟩) (by assumption) ?_
                  · intro w hSw
                    try dsimp only at hSw
                    subst hSw
                    go_simp
                  try simp only [Act.put, List.setIfInBounds_toArray, List.set_cons_zero, List.set_cons_succ]
                  refine wpAnyH_take (i := 48) (oi := { dst := some 138, op := Op.binOp BinOp.neq 57 (Operand.tmp 136) (Operand.tmp 137) 57, type := 4, pos := "law.go:206", after := #[{ on := 46, ground := Ground.data }, { on := 47, ground := Ground.data }, { on := 39, ground := Ground.guard }], guard := some (39, true) }) (v := (.bool false)) rfl (by kernel_rfl) (by kernel_rfl) (by kernel_rfl) (fun _ _ _ h => h) (Or.inl ⟨by rfl, ?_⟩) (by assumption) ?_
                  · intro w hSw
                    try dsimp only at hSw
                    subst hSw
                    go_simp
                  try simp only [Act.put, List.setIfInBounds_toArray, List.set_cons_zero, List.set_cons_succ]
                  refine wpAnyH_take (i := 49) (oi := { dst := some 139, op := Op.pick (Operand.tmp 129) (Operand.tmp 138) (Operand.const (Value.bool false)), type := 4, pos := "law.go:206", after := #[{ on := 39, ground := Ground.data }, { on := 48, ground := Ground.data }, { on := 34, ground := Ground.guard }], guard := some (34, false) }) (v := (.bool false)) rfl (by kernel_rfl) (by kernel_rfl) (by kernel_rfl) (fun _ _ _ h => h) (Or.inl ⟨by rfl, ?_⟩) (by assumption) ?_
                  · intro w hSw
                    try dsimp only at hSw
                    subst hSw
                    go_simp
                  try simp only [Act.put, List.setIfInBounds_toArray, List.set_cons_zero, List.set_cons_succ]
                  refine wpAnyH_take (i := 50) (oi := { dst := some 140, op := Op.pick (Operand.tmp 124) (Operand.const (Value.bool true)) (Operand.tmp 139), type := 4, pos := "law.go:206", after := #[{ on := 34, ground := Ground.data }, { on := 49, ground := Ground.data }], guard := none }) (v := (.bool false)) rfl (by kernel_rfl) (by kernel_rfl) (by kernel_rfl) (fun _ _ _ h => h) (Or.inl ⟨by rfl, ?_⟩) (by assumption) ?_
                  · intro w hSw
                    try dsimp only at hSw
                    subst hSw
                    go_simp
                  try simp only [Act.put, List.setIfInBounds_toArray, List.set_cons_zero, List.set_cons_succ]
                  refine wpAnyH_done (by kernel_rfl) ?_ _
                  refine NoPanic.normal ?_
                  go_wp2
                  go_roundw
                  case rel => exact ⟨i + 1, by simp, by omega, hid ⟨HBX.out.trans (Below.drew (Below.refl _ _)), HB5.out.trans (Below.drew (Below.refl _ _))⟩⟩
                  case measure => simp [intOf]; omega
              · by_cases hlo : i < LL.length
                · have hp : ¬ (0 : Int) < (i : Int) := by omega
                  have hlw : (i : Int) < (LL.length : Int) := by omega
                  have hlw2 : ¬ ((LL.length : Int) ≤ (i : Int)) := by omega
                  obtain ⟨g2, c2, e2, hc2, hg2, hf2, hcell2⟩ := row_form HR2.out (by omega)
                  cases e2
                  obtain ⟨m1, m2⟩ := hcell2 i hlo
                  have hxx : LL[i] = (kx, kx) := by
                    rw [← HXE.out]
                    simp only [← HLA.out]
                    rw [List.getElem_append_left hlo]
                  rw [hxx] at m1 m2
                  have n1 := (HB5.out.cell (p := ⟨g2, i * 2, none⟩) hg2).trans m1
                  have n2 := (HB5.out.cell (p := ⟨g2, i * 2 + 1, none⟩) hg2).trans m2
                  simp only [encS] at n2
                  have hcp2 := (items_max HR2.out rfl).2.2
                  clear m1 m2 hxx hcell2 hf2
                  refine wp_region_noPanic ?_
                  refine wp_region_held_drew (S := fun X => X = wx.drew) (by kernel_rfl) ?_ (fun hHeld => ?_)
                  · rfl
                  refine wpAnyH_take (i := 0) (oi := { dst := some 90, op := Op.fieldAddr 57 (Operand.tmp 14) 0, type := 0, pos := "law.go:206", after := #[], guard := none }) (v := (.pointer (some ⟨B, 0, none⟩))) rfl (by kernel_rfl) (by kernel_rfl) (by kernel_rfl) (fun _ _ _ h => h) (Or.inl ⟨by rfl, ?_⟩) (by assumption) ?_
                  · intro w hSw
                    try dsimp only at hSw
                    subst hSw
                    go_simp
                  try simp only [Act.put, List.setIfInBounds_toArray, List.set_cons_zero, List.set_cons_succ]
                  refine wpAnyH_take (i := 1) (oi := { dst := some 91, op := Op.load 9 (Operand.tmp 90), type := 9, pos := "law.go:206", after := #[{ on := 0, ground := Ground.data }], guard := none }) (v := (.string kx)) rfl (by kernel_rfl) (by kernel_rfl) (by kernel_rfl) (fun _ _ _ h => h) (Or.inl ⟨by rfl, ?_⟩) (by assumption) ?_
                  · intro w hSw
                    try dsimp only at hSw
                    subst hSw
                    go_simp
                  try simp only [Act.put, List.setIfInBounds_toArray, List.set_cons_zero, List.set_cons_succ]
                  refine wpAnyH_take (i := 2) (oi := { dst := some 92, op := Op.fieldAddr 57 (Operand.tmp 14) 1, type := 0, pos := "law.go:206", after := #[], guard := none }) (v := (.pointer (some ⟨B, 1, none⟩))) rfl (by kernel_rfl) (by kernel_rfl) (by kernel_rfl) (fun _ _ _ h => h) (Or.inl ⟨by rfl, ?_⟩) (by assumption) ?_
                  · intro w hSw
                    try dsimp only at hSw
                    subst hSw
                    go_simp
                  try simp only [Act.put, List.setIfInBounds_toArray, List.set_cons_zero, List.set_cons_succ]
                  refine wpAnyH_take (i := 3) (oi := { dst := some 93, op := Op.load 9 (Operand.tmp 92), type := 9, pos := "law.go:206", after := #[{ on := 2, ground := Ground.data }], guard := none }) (v := (.string kx)) rfl (by kernel_rfl) (by kernel_rfl) (by kernel_rfl) (fun _ _ _ h => h) (Or.inl ⟨by rfl, ?_⟩) (by assumption) ?_
                  · intro w hSw
                    try dsimp only at hSw
                    subst hSw
                    go_simp
                  try simp only [Act.put, List.setIfInBounds_toArray, List.set_cons_zero, List.set_cons_succ]
                  refine wpAnyH_take (i := 4) (oi := { dst := some 94, op := Op.binOp BinOp.neq 9 (Operand.tmp 91) (Operand.tmp 93) 9, type := 4, pos := "law.go:206", after := #[{ on := 1, ground := Ground.data }, { on := 3, ground := Ground.data }], guard := none }) (v := (.bool false)) rfl (by kernel_rfl) (by kernel_rfl) (by kernel_rfl) (fun _ _ _ h => h) (Or.inl ⟨by rfl, ?_⟩) (by assumption) ?_
                  · intro w hSw
                    try dsimp only at hSw
                    subst hSw
                    go_simp
                  try simp only [Act.put, List.setIfInBounds_toArray, List.set_cons_zero, List.set_cons_succ]
                  refine wpAnyH_take (i := 5) (oi := { dst := some 95, op := Op.move (Operand.tmp 94), type := 4, pos := "law.go:206", after := #[{ on := 4, ground := Ground.data }], guard := none }) (v := (.bool false)) rfl (by kernel_rfl) (by kernel_rfl) (by kernel_rfl) (fun _ _ _ h => h) (Or.inl ⟨by rfl, ?_⟩) (by assumption) ?_
                  · intro w hSw
                    try dsimp only at hSw
                    subst hSw
                    go_simp
                  try simp only [Act.put, List.setIfInBounds_toArray, List.set_cons_zero, List.set_cons_succ]
                  refine wpAnyH_take (i := 6) (oi := { dst := some 96, op := Op.move (Operand.tmp 13), type := 3, pos := "law.go:206", after := #[{ on := 5, ground := Ground.guard }], guard := some (5, false) }) (v := (.int .i64 (i : Int))) rfl (by kernel_rfl) (by kernel_rfl) (by kernel_rfl) (fun _ _ _ h => h) (Or.inl ⟨by rfl, ?_⟩) (by assumption) ?_
                  · intro w hSw
                    try dsimp only at hSw
                    subst hSw
                    go_simp
                  try simp only [Act.put, List.setIfInBounds_toArray, List.set_cons_zero, List.set_cons_succ]
                  refine wpAnyH_take (i := 7) (oi := { dst := some 97, op := Op.binOp BinOp.gtr 3 (Operand.tmp 96) (Operand.const (Value.int IntKind.i64 0)) 3, type := 4, pos := "law.go:206", after := #[{ on := 6, ground := Ground.data }, { on := 5, ground := Ground.guard }], guard := some (5, false) }) (v := (.bool false)) rfl (by kernel_rfl) (by kernel_rfl) (by kernel_rfl) (fun _ _ _ h => h) (Or.inl ⟨by rfl, ?_⟩) (by assumption) ?_
                  · intro w hSw
                    try dsimp only at hSw
                    subst hSw
                    go_simp
                  try simp only [Act.put, List.setIfInBounds_toArray, List.set_cons_zero, List.set_cons_succ]
                  refine wpAnyH_take (i := 8) (oi := { dst := some 98, op := Op.move (Operand.tmp 97), type := 4, pos := "law.go:206", after := #[{ on := 7, ground := Ground.data }, { on := 5, ground := Ground.chain }, { on := 5, ground := Ground.guard }], guard := some (5, false) }) (v := (.bool false)) rfl (by kernel_rfl) (by kernel_rfl) (by kernel_rfl) (fun _ _ _ h => h) (Or.inl ⟨by rfl, ?_⟩) (by assumption) ?_
                  · intro w hSw
                    try dsimp only at hSw
                    subst hSw
                    go_simp
                  try simp only [Act.put, List.setIfInBounds_toArray, List.set_cons_zero, List.set_cons_succ]
                  refine wpAnyH_take (i := 9) (oi := { dst := some 99, op := Op.move (Operand.tmp 10), type := 54, pos := "law.go:206", after := #[{ on := 8, ground := Ground.guard }], guard := some (8, true) }) (v := undef) rfl (by kernel_rfl) (by kernel_rfl) (by kernel_rfl) (fun _ _ _ h => h) (Or.inr ⟨by rfl, rfl⟩) (by assumption) ?_
                  try simp only [Act.put, List.setIfInBounds_toArray, List.set_cons_zero, List.set_cons_succ]
                  refine wpAnyH_take (i := 10) (oi := { dst := some 100, op := Op.move (Operand.tmp 13), type := 3, pos := "law.go:206", after := #[{ on := 8, ground := Ground.guard }], guard := some (8, true) }) (v := undef) rfl (by kernel_rfl) (by kernel_rfl) (by kernel_rfl) (fun _ _ _ h => h) (Or.inr ⟨by rfl, rfl⟩) (by assumption) ?_
                  try simp only [Act.put, List.setIfInBounds_toArray, List.set_cons_zero, List.set_cons_succ]
                  refine wpAnyH_take (i := 11) (oi := { dst := some 101, op := Op.binOp BinOp.sub 3 (Operand.tmp 100) (Operand.const (Value.int IntKind.i64 1)) 3, type := 3, pos := "law.go:206", after := #[{ on := 10, ground := Ground.data }, { on := 8, ground := Ground.guard }], guard := some (8, true) }) (v := undef) rfl (by kernel_rfl) (by kernel_rfl) (by kernel_rfl) (fun _ _ _ h => h) (Or.inr ⟨by rfl, rfl⟩) (by assumption) ?_
                  try simp only [Act.put, List.setIfInBounds_toArray, List.set_cons_zero, List.set_cons_succ]
                  refine wpAnyH_take (i := 12) (oi := { dst := some 102, op := Op.indexAddr 54 (Operand.tmp 99) (Operand.tmp 101), type := 0, pos := "law.go:206", after := #[{ on := 9, ground := Ground.data }, { on := 11, ground := Ground.data }, { on := 8, ground := Ground.guard }], guard := some (8, true) }) (v := undef) rfl (by kernel_rfl) (by kernel_rfl) (by kernel_rfl) (fun _ _ _ h => h) (Or.inr ⟨by rfl, rfl⟩) (by assumption) ?_
                  try simp only [Act.put, List.setIfInBounds_toArray, List.set_cons_zero, List.set_cons_succ]
                  refine wpAnyH_take (i := 13) (oi := { dst := some 103, op := Op.fieldAddr 57 (Operand.tmp 102) 0, type := 0, pos := "law.go:206", after := #[{ on := 12, ground := Ground.data }, { on := 8, ground := Ground.guard }], guard := some (8, true) }) (v := undef) rfl (by kernel_rfl) (by kernel_rfl) (by kernel_rfl) (fun _ _ _ h => h) (Or.inr ⟨by rfl, rfl⟩) (by assumption) ?_
                  try simp only [Act.put, List.setIfInBounds_toArray, List.set_cons_zero, List.set_cons_succ]
                  refine wpAnyH_take (i := 14) (oi := { dst := some 104, op := Op.load 9 (Operand.tmp 103), type := 9, pos := "law.go:206", after := #[{ on := 13, ground := Ground.data }, { on := 8, ground := Ground.guard }], guard := some (8, true) }) (v := undef) rfl (by kernel_rfl) (by kernel_rfl) (by kernel_rfl) (fun _ _ _ h => h) (Or.inr ⟨by rfl, rfl⟩) (by assumption) ?_
                  try simp only [Act.put, List.setIfInBounds_toArray, List.set_cons_zero, List.set_cons_succ]
                  refine wpAnyH_take (i := 15) (oi := { dst := some 105, op := Op.fieldAddr 57 (Operand.tmp 14) 0, type := 0, pos := "law.go:206", after := #[{ on := 8, ground := Ground.guard }], guard := some (8, true) }) (v := undef) rfl (by kernel_rfl) (by kernel_rfl) (by kernel_rfl) (fun _ _ _ h => h) (Or.inr ⟨by rfl, rfl⟩) (by assumption) ?_
                  try simp only [Act.put, List.setIfInBounds_toArray, List.set_cons_zero, List.set_cons_succ]
                  refine wpAnyH_take (i := 16) (oi := { dst := some 106, op := Op.load 9 (Operand.tmp 105), type := 9, pos := "law.go:206", after := #[{ on := 15, ground := Ground.data }, { on := 8, ground := Ground.guard }], guard := some (8, true) }) (v := undef) rfl (by kernel_rfl) (by kernel_rfl) (by kernel_rfl) (fun _ _ _ h => h) (Or.inr ⟨by rfl, rfl⟩) (by assumption) ?_
                  try simp only [Act.put, List.setIfInBounds_toArray, List.set_cons_zero, List.set_cons_succ]
                  refine wpAnyH_take (i := 17) (oi := { dst := some 107, op := Op.binOp BinOp.geq 9 (Operand.tmp 104) (Operand.tmp 106) 9, type := 4, pos := "law.go:206", after := #[{ on := 14, ground := Ground.data }, { on := 16, ground := Ground.data }, { on := 8, ground := Ground.guard }], guard := some (8, true) }) (v := undef) rfl (by kernel_rfl) (by kernel_rfl) (by kernel_rfl) (fun _ _ _ h => h) (Or.inr ⟨by rfl, rfl⟩) (by assumption) ?_
                  try simp only [Act.put, List.setIfInBounds_toArray, List.set_cons_zero, List.set_cons_succ]
                  refine wpAnyH_take (i := 18) (oi := { dst := some 108, op := Op.pick (Operand.tmp 98) (Operand.tmp 107) (Operand.const (Value.bool false)), type := 4, pos := "law.go:206", after := #[{ on := 8, ground := Ground.data }, { on := 17, ground := Ground.data }, { on := 5, ground := Ground.guard }], guard := some (5, false) }) (v := (.bool false)) rfl (by kernel_rfl) (by kernel_rfl) (by kernel_rfl) (fun _ _ _ h => h) (Or.inl ⟨by rfl, ?_⟩) (by assumption) ?_
                  · intro w hSw
                    try dsimp only at hSw
                    subst hSw
                    go_simp
                  try simp only [Act.put, List.setIfInBounds_toArray, List.set_cons_zero, List.set_cons_succ]
                  refine wpAnyH_take (i := 19) (oi := { dst := some 109, op := Op.pick (Operand.tmp 95) (Operand.const (Value.bool true)) (Operand.tmp 108), type := 4, pos := "law.go:206", after := #[{ on := 5, ground := Ground.data }, { on := 18, ground := Ground.data }], guard := none }) (v := (.bool false)) rfl (by kernel_rfl) (by kernel_rfl) (by kernel_rfl) (fun _ _ _ h => h) (Or.inl ⟨by rfl, ?_⟩) (by assumption) ?_
                  · intro w hSw
                    try dsimp only at hSw
                    subst hSw
                    go_simp
                  try simp only [Act.put, List.setIfInBounds_toArray, List.set_cons_zero, List.set_cons_succ]
                  refine wpAnyH_take (i := 20) (oi := { dst := some 110, op := Op.move (Operand.tmp 109), type := 4, pos := "law.go:206", after := #[{ on := 19, ground := Ground.data }, { on := 8, ground := Ground.chain }], guard := none }) (v := (.bool false)) rfl (by kernel_rfl) (by kernel_rfl) (by kernel_rfl) (fun _ _ _ h => h) (Or.inl ⟨by rfl, ?_⟩) (by assumption) ?_
                  · intro w hSw
                    try dsimp only at hSw
                    subst hSw
                    go_simp
                  try simp only [Act.put, List.setIfInBounds_toArray, List.set_cons_zero, List.set_cons_succ]
                  refine wpAnyH_take (i := 21) (oi := { dst := some 111, op := Op.move (Operand.tmp 13), type := 3, pos := "law.go:206", after := #[{ on := 20, ground := Ground.guard }], guard := some (20, false) }) (v := (.int .i64 (i : Int))) rfl (by kernel_rfl) (by kernel_rfl) (by kernel_rfl) (fun _ _ _ h => h) (Or.inl ⟨by rfl, ?_⟩) (by assumption) ?_
                  · intro w hSw
                    try dsimp only at hSw
                    subst hSw
                    go_simp
                  try simp only [Act.put, List.setIfInBounds_toArray, List.set_cons_zero, List.set_cons_succ]
                  refine wpAnyH_take (i := 22) (oi := { dst := some 112, op := Op.move (Operand.tmp 11), type := 54, pos := "law.go:206", after := #[{ on := 20, ground := Ground.guard }], guard := some (20, false) }) (v := (.slice (some ⟨g2, 0, none⟩) LL.length cap2)) rfl (by kernel_rfl) (by kernel_rfl) (by kernel_rfl) (fun _ _ _ h => h) (Or.inl ⟨by rfl, ?_⟩) (by assumption) ?_
                  · intro w hSw
                    try dsimp only at hSw
                    subst hSw
                    go_simp
                  try simp only [Act.put, List.setIfInBounds_toArray, List.set_cons_zero, List.set_cons_succ]
                  refine wpAnyH_take (i := 23) (oi := { dst := some 113, op := Op.call { callee := Callee.builtin Builtin.len, args := #[Operand.tmp 112], argTypes := #[54] }, type := 3, pos := "law.go:206", after := #[{ on := 22, ground := Ground.data }, { on := 20, ground := Ground.guard }], guard := some (20, false) }) (v := (.int .i64 (LL.length : Int))) rfl (by kernel_rfl) (by kernel_rfl) (by kernel_rfl) (fun _ _ _ h => h) (Or.inl ⟨by rfl, ?_⟩) (by assumption) ?_
                  · intro w hSw
                    try dsimp only at hSw
                    subst hSw
                    go_simp
                  try simp only [Act.put, List.setIfInBounds_toArray, List.set_cons_zero, List.set_cons_succ]
                  refine wpAnyH_take (i := 24) (oi := { dst := some 114, op := Op.binOp BinOp.lss 3 (Operand.tmp 111) (Operand.tmp 113) 3, type := 4, pos := "law.go:206", after := #[{ on := 21, ground := Ground.data }, { on := 23, ground := Ground.data }, { on := 20, ground := Ground.guard }], guard := some (20, false) }) (v := (.bool true)) rfl (by kernel_rfl) (by kernel_rfl) (by kernel_rfl) (fun _ _ _ h => h) (Or.inl ⟨by rfl, ?_⟩) (by assumption) ?_
                  · intro w hSw
                    try dsimp only at hSw
                    subst hSw
                    go_simp
                  try simp only [Act.put, List.setIfInBounds_toArray, List.set_cons_zero, List.set_cons_succ]
                  refine wpAnyH_take (i := 25) (oi := { dst := some 115, op := Op.move (Operand.tmp 114), type := 4, pos := "law.go:206", after := #[{ on := 24, ground := Ground.data }, { on := 20, ground := Ground.chain }, { on := 20, ground := Ground.guard }], guard := some (20, false) }) (v := (.bool true)) rfl (by kernel_rfl) (by kernel_rfl) (by kernel_rfl) (fun _ _ _ h => h) (Or.inl ⟨by rfl, ?_⟩) (by assumption) ?_
                  · intro w hSw
                    try dsimp only at hSw
                    subst hSw
                    go_simp
                  try simp only [Act.put, List.setIfInBounds_toArray, List.set_cons_zero, List.set_cons_succ]
                  refine wpAnyH_take (i := 26) (oi := { dst := some 116, op := Op.move (Operand.tmp 11), type := 54, pos := "law.go:206", after := #[{ on := 25, ground := Ground.guard }], guard := some (25, true) }) (v := (.slice (some ⟨g2, 0, none⟩) LL.length cap2)) rfl (by kernel_rfl) (by kernel_rfl) (by kernel_rfl) (fun _ _ _ h => h) (Or.inl ⟨by rfl, ?_⟩) (by assumption) ?_
                  · intro w hSw
                    try dsimp only at hSw
                    subst hSw
                    go_simp
                  try simp only [Act.put, List.setIfInBounds_toArray, List.set_cons_zero, List.set_cons_succ]
                  refine wpAnyH_take (i := 27) (oi := { dst := some 117, op := Op.move (Operand.tmp 13), type := 3, pos := "law.go:206", after := #[{ on := 25, ground := Ground.guard }], guard := some (25, true) }) (v := (.int .i64 (i : Int))) rfl (by kernel_rfl) (by kernel_rfl) (by kernel_rfl) (fun _ _ _ h => h) (Or.inl ⟨by rfl, ?_⟩) (by assumption) ?_
                  · intro w hSw
                    try dsimp only at hSw
                    subst hSw
                    go_simp
                  try simp only [Act.put, List.setIfInBounds_toArray, List.set_cons_zero, List.set_cons_succ]
                  refine wpAnyH_take (i := 28) (oi := { dst := some 118, op := Op.indexAddr 54 (Operand.tmp 116) (Operand.tmp 117), type := 0, pos := "law.go:206", after := #[{ on := 26, ground := Ground.data }, { on := 27, ground := Ground.data }, { on := 25, ground := Ground.guard }], guard := some (25, true) }) (v := (.pointer (some ⟨g2, i * 2, none⟩))) rfl (by kernel_rfl) (by kernel_rfl) (by kernel_rfl) (fun _ _ _ h => h) (Or.inl ⟨by rfl, ?_⟩) (by assumption) ?_
                  · intro w hSw
                    try dsimp only at hSw
                    subst hSw
                    go_simp
                  try simp only [Act.put, List.setIfInBounds_toArray, List.set_cons_zero, List.set_cons_succ]
                  refine wpAnyH_take (i := 29) (oi := { dst := some 119, op := Op.load 57 (Operand.tmp 118), type := 57, pos := "law.go:206", after := #[{ on := 28, ground := Ground.data }, { on := 25, ground := Ground.guard }], guard := some (25, true) }) (v := (.agg #[.string kx, .string kx])) rfl (by kernel_rfl) (by kernel_rfl) (by kernel_rfl) (fun _ _ _ h => h) (Or.inl ⟨by rfl, ?_⟩) (by assumption) ?_
                  · intro w hSw
                    try dsimp only at hSw
                    subst hSw
                    go_simp
                  try simp only [Act.put, List.setIfInBounds_toArray, List.set_cons_zero, List.set_cons_succ]
                  refine wpAnyH_take (i := 30) (oi := { dst := some 120, op := Op.load 57 (Operand.tmp 14), type := 57, pos := "law.go:206", after := #[{ on := 25, ground := Ground.guard }], guard := some (25, true) }) (v := (.agg #[.string kx, .string kx])) rfl (by kernel_rfl) (by kernel_rfl) (by kernel_rfl) (fun _ _ _ h => h) (Or.inl ⟨by rfl, ?_⟩) (by assumption) ?_
                  · intro w hSw
                    try dsimp only at hSw
                    subst hSw
                    go_simp
                  try simp only [Act.put, List.setIfInBounds_toArray, List.set_cons_zero, List.set_cons_succ]
                  refine wpAnyH_take (i := 31) (oi := { dst := some 121, op := Op.binOp BinOp.neq 57 (Operand.tmp 119) (Operand.tmp 120) 57, type := 4, pos := "law.go:206", after := #[{ on := 29, ground := Ground.data }, { on := 30, ground := Ground.data }, { on := 25, ground := Ground.guard }], guard := some (25, true) }) (v := (.bool false)) rfl (by kernel_rfl) (by kernel_rfl) (by kernel_rfl) (fun _ _ _ h => h) (Or.inl ⟨by rfl, ?_⟩) (by assumption) ?_
                  · intro w hSw
                    try dsimp only at hSw
                    subst hSw
                    go_simp
                  try simp only [Act.put, List.setIfInBounds_toArray, List.set_cons_zero, List.set_cons_succ]
                  refine wpAnyH_take (i := 32) (oi := { dst := some 122, op := Op.pick (Operand.tmp 115) (Operand.tmp 121) (Operand.const (Value.bool false)), type := 4, pos := "law.go:206", after := #[{ on := 25, ground := Ground.data }, { on := 31, ground := Ground.data }, { on := 20, ground := Ground.guard }], guard := some (20, false) }) (v := (.bool false)) rfl (by kernel_rfl) (by kernel_rfl) (by kernel_rfl) (fun _ _ _ h => h) (Or.inl ⟨by rfl, ?_⟩) (by assumption) ?_
                  · intro w hSw
                    try dsimp only at hSw
                    subst hSw
                    go_simp
                  try simp only [Act.put, List.setIfInBounds_toArray, List.set_cons_zero, List.set_cons_succ]
                  refine wpAnyH_take (i := 33) (oi := { dst := some 123, op := Op.pick (Operand.tmp 110) (Operand.const (Value.bool true)) (Operand.tmp 122), type := 4, pos := "law.go:206", after := #[{ on := 20, ground := Ground.data }, { on := 32, ground := Ground.data }], guard := none }) (v := (.bool false)) rfl (by kernel_rfl) (by kernel_rfl) (by kernel_rfl) (fun _ _ _ h => h) (Or.inl ⟨by rfl, ?_⟩) (by assumption) ?_
                  · intro w hSw
                    try dsimp only at hSw
                    subst hSw
                    go_simp
                  try simp only [Act.put, List.setIfInBounds_toArray, List.set_cons_zero, List.set_cons_succ]
                  refine wpAnyH_take (i := 34) (oi := { dst := some 124, op := Op.move (Operand.tmp 123), type := 4, pos := "law.go:206", after := #[{ on := 33, ground := Ground.data }, { on := 25, ground := Ground.chain }], guard := none }) (v := (.bool false)) rfl (by kernel_rfl) (by kernel_rfl) (by kernel_rfl) (fun _ _ _ h => h) (Or.inl ⟨by rfl, ?_⟩) (by assumption) ?_
                  · intro w hSw
                    try dsimp only at hSw
                    subst hSw
                    go_simp
                  try simp only [Act.put, List.setIfInBounds_toArray, List.set_cons_zero, List.set_cons_succ]
                  refine wpAnyH_take (i := 35) (oi := { dst := some 125, op := Op.move (Operand.tmp 13), type := 3, pos := "law.go:206", after := #[{ on := 34, ground := Ground.guard }], guard := some (34, false) }) (v := (.int .i64 (i : Int))) rfl (by kernel_rfl) (by kernel_rfl) (by kernel_rfl) (fun _ _ _ h => h) (Or.inl ⟨by rfl, ?_⟩) (by assumption) ?_
                  · intro w hSw
                    try dsimp only at hSw
                    subst hSw
                    go_simp
                  try simp only [Act.put, List.setIfInBounds_toArray, List.set_cons_zero, List.set_cons_succ]
                  refine wpAnyH_take (i := 36) (oi := { dst := some 126, op := Op.move (Operand.tmp 11), type := 54, pos := "law.go:206", after := #[{ on := 34, ground := Ground.guard }], guard := some (34, false) }) (v := (.slice (some ⟨g2, 0, none⟩) LL.length cap2)) rfl (by kernel_rfl) (by kernel_rfl) (by kernel_rfl) (fun _ _ _ h => h) (Or.inl ⟨by rfl, ?_⟩) (by assumption) ?_
                  · intro w hSw
                    try dsimp only at hSw
                    subst hSw
                    go_simp
                  try simp only [Act.put, List.setIfInBounds_toArray, List.set_cons_zero, List.set_cons_succ]
                  refine wpAnyH_take (i := 37) (oi := { dst := some 127, op := Op.call { callee := Callee.builtin Builtin.len, args := #[Operand.tmp 126], argTypes := #[54] }, type := 3, pos := "law.go:206", after := #[{ on := 36, ground := Ground.data }, { on := 34, ground := Ground.guard }], guard := some (34, false) }) (v := (.int .i64 (LL.length : Int))) rfl (by kernel_rfl) (by kernel_rfl) (by kernel_rfl) (fun _ _ _ h => h) (Or.inl ⟨by rfl, ?_⟩) (by assumption) ?_
                  · intro w hSw
                    try dsimp only at hSw
                    subst hSw
                    go_simp
                  try simp only [Act.put, List.setIfInBounds_toArray, List.set_cons_zero, List.set_cons_succ]
                  refine wpAnyH_take (i := 38) (oi := { dst := some 128, op := Op.binOp BinOp.geq 3 (Operand.tmp 125) (Operand.tmp 127) 3, type := 4, pos := "law.go:206", after := #[{ on := 35, ground := Ground.data }, { on := 37, ground := Ground.data }, { on := 34, ground := Ground.guard }], guard := some (34, false) }) (v := (.bool false)) rfl (by kernel_rfl) (by kernel_rfl) (by kernel_rfl) (fun _ _ _ h => h) (Or.inl ⟨by rfl, ?_⟩) (by assumption) ?_
                  · intro w hSw
                    try dsimp only at hSw
                    subst hSw
                    go_simp
                  try simp only [Act.put, List.setIfInBounds_toArray, List.set_cons_zero, List.set_cons_succ]
                  refine wpAnyH_take (i := 39) (oi := { dst := some 129, op := Op.move (Operand.tmp 128), type := 4, pos := "law.go:206", after := #[{ on := 38, ground := Ground.data }, { on := 34, ground := Ground.chain }, { on := 34, ground := Ground.guard }], guard := some (34, false) }) (v := (.bool false)) rfl (by kernel_rfl) (by kernel_rfl) (by kernel_rfl) (fun _ _ _ h => h) (Or.inl ⟨by rfl, ?_⟩) (by assumption) ?_
                  · intro w hSw
                    try dsimp only at hSw
                    subst hSw
                    go_simp
                  try simp only [Act.put, List.setIfInBounds_toArray, List.set_cons_zero, List.set_cons_succ]
                  refine wpAnyH_take (i := 40) (oi := { dst := some 130, op := Op.move (Operand.tmp 12), type := 54, pos := "law.go:206", after := #[{ on := 39, ground := Ground.guard }], guard := some (39, true) }) (v := undef) rfl (by kernel_rfl) (by kernel_rfl) (by kernel_rfl) (fun _ _ _ h => h) (Or.inr ⟨by rfl, rfl⟩) (by assumption) ?_
                  try simp only [Act.put, List.setIfInBounds_toArray, List.set_cons_zero, List.set_cons_succ]
                  refine wpAnyH_take (i := 41) (oi := { dst := some 131, op := Op.move (Operand.tmp 13), type := 3, pos := "law.go:206", after := #[{ on := 39, ground := Ground.guard }], guard := some (39, true) }) (v := undef) rfl (by kernel_rfl) (by kernel_rfl) (by kernel_rfl) (fun _ _ _ h => h) (Or.inr ⟨by rfl, rfl⟩) (by assumption) ?_
                  try simp only [Act.put, List.setIfInBounds_toArray, List.set_cons_zero, List.set_cons_succ]
                  refine wpAnyH_take (i := 42) (oi := { dst := some 132, op := Op.move (Operand.tmp 11), type := 54, pos := "law.go:206", after := #[{ on := 39, ground := Ground.guard }], guard := some (39, true) }) (v := undef) rfl (by kernel_rfl) (by kernel_rfl) (by kernel_rfl) (fun _ _ _ h => h) (Or.inr ⟨by rfl, rfl⟩) (by assumption) ?_
                  try simp only [Act.put, List.setIfInBounds_toArray, List.set_cons_zero, List.set_cons_succ]
                  refine wpAnyH_take (i := 43) (oi := { dst := some 133, op := Op.call { callee := Callee.builtin Builtin.len, args := #[Operand.tmp 132], argTypes := #[54] }, type := 3, pos := "law.go:206", after := #[{ on := 42, ground := Ground.data }, { on := 39, ground := Ground.guard }], guard := some (39, true) }) (v := undef) rfl (by kernel_rfl) (by kernel_rfl) (by kernel_rfl) (fun _ _ _ h => h) (Or.inr ⟨by rfl, rfl⟩) (by assumption) ?_
                  try simp only [Act.put, List.setIfInBounds_toArray, List.set_cons_zero, List.set_cons_succ]
                  refine wpAnyH_take (i := 44) (oi := { dst := some 134, op := Op.binOp BinOp.sub 3 (Operand.tmp 131) (Operand.tmp 133) 3, type := 3, pos := "law.go:206", after := #[{ on := 41, ground := Ground.data }, { on := 43, ground := Ground.data }, { on := 39, ground := Ground.guard }], guard := some (39, true) }) (v := undef) rfl (by kernel_rfl) (by kernel_rfl) (by kernel_rfl) (fun _ _ _ h => h) (Or.inr ⟨by rfl, rfl⟩) (by assumption) ?_
                  try simp only [Act.put, List.setIfInBounds_toArray, List.set_cons_zero, List.set_cons_succ]
                  refine wpAnyH_take (i := 45) (oi := { dst := some 135, op := Op.indexAddr 54 (Operand.tmp 130) (Operand.tmp 134), type := 0, pos := "law.go:206", after := #[{ on := 40, ground := Ground.data }, { on := 44, ground := Ground.data }, { on := 39, ground := Ground.guard }], guard := some (39, true) }) (v := undef) rfl (by kernel_rfl) (by kernel_rfl) (by kernel_rfl) (fun _ _ _ h => h) (Or.inr ⟨by rfl, rfl⟩) (by assumption) ?_
                  try simp only [Act.put, List.setIfInBounds_toArray, List.set_cons_zero, List.set_cons_succ]
                  refine wpAnyH_take (i := 46) (oi := { dst := some 136, op := Op.load 57 (Operand.tmp 135), type := 57, pos := "law.go:206", after := #[{ on := 45, ground := Ground.data }, { on := 39, ground := Ground.guard }], guard := some (39, true) }) (v := undef) rfl (by kernel_rfl) (by kernel_rfl) (by kernel_rfl) (fun _ _ _ h => h) (Or.inr ⟨by rfl, rfl⟩) (by assumption) ?_
                  try simp only [Act.put, List.setIfInBounds_toArray, List.set_cons_zero, List.set_cons_succ]
                  refine wpAnyH_take (i := 47) (oi := { dst := some 137, op := Op.load 57 (Operand.tmp 14), type := 57, pos := "law.go:206", after := #[{ on := 39, ground := Ground.guard }], guard := some (39, true) }) (v := undef) rfl (by kernel_rfl) (by kernel_rfl) (by kernel_rfl) (fun _ _ _ h => h) (Or.inr ⟨by rfl, rfl⟩) (by assumption) ?_
                  try simp only [Act.put, List.setIfInBounds_toArray, List.set_cons_zero, List.set_cons_succ]
                  refine wpAnyH_take (i := 48) (oi := { dst := some 138, op := Op.binOp BinOp.neq 57 (Operand.tmp 136) (Operand.tmp 137) 57, type := 4, pos := "law.go:206", after := #[{ on := 46, ground := Ground.data }, { on := 47, ground := Ground.data }, { on := 39, ground := Ground.guard }], guard := some (39, true) }) (v := undef) rfl (by kernel_rfl) (by kernel_rfl) (by kernel_rfl) (fun _ _ _ h => h) (Or.inr ⟨by rfl, rfl⟩) (by assumption) ?_
                  try simp only [Act.put, List.setIfInBounds_toArray, List.set_cons_zero, List.set_cons_succ]
                  refine wpAnyH_take (i := 49) (oi := { dst := some 139, op := Op.pick (Operand.tmp 129) (Operand.tmp 138) (Operand.const (Value.bool false)), type := 4, pos := "law.go:206", after := #[{ on := 39, ground := Ground.data }, { on := 48, ground := Ground.data }, { on := 34, ground := Ground.guard }], guard := some (34, false) }) (v := (.bool false)) rfl (by kernel_rfl) (by kernel_rfl) (by kernel_rfl) (fun _ _ _ h => h) (Or.inl ⟨by rfl, ?_⟩) (by assumption) ?_
                  · intro w hSw
                    try dsimp only at hSw
                    subst hSw
                    go_simp
                  try simp only [Act.put, List.setIfInBounds_toArray, List.set_cons_zero, List.set_cons_succ]
                  refine wpAnyH_take (i := 50) (oi := { dst := some 140, op := Op.pick (Operand.tmp 124) (Operand.const (Value.bool true)) (Operand.tmp 139), type := 4, pos := "law.go:206", after := #[{ on := 34, ground := Ground.data }, { on := 49, ground := Ground.data }], guard := none }) (v := (.bool false)) rfl (by kernel_rfl) (by kernel_rfl) (by kernel_rfl) (fun _ _ _ h => h) (Or.inl ⟨by rfl, ?_⟩) (by assumption) ?_
                  · intro w hSw
                    try dsimp only at hSw
                    subst hSw
                    go_simp
                  try simp only [Act.put, List.setIfInBounds_toArray, List.set_cons_zero, List.set_cons_succ]
                  refine wpAnyH_done (by kernel_rfl) ?_ _
                  refine NoPanic.normal ?_
                  go_wp2
                  go_roundw
                  case rel => exact ⟨i + 1, by simp, by omega, hid ⟨HBX.out.trans (Below.drew (Below.refl _ _)), HB5.out.trans (Below.drew (Below.refl _ _))⟩⟩
                  case measure => simp [intOf]; omega
                · have hp : ¬ (0 : Int) < (i : Int) := by omega
                  have hlw : ¬ ((i : Int) < (LL.length : Int)) := by omega
                  have hlw2 : (LL.length : Int) ≤ (i : Int) := by omega
                  have hll : LA.length = LL.length + LH.length := by rw [← HLA.out]; simp
                  have hih : i - LL.length < LH.length := by omega
                  obtain ⟨g3, c3, e3, hc3, hg3, hf3, hcell3⟩ := row_form HR3.out (by omega)
                  cases e3
                  obtain ⟨m1, m2⟩ := hcell3 (i - LL.length) hih
                  have hxx : LH[i - LL.length] = (kx, kx) := by
                    rw [← HXE.out]
                    simp only [← HLA.out]
                    rw [List.getElem_append_right (by omega)]
                  rw [hxx] at m1 m2
                  have n1 := (HB5.out.cell (p := ⟨g3, (i - LL.length) * 2, none⟩) hg3).trans m1
                  have n2 := (HB5.out.cell (p := ⟨g3, (i - LL.length) * 2 + 1, none⟩) hg3).trans m2
                  simp only [encS] at n2
                  have hcp3 := (items_max HR3.out rfl).2.2
                  have hwj : IntKind.i64.wrap ((i : Int) - (LL.length : Int)) = (i : Int) - (LL.length : Int) := by rw [IntKind.wrap_i64]; omega
                  have htj : ((i : Int) - (LL.length : Int)).toNat = i - LL.length := by omega
                  have hb4 : (0 : Int) ≤ (i : Int) - (LL.length : Int) := by omega
                  have hb5 : (i : Int) - (LL.length : Int) < (LH.length : Int) := by omega
                  clear m1 m2 hxx hcell3 hf3 hll
                  refine wp_region_noPanic ?_
                  refine wp_region_held_drew (S := fun X => X = wx.drew) (by kernel_rfl) ?_ (fun hHeld => ?_)
                  · rfl
                  refine wpAnyH_take (i := 0) (oi := { dst := some 90, op := Op.fieldAddr 57 (Operand.tmp 14) 0, type := 0, pos := "law.go:206", after := #[], guard := none }) (v := (.pointer (some ⟨B, 0, none⟩))) rfl (by kernel_rfl) (by kernel_rfl) (by kernel_rfl) (fun _ _ _ h => h) (Or.inl ⟨by rfl, ?_⟩) (by assumption) ?_
                  · intro w hSw
                    try dsimp only at hSw
                    subst hSw
                    go_simp
                  try simp only [Act.put, List.setIfInBounds_toArray, List.set_cons_zero, List.set_cons_succ]
                  refine wpAnyH_take (i := 1) (oi := { dst := some 91, op := Op.load 9 (Operand.tmp 90), type := 9, pos := "law.go:206", after := #[{ on := 0, ground := Ground.data }], guard := none }) (v := (.string kx)) rfl (by kernel_rfl) (by kernel_rfl) (by kernel_rfl) (fun _ _ _ h => h) (Or.inl ⟨by rfl, ?_⟩) (by assumption) ?_
                  · intro w hSw
                    try dsimp only at hSw
                    subst hSw
                    go_simp
                  try simp only [Act.put, List.setIfInBounds_toArray, List.set_cons_zero, List.set_cons_succ]
                  refine wpAnyH_take (i := 2) (oi := { dst := some 92, op := Op.fieldAddr 57 (Operand.tmp 14) 1, type := 0, pos := "law.go:206", after := #[], guard := none }) (v := (.pointer (some ⟨B, 1, none⟩))) rfl (by kernel_rfl) (by kernel_rfl) (by kernel_rfl) (fun _ _ _ h => h) (Or.inl ⟨by rfl, ?_⟩) (by assumption) ?_
                  · intro w hSw
                    try dsimp only at hSw
                    subst hSw
                    go_simp
                  try simp only [Act.put, List.setIfInBounds_toArray, List.set_cons_zero, List.set_cons_succ]
                  refine wpAnyH_take (i := 3) (oi := { dst := some 93, op := Op.load 9 (Operand.tmp 92), type := 9, pos := "law.go:206", after := #[{ on := 2, ground := Ground.data }], guard := none }) (v := (.string kx)) rfl (by kernel_rfl) (by kernel_rfl) (by kernel_rfl) (fun _ _ _ h => h) (Or.inl ⟨by rfl, ?_⟩) (by assumption) ?_
                  · intro w hSw
                    try dsimp only at hSw
                    subst hSw
                    go_simp
                  try simp only [Act.put, List.setIfInBounds_toArray, List.set_cons_zero, List.set_cons_succ]
                  refine wpAnyH_take (i := 4) (oi := { dst := some 94, op := Op.binOp BinOp.neq 9 (Operand.tmp 91) (Operand.tmp 93) 9, type := 4, pos := "law.go:206", after := #[{ on := 1, ground := Ground.data }, { on := 3, ground := Ground.data }], guard := none }) (v := (.bool false)) rfl (by kernel_rfl) (by kernel_rfl) (by kernel_rfl) (fun _ _ _ h => h) (Or.inl ⟨by rfl, ?_⟩) (by assumption) ?_
                  · intro w hSw
                    try dsimp only at hSw
                    subst hSw
                    go_simp
                  try simp only [Act.put, List.setIfInBounds_toArray, List.set_cons_zero, List.set_cons_succ]
                  refine wpAnyH_take (i := 5) (oi := { dst := some 95, op := Op.move (Operand.tmp 94), type := 4, pos := "law.go:206", after := #[{ on := 4, ground := Ground.data }], guard := none }) (v := (.bool false)) rfl (by kernel_rfl) (by kernel_rfl) (by kernel_rfl) (fun _ _ _ h => h) (Or.inl ⟨by rfl, ?_⟩) (by assumption) ?_
                  · intro w hSw
                    try dsimp only at hSw
                    subst hSw
                    go_simp
                  try simp only [Act.put, List.setIfInBounds_toArray, List.set_cons_zero, List.set_cons_succ]
                  refine wpAnyH_take (i := 6) (oi := { dst := some 96, op := Op.move (Operand.tmp 13), type := 3, pos := "law.go:206", after := #[{ on := 5, ground := Ground.guard }], guard := some (5, false) }) (v := (.int .i64 (i : Int))) rfl (by kernel_rfl) (by kernel_rfl) (by kernel_rfl) (fun _ _ _ h => h) (Or.inl ⟨by rfl, ?_⟩) (by assumption) ?_
                  · intro w hSw
                    try dsimp only at hSw
                    subst hSw
                    go_simp
                  try simp only [Act.put, List.setIfInBounds_toArray, List.set_cons_zero, List.set_cons_succ]
                  refine wpAnyH_take (i := 7) (oi := { dst := some 97, op := Op.binOp BinOp.gtr 3 (Operand.tmp 96) (Operand.const (Value.int IntKind.i64 0)) 3, type := 4, pos := "law.go:206", after := #[{ on := 6, ground := Ground.data }, { on := 5, ground := Ground.guard }], guard := some (5, false) }) (v := (.bool false)) rfl (by kernel_rfl) (by kernel_rfl) (by kernel_rfl) (fun _ _ _ h => h) (Or.inl ⟨by rfl, ?_⟩) (by assumption) ?_
                  · intro w hSw
                    try dsimp only at hSw
                    subst hSw
                    go_simp
                  try simp only [Act.put, List.setIfInBounds_toArray, List.set_cons_zero, List.set_cons_succ]
                  refine wpAnyH_take (i := 8) (oi := { dst := some 98, op := Op.move (Operand.tmp 97), type := 4, pos := "law.go:206", after := #[{ on := 7, ground := Ground.data }, { on := 5, ground := Ground.chain }, { on := 5, ground := Ground.guard }], guard := some (5, false) }) (v := (.bool false)) rfl (by kernel_rfl) (by kernel_rfl) (by kernel_rfl) (fun _ _ _ h => h) (Or.inl ⟨by rfl, ?_⟩) (by assumption) ?_
                  · intro w hSw
                    try dsimp only at hSw
                    subst hSw
                    go_simp
                  try simp only [Act.put, List.setIfInBounds_toArray, List.set_cons_zero, List.set_cons_succ]
                  refine wpAnyH_take (i := 9) (oi := { dst := some 99, op := Op.move (Operand.tmp 10), type := 54, pos := "law.go:206", after := #[{ on := 8, ground := Ground.guard }], guard := some (8, true) }) (v := undef) rfl (by kernel_rfl) (by kernel_rfl) (by kernel_rfl) (fun _ _ _ h => h) (Or.inr ⟨by rfl, rfl⟩) (by assumption) ?_
                  try simp only [Act.put, List.setIfInBounds_toArray, List.set_cons_zero, List.set_cons_succ]
                  refine wpAnyH_take (i := 10) (oi := { dst := some 100, op := Op.move (Operand.tmp 13), type := 3, pos := "law.go:206", after := #[{ on := 8, ground := Ground.guard }], guard := some (8, true) }) (v := undef) rfl (by kernel_rfl) (by kernel_rfl) (by kernel_rfl) (fun _ _ _ h => h) (Or.inr ⟨by rfl, rfl⟩) (by assumption) ?_
                  try simp only [Act.put, List.setIfInBounds_toArray, List.set_cons_zero, List.set_cons_succ]
                  refine wpAnyH_take (i := 11) (oi := { dst := some 101, op := Op.binOp BinOp.sub 3 (Operand.tmp 100) (Operand.const (Value.int IntKind.i64 1)) 3, type := 3, pos := "law.go:206", after := #[{ on := 10, ground := Ground.data }, { on := 8, ground := Ground.guard }], guard := some (8, true) }) (v := undef) rfl (by kernel_rfl) (by kernel_rfl) (by kernel_rfl) (fun _ _ _ h => h) (Or.inr ⟨by rfl, rfl⟩) (by assumption) ?_
                  try simp only [Act.put, List.setIfInBounds_toArray, List.set_cons_zero, List.set_cons_succ]
                  refine wpAnyH_take (i := 12) (oi := { dst := some 102, op := Op.indexAddr 54 (Operand.tmp 99) (Operand.tmp 101), type := 0, pos := "law.go:206", after := #[{ on := 9, ground := Ground.data }, { on := 11, ground := Ground.data }, { on := 8, ground := Ground.guard }], guard := some (8, true) }) (v := undef) rfl (by kernel_rfl) (by kernel_rfl) (by kernel_rfl) (fun _ _ _ h => h) (Or.inr ⟨by rfl, rfl⟩) (by assumption) ?_
                  try simp only [Act.put, List.setIfInBounds_toArray, List.set_cons_zero, List.set_cons_succ]
                  refine wpAnyH_take (i := 13) (oi := { dst := some 103, op := Op.fieldAddr 57 (Operand.tmp 102) 0, type := 0, pos := "law.go:206", after := #[{ on := 12, ground := Ground.data }, { on := 8, ground := Ground.guard }], guard := some (8, true) }) (v := undef) rfl (by kernel_rfl) (by kernel_rfl) (by kernel_rfl) (fun _ _ _ h => h) (Or.inr ⟨by rfl, rfl⟩) (by assumption) ?_
                  try simp only [Act.put, List.setIfInBounds_toArray, List.set_cons_zero, List.set_cons_succ]
                  refine wpAnyH_take (i := 14) (oi := { dst := some 104, op := Op.load 9 (Operand.tmp 103), type := 9, pos := "law.go:206", after := #[{ on := 13, ground := Ground.data }, { on := 8, ground := Ground.guard }], guard := some (8, true) }) (v := undef) rfl (by kernel_rfl) (by kernel_rfl) (by kernel_rfl) (fun _ _ _ h => h) (Or.inr ⟨by rfl, rfl⟩) (by assumption) ?_
                  try simp only [Act.put, List.setIfInBounds_toArray, List.set_cons_zero, List.set_cons_succ]
                  refine wpAnyH_take (i := 15) (oi := { dst := some 105, op := Op.fieldAddr 57 (Operand.tmp 14) 0, type := 0, pos := "law.go:206", after := #[{ on := 8, ground := Ground.guard }], guard := some (8, true) }) (v := undef) rfl (by kernel_rfl) (by kernel_rfl) (by kernel_rfl) (fun _ _ _ h => h) (Or.inr ⟨by rfl, rfl⟩) (by assumption) ?_
                  try simp only [Act.put, List.setIfInBounds_toArray, List.set_cons_zero, List.set_cons_succ]
                  refine wpAnyH_take (i := 16) (oi := { dst := some 106, op := Op.load 9 (Operand.tmp 105), type := 9, pos := "law.go:206", after := #[{ on := 15, ground := Ground.data }, { on := 8, ground := Ground.guard }], guard := some (8, true) }) (v := undef) rfl (by kernel_rfl) (by kernel_rfl) (by kernel_rfl) (fun _ _ _ h => h) (Or.inr ⟨by rfl, rfl⟩) (by assumption) ?_
                  try simp only [Act.put, List.setIfInBounds_toArray, List.set_cons_zero, List.set_cons_succ]
                  refine wpAnyH_take (i := 17) (oi := { dst := some 107, op := Op.binOp BinOp.geq 9 (Operand.tmp 104) (Operand.tmp 106) 9, type := 4, pos := "law.go:206", after := #[{ on := 14, ground := Ground.data }, { on := 16, ground := Ground.data }, { on := 8, ground := Ground.guard }], guard := some (8, true) }) (v := undef) rfl (by kernel_rfl) (by kernel_rfl) (by kernel_rfl) (fun _ _ _ h => h) (Or.inr ⟨by rfl, rfl⟩) (by assumption) ?_
                  try simp only [Act.put, List.setIfInBounds_toArray, List.set_cons_zero, List.set_cons_succ]
                  refine wpAnyH_take (i := 18) (oi := { dst := some 108, op := Op.pick (Operand.tmp 98) (Operand.tmp 107) (Operand.const (Value.bool false)), type := 4, pos := "law.go:206", after := #[{ on := 8, ground := Ground.data }, { on := 17, ground := Ground.data }, { on := 5, ground := Ground.guard }], guard := some (5, false) }) (v := (.bool false)) rfl (by kernel_rfl) (by kernel_rfl) (by kernel_rfl) (fun _ _ _ h => h) (Or.inl ⟨by rfl, ?_⟩) (by assumption) ?_
                  · intro w hSw
                    try dsimp only at hSw
                    subst hSw
                    go_simp
                  try simp only [Act.put, List.setIfInBounds_toArray, List.set_cons_zero, List.set_cons_succ]
                  refine wpAnyH_take (i := 19) (oi := { dst := some 109, op := Op.pick (Operand.tmp 95) (Operand.const (Value.bool true)) (Operand.tmp 108), type := 4, pos := "law.go:206", after := #[{ on := 5, ground := Ground.data }, { on := 18, ground := Ground.data }], guard := none }) (v := (.bool false)) rfl (by kernel_rfl) (by kernel_rfl) (by kernel_rfl) (fun _ _ _ h => h) (Or.inl ⟨by rfl, ?_⟩) (by assumption) ?_
                  · intro w hSw
                    try dsimp only at hSw
                    subst hSw
                    go_simp
                  try simp only [Act.put, List.setIfInBounds_toArray, List.set_cons_zero, List.set_cons_succ]
                  refine wpAnyH_take (i := 20) (oi := { dst := some 110, op := Op.move (Operand.tmp 109), type := 4, pos := "law.go:206", after := #[{ on := 19, ground := Ground.data }, { on := 8, ground := Ground.chain }], guard := none }) (v := (.bool false)) rfl (by kernel_rfl) (by kernel_rfl) (by kernel_rfl) (fun _ _ _ h => h) (Or.inl ⟨by rfl, ?_⟩) (by assumption) ?_
                  · intro w hSw
                    try dsimp only at hSw
                    subst hSw
                    go_simp
                  try simp only [Act.put, List.setIfInBounds_toArray, List.set_cons_zero, List.set_cons_succ]
                  refine wpAnyH_take (i := 21) (oi := { dst := some 111, op := Op.move (Operand.tmp 13), type := 3, pos := "law.go:206", after := #[{ on := 20, ground := Ground.guard }], guard := some (20, false) }) (v := (.int .i64 (i : Int))) rfl (by kernel_rfl) (by kernel_rfl) (by kernel_rfl) (fun _ _ _ h => h) (Or.inl ⟨by rfl, ?_⟩) (by assumption) ?_
                  · intro w hSw
                    try dsimp only at hSw
                    subst hSw
                    go_simp
                  try simp only [Act.put, List.setIfInBounds_toArray, List.set_cons_zero, List.set_cons_succ]
                  refine wpAnyH_take (i := 22) (oi := { dst := some 112, op := Op.move (Operand.tmp 11), type := 54, pos := "law.go:206", after := #[{ on := 20, ground := Ground.guard }], guard := some (20, false) }) (v := (.slice ao2 LL.length cap2)) rfl (by kernel_rfl) (by kernel_rfl) (by kernel_rfl) (fun _ _ _ h => h) (Or.inl ⟨by rfl, ?_⟩) (by assumption) ?_
                  · intro w hSw
                    try dsimp only at hSw
                    subst hSw
                    go_simp
                  try simp only [Act.put, List.setIfInBounds_toArray, List.set_cons_zero, List.set_cons_succ]
                  refine wpAnyH_take (i := 23) (oi := { dst := some 113, op := Op.call { callee := Callee.builtin Builtin.len, args := #[Operand.tmp 112], argTypes := #[54] }, type := 3, pos := "law.go:206", after := #[{ on := 22, ground := Ground.data }, { on := 20, ground := Ground.guard }], guard := some (20, false) }) (v := (.int .i64 (LL.length : Int))) rfl (by kernel_rfl) (by kernel_rfl) (by kernel_rfl) (fun _ _ _ h => h) (Or.inl ⟨by rfl, ?_⟩) (by assumption) ?_
                  · intro w hSw
                    try dsimp only at hSw
                    subst hSw
                    go_simp
                  try simp only [Act.put, List.setIfInBounds_toArray, List.set_cons_zero, List.set_cons_succ]
                  refine wpAnyH_take (i := 24) (oi := { dst := some 114, op := Op.binOp BinOp.lss 3 (Operand.tmp 111) (Operand.tmp 113) 3, type := 4, pos := "law.go:206", after := #[{ on := 21, ground := Ground.data }, { on := 23, ground := Ground.data }, { on := 20, ground := Ground.guard }], guard := some (20, false) }) (v := (.bool false)) rfl (by kernel_rfl) (by kernel_rfl) (by kernel_rfl) (fun _ _ _ h => h) (Or.inl ⟨by rfl, ?_⟩) (by assumption) ?_
                  · intro w hSw
                    try dsimp only at hSw
                    subst hSw
                    go_simp
                  try simp only [Act.put, List.setIfInBounds_toArray, List.set_cons_zero, List.set_cons_succ]
                  refine wpAnyH_take (i := 25) (oi := { dst := some 115, op := Op.move (Operand.tmp 114), type := 4, pos := "law.go:206", after := #[{ on := 24, ground := Ground.data }, { on := 20, ground := Ground.chain }, { on := 20, ground := Ground.guard }], guard := some (20, false) }) (v := (.bool false)) rfl (by kernel_rfl) (by kernel_rfl) (by kernel_rfl) (fun _ _ _ h => h) (Or.inl ⟨by rfl, ?_⟩) (by assumption) ?_
                  · intro w hSw
                    try dsimp only at hSw
                    subst hSw
                    go_simp
                  try simp only [Act.put, List.setIfInBounds_toArray, List.set_cons_zero, List.set_cons_succ]
                  refine wpAnyH_take (i := 26) (oi := { dst := some 116, op := Op.move (Operand.tmp 11), type := 54, pos := "law.go:206", after := #[{ on := 25, ground := Ground.guard }], guard := some (25, true) }) (v := undef) rfl (by kernel_rfl) (by kernel_rfl) (by kernel_rfl) (fun _ _ _ h => h) (Or.inr ⟨by rfl, rfl⟩) (by assumption) ?_
                  try simp only [Act.put, List.setIfInBounds_toArray, List.set_cons_zero, List.set_cons_succ]
                  refine wpAnyH_take (i := 27) (oi := { dst := some 117, op := Op.move (Operand.tmp 13), type := 3, pos := "law.go:206", after := #[{ on := 25, ground := Ground.guard }], guard := some (25, true) }) (v := undef) rfl (by kernel_rfl) (by kernel_rfl) (by kernel_rfl) (fun _ _ _ h => h) (Or.inr ⟨by rfl, rfl⟩) (by assumption) ?_
                  try simp only [Act.put, List.setIfInBounds_toArray, List.set_cons_zero, List.set_cons_succ]
                  refine wpAnyH_take (i := 28) (oi := { dst := some 118, op := Op.indexAddr 54 (Operand.tmp 116) (Operand.tmp 117), type := 0, pos := "law.go:206", after := #[{ on := 26, ground := Ground.data }, { on := 27, ground := Ground.data }, { on := 25, ground := Ground.guard }], guard := some (25, true) }) (v := undef) rfl (by kernel_rfl) (by kernel_rfl) (by kernel_rfl) (fun _ _ _ h => h) (Or.inr ⟨by rfl, rfl⟩) (by assumption) ?_
                  try simp only [Act.put, List.setIfInBounds_toArray, List.set_cons_zero, List.set_cons_succ]
                  refine wpAnyH_take (i := 29) (oi := { dst := some 119, op := Op.load 57 (Operand.tmp 118), type := 57, pos := "law.go:206", after := #[{ on := 28, ground := Ground.data }, { on := 25, ground := Ground.guard }], guard := some (25, true) }) (v := undef) rfl (by kernel_rfl) (by kernel_rfl) (by kernel_rfl) (fun _ _ _ h => h) (Or.inr ⟨by rfl, rfl⟩) (by assumption) ?_
                  try simp only [Act.put, List.setIfInBounds_toArray, List.set_cons_zero, List.set_cons_succ]
                  refine wpAnyH_take (i := 30) (oi := { dst := some 120, op := Op.load 57 (Operand.tmp 14), type := 57, pos := "law.go:206", after := #[{ on := 25, ground := Ground.guard }], guard := some (25, true) }) (v := undef) rfl (by kernel_rfl) (by kernel_rfl) (by kernel_rfl) (fun _ _ _ h => h) (Or.inr ⟨by rfl, rfl⟩) (by assumption) ?_
                  try simp only [Act.put, List.setIfInBounds_toArray, List.set_cons_zero, List.set_cons_succ]
                  refine wpAnyH_take (i := 31) (oi := { dst := some 121, op := Op.binOp BinOp.neq 57 (Operand.tmp 119) (Operand.tmp 120) 57, type := 4, pos := "law.go:206", after := #[{ on := 29, ground := Ground.data }, { on := 30, ground := Ground.data }, { on := 25, ground := Ground.guard }], guard := some (25, true) }) (v := undef) rfl (by kernel_rfl) (by kernel_rfl) (by kernel_rfl) (fun _ _ _ h => h) (Or.inr ⟨by rfl, rfl⟩) (by assumption) ?_
                  try simp only [Act.put, List.setIfInBounds_toArray, List.set_cons_zero, List.set_cons_succ]
                  refine wpAnyH_take (i := 32) (oi := { dst := some 122, op := Op.pick (Operand.tmp 115) (Operand.tmp 121) (Operand.const (Value.bool false)), type := 4, pos := "law.go:206", after := #[{ on := 25, ground := Ground.data }, { on := 31, ground := Ground.data }, { on := 20, ground := Ground.guard }], guard := some (20, false) }) (v := (.bool false)) rfl (by kernel_rfl) (by kernel_rfl) (by kernel_rfl) (fun _ _ _ h => h) (Or.inl ⟨by rfl, ?_⟩) (by assumption) ?_
                  · intro w hSw
                    try dsimp only at hSw
                    subst hSw
                    go_simp
                  try simp only [Act.put, List.setIfInBounds_toArray, List.set_cons_zero, List.set_cons_succ]
                  refine wpAnyH_take (i := 33) (oi := { dst := some 123, op := Op.pick (Operand.tmp 110) (Operand.const (Value.bool true)) (Operand.tmp 122), type := 4, pos := "law.go:206", after := #[{ on := 20, ground := Ground.data }, { on := 32, ground := Ground.data }], guard := none }) (v := (.bool false)) rfl (by kernel_rfl) (by kernel_rfl) (by kernel_rfl) (fun _ _ _ h => h) (Or.inl ⟨by rfl, ?_⟩) (by assumption) ?_
                  · intro w hSw
                    try dsimp only at hSw
                    subst hSw
                    go_simp
                  try simp only [Act.put, List.setIfInBounds_toArray, List.set_cons_zero, List.set_cons_succ]
                  refine wpAnyH_take (i := 34) (oi := { dst := some 124, op := Op.move (Operand.tmp 123), type := 4, pos := "law.go:206", after := #[{ on := 33, ground := Ground.data }, { on := 25, ground := Ground.chain }], guard := none }) (v := (.bool false)) rfl (by kernel_rfl) (by kernel_rfl) (by kernel_rfl) (fun _ _ _ h => h) (Or.inl ⟨by rfl, ?_⟩) (by assumption) ?_
                  · intro w hSw
                    try dsimp only at hSw
                    subst hSw
                    go_simp
                  try simp only [Act.put, List.setIfInBounds_toArray, List.set_cons_zero, List.set_cons_succ]
                  refine wpAnyH_take (i := 35) (oi := { dst := some 125, op := Op.move (Operand.tmp 13), type := 3, pos := "law.go:206", after := #[{ on := 34, ground := Ground.guard }], guard := some (34, false) }) (v := (.int .i64 (i : Int))) rfl (by kernel_rfl) (by kernel_rfl) (by kernel_rfl) (fun _ _ _ h => h) (Or.inl ⟨by rfl, ?_⟩) (by assumption) ?_
                  · intro w hSw
                    try dsimp only at hSw
                    subst hSw
                    go_simp
                  try simp only [Act.put, List.setIfInBounds_toArray, List.set_cons_zero, List.set_cons_succ]
                  refine wpAnyH_take (i := 36) (oi := { dst := some 126, op := Op.move (Operand.tmp 11), type := 54, pos := "law.go:206", after := #[{ on := 34, ground := Ground.guard }], guard := some (34, false) }) (v := (.slice ao2 LL.length cap2)) rfl (by kernel_rfl) (by kernel_rfl) (by kernel_rfl) (fun _ _ _ h => h) (Or.inl ⟨by rfl, ?_⟩) (by assumption) ?_
                  · intro w hSw
                    try dsimp only at hSw
                    subst hSw
                    go_simp
                  try simp only [Act.put, List.setIfInBounds_toArray, List.set_cons_zero, List.set_cons_succ]
                  refine wpAnyH_take (i := 37) (oi := { dst := some 127, op := Op.call { callee := Callee.builtin Builtin.len, args := #[Operand.tmp 126], argTypes := #[54] }, type := 3, pos := "law.go:206", after := #[{ on := 36, ground := Ground.data }, { on := 34, ground := Ground.guard }], guard := some (34, false) }) (v := (.int .i64 (LL.length : Int))) rfl (by kernel_rfl) (by kernel_rfl) (by kernel_rfl) (fun _ _ _ h => h) (Or.inl ⟨by rfl, ?_⟩) (by assumption) ?_
                  · intro w hSw
                    try dsimp only at hSw
                    subst hSw
                    go_simp
                  try simp only [Act.put, List.setIfInBounds_toArray, List.set_cons_zero, List.set_cons_succ]
                  refine wpAnyH_take (i := 38) (oi := { dst := some 128, op := Op.binOp BinOp.geq 3 (Operand.tmp 125) (Operand.tmp 127) 3, type := 4, pos := "law.go:206", after := #[{ on := 35, ground := Ground.data }, { on := 37, ground := Ground.data }, { on := 34, ground := Ground.guard }], guard := some (34, false) }) (v := (.bool true)) rfl (by kernel_rfl) (by kernel_rfl) (by kernel_rfl) (fun _ _ _ h => h) (Or.inl ⟨by rfl, ?_⟩) (by assumption) ?_
                  · intro w hSw
                    try dsimp only at hSw
                    subst hSw
                    go_simp
                  try simp only [Act.put, List.setIfInBounds_toArray, List.set_cons_zero, List.set_cons_succ]
                  refine wpAnyH_take (i := 39) (oi := { dst := some 129, op := Op.move (Operand.tmp 128), type := 4, pos := "law.go:206", after := #[{ on := 38, ground := Ground.data }, { on := 34, ground := Ground.chain }, { on := 34, ground := Ground.guard }], guard := some (34, false) }) (v := (.bool true)) rfl (by kernel_rfl) (by kernel_rfl) (by kernel_rfl) (fun _ _ _ h => h) (Or.inl ⟨by rfl, ?_⟩) (by assumption) ?_
                  · intro w hSw
                    try dsimp only at hSw
                    subst hSw
                    go_simp
                  try simp only [Act.put, List.setIfInBounds_toArray, List.set_cons_zero, List.set_cons_succ]
                  refine wpAnyH_take (i := 40) (oi := { dst := some 130, op := Op.move (Operand.tmp 12), type := 54, pos := "law.go:206", after := #[{ on := 39, ground := Ground.guard }], guard := some (39, true) }) (v := (.slice (some ⟨g3, 0, none⟩) LH.length cap3)) rfl (by kernel_rfl) (by kernel_rfl) (by kernel_rfl) (fun _ _ _ h => h) (Or.inl ⟨by rfl, ?_⟩) (by assumption) ?_
                  · intro w hSw
                    try dsimp only at hSw
                    subst hSw
                    go_simp
                  try simp only [Act.put, List.setIfInBounds_toArray, List.set_cons_zero, List.set_cons_succ]
                  refine wpAnyH_take (i := 41) (oi := { dst := some 131, op := Op.move (Operand.tmp 13), type := 3, pos := "law.go:206", after := #[{ on := 39, ground := Ground.guard }], guard := some (39, true) }) (v := (.int .i64 (i : Int))) rfl (by kernel_rfl) (by kernel_rfl) (by kernel_rfl) (fun _ _ _ h => h) (Or.inl ⟨by rfl, ?_⟩) (by assumption) ?_
                  · intro w hSw
                    try dsimp only at hSw
                    subst hSw
                    go_simp
                  try simp only [Act.put, List.setIfInBounds_toArray, List.set_cons_zero, List.set_cons_succ]
                  refine wpAnyH_take (i := 42) (oi := { dst := some 132, op := Op.move (Operand.tmp 11), type := 54, pos := "law.go:206", after := #[{ on := 39, ground := Ground.guard }], guard := some (39, true) }) (v := (.slice ao2 LL.length cap2)) rfl (by kernel_rfl) (by kernel_rfl) (by kernel_rfl) (fun _ _ _ h => h) (Or.inl ⟨by rfl, ?_⟩) (by assumption) ?_
                  · intro w hSw
                    try dsimp only at hSw
                    subst hSw
                    go_simp
                  try simp only [Act.put, List.setIfInBounds_toArray, List.set_cons_zero, List.set_cons_succ]
                  refine wpAnyH_take (i := 43) (oi := { dst := some 133, op := Op.call { callee := Callee.builtin Builtin.len, args := #[Operand.tmp 132], argTypes := #[54] }, type := 3, pos := "law.go:206", after := #[{ on := 42, ground := Ground.data }, { on := 39, ground := Ground.guard }], guard := some (39, true) }) (v := (.int .i64 (LL.length : Int))) rfl (by kernel_rfl) (by kernel_rfl) (by kernel_rfl) (fun _ _ _ h => h) (Or.inl ⟨by rfl, ?_⟩) (by assumption) ?_
                  · intro w hSw
                    try dsimp only at hSw
                    subst hSw
                    go_simp
                  try simp only [Act.put, List.setIfInBounds_toArray, List.set_cons_zero, List.set_cons_succ]
                  refine wpAnyH_take (i := 44) (oi := { dst := some 134, op := Op.binOp BinOp.sub 3 (Operand.tmp 131) (Operand.tmp 133) 3, type := 3, pos := "law.go:206", after := #[{ on := 41, ground := Ground.data }, { on := 43, ground := Ground.data }, { on := 39, ground := Ground.guard }], guard := some (39, true) }) (v := (.int .i64 ((i : Int) - (LL.length : Int)))) rfl (by kernel_rfl) (by kernel_rfl) (by kernel_rfl) (fun _ _ _ h => h) (Or.inl ⟨by rfl, ?_⟩) (by assumption) ?_
                  · intro w hSw
                    try dsimp only at hSw
                    subst hSw
                    go_simp
                  try simp only [Act.put, List.setIfInBounds_toArray, List.set_cons_zero, List.set_cons_succ]
                  refine wpAnyH_take (i := 45) (oi := { dst := some 135, op := Op.indexAddr 54 (Operand.tmp 130) (Operand.tmp 134), type := 0, pos := "law.go:206", after := #[{ on := 40, ground := Ground.data }, { on := 44, ground := Ground.data }, { on := 39, ground := Ground.guard }], guard := some (39, true) }) (v := (.pointer (some ⟨g3, (i - LL.length) * 2, none⟩))) rfl (by kernel_rfl) (by kernel_rfl) (by kernel_rfl) (fun _ _ _ h => h) (Or.inl ⟨by rfl, ?_⟩) (by assumption) ?_
                  · intro w hSw
                    try dsimp only at hSw
                    subst hSw
                    go_simp
                  try simp only [Act.put, List.setIfInBounds_toArray, List.set_cons_zero, List.set_cons_succ]
                  refine wpAnyH_take (i := 46) (oi := { dst := some 136, op := Op.load 57 (Operand.tmp 135), type := 57, pos := "law.go:206", after := #[{ on := 45, ground := Ground.data }, { on := 39, ground := Ground.guard }], guard := some (39, true) }) (v := (.agg #[.string kx, .string kx])) rfl (by kernel_rfl) (by kernel_rfl) (by kernel_rfl) (fun _ _ _ h => h) (Or.inl ⟨by rfl, ?_⟩) (by assumption) ?_
                  · intro w hSw
                    try dsimp only at hSw
                    subst hSw
                    go_simp
                  try simp only [Act.put, List.setIfInBounds_toArray, List.set_cons_zero, List.set_cons_succ]
                  refine wpAnyH_take (i := 47) (oi := { dst := some 137, op := Op.load 57 (Operand.tmp 14), type := 57, pos := "law.go:206", after := #[{ on := 39, ground := Ground.guard }], guard := some (39, true) }) (v := (.agg #[.string kx, .string kx])) rfl (by kernel_rfl) (by kernel_rfl) (by kernel_rfl) (fun _ _ _ h => h) (Or.inl ⟨by rfl, ?_⟩) (by assumption) ?_
                  · intro w hSw
                    try dsimp only at hSw
                    subst hSw
                    go_simp
                  try simp only [Act.put, List.setIfInBounds_toArray, List.set_cons_zero, List.set_cons_succ]
                  refine wpAnyH_take (i := 48) (oi := { dst := some 138, op := Op.binOp BinOp.neq 57 (Operand.tmp 136) (Operand.tmp 137) 57, type := 4, pos := "law.go:206", after := #[{ on := 46, ground := Ground.data }, { on := 47, ground := Ground.data }, { on := 39, ground := Ground.guard }], guard := some (39, true) }) (v := (.bool false)) rfl (by kernel_rfl) (by kernel_rfl) (by kernel_rfl) (fun _ _ _ h => h) (Or.inl ⟨by rfl, ?_⟩) (by assumption) ?_
                  · intro w hSw
                    try dsimp only at hSw
                    subst hSw
                    go_simp
                  try simp only [Act.put, List.setIfInBounds_toArray, List.set_cons_zero, List.set_cons_succ]
                  refine wpAnyH_take (i := 49) (oi := { dst := some 139, op := Op.pick (Operand.tmp 129) (Operand.tmp 138) (Operand.const (Value.bool false)), type := 4, pos := "law.go:206", after := #[{ on := 39, ground := Ground.data }, { on := 48, ground := Ground.data }, { on := 34, ground := Ground.guard }], guard := some (34, false) }) (v := (.bool false)) rfl (by kernel_rfl) (by kernel_rfl) (by kernel_rfl) (fun _ _ _ h => h) (Or.inl ⟨by rfl, ?_⟩) (by assumption) ?_
                  · intro w hSw
                    try dsimp only at hSw
                    subst hSw
                    go_simp
                  try simp only [Act.put, List.setIfInBounds_toArray, List.set_cons_zero, List.set_cons_succ]
                  refine wpAnyH_take (i := 50) (oi := { dst := some 140, op := Op.pick (Operand.tmp 124) (Operand.const (Value.bool true)) (Operand.tmp 139), type := 4, pos := "law.go:206", after := #[{ on := 34, ground := Ground.data }, { on := 49, ground := Ground.data }], guard := none }) (v := (.bool false)) rfl (by kernel_rfl) (by kernel_rfl) (by kernel_rfl) (fun _ _ _ h => h) (Or.inl ⟨by rfl, ?_⟩) (by assumption) ?_
                  · intro w hSw
                    try dsimp only at hSw
                    subst hSw
                    go_simp
                  try simp only [Act.put, List.setIfInBounds_toArray, List.set_cons_zero, List.set_cons_succ]
                  refine wpAnyH_done (by kernel_rfl) ?_ _
                  refine NoPanic.normal ?_
                  go_wp2
                  go_roundw
                  case rel => exact ⟨i + 1, by simp, by omega, hid ⟨HBX.out.trans (Below.drew (Below.refl _ _)), HB5.out.trans (Below.drew (Below.refl _ _))⟩⟩
                  case measure => simp [intOf]; omega
            · obtain rfl : i = LA.length := by omega
              have haw := HAW.out wr hBB.out.1
              go_wp2_with fail
              refine haw.mono ?_
              rintro e w5 ⟨rfl, h5⟩
              go_wp2
              go_ret
              exact ⟨rfl, h5⟩

end Go.Proofs.Ytkjmilcocnjjoaa.S
