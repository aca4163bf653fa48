/-
  A user's sessions, the eldest first.
-/
import Derived.Test.YtplljpodejpbgaaGreatDoorJSesM
import Derived.Test.YtplljpodejpbgaaGreatDoorJTok
import Derived.Test.YtplljpodejpbgaaGreatDoorJMayC
import Derived.Maps.RangeWalk
import Derived.Sort.KeysCollected
namespace Go.Proofs.YtplljpodejpbgaaGreatDoor
open Go.RowKit Go.Sort Go.Shelf Go.Maps
set_option linter.unusedVariables false
set_option linter.unusedSimpArgs false
set_option maxRecDepth 100000

theorem look_run {w : World} {mb k : Nat} {D : DataW Unit} (hm : w.ownsMap Tryz.prog 9 sesR mb k D) (t : ByteArray) (ht : t.size ≤ maxLen) :
    ∃ a, (Instr.lookup 71 (.map (some mb)) (.string t) false).run Tryz.prog w = .ok (.agg #[.int .i64 a, .int .i64 (lgD D t)]) w := by
  obtain ⟨v, ps, hrun, hR⟩ := hm.lookup keyS Tryz.underlying71 (zeroSes w) (sesR_mk 0 0) (keyT t ht)
  obtain ⟨a, b, rfl, hy⟩ := sesR_inv hR
  simp only [Prod.mk.injEq] at hy
  refine ⟨a, ?_⟩
  have hb : lgD D t = b := by
    unfold lgD
    rw [hy.1]
    rfl
  rw [hb]
  exact hrun

theorem field_ses (a l : Int) (w : World) : (Instr.field 99 (.agg #[.int .i64 a, .int .i64 l]) 1).run Tryz.prog w = .ok (.int .i64 l) w := by
  kernel_rfl
set_option maxHeartbeats 1000000 in
theorem sesF_any (x y : Tk) (c d mb k : Nat) (D : DataW Unit) (W : World) (hc : W.cell? ⟨c, 0, none⟩ = some (.pointer (some ⟨d, 0, none⟩))) (hd : W.cell? ⟨d, 4, none⟩ = some (.map (some mb))) (hm : W.ownsMap Tryz.prog 9 sesR mb k D) :
    Calls Tryz.prog 73 #[encT x, encT y, .pointer (some ⟨c, 0, none⟩)] W fun e w' => e = .returned (.int .i64 (cfT D x y)) ∧ w' = W.drew := by
  obtain ⟨x, hx⟩ := x
  obtain ⟨y, hy⟩ := y
  obtain ⟨a1, r1⟩ := look_run (w := W.drew) hm x hx
  obtain ⟨a2, r2⟩ := look_run (w := W.drew) hm y hy
  have hf := field_ses
  have hcp := hid (fun w => compare_any (lgD D x) (lgD D y) w)
  unfold encT cfT
  simp only
  generalize lgD D x = l1 at *
  generalize lgD D y = l2 at *
  obtain ⟨V, hV⟩ : ∃ V, V = W.drew := ⟨_, rfl⟩
  have hc1 : V.cell? ⟨c, 0, none⟩ = some (.pointer (some ⟨d, 0, none⟩)) := by rw [hV]; exact hc
  have hd1 : V.cell? ⟨d, 4, none⟩ = some (.map (some mb)) := by rw [hV]; exact hd
  rw [← hV] at r1 r2 ⊢
  have HV := hid hV
  clear hV hc hd hm hx hy
  go_enter Tryz.func73, Tryz.ntmps73
  go_wp2_with fail
  go_region_held3 (fun X => X = V) (first | (exact HV.out.symm) | rfl | trace_state)
    (first | (go_at_call 74; refine (hcp.out _).mono ?_; rintro e' w7 ⟨rfl, hw7⟩; subst hw7))
  all_goals
    go_wp2
    go_ret
    exact ⟨rfl, rfl⟩

theorem drew_one (X : World) : X.drew = X.drewN 1 := rfl
theorem map_le {w : World} {mb k : Nat} {D : DataW Unit} (hm : w.ownsMap Tryz.prog 9 sesR mb k D) : Maps.size D ≤ k := hm.size_le
set_option maxHeartbeats 4000000 in
theorem sessionsOf_any (w : World) (d ub mb : Nat) (us : List (Acc × Value)) (vd : Value) (dr : List Int) (n : Nat) (ss : List Ses) (vg : Value) (gs : List Gra) (h : IdAt w d ub mb us vd dr n ss vg gs) (who : Int) (hn : n ≤ 1099511627776) :
    Calls Tryz.prog 53 #[.pointer (some ⟨d, 0, none⟩), .int .i64 who] w fun e w' => ∃ v, e = .returned v ∧ w'.ownsRow w.heap.size 9 1 v (toksOf ss who).length (tC (toksOf ss who)) ∧ Below w.heap.size w w' := by
  obtain ⟨k, D, hm, hkn, hM⟩ := h.map
  obtain ⟨c0, c1, c2, c3, c4, c5⟩ := h.cells
  have hltd := h.ltd
  obtain ⟨W, hW⟩ : ∃ W, W = w.alloc (.cells #[.pointer (some ⟨d, 0, none⟩)] 27) := ⟨_, rfl⟩
  have hbW : Below w.heap.size w W := by rw [hW]; exact below_alloc w _
  have d4 : W.cell? ⟨d, 4, none⟩ = some (.map (some mb)) := (hbW.cell (p := ⟨d, 4, none⟩) hltd).trans c4
  have x0 : W.cell? ⟨w.heap.size, 0, none⟩ = some (.pointer (some ⟨d, 0, none⟩)) := by rw [hW]; simp
  have hmW := map_same hm (hbW.block mb hm.lt)
  have hltW : w.heap.size < W.heap.size := by rw [hW]; simp
  have HB := hid hbW
  have HW := hid hW
  have HM := hid hM
  have HO := hid h.ord
  have HMW := hid hmW
  have HML := hid hm.lt
  clear hbW hW hm c0 c1 c2 c3 c5 h hM hmW
  go_enter Tryz.func53, Tryz.ntmps53
  go_wp2_with (first | (at_range; rw [← HW.out]; clear HW; refine wpList_range_own _ rfl _ 71 rfl 9 99 keyS Tryz.underlying71 _ mb k D rfl HMW.out ?_; intro w0 hrg0 hg0 hs0) | go_in)
  go_frame
  have hb0 : RowKit.Below W.heap.size W w0 := ⟨hg0.os, hg0.tape, hg0.output, hg0.size, fun j hj => hg0.block j hj (by simp)⟩
  have HR0 := hid hrg0
  have HX0 : Hid (∀ wr : World, RowKit.Below W.heap.size W wr → wr.cell? ⟨w.heap.size, 0, none⟩ = some (.pointer (some ⟨d, 0, none⟩)) ∧ wr.cell? ⟨d, 4, none⟩ = some (.map (some mb))) := fun wr hb => ⟨(hb.cell (p := ⟨w.heap.size, 0, none⟩) hltW).trans x0, (hb.cell (p := ⟨d, 4, none⟩) (Nat.lt_trans hltd hltW)).trans d4⟩
  have HBW0 := hid hb0
  have HCS := hid (Coll.start HM.out who)
  have HZ := hid (map_le HMW.out)
  clear hrg0 hg0 hs0 hb0 x0 d4 c4
  go_loopw [5, 6, 7] (fun v _ _ wr => ∃ left cnt ts, Hid (wr.ranges Tryz.prog 9 sesR mb W.heap.size k D left cnt) ∧ Hid (Coll D ss who left ts) ∧ Hid (wr.ownsRow W.heap.size 9 1 v ts.length (tC ts)) ∧ Hid (RowKit.Below W.heap.size W wr) ∧ Hid (ts.length + cnt ≤ Maps.size D)) (fun _ _ _ wr => wr.rangeLeft mb W.heap.size)
  case atStart => exact ⟨_, _, [], HR0, HCS, World.ownsRow_nil _ _ _ _, HBW0, by first | exact True.intro | (show _ ≤ _; simp)⟩
  clear HR0 HCS HBW0
  case round =>
    obtain ⟨left, cnt, ts, HR, HC, HOT, HBW, HLN⟩ := hrel
    obtain ⟨at_, ct, hsh⟩ := row_shape HOT.out
    subst hsh
    have hltn := HBW.out.size
    go_wp2_with (first | (at_next; refine wpList_next_ranges _ rfl _ rfl 9 keyS sesR (fun x : ByteArray => Value.string x) (fun p : Int × Int => Value.agg #[.int .i64 p.1, .int .i64 p.2]) (fun key kl hk => by obtain ⟨x, hx, _⟩ := Maps.keyOf_str Tryz.underlying9 hk; exact ⟨_, hx⟩) (fun v y hv => by obtain ⟨a, b, rfl, _⟩ := sesR_inv hv; exact ⟨(a, b), rfl⟩) mb W.heap.size k _ _ _ rfl HR.out ?_ ?_) | go_in)
    · intro hc0 hl0
      have hpm := HC.out.perm HM.out hl0
      have hsz := HC.out.sz
      have hz := HZ.out
      have hln := HLN.out
      by_cases hts : ts = []
      · have he : toksOf ss who = [] := by rw [hts] at hpm; exact hpm.symm.eq_nil
        have HE := hid he
        subst hts
        clear hpm he
        go_wp2_with fail
        refine (Tryz.slices_SortFunc_none (α := Int) _ _ _ _).mono ?_
        rintro e w3 ⟨rfl, hw3⟩
        subst w3
        have HOE := hid (ownsRow_base HOT.out (by omega : w.heap.size ≤ W.heap.size))
        have HBE := hid (HB.out.trans (HBW.out.mono HB.out.size))
        go_wp2
        go_ret
        exact ⟨_, rfl, by rw [HE.out]; exact HOE.out, HBE.out⟩
      · have HP := hid hpm
        have HSZ := hid hsz
        rcases HOT.out.2 with ⟨_, h0⟩ | ⟨g, cap, cur, hv, hbase, hg, h1, h2, h3, h4⟩
        · exact absurd (List.eq_nil_of_length_eq_zero h0) hts
        · simp only [Value.slice.injEq, true_and] at hv
          obtain ⟨rfl, rfl⟩ := hv
          have hgl : g < wr.heap.size := (Array.getElem?_eq_some_iff.1 hg).1
          have eg : ∀ args w1, (callFunc 73 args).run Tryz.prog w1 = .ok (.enter 73 args) w1 := enters_of Tryz.func73 (by kernel_rfl) rfl
          have hH : @Holds Tk tkInh encT wr g 0 (ts.map tk).toArray := by
            letI := tkInh
            refine holdsG hg ?_
            rw [List.length_map, tk_enc hsz, ← Nat.mul_one ts.length]
            exact h4
          have hml := HML.out
          have hcmp : @CmpLays1 Tk tkInh Tryz.prog 73 #[.pointer (some ⟨w.heap.size, 0, none⟩)] encT (cfT D) g 0 (ts.map tk).toArray.size wr := by
            letI := tkInh
            intro m os dk hdk x y
            have hG := grownG (enc := encT) (w := wr) (g := g) (n := m) (os := os) dk
            have hBs : RowKit.Below W.heap.size W (sortWorld encT wr g 0 m dk os) := below_grownBy HBW.out hG (fun j hj => by cases hj; exact hbase) HBW.out.size
            obtain ⟨e1, e2⟩ := HX0.out _ hBs
            have hms := map_same HMW.out (hBs.block mb (by omega))
            refine (sesF_any x y w.heap.size d mb k D _ e1 e2 hms).mono ?_
            rintro e w' ⟨rfl, rfl⟩
            exact ⟨rfl, 1, #[], by rw [grow_empty]; exact drew_one _⟩
          have hcall := @Tryz.slices_SortFunc Tk tkInh encT (fun _ => rfl) (cfT D) (swoT D) 73 #[.pointer (some ⟨w.heap.size, 0, none⟩)] g 0 ct (ts.map tk).toArray wr eg hcmp hH hgl (by simp; omega)
          rw [show (ts.map tk).toArray.size = ts.length by simp] at hcall
          have HCALL := hid hcall
          have HGG := hid hg
          have HBS := hid hbase
          have h123 := hid (And.intro h1 (And.intro h2 h3))
          clear hcall hH hcmp hg hpm hsz hts h1 h2 h3 h4 eg hbase hml
          go_wp2_with fail
          refine HCALL.out.mono ?_
          rintro e w3 ⟨rfl, d', n', os, hp, hs, hw3⟩
          have hsl := sorted_list HSZ.out hp hs
          obtain ⟨p1, p2, p3⟩ := hsl
          have huq := sort_uniq HM.out HO.out (p1.trans HP.out) p2
          have hown : w3.ownsRow W.heap.size 9 1 (.slice (some ⟨g, 0, none⟩) ts.length ct) ts.length (tC (toksOf ss who)) := by
            letI := tkInh
            have ho := ownsG (enc := encT) (w := wr) (n := n') (os := os) (k := ts.length) (ts := d'.toList) (by simpa using p3) HBS.out HGG.out h123.out.1 h123.out.2.1 h123.out.2.2
            rw [hw3]
            have e1 : d'.toList.map encT = tC (toksOf ss who) := by
              rw [← huq]
              unfold tC
              rw [List.map_map]
              rfl
            rw [e1] at ho
            simpa using ho
          have hlen : (toksOf ss who).length = ts.length := by rw [← huq]; simpa using p3
          have hG3 : wr.grownBy w3 (some g) := by
            letI := tkInh
            rw [hw3]
            exact grownG (enc := encT) d'
          have HBE := hid (HB.out.trans ((below_grownBy HBW.out hG3 (fun j hj => by cases hj; exact HBS.out) HBW.out.size).mono HB.out.size))
          have HOE := hid (ownsRow_base hown (by omega : w.heap.size ≤ W.heap.size))
          have HLE := hid hlen
          clear hp hs hw3 p1 p2 p3 huq hown hlen hG3 HCALL HGG h123
          go_wp2
          go_ret
          exact ⟨_, rfl, by rw [HLE.out]; exact HOE.out, HBE.out⟩
    · intro x a b kl yd yp w2 cnt2 hkey hlk hv hat hrg2 hlt hg2 hs2 hen
      obtain ⟨hxz, rfl⟩ := keyT_inv hkey
      rw [sesR_mk] at hv
      simp only [Option.some.injEq, Prod.mk.injEq] at hv
      obtain ⟨rfl, rfl⟩ := hv
      obtain ⟨hc1, hc2⟩ := HC.out.step HM.out hxz hlk hat
      have HB2 := hid (below_grownBy HBW.out hg2 (fun j hj => by cases hj; exact Nat.le_refl _) HBW.out.size)
      have HO2 := hid (ownsRow_same HOT.out (fun j hj => hg2.block j (ownsRow_lt HOT.out hj) (fun e => row_ne_iter HOT.out HR.out (e.symm.trans hj.symm))))
      have HR2 := hid hrg2
      have hln := HLN.out
      have hz := HZ.out
      clear hs2 hg2 hkey hlk hat hrg2
      by_cases haw : a = who
      · have HCN := hid (hc1 haw)
        clear hc1 hc2
        subst a
        have haw' : (who == who) = true := by simp
        have hmlt := HML.out
        have hlt48 : ts.length ≤ 1099511627776 := by omega
        have hs2 := HB2.out.size
        have HOA := hid (ownsRow_below HO2.out ((below_alloc w2 (.cells #[.int .i64 who, .int .i64 b] 99)).trans ((below_alloc (w2.alloc (.cells #[.int .i64 who, .int .i64 b] 99)) (.cells #[.string x] 9)).mono (by simp))))
        have HSN : Hid (SeesK 1 ((w2.alloc (.cells #[.int .i64 who, .int .i64 b] 99)).alloc (.cells #[.string x] 9)) (.slice (some ⟨w2.heap.size + 1, 0, none⟩) 1 1) 1 (tC [x])) := by
          have hsn := seesName (w2.alloc (.cells #[.int .i64 who, .int .i64 b] 99)) x
          rw [show (w2.alloc (.cells #[.int .i64 who, .int .i64 b] 99)).heap.size = w2.heap.size + 1 by simp] at hsn
          exact hsn
        go_wp2_with (at_builtin; refine wpList_appK Tryz.underlying39 info9 rfl (by decide) rfl _ _ rfl W.heap.size (.slice at_ ts.length ct) ts.length (tC ts) rfl HOA.out (.slice (some ⟨w2.heap.size + 1, 0, none⟩) 1 1) 1 (tC [x]) rfl HSN.out (tC_one _) (by omega) (by simp only [maxLen]; omega) (by simp; omega) ?_; intro v4 w4 hO4 hG4)
        have hR4 := ((HR2.out.alloc (.cells #[.int .i64 who, .int .i64 b] 99)).alloc (.cells #[.string x] 9)).kept hG4 (fun e => by have := ownsRow_ge HO2.out e.symm; omega) (fun e => row_ne_iter HO2.out HR2.out e)
        have HR4 := hid hR4
        have HB4 := hid (below_grownBy ((HB2.out.trans ((below_alloc w2 _).mono hs2)).trans ((below_alloc (w2.alloc (.cells #[.int .i64 who, .int .i64 b] 99)) (.cells #[.string x] 9)).mono (by simp; omega))) hG4 (fun j hj => ownsRow_ge HO2.out hj) (by simp; omega))
        have HO4 : Hid (w4.ownsRow W.heap.size 9 1 v4 (ts ++ [x]).length (tC (ts ++ [x]))) := by
          show w4.ownsRow _ _ _ _ _ _
          rw [List.length_append, show tC (ts ++ [x]) = tC ts ++ tC [x] by simp [tC]]
          exact hO4
        have HLE := hid (show (ts ++ [x]).length + cnt2 ≤ Maps.size D by rw [List.length_append]; simp; omega)
        clear hR4 hO4 hG4 hmlt
        go_roundw
        case rel => exact ⟨_, _, _, HR4, HCN, HO4, HB4, HLE⟩
        case measure => rw [HR4.out.left_eq, HR.out.left_eq]; exact hlt
      · have HCN := hid (hc2 haw)
        have haw' : (a == who) = false := by simpa using haw
        clear hc1 hc2
        have HR4 := hid (HR2.out.alloc (.cells #[.int .i64 a, .int .i64 b] 99))
        have HB4 := hid (HB2.out.trans ((below_alloc w2 (.cells #[.int .i64 a, .int .i64 b] 99)).mono HB2.out.size))
        have HO4 := hid (ownsRow_below HO2.out (below_alloc w2 (.cells #[.int .i64 a, .int .i64 b] 99)))
        have HLE := hid (show ts.length + cnt2 ≤ Maps.size D by omega)
        go_wp2
        go_roundw
        case rel => exact ⟨_, _, _, HR4, HCN, HO4, HB4, HLE⟩
        case measure => rw [HR4.out.left_eq, HR.out.left_eq]; exact hlt
end Go.Proofs.YtplljpodejpbgaaGreatDoor
