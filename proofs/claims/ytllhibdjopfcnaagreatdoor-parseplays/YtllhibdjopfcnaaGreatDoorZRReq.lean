/-
  The request line: the document's.
-/
import Derived.Test.YtllhibdjopfcnaaGreatDoorZRField
import Derived.Deep.CutBlock
import Derived.Deep.DeepCutAuto
namespace Go.Proofs.YtllhibdjopfcnaaGreatDoor
open Go.RowKit
set_option linter.unusedVariables false

theorem reqL_cut {L m D t v : List UInt8} {c d : Bool} (h1 : cutC 32 L = (m, D, c)) (h2 : cutC 32 D = (t, v, d)) : reqL L =
    if 16 < m.length ∨ madeL isLg m = false ∨ madeL isVs t = false then (hz, 400) else if (verL v).2 ≠ 0 then (hz, (verL v).2) else if (tgt t).err ≠ 0 then (hz, 400) else ((m, t, (verL v).1, []), 0) := by
  unfold reqL
  rw [h1]
  simp only
  rw [h2]
theorem req_no1 {L : List UInt8} (h1 : cutC 32 L = (L, [], false)) : reqL L = (hz, 400) := by
  rw [reqL_cut h1 (show cutC 32 ([] : List UInt8) = ([], [], false) from rfl), if_pos (Or.inr (Or.inr (by decide)))]
theorem req_no2 {L m D : List UInt8} {c : Bool} (h1 : cutC 32 L = (m, D, c)) (h2 : cutC 32 D = (D, [], false)) : reqL L = (hz, 400) := by
  rw [reqL_cut h1 h2]
  split
  · rfl
  · rw [if_pos (by decide)]
    rfl
theorem req_bad {L m D t v : List UInt8} {c d : Bool} (h1 : cutC 32 L = (m, D, c)) (h2 : cutC 32 D = (t, v, d)) (h : methL m = false ∨ t = [] ∨ t.all isVs = false) : reqL L = (hz, 400) := by
  rw [reqL_cut h1 h2, if_pos]
  rcases h with h | h | h
  · rcases (methL_eq m).1 h with h | h
    · exact Or.inl h
    · exact Or.inr (Or.inl h)
  · rw [h]; exact Or.inr (Or.inr (by decide))
  · refine Or.inr (Or.inr ?_)
    rw [madeL, h]
    rfl
theorem req_ver {L m D t v : List UInt8} {c d : Bool} (h1 : cutC 32 L = (m, D, c)) (h2 : cutC 32 D = (t, v, d)) (hm : methL m = true) (ht : t ≠ []) (hv : t.all isVs = true) : reqL L = if (verL v).2 ≠ 0 then (hz, (verL v).2) else if (tgt t).err ≠ 0 then (hz, 400) else ((m, t, (verL v).1, []), 0) := by
  rw [reqL_cut h1 h2, if_neg]
  intro h
  rcases h with h | h | h
  · rw [(methL_eq m).2 (Or.inl h)] at hm; cases hm
  · rw [(methL_eq m).2 (Or.inr h)] at hm; cases hm
  · rw [madeL_iff.2 ⟨hv, ht⟩] at h; cases h
theorem verL_len {v : List UInt8} (h : v.length ≠ 8) : verL v = (0, 400) := by
  refine verL_bad (fun e => ?_) (fun e => ?_) (fun e => h e.1)
  · rw [e] at h; exact h rfl
  · rw [e] at h; exact h rfl
theorem verL_pre {v : List UInt8} (h : v.take 5 ≠ [72, 84, 84, 80, 47]) : verL v = (0, 400) := by
  refine verL_bad (fun e => ?_) (fun e => ?_) (fun e => h e.2.1)
  · rw [e] at h; exact h rfl
  · rw [e] at h; exact h rfl
theorem verL_dig {x y z : UInt8} (h : ¬ (isDg x = true ∧ y = 46 ∧ isDg z = true)) : verL [72, 84, 84, 80, 47, x, y, z] = (0, 400) := by
  refine verL_bad (fun e => ?_) (fun e => ?_) (fun e => h ⟨by simpa using e.2.2.1, by simpa using e.2.2.2.1, by simpa using e.2.2.2.2⟩)
  · simp only [v10, List.cons.injEq, true_and, and_true] at e
    obtain ⟨rfl, rfl, rfl⟩ := e
    exact h (by decide)
  · simp only [v11, List.cons.injEq, true_and, and_true] at e
    obtain ⟨rfl, rfl, rfl⟩ := e
    exact h (by decide)
theorem verL_oth {x y z : UInt8} (h : isDg x = true ∧ y = 46 ∧ isDg z = true) (h1 : [72, 84, 84, 80, 47, x, y, z] ≠ v10) (h2 : [72, 84, 84, 80, 47, x, y, z] ≠ v11) : verL [72, 84, 84, 80, 47, x, y, z] = (0, 505) :=
  verL_other h1 h2 ⟨rfl, rfl, h.1, h.2.1, h.2.2⟩
theorem getElem_drop {L : List UInt8} {k m : Nat} (h : m < (L.drop (k + 1)).length) (h2 : k + 1 + m < L.length) : (L.drop (k + 1))[m] = L[k + 1 + m] := by
  rw [List.getElem_drop]

set_option maxRecDepth 20000 in
set_option maxHeartbeats 8000000 in
theorem rrequest_any (L : List UInt8) (w : World) (hs : L.length ≤ 4096) :
    Calls Tryz.prog 42 #[.string ⟨L.toArray⟩] w fun e w' => e = .returned (.tuple #[.agg #[strV (reqL L).1.1, strV (reqL L).1.2.1, .int .i64 (reqL L).1.2.2.1, .slice none 0 0], .int .i64 (reqL L).2]) ∧ Below w.heap.size w w' := by
  obtain ⟨s, hse⟩ : ∃ s : ByteArray, s = ⟨L.toArray⟩ := ⟨_, rfl⟩
  have hsz : s.size = L.length := by rw [hse, size_list]
  have hgt : ∀ j (h : j < s.size) (h' : j < L.length), s[j] = L[j] := by subst hse; intro j h h'; rfl
  have hx1 : ∀ k, s.extract 0 k = ⟨(L.take k).toArray⟩ := by intro k; rw [hse, extract_take]
  have hx2 : ∀ k, s.extract k s.size = ⟨(L.drop k).toArray⟩ := by intro k; rw [hsz, hse, extract_from _ _ _ rfl]
  have hx3 : ∀ a b, s.extract a b = ⟨((L.drop a).take (b - a)).toArray⟩ := by intro a b; rw [hse, extract_list]
  rw [← hse]
  obtain ⟨R, hR⟩ : ∃ R, R = reqL L := ⟨_, rfl⟩
  rw [← hR]
  have HR := hid hR
  have HZ := hid hsz
  have HG := hid hgt
  have HX1 := hid hx1
  have HX2 := hid hx2
  have HX3 := hid hx3
  have hH0 := HeadAt.new w (.string ⟨#[]⟩) (.string ⟨#[]⟩) (.int .i64 0) (.slice none 0 0)
  have hB0 := below_alloc w (.cells #[.string ⟨#[]⟩, .string ⟨#[]⟩, .int .i64 0, .slice none 0 0] 34)
  obtain ⟨w0, hw0⟩ : ∃ w0, w0 = w.alloc (.cells #[.string ⟨#[]⟩, .string ⟨#[]⟩, .int .i64 0, .slice none 0 0] 34) := ⟨_, rfl⟩
  rw [← hw0] at hH0 hB0
  have HH0 := hid hH0
  have HB0 := hid hB0
  have HW0 := hid hw0
  have hpl := hH0.lt
  clear hR hsz hgt hse hx1 hx2 hx3 hH0 hB0 hw0
  go_enter Tryz.func42, Tryz.ntmps42
  go_upto_block 0 with fail
  rw [← HW0.out]
  go_cut [4] (fun i wx => wx = w0 ∧ ∃ (k : Nat), k ≤ L.length ∧ i = .int .i64 (k : Int) ∧ (∀ j (hj : j < L.length), j < k → L[j] ≠ 32) ∧ (k = L.length ∨ ∃ h : k < L.length, L[k] = 32))
  case first =>
    go_wp2_with fail
    go_loop [4] (fun i => ∃ (k : Nat), k ≤ L.length ∧ i = .int .i64 (k : Int) ∧ ∀ j (hj : j < L.length), j < k → L[j] ≠ 32) (fun i => L.length - (intOf i).toNat)
    case atStart => exact ⟨0, Nat.zero_le _, rfl, fun j hj h => by omega⟩
    case round =>
      obtain ⟨k, hk, rfl, hno⟩ := hrel
      have hsz := HZ.out
      have HNo := hid hno
      clear hno
      by_cases hlt : k < L.length
      · have hlt' : (k : Int) < (s.size : Int) := by omega
        have hk1 : k < s.size := by omega
        have i1 := index_byte s .i64 (k : Int) k rfl hk1
        rw [HG.out k hk1 hlt] at i1
        have HNx : Hid (L[k] ≠ 32 → ∀ j (hj : j < L.length), j < k + 1 → L[j] ≠ 32) := by
          unfold Hid
          intro h j hj hjk
          by_cases e : j = k
          · subst e; exact h
          · exact HNo.out j hj (by omega)
        have HCt : Hid (L[k] = 32 → k = L.length ∨ ∃ h : k < L.length, L[k] = 32) := hid (fun h => Or.inr ⟨hlt, h⟩)
        obtain ⟨a, hae⟩ : ∃ a, a = L[k] := ⟨_, rfl⟩
        rw [← hae] at i1 HNx
        have HAE := hid hae
        clear hae hsz
        by_cases h32 : a = 32
        · have f1 : (((a.toNat : Nat) : Int) != 32) = false := by subst h32; rfl
          have HE := hid (HCt.out (HAE.out.symm.trans h32))
          clear h32 HNx HCt HAE
          go_wp2_with fail
          go_meet
          case rel => exact ⟨rfl, k, hk, rfl, HNo.out, HE.out⟩
        · have f1 : (((a.toNat : Nat) : Int) != 32) = true := by
            rw [bne_iff_ne]
            intro e
            exact h32 (byte_eq (b := a) (n := 32) (by omega))
          have HE := hid (HNx.out h32)
          have hk4 : k < 4096 := by omega
          clear HNx HCt h32 HAE
          go_wp2
          go_round
          case rel => exact ⟨k + 1, by omega, by go_num, HE.out⟩
          case measure => simp [intOf]; omega
      · have hlt' : ¬ (k : Int) < (s.size : Int) := by omega
        clear hsz
        go_wp2_with fail
        go_meet
        case rel => exact ⟨rfl, k, hk, rfl, HNo.out, Or.inl (by omega)⟩
  case rest =>
    obtain ⟨rfl, k, hk, rfl, hno, hend⟩ := hcut
    have hcut1 := cutC_first (c := 32) hk hno hend
    have hDl : (L.drop (k + 1)).length = L.length - (k + 1) := List.length_drop
    have hk4 : k ≤ 4096 := by omega
    have HGD : Hid (∀ m (h : m < (L.drop (k + 1)).length) (h2 : k + 1 + m < s.size), s[k + 1 + m] = (L.drop (k + 1))[m]) := by
      unfold Hid
      intro m h h2
      have := HZ.out
      rw [HG.out (k + 1 + m) h2 (by omega), getElem_drop h (by omega)]
    have HXT0 := hid (fun b => HX3.out (k + 1) b)
    have HCut1 := hid hcut1
    have HXV := hid (fun m => show s.extract (k + 1 + m + 1) s.size = ⟨((L.drop (k + 1)).drop (m + 1)).toArray⟩ by rw [HX2.out, List.drop_drop]; congr 3)
    obtain ⟨D, hD⟩ : ∃ D, D = L.drop (k + 1) := ⟨_, rfl⟩
    rw [← hD] at hDl HGD HXT0 HCut1 HXV
    have hsz := HZ.out
    have hDs : k + 1 + D.length = s.size ∨ (k = s.size ∧ D.length = 0) := by omega
    have HDs := hid hDs
    clear hcut1 hno hend hD hsz hDs
    go_upto_block 2 with fail
    go_cut [5] (fun i wx => wx = wc ∧ ∃ (b m : Nat), Hid (b = k + 1 + m) ∧ m ≤ D.length ∧ i = .int .i64 (b : Int) ∧ (∀ j (hj : j < D.length), j < m → D[j] ≠ 32) ∧ (m = D.length ∨ ∃ h : m < D.length, D[m] = 32))
    case first =>
      go_wp2_with fail
      go_loop [5] (fun i => ∃ (b m : Nat), Hid (b = k + 1 + m) ∧ m ≤ D.length ∧ i = .int .i64 (b : Int) ∧ ∀ j (hj : j < D.length), j < m → D[j] ≠ 32) (fun i => L.length + 1 - (intOf i).toNat)
      case atStart => exact ⟨k + 1, 0, hid rfl, Nat.zero_le _, by go_num, fun j hj h => by omega⟩
      case round =>
        obtain ⟨b, m, HBm, hm, rfl, hno⟩ := hrel
        have hbm := HBm.out
        have hDs := HDs.out
        have hsz := HZ.out
        have HNo := hid hno
        clear hno
        by_cases hlm : m < D.length
        · have hlm' : (b : Int) < (s.size : Int) := by omega
          have hm1 : b < s.size := by omega
          have i2 := index_byte s .i64 (b : Int) b rfl hm1
          have hsb : s[b] = D[m] := by
            have h := HGD.out m hlm (by omega)
            rw [← h]
            congr 1
          rw [hsb] at i2
          have HNx : Hid (D[m] ≠ 32 → ∀ j (hj : j < D.length), j < m + 1 → D[j] ≠ 32) := by
            unfold Hid
            intro h j hj hjk
            by_cases e : j = m
            · subst e; exact h
            · exact HNo.out j hj (by omega)
          have HCt : Hid (D[m] = 32 → m = D.length ∨ ∃ h : m < D.length, D[m] = 32) := hid (fun h => Or.inr ⟨hlm, h⟩)
          obtain ⟨x, hbe⟩ : ∃ x, x = D[m] := ⟨_, rfl⟩
          rw [← hbe] at i2 HNx
          have HAE := hid hbe
          have hb4 : b < 4096 := by omega
          have hbL : b < L.length := by omega
          clear hbe hsb hbm hDs hsz
          by_cases h32 : x = 32
          · have f2 : (((x.toNat : Nat) : Int) != 32) = false := by subst h32; rfl
            have HE := hid (HCt.out (HAE.out.symm.trans h32))
            clear HCt HNx h32 HAE
            go_wp2_with fail
            go_meet
            case rel => exact ⟨rfl, b, m, HBm, hm, rfl, HNo.out, HE.out⟩
          · have f2 : (((x.toNat : Nat) : Int) != 32) = true := by
              rw [bne_iff_ne]
              intro e
              exact h32 (byte_eq (b := x) (n := 32) (by omega))
            have HE := hid (HNx.out h32)
            clear HNx HCt h32 HAE
            go_wp2
            go_round
            case rel => exact ⟨b + 1, m + 1, hid (by rw [HBm.out]; omega), by omega, by go_num, HE.out⟩
            case measure => simp [intOf]; omega
        · have hlm' : ¬ (b : Int) < (s.size : Int) := by omega
          clear hbm hDs hsz
          go_wp2_with fail
          go_meet
          case rel => exact ⟨rfl, b, m, HBm, hm, rfl, HNo.out, Or.inl (by omega)⟩
    case rest =>
      obtain ⟨rfl, b, m, HBm, hm, rfl, hno, hend⟩ := hcut
      have hcut2 := cutC_first (c := 32) hm hno hend
      have hbm := HBm.out
      have hsz := HZ.out
      have hDs := HDs.out
      clear hno hend
      rcases HCut1.out with ⟨hkL, hc1⟩ | ⟨hkL, hc1⟩
      · have hge : (s.size : Int) ≤ (b : Int) := by omega
        have HE := hid (HR.out.trans (req_no1 hc1))
        clear hcut2 hbm hsz hDs hkL hc1 HGD HXT0 HXV HCut1
        obtain ⟨q0, q1, q2, q3, z0, z1, z2, z3⟩ := HH0.out.cells
        have HF := hid ((((HH0.out.store0 (x := .string ⟨#[]⟩)).store1 (x := .string ⟨#[]⟩)).store2 (x := .int .i64 0)).store3 (x := .slice none 0 0))
        have HKF := hid ((((HB0.out.setCell (p := ⟨w.heap.size, 0, none⟩) (by simp) (.string ⟨#[]⟩)).setCell (p := ⟨w.heap.size, 1, none⟩) (by simp) (.string ⟨#[]⟩)).setCell (p := ⟨w.heap.size, 2, none⟩) (by simp) (.int .i64 0)).setCell (p := ⟨w.heap.size, 3, none⟩) (by simp) (.slice none 0 0))
        go_wp2
        obtain ⟨y0, y1, y2, y3, _, _, _, _⟩ := HF.out.cells
        refine bodyPost_ret (v := .tuple #[.agg #[.string ⟨#[]⟩, .string ⟨#[]⟩, .int .i64 0, .slice none 0 0], .int .i64 400]) (by simp [results, Tryz.results42, go_sem, y0, y1, y2, y3]) rfl ?_
        rw [HE.out]
        exact ⟨rfl, HKF.out⟩
      have HC1 := hid hc1
      rcases hcut2 with ⟨hmD, hc2⟩ | ⟨hmD, hc2⟩
      · have hge : (s.size : Int) ≤ (b : Int) := by omega
        have HE := hid (HR.out.trans (req_no2 HC1.out hc2))
        clear hbm hsz hDs hkL hc1 hc2 hmD HGD HXT0 HXV HCut1
        obtain ⟨q0, q1, q2, q3, z0, z1, z2, z3⟩ := HH0.out.cells
        have HF := hid ((((HH0.out.store0 (x := .string ⟨#[]⟩)).store1 (x := .string ⟨#[]⟩)).store2 (x := .int .i64 0)).store3 (x := .slice none 0 0))
        have HKF := hid ((((HB0.out.setCell (p := ⟨w.heap.size, 0, none⟩) (by simp) (.string ⟨#[]⟩)).setCell (p := ⟨w.heap.size, 1, none⟩) (by simp) (.string ⟨#[]⟩)).setCell (p := ⟨w.heap.size, 2, none⟩) (by simp) (.int .i64 0)).setCell (p := ⟨w.heap.size, 3, none⟩) (by simp) (.slice none 0 0))
        go_wp2
        obtain ⟨y0, y1, y2, y3, _, _, _, _⟩ := HF.out.cells
        refine bodyPost_ret (v := .tuple #[.agg #[.string ⟨#[]⟩, .string ⟨#[]⟩, .int .i64 0, .slice none 0 0], .int .i64 400]) (by simp [results, Tryz.results42, go_sem, y0, y1, y2, y3]) rfl ?_
        rw [HE.out]
        exact ⟨rfl, HKF.out⟩
      have hX0 := HX1.out k
      have hge : ¬ (s.size : Int) ≤ (b : Int) := by omega
      have hks : (k : Int) ≤ (s.size : Int) := by omega
      have hkb : (k : Int) + 1 ≤ (b : Int) := by omega
      have hbs : (b : Int) ≤ (s.size : Int) := by omega
      have hbs1 : (b : Int) + 1 ≤ (s.size : Int) := by omega
      have hb4 : b < 4096 := by omega
      have hXT : s.extract (k + 1) b = ⟨(D.take m).toArray⟩ := by rw [HXT0.out b, show b - (k + 1) = m by omega]
      have hXV : s.extract (b + 1) s.size = ⟨(D.drop (m + 1)).toArray⟩ := by rw [hbm]; exact HXV.out m
      have hRb := fun h => HR.out.trans (req_bad HC1.out hc2 h)
      have hRv := fun h1 h2 h3 => HR.out.trans (req_ver HC1.out hc2 h1 h2 h3)
      have hTl : (D.take m).length = m := by rw [List.length_take]; omega
      have hVl : (D.drop (m + 1)).length ≤ 4096 := by rw [List.length_drop]; omega
      obtain ⟨M, hM⟩ : ∃ M, M = L.take k := ⟨_, rfl⟩
      have hMl : M.length ≤ 4096 := by rw [hM, List.length_take]; omega
      rw [← hM] at hX0 hRb hRv
      obtain ⟨T, hT⟩ : ∃ T, T = D.take m := ⟨_, rfl⟩
      obtain ⟨v, hv⟩ : ∃ v, v = D.drop (m + 1) := ⟨_, rfl⟩
      rw [← hT] at hXT hRb hRv hTl
      rw [← hv] at hXV hRv hVl
      have hMe := rmethod_any M wc (by omega)
      have hVi := rvisF_any T wc (by omega)
      have hTg := fun w => rtarget_any T w (by omega)
      have HXT := hid hXT
      have HX0 := hid hX0
      have hTz : T = [] ↔ m = 0 := by
        rw [← hTl]
        exact List.length_eq_zero_iff.symm
      have hbkm : b = k + 1 + m := hbm
      clear hM hT hv hc2 hc1 HXV HXT0 HGD HC1 HR hXT hX0 hsz hbm hDs HCut1 HG HX1 HX2 HX3 HBm
      cases hme : methL M with
      | false =>
        rw [hme] at hMe
        have HE := hid (hRb (Or.inl hme))
        clear hRb hRv hTl hTz hbkm
        obtain ⟨q0, q1, q2, q3, z0, z1, z2, z3⟩ := HH0.out.cells
        have HF := hid ((((HH0.out.store0 (x := .string ⟨#[]⟩)).store1 (x := .string ⟨#[]⟩)).store2 (x := .int .i64 0)).store3 (x := .slice none 0 0))
        have HKF := hid ((((HB0.out.setCell (p := ⟨w.heap.size, 0, none⟩) (by simp) (.string ⟨#[]⟩)).setCell (p := ⟨w.heap.size, 1, none⟩) (by simp) (.string ⟨#[]⟩)).setCell (p := ⟨w.heap.size, 2, none⟩) (by simp) (.int .i64 0)).setCell (p := ⟨w.heap.size, 3, none⟩) (by simp) (.slice none 0 0))
        go_wp2_with fail
        rw [HX0.out]
        refine hMe.mono ?_
        clear hMe
        rintro e w1 ⟨rfl, hw1⟩
        subst hw1
        go_wp2
        obtain ⟨y0, y1, y2, y3, _, _, _, _⟩ := HF.out.cells
        refine bodyPost_ret (v := .tuple #[.agg #[.string ⟨#[]⟩, .string ⟨#[]⟩, .int .i64 0, .slice none 0 0], .int .i64 400]) (by simp [results, Tryz.results42, go_sem, y0, y1, y2, y3]) rfl ?_
        rw [HE.out]
        exact ⟨rfl, HKF.out⟩
      | true =>
        rw [hme] at hMe
        by_cases hm0 : m = 0
        · have hbk : ((b : Int) == (k : Int) + 1) = true := by rw [beq_iff_eq]; omega
          have HE := hid (hRb (Or.inr (Or.inl (hTz.2 hm0))))
          clear hRb hRv hTl hTz hm0 hbkm
          obtain ⟨q0, q1, q2, q3, z0, z1, z2, z3⟩ := HH0.out.cells
          have HF := hid ((((HH0.out.store0 (x := .string ⟨#[]⟩)).store1 (x := .string ⟨#[]⟩)).store2 (x := .int .i64 0)).store3 (x := .slice none 0 0))
          have HKF := hid ((((HB0.out.setCell (p := ⟨w.heap.size, 0, none⟩) (by simp) (.string ⟨#[]⟩)).setCell (p := ⟨w.heap.size, 1, none⟩) (by simp) (.string ⟨#[]⟩)).setCell (p := ⟨w.heap.size, 2, none⟩) (by simp) (.int .i64 0)).setCell (p := ⟨w.heap.size, 3, none⟩) (by simp) (.slice none 0 0))
          go_wp2_with fail
          rw [HX0.out]
          refine hMe.mono ?_
          clear hMe
          rintro e w1 ⟨rfl, hw1⟩
          subst hw1
          go_wp2
          obtain ⟨y0, y1, y2, y3, _, _, _, _⟩ := HF.out.cells
          refine bodyPost_ret (v := .tuple #[.agg #[.string ⟨#[]⟩, .string ⟨#[]⟩, .int .i64 0, .slice none 0 0], .int .i64 400]) (by simp [results, Tryz.results42, go_sem, y0, y1, y2, y3]) rfl ?_
          rw [HE.out]
          exact ⟨rfl, HKF.out⟩
        have hbk : ((b : Int) == (k : Int) + 1) = false := by rw [beq_eq_false_iff_ne]; omega
        clear hbkm
        cases hvi : T.all isVs with
        | false =>
          rw [hvi] at hVi
          have HE := hid (hRb (Or.inr (Or.inr hvi)))
          clear hRb hRv hTl hTz hm0
          obtain ⟨q0, q1, q2, q3, z0, z1, z2, z3⟩ := HH0.out.cells
          have HF := hid ((((HH0.out.store0 (x := .string ⟨#[]⟩)).store1 (x := .string ⟨#[]⟩)).store2 (x := .int .i64 0)).store3 (x := .slice none 0 0))
          have HKF := hid ((((HB0.out.setCell (p := ⟨w.heap.size, 0, none⟩) (by simp) (.string ⟨#[]⟩)).setCell (p := ⟨w.heap.size, 1, none⟩) (by simp) (.string ⟨#[]⟩)).setCell (p := ⟨w.heap.size, 2, none⟩) (by simp) (.int .i64 0)).setCell (p := ⟨w.heap.size, 3, none⟩) (by simp) (.slice none 0 0))
          go_wp2_with fail
          rw [HX0.out]
          refine hMe.mono ?_
          clear hMe
          rintro e w1 ⟨rfl, hw1⟩
          subst hw1
          go_wp2_with fail
          rw [HXT.out]
          refine hVi.mono ?_
          clear hVi
          rintro e w2 ⟨rfl, hw2⟩
          subst hw2
          go_wp2
          obtain ⟨y0, y1, y2, y3, _, _, _, _⟩ := HF.out.cells
          refine bodyPost_ret (v := .tuple #[.agg #[.string ⟨#[]⟩, .string ⟨#[]⟩, .int .i64 0, .slice none 0 0], .int .i64 400]) (by simp [results, Tryz.results42, go_sem, y0, y1, y2, y3]) rfl ?_
          rw [HE.out]
          exact ⟨rfl, HKF.out⟩
        | true =>
          rw [hvi] at hVi
          go_wp2_with fail
          rw [HX0.out]
          refine hMe.mono ?_
          clear hMe
          rintro e w1 ⟨rfl, hw1⟩
          subst hw1
          go_wp2_with fail
          rw [HXT.out]
          refine hVi.mono ?_
          clear hVi
          rintro e w2 ⟨rfl, hw2⟩
          subst hw2
          have hR4 := hRv hme (fun e => hm0 (hTz.1 e)) hvi
          obtain ⟨VB, hVB⟩ : ∃ VB : ByteArray, VB = ⟨v.toArray⟩ := ⟨_, rfl⟩
          have hVs : VB.size = v.length := by rw [hVB, size_list]
          have hVt : VB.toList = v := by rw [hVB, toList_str]
          rw [← hVB] at hXV
          have hVg : ∀ j (h : j < VB.size) (h' : j < v.length), VB[j] = v[j] := by subst hVB; intro j h h'; rfl
          have hV5 : VB.extract 0 5 = ⟨(v.take 5).toArray⟩ := by rw [hVB, extract_take]
          clear hRb hRv hTl hTz hm0 hVB
          by_cases h8 : v.length = 8
          · have f8 : ((VB.size : Int) != 8) = false := by rw [bne_eq_false_iff_eq]; omega
            have h5 : (5 : Int) ≤ (VB.size : Int) := by omega
            by_cases hp : v.take 5 = [72, 84, 84, 80, 47]
            · rw [hp] at hV5
              obtain ⟨x, y, z, rfl⟩ := ver_split hp h8
              have i5 := index_byte VB .i64 5 5 rfl (by omega)
              have i6 := index_byte VB .i64 6 6 rfl (by omega)
              have i7 := index_byte VB .i64 7 7 rfl (by omega)
              rw [hVg 5 (by omega) (by simp)] at i5
              rw [hVg 6 (by omega) (by simp)] at i6
              rw [hVg 7 (by omega) (by simp)] at i7
              simp only [List.getElem_cons_succ, List.getElem_cons_zero] at i5 i6 i7
              have HVT := hid hVt
              have HR4 := hid hR4
              have HBadV := hid (fun h => verL_dig (x := x) (y := y) (z := z) h)
              have HOthV := hid (fun h h1 h2 => verL_oth (x := x) (y := y) (z := z) h h1 h2)
              have lx := x.toNat_lt
              have lz := z.toNat_lt
              clear hp h8 hVs hVg hVl hVt hR4
              by_cases hx1 : x.toNat < 48
              · have g1 : ((x.toNat : Nat) : Int) < 48 := by omega
                have HE : Hid (R = (hz, 400)) := by unfold Hid; rw [HR4.out, HBadV.out (fun h => by have := h.1; unfold isDg at this; rw [decide_eq_true_eq] at this; omega)]; rfl
                clear HR4 HBadV HOthV
                obtain ⟨q0, q1, q2, q3, z0, z1, z2, z3⟩ := HH0.out.cells
                have HF := hid ((((HH0.out.store0 (x := .string ⟨#[]⟩)).store1 (x := .string ⟨#[]⟩)).store2 (x := .int .i64 0)).store3 (x := .slice none 0 0))
                have HKF := hid ((((HB0.out.setCell (p := ⟨w.heap.size, 0, none⟩) (by simp) (.string ⟨#[]⟩)).setCell (p := ⟨w.heap.size, 1, none⟩) (by simp) (.string ⟨#[]⟩)).setCell (p := ⟨w.heap.size, 2, none⟩) (by simp) (.int .i64 0)).setCell (p := ⟨w.heap.size, 3, none⟩) (by simp) (.slice none 0 0))
                go_wp2
                obtain ⟨y0, y1, y2, y3, _, _, _, _⟩ := HF.out.cells
                refine bodyPost_ret (v := .tuple #[.agg #[.string ⟨#[]⟩, .string ⟨#[]⟩, .int .i64 0, .slice none 0 0], .int .i64 400]) (by simp [results, Tryz.results42, go_sem, y0, y1, y2, y3]) rfl ?_
                rw [HE.out]
                exact ⟨rfl, HKF.out⟩
              have g1 : ¬ ((x.toNat : Nat) : Int) < 48 := by omega
              by_cases hx2 : 57 < x.toNat
              · have g2 : (57 : Int) < ((x.toNat : Nat) : Int) := by omega
                have HE : Hid (R = (hz, 400)) := by unfold Hid; rw [HR4.out, HBadV.out (fun h => by have := h.1; unfold isDg at this; rw [decide_eq_true_eq] at this; omega)]; rfl
                clear HR4 HBadV HOthV
                obtain ⟨q0, q1, q2, q3, z0, z1, z2, z3⟩ := HH0.out.cells
                have HF := hid ((((HH0.out.store0 (x := .string ⟨#[]⟩)).store1 (x := .string ⟨#[]⟩)).store2 (x := .int .i64 0)).store3 (x := .slice none 0 0))
                have HKF := hid ((((HB0.out.setCell (p := ⟨w.heap.size, 0, none⟩) (by simp) (.string ⟨#[]⟩)).setCell (p := ⟨w.heap.size, 1, none⟩) (by simp) (.string ⟨#[]⟩)).setCell (p := ⟨w.heap.size, 2, none⟩) (by simp) (.int .i64 0)).setCell (p := ⟨w.heap.size, 3, none⟩) (by simp) (.slice none 0 0))
                go_wp2
                obtain ⟨y0, y1, y2, y3, _, _, _, _⟩ := HF.out.cells
                refine bodyPost_ret (v := .tuple #[.agg #[.string ⟨#[]⟩, .string ⟨#[]⟩, .int .i64 0, .slice none 0 0], .int .i64 400]) (by simp [results, Tryz.results42, go_sem, y0, y1, y2, y3]) rfl ?_
                rw [HE.out]
                exact ⟨rfl, HKF.out⟩
              have g2 : ¬ (57 : Int) < ((x.toNat : Nat) : Int) := by omega
              have hxd : isDg x = true := by unfold isDg; rw [decide_eq_true_eq]; omega
              by_cases hy : y = 46
              · have g3 : (((y.toNat : Nat) : Int) != 46) = false := by subst hy; rfl
                by_cases hz1 : z.toNat < 48
                · have g4 : ((z.toNat : Nat) : Int) < 48 := by omega
                  have HE : Hid (R = (hz, 400)) := by unfold Hid; rw [HR4.out, HBadV.out (fun h => by have := h.2.2; unfold isDg at this; rw [decide_eq_true_eq] at this; omega)]; rfl
                  clear HR4 HBadV HOthV hy hxd
                  obtain ⟨q0, q1, q2, q3, z0, z1, z2, z3⟩ := HH0.out.cells
                  have HF := hid ((((HH0.out.store0 (x := .string ⟨#[]⟩)).store1 (x := .string ⟨#[]⟩)).store2 (x := .int .i64 0)).store3 (x := .slice none 0 0))
                  have HKF := hid ((((HB0.out.setCell (p := ⟨w.heap.size, 0, none⟩) (by simp) (.string ⟨#[]⟩)).setCell (p := ⟨w.heap.size, 1, none⟩) (by simp) (.string ⟨#[]⟩)).setCell (p := ⟨w.heap.size, 2, none⟩) (by simp) (.int .i64 0)).setCell (p := ⟨w.heap.size, 3, none⟩) (by simp) (.slice none 0 0))
                  go_wp2
                  obtain ⟨y0, y1, y2, y3, _, _, _, _⟩ := HF.out.cells
                  refine bodyPost_ret (v := .tuple #[.agg #[.string ⟨#[]⟩, .string ⟨#[]⟩, .int .i64 0, .slice none 0 0], .int .i64 400]) (by simp [results, Tryz.results42, go_sem, y0, y1, y2, y3]) rfl ?_
                  rw [HE.out]
                  exact ⟨rfl, HKF.out⟩
                have g4 : ¬ ((z.toNat : Nat) : Int) < 48 := by omega
                by_cases hz2 : 57 < z.toNat
                · have g5 : (57 : Int) < ((z.toNat : Nat) : Int) := by omega
                  have HE : Hid (R = (hz, 400)) := by unfold Hid; rw [HR4.out, HBadV.out (fun h => by have := h.2.2; unfold isDg at this; rw [decide_eq_true_eq] at this; omega)]; rfl
                  clear HR4 HBadV HOthV hy hxd
                  obtain ⟨q0, q1, q2, q3, z0, z1, z2, z3⟩ := HH0.out.cells
                  have HF := hid ((((HH0.out.store0 (x := .string ⟨#[]⟩)).store1 (x := .string ⟨#[]⟩)).store2 (x := .int .i64 0)).store3 (x := .slice none 0 0))
                  have HKF := hid ((((HB0.out.setCell (p := ⟨w.heap.size, 0, none⟩) (by simp) (.string ⟨#[]⟩)).setCell (p := ⟨w.heap.size, 1, none⟩) (by simp) (.string ⟨#[]⟩)).setCell (p := ⟨w.heap.size, 2, none⟩) (by simp) (.int .i64 0)).setCell (p := ⟨w.heap.size, 3, none⟩) (by simp) (.slice none 0 0))
                  go_wp2
                  obtain ⟨y0, y1, y2, y3, _, _, _, _⟩ := HF.out.cells
                  refine bodyPost_ret (v := .tuple #[.agg #[.string ⟨#[]⟩, .string ⟨#[]⟩, .int .i64 0, .slice none 0 0], .int .i64 400]) (by simp [results, Tryz.results42, go_sem, y0, y1, y2, y3]) rfl ?_
                  rw [HE.out]
                  exact ⟨rfl, HKF.out⟩
                have g5 : ¬ (57 : Int) < ((z.toNat : Nat) : Int) := by omega
                have hzd : isDg z = true := by unfold isDg; rw [decide_eq_true_eq]; omega
                obtain ⟨u, hu⟩ : ∃ u, u = [72, 84, 84, 80, 47, x, y, z] := ⟨_, rfl⟩
                rw [← hu] at HR4 HBadV HOthV HVT
                have HZv : Hid (z = u.getD 7 0) := by unfold Hid; rw [hu]; rfl
                have HOth2 := hid (fun h1 h2 => HOthV.out ⟨hxd, hy, hzd⟩ h1 h2)
                clear hu HBadV HOthV hy hxd hzd
                by_cases hu10 : u = v10
                · have g6 : (VB.toList != [72, 84, 84, 80, 47, 49, 46, 48]) = false := by rw [HVT.out, hu10]; rfl
                  have g6' : (VB.toList == [72, 84, 84, 80, 47, 49, 46, 48]) = true := by rw [HVT.out, hu10]; rfl
                  have hz48 : z = 48 := by rw [HZv.out, hu10]; rfl
                  have hR5 : R = if (tgt T).err ≠ 0 then (hz, 400) else ((M, T, 0, []), 0) := by rw [HR4.out, hu10]; rfl
                  clear HR4 HOth2 HZv hu10
                  obtain ⟨E, hE⟩ : ∃ E, E = (tgt T).err := ⟨_, rfl⟩
                  rw [← hE] at hR5 hTg
                  clear hE HVT
                  by_cases he : E = 0
                  · subst he
                    rw [if_neg (by simp)] at hR5
                    have HE := hid hR5
                    clear hR5
                    subst hz48
                    go_wp2_with fail
                    rw [HXT.out]
                    refine (hTg _).mono ?_
                    clear hTg
                    rintro e w6 ⟨v6, rfl, _, hB6⟩
                    have HB6 := hid (HB0.out.trans (hB6.mono HB0.out.size))
                    have HH6 := hid (HH0.out.below hB6 hpl)
                    clear hB6
                    obtain ⟨q0, q1, q2, q3, z0, z1, z2, z3⟩ := HH6.out.cells
                    have e0 := HX0.out
                    have e1 := HXT.out
                    go_wp2_with fail
                    have hwr : IntKind.i64.wrap ((k : Int) + 1) = (k : Int) + 1 := by
                      simp [IntKind.wrap, IntKind.bits, IntKind.signed]
                      omega
                    have HF := hid ((((HH6.out.store0 (x := .string ⟨M.toArray⟩)).store1 (x := .string ⟨T.toArray⟩)).store2 (x := .int .i64 0)).store3 (x := .slice none 0 0))
                    have HKF := hid ((((HB6.out.setCell (p := ⟨w.heap.size, 0, none⟩) (by simp) (.string ⟨M.toArray⟩)).setCell (p := ⟨w.heap.size, 1, none⟩) (by simp) (.string ⟨T.toArray⟩)).setCell (p := ⟨w.heap.size, 2, none⟩) (by simp) (.int .i64 0)).setCell (p := ⟨w.heap.size, 3, none⟩) (by simp) (.slice none 0 0))
                    go_region
                    go_wp2
                    obtain ⟨y0, y1, y2, y3, _, _, _, _⟩ := HF.out.cells
                    refine bodyPost_ret (v := .tuple #[.agg #[.string ⟨M.toArray⟩, .string ⟨T.toArray⟩, .int .i64 0, .slice none 0 0], .int .i64 0]) (by simp [results, Tryz.results42, go_sem, y0, y1, y2, y3]) rfl ?_
                    rw [HE.out]
                    exact ⟨rfl, Below.drew HKF.out⟩
                  · rw [if_pos he] at hR5
                    have he' : (E == 0) = false := by rw [beq_eq_false_iff_ne]; exact he
                    have HE := hid hR5
                    clear hR5 he
                    go_wp2_with fail
                    rw [HXT.out]
                    refine (hTg _).mono ?_
                    clear hTg
                    rintro e w6 ⟨v6, rfl, _, hB6⟩
                    have HB0 := hid (HB0.out.trans (hB6.mono HB0.out.size))
                    have HH0 := hid (HH0.out.below hB6 hpl)
                    clear hB6
                    obtain ⟨q0, q1, q2, q3, z0, z1, z2, z3⟩ := HH0.out.cells
                    have HF := hid ((((HH0.out.store0 (x := .string ⟨#[]⟩)).store1 (x := .string ⟨#[]⟩)).store2 (x := .int .i64 0)).store3 (x := .slice none 0 0))
                    have HKF := hid ((((HB0.out.setCell (p := ⟨w.heap.size, 0, none⟩) (by simp) (.string ⟨#[]⟩)).setCell (p := ⟨w.heap.size, 1, none⟩) (by simp) (.string ⟨#[]⟩)).setCell (p := ⟨w.heap.size, 2, none⟩) (by simp) (.int .i64 0)).setCell (p := ⟨w.heap.size, 3, none⟩) (by simp) (.slice none 0 0))
                    go_wp2
                    obtain ⟨y0, y1, y2, y3, _, _, _, _⟩ := HF.out.cells
                    refine bodyPost_ret (v := .tuple #[.agg #[.string ⟨#[]⟩, .string ⟨#[]⟩, .int .i64 0, .slice none 0 0], .int .i64 400]) (by simp [results, Tryz.results42, go_sem, y0, y1, y2, y3]) rfl ?_
                    rw [HE.out]
                    exact ⟨rfl, HKF.out⟩
                by_cases hu11 : u = v11
                · have g6 : (VB.toList != [72, 84, 84, 80, 47, 49, 46, 48]) = true := by rw [HVT.out, hu11]; rfl
                  have g6' : (VB.toList == [72, 84, 84, 80, 47, 49, 46, 48]) = false := by rw [HVT.out, hu11]; rfl
                  have g7 : (VB.toList != [72, 84, 84, 80, 47, 49, 46, 49]) = false := by rw [HVT.out, hu11]; rfl
                  have g7' : (VB.toList == [72, 84, 84, 80, 47, 49, 46, 49]) = true := by rw [HVT.out, hu11]; rfl
                  have hz48 : z = 49 := by rw [HZv.out, hu11]; rfl
                  have hR5 : R = if (tgt T).err ≠ 0 then (hz, 400) else ((M, T, 1, []), 0) := by rw [HR4.out, hu11]; rfl
                  clear HR4 HOth2 HZv hu11
                  obtain ⟨E, hE⟩ : ∃ E, E = (tgt T).err := ⟨_, rfl⟩
                  rw [← hE] at hR5 hTg
                  clear hE HVT
                  by_cases he : E = 0
                  · subst he
                    rw [if_neg (by simp)] at hR5
                    have HE := hid hR5
                    clear hR5
                    subst hz48
                    go_wp2_with fail
                    rw [HXT.out]
                    refine (hTg _).mono ?_
                    clear hTg
                    rintro e w6 ⟨v6, rfl, _, hB6⟩
                    have HB6 := hid (HB0.out.trans (hB6.mono HB0.out.size))
                    have HH6 := hid (HH0.out.below hB6 hpl)
                    clear hB6
                    obtain ⟨q0, q1, q2, q3, z0, z1, z2, z3⟩ := HH6.out.cells
                    have e0 := HX0.out
                    have e1 := HXT.out
                    go_wp2_with fail
                    have hwr : IntKind.i64.wrap ((k : Int) + 1) = (k : Int) + 1 := by
                      simp [IntKind.wrap, IntKind.bits, IntKind.signed]
                      omega
                    have HF := hid ((((HH6.out.store0 (x := .string ⟨M.toArray⟩)).store1 (x := .string ⟨T.toArray⟩)).store2 (x := .int .i64 1)).store3 (x := .slice none 0 0))
                    have HKF := hid ((((HB6.out.setCell (p := ⟨w.heap.size, 0, none⟩) (by simp) (.string ⟨M.toArray⟩)).setCell (p := ⟨w.heap.size, 1, none⟩) (by simp) (.string ⟨T.toArray⟩)).setCell (p := ⟨w.heap.size, 2, none⟩) (by simp) (.int .i64 1)).setCell (p := ⟨w.heap.size, 3, none⟩) (by simp) (.slice none 0 0))
                    go_region
                    go_wp2
                    obtain ⟨y0, y1, y2, y3, _, _, _, _⟩ := HF.out.cells
                    refine bodyPost_ret (v := .tuple #[.agg #[.string ⟨M.toArray⟩, .string ⟨T.toArray⟩, .int .i64 1, .slice none 0 0], .int .i64 0]) (by simp [results, Tryz.results42, go_sem, y0, y1, y2, y3]) rfl ?_
                    rw [HE.out]
                    exact ⟨rfl, Below.drew HKF.out⟩
                  · rw [if_pos he] at hR5
                    have he' : (E == 0) = false := by rw [beq_eq_false_iff_ne]; exact he
                    have HE := hid hR5
                    clear hR5 he
                    go_wp2_with fail
                    rw [HXT.out]
                    refine (hTg _).mono ?_
                    clear hTg
                    rintro e w6 ⟨v6, rfl, _, hB6⟩
                    have HB0 := hid (HB0.out.trans (hB6.mono HB0.out.size))
                    have HH0 := hid (HH0.out.below hB6 hpl)
                    clear hB6
                    obtain ⟨q0, q1, q2, q3, z0, z1, z2, z3⟩ := HH0.out.cells
                    have HF := hid ((((HH0.out.store0 (x := .string ⟨#[]⟩)).store1 (x := .string ⟨#[]⟩)).store2 (x := .int .i64 0)).store3 (x := .slice none 0 0))
                    have HKF := hid ((((HB0.out.setCell (p := ⟨w.heap.size, 0, none⟩) (by simp) (.string ⟨#[]⟩)).setCell (p := ⟨w.heap.size, 1, none⟩) (by simp) (.string ⟨#[]⟩)).setCell (p := ⟨w.heap.size, 2, none⟩) (by simp) (.int .i64 0)).setCell (p := ⟨w.heap.size, 3, none⟩) (by simp) (.slice none 0 0))
                    go_wp2
                    obtain ⟨y0, y1, y2, y3, _, _, _, _⟩ := HF.out.cells
                    refine bodyPost_ret (v := .tuple #[.agg #[.string ⟨#[]⟩, .string ⟨#[]⟩, .int .i64 0, .slice none 0 0], .int .i64 400]) (by simp [results, Tryz.results42, go_sem, y0, y1, y2, y3]) rfl ?_
                    rw [HE.out]
                    exact ⟨rfl, HKF.out⟩
                have g6' : (VB.toList == [72, 84, 84, 80, 47, 49, 46, 48]) = false := by rw [HVT.out, beq_eq_false_iff_ne]; exact hu10
                have g6 : (VB.toList != [72, 84, 84, 80, 47, 49, 46, 48]) = true := by rw [bne, g6']; rfl
                have g7' : (VB.toList == [72, 84, 84, 80, 47, 49, 46, 49]) = false := by rw [HVT.out, beq_eq_false_iff_ne]; exact hu11
                have g7 : (VB.toList != [72, 84, 84, 80, 47, 49, 46, 49]) = true := by rw [bne, g7']; rfl
                have HE : Hid (R = (hz, 505)) := by unfold Hid; rw [HR4.out, HOth2.out hu10 hu11]; rfl
                clear HR4 HOth2 HZv hu10 hu11 HVT
                obtain ⟨q0, q1, q2, q3, z0, z1, z2, z3⟩ := HH0.out.cells
                have HF := hid ((((HH0.out.store0 (x := .string ⟨#[]⟩)).store1 (x := .string ⟨#[]⟩)).store2 (x := .int .i64 0)).store3 (x := .slice none 0 0))
                have HKF := hid ((((HB0.out.setCell (p := ⟨w.heap.size, 0, none⟩) (by simp) (.string ⟨#[]⟩)).setCell (p := ⟨w.heap.size, 1, none⟩) (by simp) (.string ⟨#[]⟩)).setCell (p := ⟨w.heap.size, 2, none⟩) (by simp) (.int .i64 0)).setCell (p := ⟨w.heap.size, 3, none⟩) (by simp) (.slice none 0 0))
                go_wp2
                obtain ⟨y0, y1, y2, y3, _, _, _, _⟩ := HF.out.cells
                refine bodyPost_ret (v := .tuple #[.agg #[.string ⟨#[]⟩, .string ⟨#[]⟩, .int .i64 0, .slice none 0 0], .int .i64 505]) (by simp [results, Tryz.results42, go_sem, y0, y1, y2, y3]) rfl ?_
                rw [HE.out]
                exact ⟨rfl, HKF.out⟩
              · have g3 : (((y.toNat : Nat) : Int) != 46) = true := by
                  rw [bne_iff_ne]
                  intro e
                  exact hy (byte_eq (b := y) (n := 46) (by omega))
                have HE : Hid (R = (hz, 400)) := by unfold Hid; rw [HR4.out, HBadV.out (fun h => hy h.2.1)]; rfl
                clear HR4 HBadV HOthV hy hxd
                obtain ⟨q0, q1, q2, q3, z0, z1, z2, z3⟩ := HH0.out.cells
                have HF := hid ((((HH0.out.store0 (x := .string ⟨#[]⟩)).store1 (x := .string ⟨#[]⟩)).store2 (x := .int .i64 0)).store3 (x := .slice none 0 0))
                have HKF := hid ((((HB0.out.setCell (p := ⟨w.heap.size, 0, none⟩) (by simp) (.string ⟨#[]⟩)).setCell (p := ⟨w.heap.size, 1, none⟩) (by simp) (.string ⟨#[]⟩)).setCell (p := ⟨w.heap.size, 2, none⟩) (by simp) (.int .i64 0)).setCell (p := ⟨w.heap.size, 3, none⟩) (by simp) (.slice none 0 0))
                go_wp2
                obtain ⟨y0, y1, y2, y3, _, _, _, _⟩ := HF.out.cells
                refine bodyPost_ret (v := .tuple #[.agg #[.string ⟨#[]⟩, .string ⟨#[]⟩, .int .i64 0, .slice none 0 0], .int .i64 400]) (by simp [results, Tryz.results42, go_sem, y0, y1, y2, y3]) rfl ?_
                rw [HE.out]
                exact ⟨rfl, HKF.out⟩
            · have HE : Hid (R = (hz, 400)) := by unfold Hid; rw [hR4, verL_pre hp]; rfl
              have fp : (v.take 5 == [72, 84, 84, 80, 47]) = false := by rw [beq_eq_false_iff_ne]; exact hp
              have fp2 : (v.take 5 != [72, 84, 84, 80, 47]) = true := by rw [bne, fp]; rfl
              obtain ⟨u, hu⟩ : ∃ u, u = v.take 5 := ⟨_, rfl⟩
              rw [← hu] at hV5 fp fp2
              clear hR4 hp hVs hVt hVg h8 hu
              obtain ⟨q0, q1, q2, q3, z0, z1, z2, z3⟩ := HH0.out.cells
              have HF := hid ((((HH0.out.store0 (x := .string ⟨#[]⟩)).store1 (x := .string ⟨#[]⟩)).store2 (x := .int .i64 0)).store3 (x := .slice none 0 0))
              have HKF := hid ((((HB0.out.setCell (p := ⟨w.heap.size, 0, none⟩) (by simp) (.string ⟨#[]⟩)).setCell (p := ⟨w.heap.size, 1, none⟩) (by simp) (.string ⟨#[]⟩)).setCell (p := ⟨w.heap.size, 2, none⟩) (by simp) (.int .i64 0)).setCell (p := ⟨w.heap.size, 3, none⟩) (by simp) (.slice none 0 0))
              go_wp2
              obtain ⟨y0, y1, y2, y3, _, _, _, _⟩ := HF.out.cells
              refine bodyPost_ret (v := .tuple #[.agg #[.string ⟨#[]⟩, .string ⟨#[]⟩, .int .i64 0, .slice none 0 0], .int .i64 400]) (by simp [results, Tryz.results42, go_sem, y0, y1, y2, y3]) rfl ?_
              rw [HE.out]
              exact ⟨rfl, HKF.out⟩
          · have f8 : ((VB.size : Int) != 8) = true := by rw [bne_iff_ne]; omega
            have HE : Hid (R = (hz, 400)) := by unfold Hid; rw [hR4, verL_len h8]; rfl
            clear hR4 hVs hVt hVg h8 hV5
            obtain ⟨q0, q1, q2, q3, z0, z1, z2, z3⟩ := HH0.out.cells
            have HF := hid ((((HH0.out.store0 (x := .string ⟨#[]⟩)).store1 (x := .string ⟨#[]⟩)).store2 (x := .int .i64 0)).store3 (x := .slice none 0 0))
            have HKF := hid ((((HB0.out.setCell (p := ⟨w.heap.size, 0, none⟩) (by simp) (.string ⟨#[]⟩)).setCell (p := ⟨w.heap.size, 1, none⟩) (by simp) (.string ⟨#[]⟩)).setCell (p := ⟨w.heap.size, 2, none⟩) (by simp) (.int .i64 0)).setCell (p := ⟨w.heap.size, 3, none⟩) (by simp) (.slice none 0 0))
            go_wp2
            obtain ⟨y0, y1, y2, y3, _, _, _, _⟩ := HF.out.cells
            refine bodyPost_ret (v := .tuple #[.agg #[.string ⟨#[]⟩, .string ⟨#[]⟩, .int .i64 0, .slice none 0 0], .int .i64 400]) (by simp [results, Tryz.results42, go_sem, y0, y1, y2, y3]) rfl ?_
            rw [HE.out]
            exact ⟨rfl, HKF.out⟩
end Go.Proofs.YtllhibdjopfcnaaGreatDoor
