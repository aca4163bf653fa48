/-
  All requests of bytes: the document's.
-/
import Derived.Test.YtllhibdjopfcnaaGreatDoorZDNext
namespace Go.Proofs.YtllhibdjopfcnaaGreatDoor
open Go.RowKit
set_option linter.unusedVariables false

theorem allL_feed {q : List UInt8} {L : List UInt8} {k : Nat} (hk : k < L.length) : q ++ L.drop k = (q ++ [L[k]]) ++ L.drop (k + 1) := by
  rw [List.drop_eq_getElem_cons hk]
  simp
theorem ownsRow_keptD {w w' : World} {base p : Nat} {e : TypeId} {size : Nat} {v : Value} {n : Nat} {xs : List Value} (h : w.ownsRow base e size v n xs) (hk : Kept p w.heap.size w w') (hp : p < base) : w'.ownsRow base e size v n xs := by
  refine ⟨h.1, ?_⟩
  rcases h.2 with hn | ⟨g, cap, cur, rfl, hbase, hg, rest⟩
  · exact Or.inl hn
  · exact Or.inr ⟨g, cap, cur, rfl, hbase, by rw [hk.block g (Array.getElem?_eq_some_iff.1 hg).1 (by omega)]; exact hg, rest⟩
theorem OwnsQ.keptD {w w' : World} {base p : Nat} {v : Value} {l : List RqE} (h : OwnsQ w base v l) (hk : Kept p w.heap.size w w') (hp : p < base) : OwnsQ w' base v l :=
  ⟨ownsRow_keptD h.row hk hp, fun e he => ⟨OwnsP.kept (h.parts e he).1 hk hp, OwnsP.kept (h.parts e he).2 hk hp⟩⟩
theorem DpAt.grown {w w' : World} {p : Nat} {s st : Value} {r : Option Nat} (h : DpAt w p s st) (hg : w.grownBy w' r) (hr : ∀ j, r = some j → p < j) : DpAt w' p s st := by
  unfold DpAt
  rw [hg.block p h.lt (fun e => by have := hr p e.symm; omega)]
  exact h
/-- Between two bytes: what was told, what waits. -/
def AllAt (A : List ReqL × Int) (L : List UInt8) (k : Nat) (es : List RqE) (P : List UInt8) : Prop :=
  k ≤ L.length ∧ P.length ≤ 65536 ∧ es.length + P.length ≤ k ∧ A = (es.map RqE.q ++ (allL (P ++ L.drop k)).1, (allL (P ++ L.drop k)).2)

set_option maxRecDepth 20000 in
set_option maxHeartbeats 8000000 in
theorem rall_any (L : List UInt8) (w : World) (hs : L.length ≤ 1000000000) :
    Calls Tryz.prog 17 #[.string ⟨L.toArray⟩] w fun e w' => ∃ v es, e = .returned (.tuple #[v, .int .i64 (allL L).2]) ∧ OwnsQ w' w.heap.size v es ∧ es.map RqE.q = (allL L).1 ∧ Below w.heap.size w w' := by
  obtain ⟨A, hA⟩ : ∃ A, A = allL L := ⟨_, rfl⟩
  rw [← hA]
  have HA := hid hA
  obtain ⟨s, hse⟩ : ∃ s : ByteArray, s = ⟨L.toArray⟩ := ⟨_, rfl⟩
  have HSZ : Hid (s.size = L.length) := hid (by rw [hse, size_list])
  have hss : s.size ≤ 1000000000 := by rw [hse, size_list]; exact hs
  have HSE := hid hse
  rw [← hse]
  have HD0 := hid (DpAt.new w (.string ⟨#[]⟩) (.int .i64 0))
  have HB0 := hid (below_alloc w (.cells #[.string ⟨#[]⟩, .int .i64 0] 27))
  clear hA hse
  go_enter Tryz.func17, Tryz.ntmps17
  go_wp2_with fail
  go_loopw [4, 6] (fun out i wr => ∃ (k : Nat) (es : List RqE) (P : List UInt8), i = .int .i64 (k : Int) ∧ Hid (AllAt A L k es P ∧ firstL P = .error none ∧ DpAt wr w.heap.size (.string ⟨P.toArray⟩) (.int .i64 0) ∧ OwnsQ wr (w.heap.size + 1) out es ∧ Below w.heap.size w wr)) (fun _ i _ => s.size - (intOf i).toNat)
  case atStart =>
    refine ⟨0, [], [], rfl, hid ⟨⟨Nat.zero_le _, by simp, Nat.le_refl _, ?_⟩, rfl, HD0.out, OwnsQ.nil _ _, HB0.out⟩⟩
    rw [HA.out]
    simp
  case round =>
    obtain ⟨k, es, P, rfl, HI⟩ := hrel
    have hsz := HSZ.out
    obtain ⟨hAt, hF, hD, hO, hB⟩ := HI.out
    have hsw := hB.size
    have hwp := hD.lt
    obtain ⟨hk, hP, hel, hAe⟩ := hAt
    obtain ⟨ao, cap, rfl⟩ := hO.shape
    obtain ⟨x0, x1, x2, x3⟩ := hD.cells
    by_cases hlt : k < L.length
    · have hlt' : (k : Int) < (s.size : Int) := by omega
      have hx : s.extract k (k + 1) = ⟨[L[k]].toArray⟩ := by
        rw [HSE.out, extract_list, show k + 1 - k = 1 by omega, List.drop_eq_getElem_cons hlt]
        rfl
      have hfd := allL_feed (q := P) hlt
      have hdk := List.drop_eq_getElem_cons hlt
      obtain ⟨c, hc⟩ : ∃ c, c = L[k] := ⟨_, rfl⟩
      rw [← hc] at hx hfd hdk
      have hFd := fun W => rfeed_any P [c] 0 W hP (by simp)
      obtain ⟨FD, hFD⟩ : ∃ FD, FD = fdT P 0 [c] := ⟨_, rfl⟩
      rw [← hFD, ← hx] at hFd
      obtain ⟨X, E⟩ := FD
      simp only at hFd
      have HFd := hid hFd
      have hk1 : (k : Int) + 1 ≤ (s.size : Int) := by omega
      have hks : k ≤ s.size := by omega
      have hw1 : IntKind.i64.wrap ((k : Int) + 1) = (k : Int) + 1 := by rw [IntKind.wrap_i64]; omega
      have hk0 : (0 : Int) ≤ (k : Int) := by omega
      have hkk : (k : Int) ≤ (k : Int) + 1 := by omega
      have htn : ((k : Int) + 1).toNat = k + 1 := by omega
      have HLT := hid hlt
      have HC := hid (And.intro hk (And.intro hel (And.intro hAe (And.intro hF (And.intro hfd (And.intro hdk hFD))))))
      have HD := hid hD
      have HO := hid hO
      have HB := hid hB
      have HP := hid hP
      have HK : Hid (∀ W W' : World, Below W.heap.size W W' → (w.heap.size < W.heap.size ∧ W.cell? ⟨w.heap.size, 0, none⟩ = some (.string ⟨P.toArray⟩) ∧ W.cell? ⟨w.heap.size, 1, none⟩ = some (.int .i64 0)) → (w.heap.size < W'.heap.size ∧ W'.cell? ⟨w.heap.size, 0, none⟩ = some (.string ⟨P.toArray⟩) ∧ W'.cell? ⟨w.heap.size, 1, none⟩ = some (.int .i64 0))) := hid fun W W' hb hh => by
        have hz := hb.size
        exact ⟨by omega, (hb.cell (p := ⟨w.heap.size, 0, none⟩) hh.1).trans hh.2.1, (hb.cell (p := ⟨w.heap.size, 1, none⟩) hh.1).trans hh.2.2⟩
      have HK8 : Hid (∀ W : World, (w.heap.size < W.heap.size ∧ W.cell? ⟨w.heap.size, 0, none⟩ = some (.string ⟨P.toArray⟩) ∧ W.cell? ⟨w.heap.size, 1, none⟩ = some (.int .i64 0)) → (w.heap.size < ((W.setCell ⟨wr.heap.size, 0, none⟩ (.string ⟨X.toArray⟩)).setCell ⟨wr.heap.size, 1, none⟩ (.int .i64 0)).heap.size ∧ ((W.setCell ⟨wr.heap.size, 0, none⟩ (.string ⟨X.toArray⟩)).setCell ⟨wr.heap.size, 1, none⟩ (.int .i64 0)).cell? ⟨w.heap.size, 0, none⟩ = some (.string ⟨P.toArray⟩) ∧ ((W.setCell ⟨wr.heap.size, 0, none⟩ (.string ⟨X.toArray⟩)).setCell ⟨wr.heap.size, 1, none⟩ (.int .i64 0)).cell? ⟨w.heap.size, 1, none⟩ = some (.int .i64 0))) := hid fun W hh => by
        have hk := ((Kept.store (p := wr.heap.size) (B := wr.heap.size) W 0 (.string ⟨X.toArray⟩)).trans (Kept.store _ 1 (.int .i64 0))).below (Nat.le_refl _)
        have hz := hk.size
        exact ⟨by have := hh.1; omega, (hk.cell (p := ⟨w.heap.size, 0, none⟩) hwp).trans hh.2.1, (hk.cell (p := ⟨w.heap.size, 1, none⟩) hwp).trans hh.2.2⟩
      have BB : Hid (Below wr.heap.size wr (wr.alloc (.cells #[.string ⟨#[]⟩, .int .i64 0] 27)).drew) := hid (Below.drew (below_alloc wr _))
      have BA : Hid (Below wr.heap.size wr wr.drew) := hid (Below.drew (Below.refl _ _))
      have HRB : Hid (DpAt (wr.alloc (.cells #[.string ⟨#[]⟩, .int .i64 0] 27)).drew wr.heap.size (.string ⟨#[]⟩) (.int .i64 0)) := hid (DpAt.new wr _ _)
      have HSA : Hid (w.heap.size < wr.drew.heap.size ∧ wr.drew.cell? ⟨w.heap.size, 0, none⟩ = some (.string ⟨P.toArray⟩) ∧ wr.drew.cell? ⟨w.heap.size, 1, none⟩ = some (.int .i64 0)) := hid ⟨hwp, x0, x1⟩
      have HSB : Hid (w.heap.size < (wr.alloc (.cells #[.string ⟨#[]⟩, .int .i64 0] 27)).drew.heap.size ∧ (wr.alloc (.cells #[.string ⟨#[]⟩, .int .i64 0] 27)).drew.cell? ⟨w.heap.size, 0, none⟩ = some (.string ⟨P.toArray⟩) ∧ (wr.alloc (.cells #[.string ⟨#[]⟩, .int .i64 0] 27)).drew.cell? ⟨w.heap.size, 1, none⟩ = some (.int .i64 0)) := hid (HK.out wr _ BB.out ⟨hwp, x0, x1⟩)
      clear hc hx hfd hdk hFd hFD hk hel hAe hF hD hO hB hP x0 x1 x2 x3 HI hsz hlt
      go_wp2_with fail
      go_cut [7, 8] (fun p7 e8 wx => ∃ b, p7 = .pointer (some ⟨b, 0, none⟩) ∧ e8 = .int .i64 E ∧ Hid (wr.heap.size ≤ b ∧ DpAt wx b (.string ⟨X.toArray⟩) (.int .i64 0) ∧ Below wr.heap.size wr wx))
      case first =>
        go_region_held3 (fun W => w.heap.size < W.heap.size ∧ W.cell? ⟨w.heap.size, 0, none⟩ = some (.string ⟨P.toArray⟩) ∧ W.cell? ⟨w.heap.size, 1, none⟩ = some (.int .i64 0))
          (first | (with_reducible exact HSA.out) | (with_reducible exact HSB.out) | (with_reducible exact hS6) | (with_reducible exact HK8.out _ hS6) | (with_reducible refine HK.out w6 _ (below_alloc w6 _) ?_; assumption))
          (first
            | (go_at_call 7
               refine (HFd.out _).mono ?_
               rintro e' w6 ⟨rfl, hB6⟩
               have HW6 := hid hB6
               first
                 | (with_reducible have hS6 := HK.out wr.drew w6 hB6 HSA.out
                    have hB7 := BA.out.trans HW6.out
                    have HE6 := hid (And.intro hB7.size <| And.intro (DpAt.new w6 (.string ⟨X.toArray⟩) (.int .i64 0)) (hB7.trans ((below_alloc w6 (.cells #[.string ⟨X.toArray⟩, .int .i64 0] 27)).mono hB7.size)))
                    clear HW6 hB6 hB7)
                 | (with_reducible have hS6 := HK.out _ _ hB6 HSB.out
                    have hR6 := HRB.out.below HW6.out HRB.out.lt
                    have hB7 := BB.out.trans (HW6.out.mono BB.out.size)
                    have HE6 := hid (And.intro (Nat.le_refl wr.heap.size) <| And.intro (DpAt.store (x := (.string ⟨X.toArray⟩)) (y := (.int .i64 0)) hR6) (hB7.trans (((Kept.store (p := wr.heap.size) (B := wr.heap.size) w6 0 (.string ⟨X.toArray⟩)).trans (Kept.store _ 1 (.int .i64 0))).below (Nat.le_refl _))))
                    obtain ⟨i0, i1, j0, j1⟩ := hR6.cells
                    clear hR6 HW6 hB6 hB7)))
        all_goals
          go_wp2
          go_meet
          case rel => exact ⟨_, rfl, rfl, HE6⟩
      case rest =>
        obtain ⟨b, rfl, rfl, HX⟩ := hcut
        obtain ⟨hbw, hDb, hBc⟩ := HX.out
        have HDb := hid hDb
        obtain ⟨d0, d1, _, _⟩ := hDb.cells
        have HBc := hid hBc
        have hszc := hBc.size
        have HD1 := hid (HD.out.below hBc HD.out.lt)
        have HO1 := hid (HO.out.below hBc)
        have HB1 := hid (HB.out.trans (hBc.mono (by omega)))
        obtain ⟨x0, x1, x2, x3⟩ := HD1.out.cells
        clear HX hDb hBc HK HK8 BA BB HRB HSA HSB HFd
        obtain ⟨hk, hel, hAe, hF, hfd, hdk, hFD⟩ := HC.out
        have hlt := HLT.out
        have hPl := HP.out
        by_cases hfull : 65536 < P.length + 1
        · have h65 : P.length = 65536 := by have := HP.out; omega
          have hE : E = 2 := by
            unfold fdT at hFD
            rw [if_neg (by simp), if_pos (by simpa using hfull)] at hFD
            exact (Prod.mk.inj hFD).2
          subst hE
          have HE : Hid (A = (es.map RqE.q, 413)) := hid (by
            rw [hAe, hdk, allL_full c _ h65 hF]
            simp)
          have HO2 := hid (HO1.out.le (show w.heap.size ≤ w.heap.size + 1 by omega))
          clear hk hel hAe hF hfd hdk hFD hfull h65 HC
          go_wp2
          go_ret2
          rw [HE.out]
          first | exact ⟨_, es, rfl, HO2.out, rfl, HB1.out⟩ | exact ⟨_, rfl, es, HO2.out, rfl, HB1.out⟩
        · have hX := hFD
          unfold fdT at hX
          rw [if_neg (by simp), if_neg (by simpa using hfull)] at hX
          obtain ⟨hX1, hE⟩ := Prod.mk.inj hX
          subst hE
          have HS0 : Hid (AllAt A L (k + 1) es X ∧ X.length ≤ 65536) := hid (by
            rw [hX1]
            refine ⟨⟨by omega, by simp; omega, by simp; omega, ?_⟩, by simp; omega⟩
            rw [← hfd]
            exact hAe)
          have hD7 := DpAt.store (x := (.string ⟨X.toArray⟩)) (y := (.int .i64 0)) HD1.out
          have hK7 := (Kept.store (p := w.heap.size) (B := wc.heap.size) wc 0 (.string ⟨X.toArray⟩)).trans (Kept.store _ 1 (.int .i64 0))
          have hO7 := HO1.out.keptD hK7 (by omega)
          have hB7 := HB1.out.trans (hK7.below (by omega))
          obtain ⟨w7, hw7⟩ : ∃ w7, w7 = (wc.setCell ⟨w.heap.size, 0, none⟩ (.string ⟨X.toArray⟩)).setCell ⟨w.heap.size, 1, none⟩ (.int .i64 0) := ⟨_, rfl⟩
          rw [← hw7] at hD7 hO7 hB7
          have HD7 := hid hD7
          have HO7 := hid hO7
          have HB7 := hid hB7
          clear hD7 hO7 hB7 hK7 hX hX1 hk hel hAe hF hfd hdk hFD hfull HC
          go_wp2_with fail
          rw [← hw7]
          clear hw7 x0 x1 x2 x3 d0 d1
          go_loopg [4] X.length (fun g out w4 => ∃ (V : List UInt8) (es2 : List RqE), Hid (V.length = g ∧ AllAt A L (k + 1) es2 V ∧ DpAt w4 w.heap.size (.string ⟨V.toArray⟩) (.int .i64 0) ∧ OwnsQ w4 (w.heap.size + 1) out es2 ∧ Below w.heap.size w w4))
          case atStart => exact ⟨X, es, hid ⟨rfl, HS0.out.1, HD7.out, HO7.out, HB7.out⟩⟩
          clear HS0 HD7 HO7 HB7
          case round =>
            obtain ⟨V, es2, HV⟩ := hrel
            obtain ⟨hVg, hAV, hDV, hOV, hBV⟩ := HV.out
            obtain ⟨y0, y1, y2, y3⟩ := hDV.cells
            obtain ⟨ao2, cap2, rfl⟩ := hOV.shape
            have hwq := hDV.lt
            have hNx := rnext_any V wr (by have := hAV.2.1; omega)
            clear hVg hAV hDV hOV hBV
            match hT : firstL V with
            | .error none =>
              rw [hT] at hNx
              simp only [nxD] at hNx
              go_wp2_with fail
              refine hNx.mono ?_
              clear hNx
              rintro e w5 ⟨u5, rfl, hO5, hB5⟩
              obtain ⟨e1, he1, rfl, hp1⟩ := hO5.elem
              simp only [RqE.val, reqV, RqE.vf, RqE.vq]
              have HE1 := hid he1
              have hB6 : Below w5.heap.size w5 ((w5.alloc (.cells #[.string ⟨V.toArray⟩, .int .i64 0] 27)).alloc (.cells #[.string ⟨e1.q.head.1.toArray⟩, .string ⟨e1.q.head.2.1.toArray⟩, .int .i64 e1.q.head.2.2.1, .slice e1.af e1.q.head.2.2.2.length e1.cf, .string ⟨e1.q.path.toArray⟩, .slice e1.aq e1.q.query.length e1.cq, .string ⟨e1.q.body.toArray⟩, .bool e1.q.close] 36)) := (below_alloc w5 _).trans ((below_alloc _ _).mono (by simp))
              have hB56 := hB5.trans (hB6.mono hB5.size)
              have hD6 := HV.out.2.2.1.below hB56 HV.out.2.2.1.lt
              obtain ⟨k0, k1, k2, k3⟩ := hD6.cells
              have hK8 := (Kept.store (p := w.heap.size) (B := ((w5.alloc (.cells #[.string ⟨V.toArray⟩, .int .i64 0] 27)).alloc (.cells #[.string ⟨e1.q.head.1.toArray⟩, .string ⟨e1.q.head.2.1.toArray⟩, .int .i64 e1.q.head.2.2.1, .slice e1.af e1.q.head.2.2.2.length e1.cf, .string ⟨e1.q.path.toArray⟩, .slice e1.aq e1.q.query.length e1.cq, .string ⟨e1.q.body.toArray⟩, .bool e1.q.close] 36)).heap.size) ((w5.alloc (.cells #[.string ⟨V.toArray⟩, .int .i64 0] 27)).alloc (.cells #[.string ⟨e1.q.head.1.toArray⟩, .string ⟨e1.q.head.2.1.toArray⟩, .int .i64 e1.q.head.2.2.1, .slice e1.af e1.q.head.2.2.2.length e1.cf, .string ⟨e1.q.path.toArray⟩, .slice e1.aq e1.q.query.length e1.cq, .string ⟨e1.q.body.toArray⟩, .bool e1.q.close] 36)) 0 (.string ⟨V.toArray⟩)).trans (Kept.store _ 1 (.int .i64 0))
              have HD8 := hid (DpAt.store (x := (.string ⟨V.toArray⟩)) (y := (.int .i64 0)) hD6)
              have HO8 := hid ((HV.out.2.2.2.1.below hB56).keptD hK8 (by omega))
              have hBw6 := HV.out.2.2.2.2.trans (hB56.mono HV.out.2.2.2.2.size)
              have HB8 := hid (hBw6.trans (hK8.below hBw6.size))
              have HWQ5 : Hid (w.heap.size < w5.heap.size) := hid (Nat.lt_of_lt_of_le hwq hB5.size)
              clear hp1 he1 hO5 hB5 hB6 hB56 hD6 hK8 hBw6 y0 y1 y2 y3
              have HT := hid hT
              clear hT
              go_wp2
              go_roundw
              case rel => exact ⟨k + 1, es2, V, by go_num, hid ⟨HV.out.2.1, HT.out, HD8.out, HO8.out, HB8.out⟩⟩
              case measure => have := HSZ.out; have := HLT.out; simp [intOf]; omega
            | .error (some t) =>
              rw [hT] at hNx
              simp only [nxD] at hNx
              have ft : (t != 0) = true := by
                rw [bne_iff_ne]
                exact stat4_ne (first_stat hT)
              have HE : Hid (A = (es2.map RqE.q, t)) := hid (by
                rw [HV.out.2.1.2.2.2, allL_bad _ HV.out.2.1.2.1 hT]
                simp)
              go_wp2_with fail
              refine hNx.mono ?_
              clear hNx
              rintro e w5 ⟨u5, rfl, hO5, hB5⟩
              obtain ⟨e1, he1, rfl, hp1⟩ := hO5.elem
              simp only [RqE.val, reqV, RqE.vf, RqE.vq]
              have HE1 := hid he1
              have hB6 : Below w5.heap.size w5 ((w5.alloc (.cells #[.string ⟨([] : List UInt8).toArray⟩, .int .i64 t] 27)).alloc (.cells #[.string ⟨e1.q.head.1.toArray⟩, .string ⟨e1.q.head.2.1.toArray⟩, .int .i64 e1.q.head.2.2.1, .slice e1.af e1.q.head.2.2.2.length e1.cf, .string ⟨e1.q.path.toArray⟩, .slice e1.aq e1.q.query.length e1.cq, .string ⟨e1.q.body.toArray⟩, .bool e1.q.close] 36)) := (below_alloc w5 _).trans ((below_alloc _ _).mono (by simp))
              have hB56 := hB5.trans (hB6.mono hB5.size)
              have hD6 := HV.out.2.2.1.below hB56 HV.out.2.2.1.lt
              obtain ⟨k0, k1, k2, k3⟩ := hD6.cells
              have hK8 := (Kept.store (p := w.heap.size) (B := ((w5.alloc (.cells #[.string ⟨([] : List UInt8).toArray⟩, .int .i64 t] 27)).alloc (.cells #[.string ⟨e1.q.head.1.toArray⟩, .string ⟨e1.q.head.2.1.toArray⟩, .int .i64 e1.q.head.2.2.1, .slice e1.af e1.q.head.2.2.2.length e1.cf, .string ⟨e1.q.path.toArray⟩, .slice e1.aq e1.q.query.length e1.cq, .string ⟨e1.q.body.toArray⟩, .bool e1.q.close] 36)).heap.size) ((w5.alloc (.cells #[.string ⟨([] : List UInt8).toArray⟩, .int .i64 t] 27)).alloc (.cells #[.string ⟨e1.q.head.1.toArray⟩, .string ⟨e1.q.head.2.1.toArray⟩, .int .i64 e1.q.head.2.2.1, .slice e1.af e1.q.head.2.2.2.length e1.cf, .string ⟨e1.q.path.toArray⟩, .slice e1.aq e1.q.query.length e1.cq, .string ⟨e1.q.body.toArray⟩, .bool e1.q.close] 36)) 0 (.string ⟨([] : List UInt8).toArray⟩)).trans (Kept.store _ 1 (.int .i64 t))
              have HD8 := hid (DpAt.store (x := (.string ⟨([] : List UInt8).toArray⟩)) (y := (.int .i64 t)) hD6)
              have HO8 := hid ((HV.out.2.2.2.1.below hB56).keptD hK8 (by omega))
              have hBw6 := HV.out.2.2.2.2.trans (hB56.mono HV.out.2.2.2.2.size)
              have HB8 := hid (hBw6.trans (hK8.below hBw6.size))
              have HWQ5 : Hid (w.heap.size < w5.heap.size) := hid (Nat.lt_of_lt_of_le hwq hB5.size)
              have HO9 := hid (HO8.out.le (show w.heap.size ≤ w.heap.size + 1 by omega))
              clear hp1 he1 hO5 hB5 hB6 hB56 hD6 hK8 hBw6 y0 y1 y2 y3 hT HO8 HD8
              go_wp2
              go_ret2
              rw [HE.out]
              first | exact ⟨_, es2, rfl, HO9.out, rfl, HB8.out⟩ | exact ⟨_, rfl, es2, HO9.out, rfl, HB8.out⟩
            | .ok (q, n) =>
              rw [hT] at hNx
              simp only [nxD] at hNx
              have hng := firstL_got hT
              have hgl := allL_got (L.drop (k + 1)) HV.out.2.1.2.1 hT
              go_wp2_with fail
              refine hNx.mono ?_
              clear hNx
              rintro e w5 ⟨u5, rfl, hO5, hB5⟩
              obtain ⟨e1, he1, rfl, hp1⟩ := hO5.elem
              simp only [RqE.val, reqV, RqE.vf, RqE.vq]
              have HE1 := hid he1
              have hB6 : Below w5.heap.size w5 ((w5.alloc (.cells #[.string ⟨(V.drop n).toArray⟩, .int .i64 0] 27)).alloc (.cells #[.string ⟨e1.q.head.1.toArray⟩, .string ⟨e1.q.head.2.1.toArray⟩, .int .i64 e1.q.head.2.2.1, .slice e1.af e1.q.head.2.2.2.length e1.cf, .string ⟨e1.q.path.toArray⟩, .slice e1.aq e1.q.query.length e1.cq, .string ⟨e1.q.body.toArray⟩, .bool e1.q.close] 36)) := (below_alloc w5 _).trans ((below_alloc _ _).mono (by simp))
              have hB56 := hB5.trans (hB6.mono hB5.size)
              have hD6 := HV.out.2.2.1.below hB56 HV.out.2.2.1.lt
              obtain ⟨k0, k1, k2, k3⟩ := hD6.cells
              have hK8 := (Kept.store (p := w.heap.size) (B := ((w5.alloc (.cells #[.string ⟨(V.drop n).toArray⟩, .int .i64 0] 27)).alloc (.cells #[.string ⟨e1.q.head.1.toArray⟩, .string ⟨e1.q.head.2.1.toArray⟩, .int .i64 e1.q.head.2.2.1, .slice e1.af e1.q.head.2.2.2.length e1.cf, .string ⟨e1.q.path.toArray⟩, .slice e1.aq e1.q.query.length e1.cq, .string ⟨e1.q.body.toArray⟩, .bool e1.q.close] 36)).heap.size) ((w5.alloc (.cells #[.string ⟨(V.drop n).toArray⟩, .int .i64 0] 27)).alloc (.cells #[.string ⟨e1.q.head.1.toArray⟩, .string ⟨e1.q.head.2.1.toArray⟩, .int .i64 e1.q.head.2.2.1, .slice e1.af e1.q.head.2.2.2.length e1.cf, .string ⟨e1.q.path.toArray⟩, .slice e1.aq e1.q.query.length e1.cq, .string ⟨e1.q.body.toArray⟩, .bool e1.q.close] 36)) 0 (.string ⟨(V.drop n).toArray⟩)).trans (Kept.store _ 1 (.int .i64 0))
              have HD8 := hid (DpAt.store (x := (.string ⟨(V.drop n).toArray⟩)) (y := (.int .i64 0)) hD6)
              have HO8 := hid ((HV.out.2.2.2.1.below hB56).keptD hK8 (by omega))
              have hBw6 := HV.out.2.2.2.2.trans (hB56.mono HV.out.2.2.2.2.size)
              have HB8 := hid (hBw6.trans (hK8.below hBw6.size))
              have HWQ5 : Hid (w.heap.size < w5.heap.size) := hid (Nat.lt_of_lt_of_le hwq hB5.size)
              have hAV := HV.out.2.1
              have HA2 : Hid (AllAt A L (k + 1) (es2 ++ [e1]) (V.drop n) ∧ (V.drop n).length < V.length) := hid ⟨⟨hAV.1, by rw [List.length_drop]; have := hAV.2.1; omega, by rw [List.length_drop, List.length_append, List.length_singleton]; have := hAV.2.2.1; omega, by
                rw [hAV.2.2.2, hgl, List.map_append, List.map_singleton, he1]
                simp⟩, by rw [List.length_drop]; omega⟩
              have hq8 : ReqAt ((((w5.alloc (.cells #[.string ⟨(V.drop n).toArray⟩, .int .i64 0] 27)).alloc (.cells #[.string ⟨e1.q.head.1.toArray⟩, .string ⟨e1.q.head.2.1.toArray⟩, .int .i64 e1.q.head.2.2.1, .slice e1.af e1.q.head.2.2.2.length e1.cf, .string ⟨e1.q.path.toArray⟩, .slice e1.aq e1.q.query.length e1.cq, .string ⟨e1.q.body.toArray⟩, .bool e1.q.close] 36)).setCell ⟨w.heap.size, 0, none⟩ (.string ⟨(V.drop n).toArray⟩)).setCell ⟨w.heap.size, 1, none⟩ (.int .i64 0)) (w5.heap.size + 1) (.string ⟨e1.q.head.1.toArray⟩) (.string ⟨e1.q.head.2.1.toArray⟩) (.int .i64 e1.q.head.2.2.1) (.slice e1.af e1.q.head.2.2.2.length e1.cf) (.string ⟨e1.q.path.toArray⟩) (.slice e1.aq e1.q.query.length e1.cq) (.string ⟨e1.q.body.toArray⟩) (.bool e1.q.close) := by
                have h1 := ReqAt.new (w5.alloc (.cells #[.string ⟨(V.drop n).toArray⟩, .int .i64 0] 27)) (.string ⟨e1.q.head.1.toArray⟩) (.string ⟨e1.q.head.2.1.toArray⟩) (.int .i64 e1.q.head.2.2.1) (.slice e1.af e1.q.head.2.2.2.length e1.cf) (.string ⟨e1.q.path.toArray⟩) (.slice e1.aq e1.q.query.length e1.cq) (.string ⟨e1.q.body.toArray⟩) (.bool e1.q.close)
                rw [show (w5.alloc (.cells #[.string ⟨(V.drop n).toArray⟩, .int .i64 0] 27)).heap.size = w5.heap.size + 1 by simp] at h1
                exact (h1.far (by have := HWQ5.out; omega)).far (by have := HWQ5.out; omega)
              obtain ⟨m0, m1, m2, m3, m4, m5, m6, m7⟩ := hq8.cells
              have hp8 := fun (v : Value) (l : List PairL) (ho : OwnsP w5 wr.heap.size v l) => OwnsP.low (OwnsP.kept (OwnsP.below ho hB6) hK8 hwq) (show w.heap.size + 1 ≤ wr.heap.size by omega)
              have HP8 := hid (And.intro (hp8 _ _ hp1.1) (hp8 _ _ hp1.2))
              have hcap2 : (es2.length + 1) * 128 ≤ 140737488355328 := by have := hAV.2.2.1; have := hAV.1; omega
              have hsz8 : ((((w5.alloc (.cells #[.string ⟨(V.drop n).toArray⟩, .int .i64 0] 27)).alloc (.cells #[.string ⟨e1.q.head.1.toArray⟩, .string ⟨e1.q.head.2.1.toArray⟩, .int .i64 e1.q.head.2.2.1, .slice e1.af e1.q.head.2.2.2.length e1.cf, .string ⟨e1.q.path.toArray⟩, .slice e1.aq e1.q.query.length e1.cq, .string ⟨e1.q.body.toArray⟩, .bool e1.q.close] 36)).setCell ⟨w.heap.size, 0, none⟩ (.string ⟨(V.drop n).toArray⟩)).setCell ⟨w.heap.size, 1, none⟩ (.int .i64 0)).heap.size = w5.heap.size + 2 := by simp
              have HS8 := hid hsz8
              clear hp1 he1 hO5 hB5 hB6 hB56 hD6 hK8 hBw6 y0 y1 y2 y3 hT hng hgl hAV hq8 hp8 hsz8
              go_wp2_with (first | (at_builtin; refine wpList_appQ rfl _ _ rfl (w.heap.size + 1) (.slice ao2 es2.length cap2) es2 rfl ?ho _ e1 rfl ?hs ?hp hcap2 ?hbase ?_; (case hs => exact news_atQ _ _ (by simp) e1 36); (case ho => exact HO8.out.below (below_alloc _ _)); (case hp => exact ⟨OwnsP.below HP8.out.1 (below_alloc _ _), OwnsP.below HP8.out.2 (below_alloc _ _)⟩); (case hbase => have := HWQ5.out; simp; omega); intro v4 w4 hO4 hG4))
              have HB4 : Hid (Below w.heap.size w w4) := hid (below_grownBy (HB8.out.trans ((below_alloc _ _).mono HB8.out.size)) hG4 (fun j hj => by have := OwnsQ.block HO8.out j hj; omega) (by have := HWQ5.out; simp; omega))
              have HD4 : Hid (DpAt w4 w.heap.size (.string ⟨(V.drop n).toArray⟩) (.int .i64 0)) := hid ((HD8.out.below (below_alloc _ _) HD8.out.lt).grown hG4 (fun j hj => by have := OwnsQ.block HO8.out j hj; omega))
              have HO4 := hid hO4
              clear hO4 hG4
              go_wp2
              go_roundg (V.drop n).length
              case measure => have := HA2.out.2; have := HV.out.1; omega
              case rel => exact ⟨V.drop n, es2 ++ [e1], hid ⟨rfl, HA2.out.1, HD4.out, HO4.out, HB4.out⟩⟩
    · have hlt' : ¬ (k : Int) < (s.size : Int) := by omega
      have hE : A = (es.map RqE.q, 0) := by
        rw [hAe, List.drop_eq_nil_of_le (by omega), List.append_nil, allL_end hP hF]
        simp
      have HE := hid hE
      have HO := hid (hO.le (show w.heap.size ≤ w.heap.size + 1 by omega))
      have HB := hid hB
      clear hAe hF hD hO hB hk hP hel hsz hE HI hlt x0 x1 x2 x3
      go_wp2
      go_ret2
      rw [HE.out]
      first | exact ⟨_, es, rfl, HO.out, rfl, HB.out⟩ | exact ⟨_, rfl, es, HO.out, rfl, HB.out⟩
end Go.Proofs.YtllhibdjopfcnaaGreatDoor
