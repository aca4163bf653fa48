/-
  ParseCuts: for every text and every list of numbers the law ParseCuts returns true: however bytes are cut into parts, the requests are the same, and so is the status. The listed tables are tied to the program; no other condition.
-/
import Derived.Test.YtllhibdjopfcnaaDoorPReqs
import Derived.Test.YtllhibdjopfcnaaDoorHParse
import Derived.Test.YtllhibdjopfcnaaDoorPNext
import Derived.Test.YtllhibdjopfcnaaDoorPAll
import Derived.Test.YtllhibdjopfcnaaDoorPSameAll
import Derived.Deep.LoopGhost
import Derived.Test.YtllhibdjopfcnaaDoorFrame
import Derived.SizedLaws
namespace Go.Proofs.YtllhibdjopfcnaaDoor
set_option linter.unusedVariables false

theorem tgt_few (L : List UInt8) : (tgt L).query.length ≤ 32 := by
  unfold tgt
  split
  · simp
  · split
    · simp
    · split
      · simp
      · split
        · simp
        · split
          · simp
          · rename_i h
            show (formL (cutC 63 L).2.1).length ≤ 32
            omega
theorem parse_few (s : List UInt8) : (parseL s).1.2.2.2.length ≤ 32 := by
  unfold parseL
  split
  · simp [hz]
  · split
    · simp [hz]
    · split
      · exact lines_few _ _ _ _ (fun h e => by cases e)
      · simp [hz]
theorem first_few {V : List UInt8} {q : ReqL} {n : Nat} (h : firstL V = (.ok (q, n))) : q.head.2.2.2.length ≤ 32 ∧ q.query.length ≤ 32 := by
  unfold firstL at h
  split at h
  · split at h
    · cases h
    · cases h
  · rename_i at' _
    split at h
    · cases h
    · split at h
      · cases h
      · cases h
      · rename_i b m _
        obtain ⟨h1, _⟩ := got_inj h
        subst h1
        exact ⟨parse_few _, tgt_few _⟩

/-- So many bytes of L were fed; W waits; es came out; the status. -/
def CutInv (L : List UInt8) (k : Nat) (W : List UInt8) (es : List RqE) (st : Int) : Prop :=
  (∀ e ∈ es, e.q.head.2.2.2.length ≤ 32 ∧ e.q.query.length ≤ 32) ∧
  ((st = 0 ∧ W.length ≤ k ∧ allL L = (es.map RqE.q ++ (allL (W ++ L.drop k)).1, (allL (W ++ L.drop k)).2)) ∨ (st ≠ 0 ∧ W = [] ∧ allL L = (es.map RqE.q, st)))
theorem CutInv.start (L : List UInt8) : CutInv L 0 [] [] 0 := ⟨(fun e he => by cases he), Or.inl ⟨rfl, Nat.le_refl _, by simp⟩⟩
theorem CutInv.feed {L : List UInt8} {k n : Nat} {W : List UInt8} {es : List RqE} (h : CutInv L k W es 0) (hn : k + n ≤ L.length) : CutInv L (k + n) (W ++ (L.drop k).take n) es 0 := by
  obtain ⟨hf, h⟩ := h
  refine ⟨hf, ?_⟩
  rcases h with ⟨_, h1, h2⟩ | ⟨h0, _⟩
  · refine Or.inl ⟨rfl, ?_, ?_⟩
    · rw [List.length_append, List.length_take, List.length_drop]
      omega
    · have e : (W ++ (L.drop k).take n) ++ L.drop (k + n) = W ++ L.drop k := by
        rw [List.append_assoc, ← List.drop_drop, List.take_append_drop]
      rw [e]
      exact h2
  · exact absurd rfl h0
theorem CutInv.got {L : List UInt8} {k n : Nat} {W : List UInt8} {es : List RqE} {e : RqE} (h : CutInv L k W es 0) (hk : k ≤ 65536) (hf : firstL W = (.ok (e.q, n))) : CutInv L k (W.drop n) (es ++ [e]) 0 := by
  obtain ⟨hfew, h⟩ := h
  refine ⟨fun x hx => ?_, ?_⟩
  · rcases List.mem_append.1 hx with hx | hx
    · exact hfew x hx
    · simp at hx
      subst hx
      exact first_few hf
  · rcases h with ⟨_, h1, h2⟩ | ⟨h0, _⟩
    · refine Or.inl ⟨rfl, by rw [List.length_drop]; omega, ?_⟩
      rw [h2, allL_got (L.drop k) (by omega) hf]
      simp
    · exact absurd rfl h0
theorem CutInv.bad {L : List UInt8} {k : Nat} {t : Int} {W : List UInt8} {es : List RqE} (h : CutInv L k W es 0) (hk : k ≤ 65536) (hf : firstL W = (.error (some t))) : CutInv L k [] es t := by
  obtain ⟨hfew, h⟩ := h
  refine ⟨hfew, ?_⟩
  rcases h with ⟨_, h1, h2⟩ | ⟨h0, _⟩
  · refine Or.inr ⟨stat4_ne (first_stat hf), rfl, ?_⟩
    rw [h2, allL_bad (L.drop k) (by omega) hf]
    simp
  · exact absurd rfl h0
theorem CutInv.fin {L : List UInt8} {k : Nat} {W : List UInt8} {es : List RqE} {st : Int} (h : CutInv L k W es st) (hk : k ≤ 65536) (hf : st = 0 → firstL W = (.error none) ∧ k = L.length) : allL L = (es.map RqE.q, st) := by
  rcases h.2 with ⟨h0, h1, h2⟩ | ⟨_, _, h2⟩
  · obtain ⟨f1, f2⟩ := hf h0
    rw [h2, f2, List.drop_length, List.append_nil, allL_end (by omega) f1, h0]
    simp
  · exact h2
theorem first_nil : firstL [] = (.error none) := by rfl

end Go.Proofs.YtllhibdjopfcnaaDoor

namespace Go.Proofs.YtllhibdjopfcnaaDoor
open Go.RowKit
set_option linter.unusedVariables false

/-- The slice v reads xs in the world w. -/
def SeesZ (w : World) (v : Value) (xs : List Int) : Prop :=
  ∃ b off ao cap, v = .slice ao xs.length cap ∧ xs.length ≤ cap ∧ (ao = none → cap = 0) ∧ (xs ≠ [] → ao = some ⟨b, off, none⟩) ∧ ∀ j, (h : j < xs.length) → w.cell? ⟨b, off + j, none⟩ = some (.int .i64 xs[j])
theorem eqlc_some_nil (a : Addr) (w : World) : (binOp .eql 30 (.pointer (some a)) (.pointer none)).run Tryd.prog w = .ok (.bool false) w := by
  have h : ∀ d : Nat, (Op.equalIn (d + 1) 30 (.pointer (some a)) (.pointer none)).run Tryd.prog w = .ok false w := fun d => by
    simp [Op.equalIn, run_underlying Tryd.underlying30]
  simp only [binOp]
  simp [Op.equal, Op.maxDepth, h 9999]
theorem Below.keptC {b p B : Nat} {w0 w w' : World} (h : Below b w0 w) (k : Kept p B w w') (hb : b ≤ p) (hB : b ≤ B) : Below b w0 w' :=
  ⟨k.os.trans h.os, k.tape.trans h.tape, k.output.trans h.output, Nat.le_trans h.size k.size, fun i hi => (k.block i (by omega) (by omega)).trans (h.block i hi)⟩
theorem ownsRow_kept {w w' : World} {base p : Nat} {e : TypeId} {size : Nat} {v : Value} {n : Nat} {xs : List Value} (h : w.ownsRow base e size v n xs) (hk : Kept p w.heap.size w w') (hp : p < base) : w'.ownsRow base e size v n xs := by
  refine ⟨h.1, ?_⟩
  rcases h.2 with hn | ⟨g, cap, cur, rfl, hbase, hg, rest⟩
  · exact Or.inl hn
  · exact Or.inr ⟨g, cap, cur, rfl, hbase, by rw [hk.block g (Array.getElem?_eq_some_iff.1 hg).1 (by omega)]; exact hg, rest⟩
theorem OwnsQ.kept {w w' : World} {base p : Nat} {v : Value} {l : List RqE} (h : OwnsQ w base v l) (hk : Kept p w.heap.size w w') (hp : p < base) : OwnsQ w' base v l :=
  ⟨ownsRow_kept h.row hk hp, fun e he => ⟨OwnsP.kept (h.parts e he).1 hk hp, OwnsP.kept (h.parts e he).2 hk hp⟩⟩
theorem few_parts {w : World} {base : Nat} {v : Value} {l : List RqE} (h : OwnsQ w base v l) : True := trivial

set_option maxRecDepth 40000 in
set_option maxHeartbeats 16000000 in
theorem cuts_walk (s0 : ByteArray) (v : Value) (xs : List Int) (w : World) (hM : ML w) (hS : SeesZ w v xs) (hxl : xs.length ≤ 4611686018427387904) :
    Calls Tryd.prog 4 #[.string s0, v] w fun e w' => e = .returned (.bool true) ∧ Below w.heap.size w w' := by
  obtain ⟨b, off, ao, cap, rfl, hcap, _, hao, hcell⟩ := hS
  obtain ⟨L, hL⟩ : ∃ L, L = s0.data.toList := ⟨_, rfl⟩
  have hs0 : s0 = ⟨L.toArray⟩ := by rw [hL]
  have hz0 : s0.size = L.length := by rw [hs0, size_list]
  have hgl := hM.lt
  have HM := hid hM
  have HC := hid hcell
  have HS0 := hid hs0
  have HZ0 := hid hz0
  clear hL hM hcell
  by_cases hbig : 4096 < s0.size
  · have fb : decide ((4096 : Int) < (s0.size : Int)) = true := by simp; omega
    have hAW := awakeP_any w HM.out
    clear hs0 hz0 hbig
    go_enter Tryd.func4, Tryd.ntmps4
    go_wp2_with fail
    refine hAW.mono ?_
    clear hAW
    rintro e w1 ⟨rfl, q1⟩
    go_wp2
    go_ret
    exact ⟨rfl, q1⟩
  · have fb : decide ((4096 : Int) < (s0.size : Int)) = false := by simp; omega
    have hAll := all_any L w HM.out (by omega)
    rw [← hs0] at hAll
    have hle : s0.size ≤ 4096 := by omega
    clear hs0 hz0 hbig
    go_enter Tryd.func4, Tryd.ntmps4
    go_wp2_with fail
    refine hAll.mono ?_
    clear hAll
    rintro e w1 ⟨v1, es1, rfl, hO1, he1, q1⟩
    obtain ⟨ao1, cap1, rfl⟩ := hO1.shape
    have hNw := new_any w1
    obtain ⟨p, hp⟩ : ∃ p, p = w1.heap.size := ⟨_, rfl⟩
    rw [← hp] at hNw
    have hs1 := q1.size
    have HO1 := hid hO1
    have HE1 := hid he1
    have HQ1 := hid q1
    have hgp : 0 < p := by omega
    have hwp : w.heap.size ≤ p := by omega
    have HP := hid hp
    clear hO1 he1 q1 hp
    go_wp2_with fail
    refine hNw.mono ?_
    clear hNw
    rintro e w2 ⟨rfl, hP2, hB2⟩
    have heq := eqlc_some_nil ⟨p, 0, none⟩ w2
    have HP2 := hid hP2
    have hpl := hP2.lt
    have HB2 : Hid (Below p w1 w2) := hid hB2
    clear hP2 hB2
    go_wp2_with fail
    go_loopw [8, 9, 10, 11] (fun gt fr bk i wr => ∃ (k j : Nat) (W : List UInt8) (es : List RqE) (st : Int), fr = .int .i64 (k : Int) ∧ bk = .int .i64 st ∧ i = .int .i64 (j : Int) ∧ k ≤ s0.size ∧ j ≤ xs.length + 1 ∧ (j ≤ xs.length ∨ k = s0.size ∨ st ≠ 0) ∧ CutInv L k W es st ∧ (st = 0 → firstL W = (.error none)) ∧ es.length + W.length ≤ k ∧ PsAt wr p W st ∧ OwnsQ wr (p + 1) gt es ∧ Below p w1 wr) (fun _ _ _ i _ => xs.length + 2 - (intOf i).toNat)
    case atStart => exact ⟨0, 0, [], [], 0, rfl, rfl, rfl, Nat.zero_le _, Nat.zero_le _, Or.inl (Nat.zero_le _), CutInv.start L, fun _ => first_nil, Nat.le_refl _, HP2.out, OwnsQ.nil _ _, HB2.out⟩
    clear HP2 HB2 heq
    case round =>
      obtain ⟨k, j, W, es, st, rfl, rfl, rfl, hk, hj, hor, hinv, hfst, hcnt, hPs, hO, hB⟩ := hrel
      have hpr := hPs.lt
      have HINV := hid hinv
      have HFST := hid hfst
      have HPs := hid hPs
      have HO := hid hO
      have HB := hid hB
      have HOR := hid hor
      obtain ⟨aog, capg, rfl⟩ := hO.shape
      clear hinv hfst hPs hO hB hor
      by_cases hgo : j ≤ xs.length ∧ k < s0.size ∧ st = 0
      · obtain ⟨g1, g2, g3⟩ := hgo
        subst g3
        have g1' : (j : Int) ≤ (xs.length : Int) := by omega
        have g2' : (k : Int) < (s0.size : Int) := by omega
        obtain ⟨d, hd⟩ : ∃ d : Nat, d = s0.size - k := ⟨_, rfl⟩
        have hd' : (s0.size : Int) - (k : Int) = (d : Int) := by omega
        have HDK := hid (show k + d = s0.size by omega)
        have hd1 : 1 ≤ d := by omega
        have hd2 : k + d ≤ s0.size := by omega
        clear hd
        by_cases hj1 : j < xs.length
        · have hj1' : (j : Int) < (xs.length : Int) := by omega
          obtain rfl := hao (by intro h; rw [h] at hj1; simp at hj1)
          have hcx : wr.cell? ⟨b, off + j, none⟩ = some (.int .i64 xs[j]) := by
            have h0 := HC.out j hj1
            have hb := World.block_lt_of_cell? w _ h0
            rw [HB.out.cell (by have := HQ1.out.size; rw [HP.out]; omega), HQ1.out.cell hb]
            exact h0
          obtain ⟨x, hx⟩ : ∃ x, x = xs[j] := ⟨_, rfl⟩
          rw [← hx] at hcx
          clear hx
          obtain ⟨m, hm⟩ : ∃ m, m = x.tmod 50 := ⟨_, rfl⟩
          have hm' : x.tmod 50 = m := hm.symm
          have hm1 : -50 < m ∧ m < 50 := by
            have h1 := Int.lt_tmod_of_pos x (b := 50) (by decide)
            have h2 := Int.tmod_lt_of_pos x (b := 50) (by decide)
            omega
          obtain ⟨hma, hmb⟩ := hm1
          clear hm
          by_cases hneg : m < 0
          · have hmin : min (d : Int) m = m := by omega
            have hx : ByteArray.empty = ⟨((L.drop k).take 0).toArray⟩ := rfl
            have hinv2 := HINV.out.feed (n := 0) (by have := HZ0.out; omega)
            have hF := feed_any p W ((L.drop k).take 0) 0 wr HPs.out (by omega)
            have hfl : ¬ 65536 < W.length + ((L.drop k).take 0).length := by rw [List.length_take]; omega
            rw [(fed_ok hfl).1, (fed_ok hfl).2, ← hx] at hF
            have hx1 : (k : Int) ≤ (s0.size : Int) := by omega
            have hcnt2 : es.length + (W ++ (L.drop k).take 0).length ≤ k := by rw [List.length_append, List.length_take]; omega
            have HINV2 := hid hinv2
            have HCN2 := hid hcnt2
            clear hx hinv2 hfl HFST HOR hcnt2 HINV
            go_wp2_with fail
            refine hF.mono ?_
            clear hF
            rintro e w3 ⟨rfl, hP3, hK3⟩
            have hs3 := hK3.size
            have HB3 := hid (Below.keptC HB.out hK3 (Nat.le_refl _) (by omega))
            have HO3 := hid (HO.out.kept hK3 (by omega))
            have HP3 := hid hP3
            have hp3 := hP3.lt
            clear hP3 hK3 HB HO HPs
            go_wp2_with fail
            go_loopg [8, 10] (W ++ (L.drop k).take 0).length (fun g gt bk w4 => ∃ (V : List UInt8) (es2 : List RqE), V.length = g ∧ bk = .int .i64 0 ∧ CutInv L (k) V es2 0 ∧ es2.length + V.length ≤ k ∧ PsAt w4 p V 0 ∧ OwnsQ w4 (p + 1) gt es2 ∧ Below p w1 w4)
            case atStart => exact ⟨_, es, rfl, rfl, (by simpa using HINV2.out), HCN2.out, HP3.out, HO3.out, HB3.out⟩
            clear HP3 HO3 HB3 HINV2 HCN2
            case round =>
              obtain ⟨V, es2, hVg, rfl, hinv, hcnt2, hPs, hO, hB⟩ := hrel
              have hp4 := hPs.lt
              have HINV := hid hinv
              have HO := hid hO
              have HB := hid hB
              obtain ⟨aoh, caph, hsh⟩ := hO.shape
              subst hsh
              have hNx := next_any p V 0 wr (HM.out.below (HQ1.out.trans (hB.mono (by omega))) hgl) hPs (by omega)
              have HVG := hid hVg
              clear hinv hO hB hPs hVg
              match hT : firstL V with
              | .error none =>
                rw [nxt_more hT] at hNx
                simp only at hNx
                have HT := hid hT
                clear hT
                go_wp2_with fail
                refine hNx.mono ?_
                clear hNx
                rintro e w5 ⟨u5, rfl, hO5, hP5, hK5⟩
                obtain ⟨e1, he1, rfl, hp1⟩ := hO5.elem
                simp only [RqE.val, reqV, RqE.vf, RqE.vq]
                have hs5 := hK5.size
                have hB5 := Below.keptC HB.out hK5 (Nat.le_refl _) (by omega)
                have hQ5 := HO.out.kept hK5 (by omega)
                have hBa := below_alloc w5 (.cells #[.string ⟨e1.q.head.1.toArray⟩, .string ⟨e1.q.head.2.1.toArray⟩, .int .i64 e1.q.head.2.2.1, .slice e1.af e1.q.head.2.2.2.length e1.cf, .string ⟨e1.q.path.toArray⟩, .slice e1.aq e1.q.query.length e1.cq, .string ⟨e1.q.body.toArray⟩, .bool e1.q.close] 38)
                have HP6 := hid (hP5.below hBa hP5.lt)
                have HO6 := hid (hQ5.below hBa)
                have HB6 := hid (hB5.trans (hBa.mono (by omega)))
                clear hO5 hp1 he1 hP5 hK5 hB5 hQ5 hBa HB HO
                go_wp2
                go_roundw
                case rel => exact ⟨k, j + 1, V, es2, 0, by first | rfl | go_num, rfl, by go_num, by omega, by omega, Or.inl (by omega), HINV.out, fun _ => HT.out, hcnt2, HP6.out, HO6.out, HB6.out⟩
                case measure => simp [intOf]; omega
              | .error (some t) =>
                rw [nxt_wrong hT] at hNx
                simp only at hNx
                have HI2 := hid (HINV.out.bad (by omega) hT)
                have HT0 := hid (stat4_ne (first_stat hT))
                clear hT
                go_wp2_with fail
                refine hNx.mono ?_
                clear hNx
                rintro e w5 ⟨u5, rfl, hO5, hP5, hK5⟩
                obtain ⟨e1, he1, rfl, hp1⟩ := hO5.elem
                simp only [RqE.val, reqV, RqE.vf, RqE.vq]
                have hs5 := hK5.size
                have hB5 := Below.keptC HB.out hK5 (Nat.le_refl _) (by omega)
                have hQ5 := HO.out.kept hK5 (by omega)
                have hBa := below_alloc w5 (.cells #[.string ⟨e1.q.head.1.toArray⟩, .string ⟨e1.q.head.2.1.toArray⟩, .int .i64 e1.q.head.2.2.1, .slice e1.af e1.q.head.2.2.2.length e1.cf, .string ⟨e1.q.path.toArray⟩, .slice e1.aq e1.q.query.length e1.cq, .string ⟨e1.q.body.toArray⟩, .bool e1.q.close] 38)
                have HP6 := hid (hP5.below hBa hP5.lt)
                have HO6 := hid (hQ5.below hBa)
                have HB6 := hid (hB5.trans (hBa.mono (by omega)))
                clear hO5 hp1 he1 hP5 hK5 hB5 hQ5 hBa HB HO
                go_wp2
                go_roundw
                case rel => exact ⟨k, j + 1, [], es2, t, by first | rfl | go_num, rfl, by go_num, by omega, by omega, Or.inr (Or.inr HT0.out), HI2.out, fun h => absurd h HT0.out, by simp; omega, HP6.out, HO6.out, HB6.out⟩
                case measure => simp [intOf]; omega
              | .ok (q, n) =>
                rw [nxt_got hT] at hNx
                simp only at hNx
                have hn := firstL_got hT
                have HT := hid hT
                have HHV := hid (show (V.drop n).length < V.length ∧ es2.length + 1 + (V.drop n).length ≤ es2.length + V.length by rw [List.length_drop]; omega)
                clear hT
                go_wp2_with fail
                refine hNx.mono ?_
                clear hNx
                rintro e w5 ⟨u5, rfl, hO5, hP5, hK5⟩
                obtain ⟨e1, he1, rfl, hp1⟩ := hO5.elem
                simp only [RqE.val, reqV, RqE.vf, RqE.vq]
                have hs5 := hK5.size
                have hB5 := Below.keptC HB.out hK5 (Nat.le_refl _) (by omega)
                have hQ5 := HO.out.kept hK5 (by omega)
                have hBa := below_alloc w5 (.cells #[.string ⟨e1.q.head.1.toArray⟩, .string ⟨e1.q.head.2.1.toArray⟩, .int .i64 e1.q.head.2.2.1, .slice e1.af e1.q.head.2.2.2.length e1.cf, .string ⟨e1.q.path.toArray⟩, .slice e1.aq e1.q.query.length e1.cq, .string ⟨e1.q.body.toArray⟩, .bool e1.q.close] 38)
                have HP6 := hid (hP5.below hBa hP5.lt)
                have HO6 := hid (hQ5.below hBa)
                have HB6 := hid (hB5.trans (hBa.mono (by omega)))
                have HI2 : Hid (CutInv L (k) (V.drop n) (es2 ++ [e1]) 0) := hid (HINV.out.got (by omega) (by rw [he1]; exact HT.out))
                have HPP := hid hp1
                have hB34 := hBa
                have hal := ReqAt.new w5 (.string ⟨e1.q.head.1.toArray⟩) (.string ⟨e1.q.head.2.1.toArray⟩) (.int .i64 e1.q.head.2.2.1) (.slice e1.af e1.q.head.2.2.2.length e1.cf) (.string ⟨e1.q.path.toArray⟩) (.slice e1.aq e1.q.query.length e1.cq) (.string ⟨e1.q.body.toArray⟩) (.bool e1.q.close)
                obtain ⟨y0, y1, y2, y3, y4, y5, y6, y7⟩ := hal.cells
                have hcap2 : (es2.length + 1) * 128 ≤ 140737488355328 := by omega
                have hpl5 := hP5.lt
                clear hO5 hp1 he1 hP5 hK5 hB5 hQ5 hBa HB HO hal HT HINV
                go_wp2_with (first | (at_builtin; refine wpList_appQ rfl _ _ rfl (p + 1) (.slice aoh es2.length caph) es2 rfl ?ho _ e1 rfl ?hs ?hp hcap2 ?hbase ?_; (case hs => exact news_at _ _ (by simp) e1 38); (case ho => exact HO6.out.below (below_alloc _ _)); (case hp => exact ⟨OwnsP.low (OwnsP.below (OwnsP.below HPP.out.1 hB34) (below_alloc _ _)) (by omega), OwnsP.low (OwnsP.below (OwnsP.below HPP.out.2 hB34) (below_alloc _ _)) (by omega)⟩); (case hbase => simp; omega); intro v7 w7 hO7 hG7))
                have HB7 := hid (below_grownBy (HB6.out.trans ((below_alloc _ _).mono (by simp; omega))) hG7 (fun q hq => by have := OwnsQ.block HO6.out q hq; omega) (by simp; omega))
                have HP7 : Hid (PsAt w7 p (V.drop n) 0) := by
                  refine hid (PsAt.same (HP6.out.below (below_alloc _ _) HP6.out.lt) (hG7.block p (by simp; omega) (fun e => ?_)))
                  have := OwnsQ.block HO6.out p e.symm
                  omega
                have HO7 := hid hO7
                clear hO7 hG7
                go_wp2
                go_roundg (V.drop n).length
                case measure => have := HHV.out.1; have := HVG.out; omega
                case rel => exact ⟨V.drop n, es2 ++ [e1], rfl, rfl, HI2.out, by have := HHV.out.2; rw [List.length_append, List.length_singleton]; omega, HP7.out, HO7.out, HB7.out⟩
          · by_cases hmd : m < (d : Int)
            · obtain ⟨N, rfl⟩ := Int.eq_ofNat_of_zero_le (show 0 ≤ m by omega)
              have hmin : min (d : Int) (N : Int) = (N : Int) := by omega
              have hN : k + N ≤ s0.size := by omega
              have hx : s0.extract k (k + N) = ⟨((L.drop k).take N).toArray⟩ := by
                rw [HS0.out, extract_list, show k + N - k = N by omega]
              have hinv2 := HINV.out.feed (n := N) (by have := HZ0.out; omega)
              have hF := feed_any p W ((L.drop k).take N) 0 wr HPs.out (by omega)
              have hfl : ¬ 65536 < W.length + ((L.drop k).take N).length := by rw [List.length_take]; omega
              rw [(fed_ok hfl).1, (fed_ok hfl).2, ← hx] at hF
              have hx1 : (k : Int) + (N : Int) ≤ (s0.size : Int) := by omega
              have hcnt2 : es.length + (W ++ (L.drop k).take N).length ≤ k + N := by rw [List.length_append, List.length_take]; omega
              have HINV2 := hid hinv2
              have HCN2 := hid hcnt2
              clear hx hinv2 hfl HFST HOR hcnt2 HINV
              go_wp2_with fail
              refine hF.mono ?_
              clear hF
              rintro e w3 ⟨rfl, hP3, hK3⟩
              have hs3 := hK3.size
              have HB3 := hid (Below.keptC HB.out hK3 (Nat.le_refl _) (by omega))
              have HO3 := hid (HO.out.kept hK3 (by omega))
              have HP3 := hid hP3
              have hp3 := hP3.lt
              clear hP3 hK3 HB HO HPs
              go_wp2_with fail
              go_loopg [8, 10] (W ++ (L.drop k).take N).length (fun g gt bk w4 => ∃ (V : List UInt8) (es2 : List RqE), V.length = g ∧ bk = .int .i64 0 ∧ CutInv L (k + N) V es2 0 ∧ es2.length + V.length ≤ k + N ∧ PsAt w4 p V 0 ∧ OwnsQ w4 (p + 1) gt es2 ∧ Below p w1 w4)
              case atStart => exact ⟨_, es, rfl, rfl, HINV2.out, HCN2.out, HP3.out, HO3.out, HB3.out⟩
              clear HP3 HO3 HB3 HINV2 HCN2
              case round =>
                obtain ⟨V, es2, hVg, rfl, hinv, hcnt2, hPs, hO, hB⟩ := hrel
                have hp4 := hPs.lt
                have HINV := hid hinv
                have HO := hid hO
                have HB := hid hB
                obtain ⟨aoh, caph, hsh⟩ := hO.shape
                subst hsh
                have hNx := next_any p V 0 wr (HM.out.below (HQ1.out.trans (hB.mono (by omega))) hgl) hPs (by omega)
                have HVG := hid hVg
                clear hinv hO hB hPs hVg
                match hT : firstL V with
                | .error none =>
                  rw [nxt_more hT] at hNx
                  simp only at hNx
                  have HT := hid hT
                  clear hT
                  go_wp2_with fail
                  refine hNx.mono ?_
                  clear hNx
                  rintro e w5 ⟨u5, rfl, hO5, hP5, hK5⟩
                  obtain ⟨e1, he1, rfl, hp1⟩ := hO5.elem
                  simp only [RqE.val, reqV, RqE.vf, RqE.vq]
                  have hs5 := hK5.size
                  have hB5 := Below.keptC HB.out hK5 (Nat.le_refl _) (by omega)
                  have hQ5 := HO.out.kept hK5 (by omega)
                  have hBa := below_alloc w5 (.cells #[.string ⟨e1.q.head.1.toArray⟩, .string ⟨e1.q.head.2.1.toArray⟩, .int .i64 e1.q.head.2.2.1, .slice e1.af e1.q.head.2.2.2.length e1.cf, .string ⟨e1.q.path.toArray⟩, .slice e1.aq e1.q.query.length e1.cq, .string ⟨e1.q.body.toArray⟩, .bool e1.q.close] 38)
                  have HP6 := hid (hP5.below hBa hP5.lt)
                  have HO6 := hid (hQ5.below hBa)
                  have HB6 := hid (hB5.trans (hBa.mono (by omega)))
                  clear hO5 hp1 he1 hP5 hK5 hB5 hQ5 hBa HB HO
                  go_wp2
                  go_roundw
                  case rel => exact ⟨k + N, j + 1, V, es2, 0, by first | rfl | go_num, rfl, by go_num, by omega, by omega, Or.inl (by omega), HINV.out, fun _ => HT.out, hcnt2, HP6.out, HO6.out, HB6.out⟩
                  case measure => simp [intOf]; omega
                | .error (some t) =>
                  rw [nxt_wrong hT] at hNx
                  simp only at hNx
                  have HI2 := hid (HINV.out.bad (by omega) hT)
                  have HT0 := hid (stat4_ne (first_stat hT))
                  clear hT
                  go_wp2_with fail
                  refine hNx.mono ?_
                  clear hNx
                  rintro e w5 ⟨u5, rfl, hO5, hP5, hK5⟩
                  obtain ⟨e1, he1, rfl, hp1⟩ := hO5.elem
                  simp only [RqE.val, reqV, RqE.vf, RqE.vq]
                  have hs5 := hK5.size
                  have hB5 := Below.keptC HB.out hK5 (Nat.le_refl _) (by omega)
                  have hQ5 := HO.out.kept hK5 (by omega)
                  have hBa := below_alloc w5 (.cells #[.string ⟨e1.q.head.1.toArray⟩, .string ⟨e1.q.head.2.1.toArray⟩, .int .i64 e1.q.head.2.2.1, .slice e1.af e1.q.head.2.2.2.length e1.cf, .string ⟨e1.q.path.toArray⟩, .slice e1.aq e1.q.query.length e1.cq, .string ⟨e1.q.body.toArray⟩, .bool e1.q.close] 38)
                  have HP6 := hid (hP5.below hBa hP5.lt)
                  have HO6 := hid (hQ5.below hBa)
                  have HB6 := hid (hB5.trans (hBa.mono (by omega)))
                  clear hO5 hp1 he1 hP5 hK5 hB5 hQ5 hBa HB HO
                  go_wp2
                  go_roundw
                  case rel => exact ⟨k + N, j + 1, [], es2, t, by first | rfl | go_num, rfl, by go_num, by omega, by omega, Or.inr (Or.inr HT0.out), HI2.out, fun h => absurd h HT0.out, by simp; omega, HP6.out, HO6.out, HB6.out⟩
                  case measure => simp [intOf]; omega
                | .ok (q, n) =>
                  rw [nxt_got hT] at hNx
                  simp only at hNx
                  have hn := firstL_got hT
                  have HT := hid hT
                  have HHV := hid (show (V.drop n).length < V.length ∧ es2.length + 1 + (V.drop n).length ≤ es2.length + V.length by rw [List.length_drop]; omega)
                  clear hT
                  go_wp2_with fail
                  refine hNx.mono ?_
                  clear hNx
                  rintro e w5 ⟨u5, rfl, hO5, hP5, hK5⟩
                  obtain ⟨e1, he1, rfl, hp1⟩ := hO5.elem
                  simp only [RqE.val, reqV, RqE.vf, RqE.vq]
                  have hs5 := hK5.size
                  have hB5 := Below.keptC HB.out hK5 (Nat.le_refl _) (by omega)
                  have hQ5 := HO.out.kept hK5 (by omega)
                  have hBa := below_alloc w5 (.cells #[.string ⟨e1.q.head.1.toArray⟩, .string ⟨e1.q.head.2.1.toArray⟩, .int .i64 e1.q.head.2.2.1, .slice e1.af e1.q.head.2.2.2.length e1.cf, .string ⟨e1.q.path.toArray⟩, .slice e1.aq e1.q.query.length e1.cq, .string ⟨e1.q.body.toArray⟩, .bool e1.q.close] 38)
                  have HP6 := hid (hP5.below hBa hP5.lt)
                  have HO6 := hid (hQ5.below hBa)
                  have HB6 := hid (hB5.trans (hBa.mono (by omega)))
                  have HI2 : Hid (CutInv L (k + N) (V.drop n) (es2 ++ [e1]) 0) := hid (HINV.out.got (by omega) (by rw [he1]; exact HT.out))
                  have HPP := hid hp1
                  have hB34 := hBa
                  have hal := ReqAt.new w5 (.string ⟨e1.q.head.1.toArray⟩) (.string ⟨e1.q.head.2.1.toArray⟩) (.int .i64 e1.q.head.2.2.1) (.slice e1.af e1.q.head.2.2.2.length e1.cf) (.string ⟨e1.q.path.toArray⟩) (.slice e1.aq e1.q.query.length e1.cq) (.string ⟨e1.q.body.toArray⟩) (.bool e1.q.close)
                  obtain ⟨y0, y1, y2, y3, y4, y5, y6, y7⟩ := hal.cells
                  have hcap2 : (es2.length + 1) * 128 ≤ 140737488355328 := by omega
                  have hpl5 := hP5.lt
                  clear hO5 hp1 he1 hP5 hK5 hB5 hQ5 hBa HB HO hal HT HINV
                  go_wp2_with (first | (at_builtin; refine wpList_appQ rfl _ _ rfl (p + 1) (.slice aoh es2.length caph) es2 rfl ?ho _ e1 rfl ?hs ?hp hcap2 ?hbase ?_; (case hs => exact news_at _ _ (by simp) e1 38); (case ho => exact HO6.out.below (below_alloc _ _)); (case hp => exact ⟨OwnsP.low (OwnsP.below (OwnsP.below HPP.out.1 hB34) (below_alloc _ _)) (by omega), OwnsP.low (OwnsP.below (OwnsP.below HPP.out.2 hB34) (below_alloc _ _)) (by omega)⟩); (case hbase => simp; omega); intro v7 w7 hO7 hG7))
                  have HB7 := hid (below_grownBy (HB6.out.trans ((below_alloc _ _).mono (by simp; omega))) hG7 (fun q hq => by have := OwnsQ.block HO6.out q hq; omega) (by simp; omega))
                  have HP7 : Hid (PsAt w7 p (V.drop n) 0) := by
                    refine hid (PsAt.same (HP6.out.below (below_alloc _ _) HP6.out.lt) (hG7.block p (by simp; omega) (fun e => ?_)))
                    have := OwnsQ.block HO6.out p e.symm
                    omega
                  have HO7 := hid hO7
                  clear hO7 hG7
                  go_wp2
                  go_roundg (V.drop n).length
                  case measure => have := HHV.out.1; have := HVG.out; omega
                  case rel => exact ⟨V.drop n, es2 ++ [e1], rfl, rfl, HI2.out, by have := HHV.out.2; rw [List.length_append, List.length_singleton]; omega, HP7.out, HO7.out, HB7.out⟩
            · have hmin : min (d : Int) m = (d : Int) := by omega
              have hN : k + d ≤ s0.size := by omega
              have hx : s0.extract k (k + d) = ⟨((L.drop k).take d).toArray⟩ := by
                rw [HS0.out, extract_list, show k + d - k = d by omega]
              have hinv2 := HINV.out.feed (n := d) (by have := HZ0.out; omega)
              have hF := feed_any p W ((L.drop k).take d) 0 wr HPs.out (by omega)
              have hfl : ¬ 65536 < W.length + ((L.drop k).take d).length := by rw [List.length_take]; omega
              rw [(fed_ok hfl).1, (fed_ok hfl).2, ← hx] at hF
              have hx1 : (k : Int) + (d : Int) ≤ (s0.size : Int) := by omega
              have hcnt2 : es.length + (W ++ (L.drop k).take d).length ≤ k + d := by rw [List.length_append, List.length_take]; omega
              have HINV2 := hid hinv2
              have HCN2 := hid hcnt2
              clear hx hinv2 hfl HFST HOR hcnt2 HINV
              go_wp2_with fail
              refine hF.mono ?_
              clear hF
              rintro e w3 ⟨rfl, hP3, hK3⟩
              have hs3 := hK3.size
              have HB3 := hid (Below.keptC HB.out hK3 (Nat.le_refl _) (by omega))
              have HO3 := hid (HO.out.kept hK3 (by omega))
              have HP3 := hid hP3
              have hp3 := hP3.lt
              clear hP3 hK3 HB HO HPs
              go_wp2_with fail
              go_loopg [8, 10] (W ++ (L.drop k).take d).length (fun g gt bk w4 => ∃ (V : List UInt8) (es2 : List RqE), V.length = g ∧ bk = .int .i64 0 ∧ CutInv L (k + d) V es2 0 ∧ es2.length + V.length ≤ k + d ∧ PsAt w4 p V 0 ∧ OwnsQ w4 (p + 1) gt es2 ∧ Below p w1 w4)
              case atStart => exact ⟨_, es, rfl, rfl, HINV2.out, HCN2.out, HP3.out, HO3.out, HB3.out⟩
              clear HP3 HO3 HB3 HINV2 HCN2
              case round =>
                obtain ⟨V, es2, hVg, rfl, hinv, hcnt2, hPs, hO, hB⟩ := hrel
                have hp4 := hPs.lt
                have HINV := hid hinv
                have HO := hid hO
                have HB := hid hB
                obtain ⟨aoh, caph, hsh⟩ := hO.shape
                subst hsh
                have hNx := next_any p V 0 wr (HM.out.below (HQ1.out.trans (hB.mono (by omega))) hgl) hPs (by omega)
                have HVG := hid hVg
                clear hinv hO hB hPs hVg
                match hT : firstL V with
                | .error none =>
                  rw [nxt_more hT] at hNx
                  simp only at hNx
                  have HT := hid hT
                  clear hT
                  go_wp2_with fail
                  refine hNx.mono ?_
                  clear hNx
                  rintro e w5 ⟨u5, rfl, hO5, hP5, hK5⟩
                  obtain ⟨e1, he1, rfl, hp1⟩ := hO5.elem
                  simp only [RqE.val, reqV, RqE.vf, RqE.vq]
                  have hs5 := hK5.size
                  have hB5 := Below.keptC HB.out hK5 (Nat.le_refl _) (by omega)
                  have hQ5 := HO.out.kept hK5 (by omega)
                  have hBa := below_alloc w5 (.cells #[.string ⟨e1.q.head.1.toArray⟩, .string ⟨e1.q.head.2.1.toArray⟩, .int .i64 e1.q.head.2.2.1, .slice e1.af e1.q.head.2.2.2.length e1.cf, .string ⟨e1.q.path.toArray⟩, .slice e1.aq e1.q.query.length e1.cq, .string ⟨e1.q.body.toArray⟩, .bool e1.q.close] 38)
                  have HP6 := hid (hP5.below hBa hP5.lt)
                  have HO6 := hid (hQ5.below hBa)
                  have HB6 := hid (hB5.trans (hBa.mono (by omega)))
                  clear hO5 hp1 he1 hP5 hK5 hB5 hQ5 hBa HB HO
                  go_wp2
                  go_roundw
                  case rel => exact ⟨k + d, j + 1, V, es2, 0, by first | rfl | go_num, rfl, by go_num, by omega, by omega, Or.inl (by omega), HINV.out, fun _ => HT.out, hcnt2, HP6.out, HO6.out, HB6.out⟩
                  case measure => simp [intOf]; omega
                | .error (some t) =>
                  rw [nxt_wrong hT] at hNx
                  simp only at hNx
                  have HI2 := hid (HINV.out.bad (by omega) hT)
                  have HT0 := hid (stat4_ne (first_stat hT))
                  clear hT
                  go_wp2_with fail
                  refine hNx.mono ?_
                  clear hNx
                  rintro e w5 ⟨u5, rfl, hO5, hP5, hK5⟩
                  obtain ⟨e1, he1, rfl, hp1⟩ := hO5.elem
                  simp only [RqE.val, reqV, RqE.vf, RqE.vq]
                  have hs5 := hK5.size
                  have hB5 := Below.keptC HB.out hK5 (Nat.le_refl _) (by omega)
                  have hQ5 := HO.out.kept hK5 (by omega)
                  have hBa := below_alloc w5 (.cells #[.string ⟨e1.q.head.1.toArray⟩, .string ⟨e1.q.head.2.1.toArray⟩, .int .i64 e1.q.head.2.2.1, .slice e1.af e1.q.head.2.2.2.length e1.cf, .string ⟨e1.q.path.toArray⟩, .slice e1.aq e1.q.query.length e1.cq, .string ⟨e1.q.body.toArray⟩, .bool e1.q.close] 38)
                  have HP6 := hid (hP5.below hBa hP5.lt)
                  have HO6 := hid (hQ5.below hBa)
                  have HB6 := hid (hB5.trans (hBa.mono (by omega)))
                  clear hO5 hp1 he1 hP5 hK5 hB5 hQ5 hBa HB HO
                  go_wp2
                  go_roundw
                  case rel => exact ⟨k + d, j + 1, [], es2, t, by first | rfl | go_num, rfl, by go_num, by omega, by omega, Or.inr (Or.inr HT0.out), HI2.out, fun h => absurd h HT0.out, by simp; omega, HP6.out, HO6.out, HB6.out⟩
                  case measure => simp [intOf]; omega
                | .ok (q, n) =>
                  rw [nxt_got hT] at hNx
                  simp only at hNx
                  have hn := firstL_got hT
                  have HT := hid hT
                  have HHV := hid (show (V.drop n).length < V.length ∧ es2.length + 1 + (V.drop n).length ≤ es2.length + V.length by rw [List.length_drop]; omega)
                  clear hT
                  go_wp2_with fail
                  refine hNx.mono ?_
                  clear hNx
                  rintro e w5 ⟨u5, rfl, hO5, hP5, hK5⟩
                  obtain ⟨e1, he1, rfl, hp1⟩ := hO5.elem
                  simp only [RqE.val, reqV, RqE.vf, RqE.vq]
                  have hs5 := hK5.size
                  have hB5 := Below.keptC HB.out hK5 (Nat.le_refl _) (by omega)
                  have hQ5 := HO.out.kept hK5 (by omega)
                  have hBa := below_alloc w5 (.cells #[.string ⟨e1.q.head.1.toArray⟩, .string ⟨e1.q.head.2.1.toArray⟩, .int .i64 e1.q.head.2.2.1, .slice e1.af e1.q.head.2.2.2.length e1.cf, .string ⟨e1.q.path.toArray⟩, .slice e1.aq e1.q.query.length e1.cq, .string ⟨e1.q.body.toArray⟩, .bool e1.q.close] 38)
                  have HP6 := hid (hP5.below hBa hP5.lt)
                  have HO6 := hid (hQ5.below hBa)
                  have HB6 := hid (hB5.trans (hBa.mono (by omega)))
                  have HI2 : Hid (CutInv L (k + d) (V.drop n) (es2 ++ [e1]) 0) := hid (HINV.out.got (by omega) (by rw [he1]; exact HT.out))
                  have HPP := hid hp1
                  have hB34 := hBa
                  have hal := ReqAt.new w5 (.string ⟨e1.q.head.1.toArray⟩) (.string ⟨e1.q.head.2.1.toArray⟩) (.int .i64 e1.q.head.2.2.1) (.slice e1.af e1.q.head.2.2.2.length e1.cf) (.string ⟨e1.q.path.toArray⟩) (.slice e1.aq e1.q.query.length e1.cq) (.string ⟨e1.q.body.toArray⟩) (.bool e1.q.close)
                  obtain ⟨y0, y1, y2, y3, y4, y5, y6, y7⟩ := hal.cells
                  have hcap2 : (es2.length + 1) * 128 ≤ 140737488355328 := by omega
                  have hpl5 := hP5.lt
                  clear hO5 hp1 he1 hP5 hK5 hB5 hQ5 hBa HB HO hal HT HINV
                  go_wp2_with (first | (at_builtin; refine wpList_appQ rfl _ _ rfl (p + 1) (.slice aoh es2.length caph) es2 rfl ?ho _ e1 rfl ?hs ?hp hcap2 ?hbase ?_; (case hs => exact news_at _ _ (by simp) e1 38); (case ho => exact HO6.out.below (below_alloc _ _)); (case hp => exact ⟨OwnsP.low (OwnsP.below (OwnsP.below HPP.out.1 hB34) (below_alloc _ _)) (by omega), OwnsP.low (OwnsP.below (OwnsP.below HPP.out.2 hB34) (below_alloc _ _)) (by omega)⟩); (case hbase => simp; omega); intro v7 w7 hO7 hG7))
                  have HB7 := hid (below_grownBy (HB6.out.trans ((below_alloc _ _).mono (by simp; omega))) hG7 (fun q hq => by have := OwnsQ.block HO6.out q hq; omega) (by simp; omega))
                  have HP7 : Hid (PsAt w7 p (V.drop n) 0) := by
                    refine hid (PsAt.same (HP6.out.below (below_alloc _ _) HP6.out.lt) (hG7.block p (by simp; omega) (fun e => ?_)))
                    have := OwnsQ.block HO6.out p e.symm
                    omega
                  have HO7 := hid hO7
                  clear hO7 hG7
                  go_wp2
                  go_roundg (V.drop n).length
                  case measure => have := HHV.out.1; have := HVG.out; omega
                  case rel => exact ⟨V.drop n, es2 ++ [e1], rfl, rfl, HI2.out, by have := HHV.out.2; rw [List.length_append, List.length_singleton]; omega, HP7.out, HO7.out, HB7.out⟩
        · have hj1' : ¬ (j : Int) < (xs.length : Int) := by omega
          have hN : k + d ≤ s0.size := by omega
          have hx : s0.extract k (k + d) = ⟨((L.drop k).take d).toArray⟩ := by
            rw [HS0.out, extract_list, show k + d - k = d by omega]
          have hinv2 := HINV.out.feed (n := d) (by have := HZ0.out; omega)
          have hF := feed_any p W ((L.drop k).take d) 0 wr HPs.out (by omega)
          have hfl : ¬ 65536 < W.length + ((L.drop k).take d).length := by rw [List.length_take]; omega
          rw [(fed_ok hfl).1, (fed_ok hfl).2, ← hx] at hF
          have hx1 : (k : Int) + (d : Int) ≤ (s0.size : Int) := by omega
          have hcnt2 : es.length + (W ++ (L.drop k).take d).length ≤ k + d := by rw [List.length_append, List.length_take]; omega
          have HINV2 := hid hinv2
          have HCN2 := hid hcnt2
          clear hx hinv2 hfl HFST HOR hcnt2 HINV
          go_wp2_with fail
          refine hF.mono ?_
          clear hF
          rintro e w3 ⟨rfl, hP3, hK3⟩
          have hs3 := hK3.size
          have HB3 := hid (Below.keptC HB.out hK3 (Nat.le_refl _) (by omega))
          have HO3 := hid (HO.out.kept hK3 (by omega))
          have HP3 := hid hP3
          have hp3 := hP3.lt
          clear hP3 hK3 HB HO HPs
          go_wp2_with fail
          go_loopg [8, 10] (W ++ (L.drop k).take d).length (fun g gt bk w4 => ∃ (V : List UInt8) (es2 : List RqE), V.length = g ∧ bk = .int .i64 0 ∧ CutInv L (k + d) V es2 0 ∧ es2.length + V.length ≤ k + d ∧ PsAt w4 p V 0 ∧ OwnsQ w4 (p + 1) gt es2 ∧ Below p w1 w4)
          case atStart => exact ⟨_, es, rfl, rfl, HINV2.out, HCN2.out, HP3.out, HO3.out, HB3.out⟩
          clear HP3 HO3 HB3 HINV2 HCN2
          case round =>
            obtain ⟨V, es2, hVg, rfl, hinv, hcnt2, hPs, hO, hB⟩ := hrel
            have hp4 := hPs.lt
            have HINV := hid hinv
            have HO := hid hO
            have HB := hid hB
            obtain ⟨aoh, caph, hsh⟩ := hO.shape
            subst hsh
            have hNx := next_any p V 0 wr (HM.out.below (HQ1.out.trans (hB.mono (by omega))) hgl) hPs (by omega)
            have HVG := hid hVg
            clear hinv hO hB hPs hVg
            match hT : firstL V with
            | .error none =>
              rw [nxt_more hT] at hNx
              simp only at hNx
              have HT := hid hT
              clear hT
              go_wp2_with fail
              refine hNx.mono ?_
              clear hNx
              rintro e w5 ⟨u5, rfl, hO5, hP5, hK5⟩
              obtain ⟨e1, he1, rfl, hp1⟩ := hO5.elem
              simp only [RqE.val, reqV, RqE.vf, RqE.vq]
              have hs5 := hK5.size
              have hB5 := Below.keptC HB.out hK5 (Nat.le_refl _) (by omega)
              have hQ5 := HO.out.kept hK5 (by omega)
              have hBa := below_alloc w5 (.cells #[.string ⟨e1.q.head.1.toArray⟩, .string ⟨e1.q.head.2.1.toArray⟩, .int .i64 e1.q.head.2.2.1, .slice e1.af e1.q.head.2.2.2.length e1.cf, .string ⟨e1.q.path.toArray⟩, .slice e1.aq e1.q.query.length e1.cq, .string ⟨e1.q.body.toArray⟩, .bool e1.q.close] 38)
              have HP6 := hid (hP5.below hBa hP5.lt)
              have HO6 := hid (hQ5.below hBa)
              have HB6 := hid (hB5.trans (hBa.mono (by omega)))
              clear hO5 hp1 he1 hP5 hK5 hB5 hQ5 hBa HB HO
              go_wp2
              go_roundw
              case rel => exact ⟨k + d, j + 1, V, es2, 0, by first | rfl | go_num, rfl, by go_num, by omega, by omega, Or.inr (Or.inl HDK.out), HINV.out, fun _ => HT.out, hcnt2, HP6.out, HO6.out, HB6.out⟩
              case measure => simp [intOf]; omega
            | .error (some t) =>
              rw [nxt_wrong hT] at hNx
              simp only at hNx
              have HI2 := hid (HINV.out.bad (by omega) hT)
              have HT0 := hid (stat4_ne (first_stat hT))
              clear hT
              go_wp2_with fail
              refine hNx.mono ?_
              clear hNx
              rintro e w5 ⟨u5, rfl, hO5, hP5, hK5⟩
              obtain ⟨e1, he1, rfl, hp1⟩ := hO5.elem
              simp only [RqE.val, reqV, RqE.vf, RqE.vq]
              have hs5 := hK5.size
              have hB5 := Below.keptC HB.out hK5 (Nat.le_refl _) (by omega)
              have hQ5 := HO.out.kept hK5 (by omega)
              have hBa := below_alloc w5 (.cells #[.string ⟨e1.q.head.1.toArray⟩, .string ⟨e1.q.head.2.1.toArray⟩, .int .i64 e1.q.head.2.2.1, .slice e1.af e1.q.head.2.2.2.length e1.cf, .string ⟨e1.q.path.toArray⟩, .slice e1.aq e1.q.query.length e1.cq, .string ⟨e1.q.body.toArray⟩, .bool e1.q.close] 38)
              have HP6 := hid (hP5.below hBa hP5.lt)
              have HO6 := hid (hQ5.below hBa)
              have HB6 := hid (hB5.trans (hBa.mono (by omega)))
              clear hO5 hp1 he1 hP5 hK5 hB5 hQ5 hBa HB HO
              go_wp2
              go_roundw
              case rel => exact ⟨k + d, j + 1, [], es2, t, by first | rfl | go_num, rfl, by go_num, by omega, by omega, Or.inr (Or.inr HT0.out), HI2.out, fun h => absurd h HT0.out, by simp; omega, HP6.out, HO6.out, HB6.out⟩
              case measure => simp [intOf]; omega
            | .ok (q, n) =>
              rw [nxt_got hT] at hNx
              simp only at hNx
              have hn := firstL_got hT
              have HT := hid hT
              have HHV := hid (show (V.drop n).length < V.length ∧ es2.length + 1 + (V.drop n).length ≤ es2.length + V.length by rw [List.length_drop]; omega)
              clear hT
              go_wp2_with fail
              refine hNx.mono ?_
              clear hNx
              rintro e w5 ⟨u5, rfl, hO5, hP5, hK5⟩
              obtain ⟨e1, he1, rfl, hp1⟩ := hO5.elem
              simp only [RqE.val, reqV, RqE.vf, RqE.vq]
              have hs5 := hK5.size
              have hB5 := Below.keptC HB.out hK5 (Nat.le_refl _) (by omega)
              have hQ5 := HO.out.kept hK5 (by omega)
              have hBa := below_alloc w5 (.cells #[.string ⟨e1.q.head.1.toArray⟩, .string ⟨e1.q.head.2.1.toArray⟩, .int .i64 e1.q.head.2.2.1, .slice e1.af e1.q.head.2.2.2.length e1.cf, .string ⟨e1.q.path.toArray⟩, .slice e1.aq e1.q.query.length e1.cq, .string ⟨e1.q.body.toArray⟩, .bool e1.q.close] 38)
              have HP6 := hid (hP5.below hBa hP5.lt)
              have HO6 := hid (hQ5.below hBa)
              have HB6 := hid (hB5.trans (hBa.mono (by omega)))
              have HI2 : Hid (CutInv L (k + d) (V.drop n) (es2 ++ [e1]) 0) := hid (HINV.out.got (by omega) (by rw [he1]; exact HT.out))
              have HPP := hid hp1
              have hB34 := hBa
              have hal := ReqAt.new w5 (.string ⟨e1.q.head.1.toArray⟩) (.string ⟨e1.q.head.2.1.toArray⟩) (.int .i64 e1.q.head.2.2.1) (.slice e1.af e1.q.head.2.2.2.length e1.cf) (.string ⟨e1.q.path.toArray⟩) (.slice e1.aq e1.q.query.length e1.cq) (.string ⟨e1.q.body.toArray⟩) (.bool e1.q.close)
              obtain ⟨y0, y1, y2, y3, y4, y5, y6, y7⟩ := hal.cells
              have hcap2 : (es2.length + 1) * 128 ≤ 140737488355328 := by omega
              have hpl5 := hP5.lt
              clear hO5 hp1 he1 hP5 hK5 hB5 hQ5 hBa HB HO hal HT HINV
              go_wp2_with (first | (at_builtin; refine wpList_appQ rfl _ _ rfl (p + 1) (.slice aoh es2.length caph) es2 rfl ?ho _ e1 rfl ?hs ?hp hcap2 ?hbase ?_; (case hs => exact news_at _ _ (by simp) e1 38); (case ho => exact HO6.out.below (below_alloc _ _)); (case hp => exact ⟨OwnsP.low (OwnsP.below (OwnsP.below HPP.out.1 hB34) (below_alloc _ _)) (by omega), OwnsP.low (OwnsP.below (OwnsP.below HPP.out.2 hB34) (below_alloc _ _)) (by omega)⟩); (case hbase => simp; omega); intro v7 w7 hO7 hG7))
              have HB7 := hid (below_grownBy (HB6.out.trans ((below_alloc _ _).mono (by simp; omega))) hG7 (fun q hq => by have := OwnsQ.block HO6.out q hq; omega) (by simp; omega))
              have HP7 : Hid (PsAt w7 p (V.drop n) 0) := by
                refine hid (PsAt.same (HP6.out.below (below_alloc _ _) HP6.out.lt) (hG7.block p (by simp; omega) (fun e => ?_)))
                have := OwnsQ.block HO6.out p e.symm
                omega
              have HO7 := hid hO7
              clear hO7 hG7
              go_wp2
              go_roundg (V.drop n).length
              case measure => have := HHV.out.1; have := HVG.out; omega
              case rel => exact ⟨V.drop n, es2 ++ [e1], rfl, rfl, HI2.out, by have := HHV.out.2; rw [List.length_append, List.length_singleton]; omega, HP7.out, HO7.out, HB7.out⟩
      · have hst : st = 0 → k = s0.size := by
          intro h0
          rcases HOR.out with h | h | h
          · apply Classical.byContradiction
            intro hne
            exact hgo ⟨h, by omega, h0⟩
          · exact h
          · exact absurd h0 h
        have hfin := HINV.out.fin (by omega) (fun h0 => ⟨HFST.out h0, by rw [hst h0]; exact HZ0.out⟩)
        have hseen1 := (HO1.out.below (show Below w1.heap.size w1 wr by have := HB.out; rw [HP.out] at this; exact this)).sees
        have hSA := rsameAll_any (.slice aog es.length capg) (.slice ao1 es1.length cap1) es es1 wr HO.out.sees hseen1 (by omega) (fun e he => by have := HINV.out.1 e he; omega)
        have hq1 : es.map RqE.q = es1.map RqE.q := by rw [HE1.out, hfin]
        have hq2 : (st == (allL L).2) = true := by rw [hfin, beq_iff_eq]
        have HQE := hid hq1
        obtain ⟨sx, hsx⟩ : ∃ sx, sx = (allL L).2 := ⟨_, rfl⟩
        rw [← hsx] at hq2 ⊢
        have hgoal : (j ≤ xs.length ∧ k < s0.size ∧ st = 0) ∨ ¬ (j ≤ xs.length ∧ k < s0.size ∧ st = 0) := Or.inr hgo
        clear hfin hseen1 hq1 hsx hst HINV HFST HOR hgoal
        by_cases x1 : j ≤ xs.length
        · have x1' : (j : Int) ≤ (xs.length : Int) := by omega
          by_cases x2 : k < s0.size
          · have x2' : (k : Int) < (s0.size : Int) := by omega
            have x3' : (st == 0) = false := by rw [beq_eq_false_iff_ne]; exact fun h => hgo ⟨x1, x2, h⟩
            clear hgo
            go_wp2_with fail
            refine hSA.mono ?_
            clear hSA
            rintro e w3 ⟨r3, rfl, hr3, q3⟩
            have hrt : r3 = true := hr3.2 HQE.out
            subst hrt
            have hs3 := q3.size
            have hB3 := HQ1.out.trans ((HB.out.trans (q3.mono (by omega))).mono (by omega))
            have hAW := awakeP_any w3 (HM.out.below hB3 hgl)
            have HB3 := hid hB3
            clear hr3 q3 hB3
            go_wp2_with fail
            refine hAW.mono ?_
            clear hAW
            rintro e w4 ⟨rfl, q4⟩
            have hs4 := HB3.out.size
            go_wp2
            go_ret
            exact ⟨rfl, HB3.out.trans (q4.mono hs4)⟩
          · have x2' : decide ((k : Int) < (s0.size : Int)) = false := by simp; omega
            have x2n : ¬ (k : Int) < (s0.size : Int) := by omega
            clear hgo
            go_wp2_with fail
            refine hSA.mono ?_
            clear hSA
            rintro e w3 ⟨r3, rfl, hr3, q3⟩
            have hrt : r3 = true := hr3.2 HQE.out
            subst hrt
            have hs3 := q3.size
            have hB3 := HQ1.out.trans ((HB.out.trans (q3.mono (by omega))).mono (by omega))
            have hAW := awakeP_any w3 (HM.out.below hB3 hgl)
            have HB3 := hid hB3
            clear hr3 q3 hB3
            go_wp2_with fail
            refine hAW.mono ?_
            clear hAW
            rintro e w4 ⟨rfl, q4⟩
            have hs4 := HB3.out.size
            go_wp2
            go_ret
            exact ⟨rfl, HB3.out.trans (q4.mono hs4)⟩
        · have x1' : decide ((j : Int) ≤ (xs.length : Int)) = false := by simp; omega
          have x1n : ¬ (j : Int) ≤ (xs.length : Int) := by omega
          clear hgo
          go_wp2_with fail
          refine hSA.mono ?_
          clear hSA
          rintro e w3 ⟨r3, rfl, hr3, q3⟩
          have hrt : r3 = true := hr3.2 HQE.out
          subst hrt
          have hs3 := q3.size
          have hB3 := HQ1.out.trans ((HB.out.trans (q3.mono (by omega))).mono (by omega))
          have hAW := awakeP_any w3 (HM.out.below hB3 hgl)
          have HB3 := hid hB3
          clear hr3 q3 hB3
          go_wp2_with fail
          refine hAW.mono ?_
          clear hAW
          rintro e w4 ⟨rfl, q4⟩
          have hs4 := HB3.out.size
          go_wp2
          go_ret
          exact ⟨rfl, HB3.out.trans (q4.mono hs4)⟩

end Go.Proofs.YtllhibdjopfcnaaDoor

namespace Go.Proofs.YtllhibdjopfcnaaDoor
open Go.ChangeShapes Go.WideShapes Go.ChangeAt Go.RowKit
set_option linter.unusedVariables false

theorem weights_argZ {H : Type} {ts : List TypeId} {ds : List (DataW H)} (h : (DataW.weightsEach Tryd.prog ts ds).all (· ≤ reachBytes) = true) {j : Nat} {t : TypeId} {d : DataW H} (ht : ts[j]? = some t) (hd : ds[j]? = some d) :
    ∀ n, n ∈ d.weights Tryd.prog t → n ≤ reachBytes := fun n hn => by
  have := List.all_eq_true.1 h n (DataW.weights_mem_each ht hd n hn)
  simpa using this
set_option maxRecDepth 100000 in
theorem intsZ_arg {H : Type} {enc : TypeId × Value → H} {W : World} {base : Nat} {v : Value} {d : DataW H} {p : List MemPlace}
    (hval : Value.okWide Tryd.prog W .any base 26 v) (h : DataW.Trod enc Tryd.prog W 0 (fun _ => true) true 26 v d p) (hw : ∀ n, n ∈ d.weights Tryd.prog 26 → n ≤ reachBytes) : ∃ xs, SeesZ W v xs ∧ xs.length ≤ 4611686018427387904 := by
  obtain ⟨a0, len0, cap0, rfl⟩ := okWide_slice Tryd.underlying26 hval
  obtain ⟨fuel, hf⟩ := h
  rcases open_ints Tryd.underlying26 Tryd.underlying3 (by kernel_rfl) hf with ⟨hcs, hx⟩ | ⟨a, len, cap, zs, hcs, _, hl, hm, hz, hx, hcell, hwz⟩
  · simp [Value.cells] at hcs
    obtain ⟨rfl, rfl, rfl⟩ := hcs
    exact ⟨[], ⟨0, 0, none, 0, rfl, Nat.le_refl _, fun _ => rfl, fun h => absurd rfl h, fun j hj => by simp at hj⟩, by simp⟩
  · simp [Value.cells] at hcs
    obtain ⟨rfl, rfl, rfl⟩ := hcs
    have hz' : zs.length = cap0 := by simpa using hz
    have hlen : (zs.take len0).length = len0 := by rw [List.length_take]; omega
    refine ⟨zs.take len0, ?_, ?_⟩
    · by_cases h0 : len0 = 0
      · subst h0
        exact ⟨0, 0, some a, cap0, rfl, Nat.zero_le _, (fun h => by cases h), fun h => absurd (by simp) h, fun j hj => by simp at hj⟩
      · obtain ⟨b, off, rfl, hc⟩ := ints_at hcell (by omega)
        refine ⟨b, off, _, cap0, by rw [hlen], by omega, (fun h => by cases h), fun _ => rfl, fun j hj => ?_⟩
        have hj' : j < len0 := by omega
        have hjz : j < zs.length := by omega
        rw [hc j (by omega)]
        simp [List.getD, hjz]
    · simp only [Prod.mk.injEq] at hx
      obtain ⟨rfl, _⟩ := hx
      have h3 : Tryd.prog.bytesOf 3 = 8 := by kernel_rfl
      have := hw (((lits (H := H) .i64 (zs.take len0)).length + (lits (H := H) .i64 (zs.drop len0)).length) * Tryd.prog.bytesOf 3) (by simp [DataW.weights, Tryd.underlying26])
      rw [h3] at this
      simp only [lits, List.length_map, hlen] at this
      rw [hlen]
      have hr : reachBytes = 140737488351232 := rfl
      omega
end Go.Proofs.YtllhibdjopfcnaaDoor

namespace Go.Proofs.YtllhibdjopfcnaaDoor.parseCuts
open Go.ChangeShapes Go.WideShapes Go.ChangeAt Go.RowKit Go.ChangeMaps
set_option linter.unusedVariables false

set_option maxRecDepth 100000 in
theorem contract (H : Type) (enc : TypeId × Value → H) (W : World) (base : Nat) (args : Array Value) (ds gs : List (DataW H)) (before : List MemPlace)
    (hval : ∀ (j : Nat) t v, Tryd.f4.params[j]? = some t → args[j]? = some v → Value.okWide Tryd.prog W .any base t v)
    (hW : DataW.Whole enc Tryd.prog Tryd.f4.params.toList Rows.parseCutsSpec.vars false W args.toList ds gs before) (hM : ML W) (hz : (DataW.weightsEach Tryd.prog (Tryd.f4.params.toList ++ Rows.parseCutsSpec.plain.varTypes Tryd.prog) (ds ++ gs)).all (· ≤ reachBytes) = true) :
    Calls Tryd.prog 4 args W fun e W' => ∃ v, e = .returned v ∧ Rows.parseCutsSpec.post enc Tryd.prog Tryd.f4 false true false false W args v W' := by
  have hW' := hW
  obtain ⟨p, q, hA0, hV, rfl, hfz, hnd⟩ := hW
  have hA : DataW.TrodAll enc Tryd.prog W 0 (fun _ => true) true Tryd.f4.params.toList args.toList ds p := hA0
  rw [Tryd.params4] at hA hval hz
  obtain ⟨v0, vs0, d0, ds0, p0, q0, hargs, rfl, rfl, h0, r0⟩ := trodAll_cons hA
  obtain ⟨v1, vs1, d1, ds1, p1, q1, rfl, rfl, rfl, h1, r1⟩ := trodAll_cons r0
  obtain ⟨rfl, rfl, rfl⟩ := trodAll_nil r1
  obtain rfl : args = #[v0, v1] := by cases args; simp_all
  obtain ⟨rfl, rfl⟩ := trodVars_none hV
  obtain ⟨s0, rfl, rfl, rfl, ml0⟩ := open_string Tryd.underlying9 (hval 0 9 v0 rfl rfl) h0
  obtain ⟨x1, hx1, lx1⟩ := intsZ_arg (hval 1 26 v1 rfl rfl) h1 (weights_argZ hz (j := 1) rfl rfl)
  have lt1 : ∀ x ∈ p1, x.block < W.heap.size := by obtain ⟨m, hm⟩ := h1; exact DataW.trod_lt m _ _ _ hm
  clear hA0
  refine (cuts_walk s0 v1 x1 W hM hx1 lx1).mono fun e W' ⟨he, bel⟩ => ?_
  subst he
  exact ⟨_, rfl, _, _, _, [], _, [], hW', trodAll_mk1 (shut_bool Tryd.underlying4 _), (trodAll_cons_mk (shut_string Tryd.underlying9 ml0) (trodAll_cons_mk (Below.trod laidOut (by kernel_rfl) (of_decide_eq_true (by kernel_rfl)) h1 bel lt1) trodAll_mk0)), rfl, bel.frame _, fun h => by cases h⟩

theorem reads (os : Os) {H : Type} (enc : TypeId × Value → H) : ∃ places, DataW.whole enc Tryd.prog (({ World.holding Tryd.prog os ⟨#[], #[], []⟩ with heap := ((World.holding Tryd.prog os ⟨#[], #[], []⟩).heap.modify 2 layRanges).modify 1 layFirst } : World).forCall (fun _ _ => 0) ⟨#[], #[.string { data := #[] }, .slice none 0 0], []⟩).memory Tryd.f4.params.toList Rows.parseCutsSpec.vars false (#[.string { data := #[] }, .slice none 0 0] : Array Value).toList 8 = some ([.lit (.string []), .nil], [], places) :=
  ⟨[], by kernel_rfl⟩

set_option maxRecDepth 100000 in
theorem lifted (os : Os) (started : os.Started) (H : Type) (enc : TypeId × Value → H) (F : Stop.Interp) :
    ReturnsInHanded {} Tryd.checked os 4 .any ((OpenSpec.ofChange Rows.parseCutsSpec).preRow enc Tryd.prog Tryd.f4 Rows.parseCutsRow.domain false Rows.parseCutsRow.laid) (((OpenSpec.ofChange Rows.parseCutsSpec).at F).post enc Tryd.prog Tryd.f4 false true false false) := by
  obtain ⟨places, hx⟩ := reads os enc
  refine returnsInHanded_of_row (C := Tryd.checked) (s := OpenSpec.ofChange Rows.parseCutsSpec) own started (by kernel_rfl) Tryd.func4
    (witness_row_at (enc := enc) (C := Tryd.checked) false { World.holding Tryd.prog os ⟨#[], #[], []⟩ with heap := ((World.holding Tryd.prog os ⟨#[], #[], []⟩).heap.modify 2 layRanges).modify 1 layFirst } #[.string { data := #[] }, .slice none 0 0] rfl (by kernel_rfl) (by kernel_rfl) (by kernel_rfl)
      (OpenSpec.preRow_of_cond 8 hx (by kernel_rfl) (fun k hk => by cases hk) (by kernel_rfl) (laid_met os _))) ?_
  intro W base args ds gs before hval hW _ hcond hz hL hsh _
  exact contract H enc W base args ds gs before hval hW (ml_of hsh) hz

theorem said : Rows.ParseCutsSaid :=
  OpenClaim.holds_of_cond 4 Tryd.f4 rfl rfl rfl rfl rfl rfl rfl ⟨rfl, rfl, rfl, rfl, rfl⟩ rfl rfl rfl rfl rfl (by kernel_rfl) Tryd.func4 (by kernel_rfl)
    (of_decide_eq_true (by kernel_rfl)) (by unfold Func.isWrapper; first | (rw [if_pos (by decide +kernel)]; kernel_rfl) | (rw [if_neg (by decide +kernel)]; exact ⟨rfl, rfl⟩))
    (fun os started H enc _ F => by rw [OpenClaim.pre_eq_preRow]; exact lifted os started H enc F)

theorem plain (f : FuncId) (fn : Func) (hf : Tryd.pinned.checked.prog.funcNamed "cloister/cloisterlaw08.ParseCuts" = some f) (hfn : Tryd.pinned.checked.prog.funcs[f]? = some fn) :
    false = Tryd.pinned.checked.prog.looks [] ∧ ∀ (j : Nat) t, fn.params[j]? = some t → Tryd.pinned.checked.prog.wantsStandIn t = false := by
  obtain rfl : f = 4 := Option.some.inj ((show Tryd.prog.funcNamed "cloister/cloisterlaw08.ParseCuts" = some 4 by kernel_rfl).symm.trans hf) |>.symm
  obtain rfl : fn = Tryd.f4 := (Option.some.inj (Tryd.func4.symm.trans hfn)).symm
  refine ⟨by kernel_rfl, fun j t ht => ?_⟩
  rw [Tryd.params4] at ht
  have hm := Array.mem_of_getElem? ht
  simp only [List.mem_toArray, List.mem_cons, List.not_mem_nil, or_false] at hm
  rcases hm with rfl | rfl
  · exact (show Tryd.prog.wantsStandIn 9 = false by kernel_rfl)
  · exact (show Tryd.prog.wantsStandIn 26 = false by kernel_rfl)

theorem card : Rows.ParseCutsCardSaid :=
  Claim7.holds_tied_plain_at .later [] _ _ _ _ said (fun _ h => by cases h) (by kernel_rfl) (fun _ h => by cases h) parseCuts_row_tie rfl ⟨rfl, rfl⟩ (by kernel_rfl) rfl plain (by kernel_rfl)

end Go.Proofs.YtllhibdjopfcnaaDoor.parseCuts
namespace Go.Proofs.YtllhibdjopfcnaaDoor
theorem parseCuts_holds : Rows.ParseCutsCardSaid := parseCuts.card
end Go.Proofs.YtllhibdjopfcnaaDoor
