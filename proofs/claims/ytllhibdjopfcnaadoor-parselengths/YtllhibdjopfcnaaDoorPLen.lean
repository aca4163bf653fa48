/-
  The walk of the law ParseLengths.
-/
import Derived.Test.YtllhibdjopfcnaaDoorPNext
import Derived.Test.YtllhibdjopfcnaaDoorPAll
import Derived.Test.YtllhibdjopfcnaaDoorPLenM
import Derived.Deep.LoopGhost
namespace Go.Proofs.YtllhibdjopfcnaaDoor
open Go.RowKit
set_option linter.unusedVariables false

theorem eqlc_some_nilL (a : Addr) (w : World) : (binOp .eql 30 (.pointer (some a)) (.pointer none)).run Tryd.prog w = .ok (.bool false) w := by
  have h : ∀ d : Nat, (Op.equalIn (d + 1) 30 (.pointer (some a)) (.pointer none)).run Tryd.prog w = .ok false w := fun d => by
    simp [Op.equalIn, run_underlying Tryd.underlying30]
  simp only [binOp]
  simp [Op.equal, Op.maxDepth, h 9999]
theorem Below.keptL {b p B : Nat} {w0 w w' : World} (h : Below b w0 w) (k : Kept p B w w') (hb : b ≤ p) (hB : b ≤ B) : Below b w0 w' :=
  ⟨k.os.trans h.os, k.tape.trans h.tape, k.output.trans h.output, Nat.le_trans h.size k.size, fun i hi => (k.block i (by omega) (by omega)).trans (h.block i hi)⟩

set_option maxRecDepth 40000 in
set_option maxHeartbeats 16000000 in
theorem lens_walk (x y : Int) (w : World) (hM : ML w) :
    Calls Tryd.prog 8 #[.int .i64 x, .int .i64 y] w fun e w' => e = .returned (.bool true) ∧ Below w.heap.size w w' := by
  have hgl := hM.lt
  have HM := hid hM
  obtain ⟨n, hn, hx⟩ := and_low x
  obtain ⟨c, hc, hy⟩ := and_low y
  clear hM
  go_enter Tryd.func8, Tryd.ntmps8
  go_wp2_with fail
  go_loopw [6, 7] (fun u i wr => ∃ (l : List UInt8), l.length ≤ n ∧ i = .int .i64 (l.length : Int) ∧ OwnsB wr w.heap.size u l ∧ Below w.heap.size w wr) (fun _ i _ => n - (intOf i).toNat)
  case atStart => exact ⟨[], Nat.zero_le _, rfl, OwnsB.nil _ _, Below.refl _ _⟩
  case round =>
    obtain ⟨l, hl, rfl, hO, hB⟩ := hrel
    obtain ⟨k, hk⟩ : ∃ k, k = l.length := ⟨_, rfl⟩
    rw [← hk] at hl ⊢
    have hsw : w.heap.size ≤ wr.heap.size := hB.size
    obtain ⟨ao, cap, hsh⟩ := hO.shape
    rw [← hk] at hsh
    subst hsh
    have HO := hid hO
    have HBl := hid hB
    have HK := hid hk
    clear hO hB hk
    by_cases hlt : k < n
    · have hlt' : (k : Int) < (n : Int) := by omega
      have ht : (k : Int).tmod 251 = ((k % 251 : Nat) : Int) := by rw [Int.tmod_eq_emod_of_nonneg (by omega)]; omega
      go_wp2_with (first
        | (at_builtin
           refine wpList_appN rowBytes rfl _ _ rfl w.heap.size (.slice ao k cap) (l.map UInt8.toNat) rfl (OwnsB.below HO.out (below_alloc wr _)) _ [k % 251] rfl (sees_b1 _ _ _ ?hv) (by simp; have := HK.out; omega) (by simp; omega) ?_
           (case hv => rfl)
           intro v4 w4 hO4 hG4
           have HO4 : Hid (OwnsB w4 w.heap.size v4 (l ++ [UInt8.ofNat (k % 251)])) := by
             unfold Hid OwnsB
             simpa [Nat.mod_eq_of_lt (show k % 251 < 256 by omega)] using hO4
           have HB4 := hid (below_grownBy (HBl.out.trans ((below_alloc wr _).mono hsw)) hG4 (OwnsB.block HO.out) (by simp; omega))
           clear hO4 hG4)
        | fail)
      go_roundw
      case rel => exact ⟨l ++ [UInt8.ofNat (k % 251)], by rw [List.length_append, List.length_singleton, ← HK.out]; omega, by rw [List.length_append, List.length_singleton, ← HK.out]; go_num, HO4.out, HB4.out⟩
      case measure => simp [intOf]; omega
    · have hlt' : ¬ (k : Int) < (n : Int) := by omega
      have hkn : k = n := by omega
      subst hkn
      clear hlt hlt' hl hx
      go_wp2_with fail
      go_loopg [9, 10] (k + 1) (fun g ln mm wq => ∃ (m : Nat) (d : List UInt8), g = m + (if d = [] then 1 else 0) ∧ ln = .string ⟨d.toArray⟩ ∧ mm = .int .i64 (m : Int) ∧ DecInv k m d ∧ OwnsB wq w.heap.size (.slice ao k cap) l ∧ Below w.heap.size w wq)
      case atStart => exact ⟨k, [], rfl, rfl, rfl, Or.inl ⟨rfl, rfl⟩, HO.out, HBl.out⟩
      clear HO HBl hsw
      case round =>
        obtain ⟨m, d, hg, rfl, rfl, hD, hO, hB⟩ := hrel
        have HO := hid hO
        have HBl := hid hB
        have hsw : w.heap.size ≤ wr.heap.size := hB.size
        have hdl := (hD.len hn).1
        have hml := (hD.len hn).2
        have HG := hid hg
        obtain ⟨s, hs⟩ : ∃ s : ByteArray, s = ⟨d.toArray⟩ := ⟨_, rfl⟩
        have hsz : s.size = d.length := by rw [hs, size_list]
        rw [← hs]
        have HS := hid hs
        clear hO hB hg hs
        by_cases hgo : 0 < m ∨ d = []
        · have HD := hid (hD.step hgo)
          have ht : (m : Int).tmod 10 = ((m % 10 : Nat) : Int) := by rw [Int.tmod_eq_emod_of_nonneg (by omega)]; omega
          have hq : (m : Int).tdiv 10 = ((m / 10 : Nat) : Int) := by rw [Int.tdiv_eq_ediv_of_nonneg (by omega)]; omega
          have hdg := digit_str (m % 10) (by omega)
          have hm9 : ((m % 10 : Nat) : Int) + 1 ≤ 10 := by omega
          have HL := hid (show m / 10 < m + (if d = [] then 1 else 0) by
            rcases hgo with h | h
            · omega
            · rw [if_pos h]; omega)
          obtain ⟨r, hr⟩ : ∃ r, r = m % 10 := ⟨_, rfl⟩
          have hr9 : r ≤ 9 := by omega
          rw [← hr] at ht hdg hm9 HD
          obtain ⟨q, hq0⟩ : ∃ q, q = m / 10 := ⟨_, rfl⟩
          rw [← hq0] at hq HD HL
          have hq9 : q ≤ 32767 := by omega
          clear hD hr hq0
          by_cases h0 : 0 < m
          · have h0' : (0 : Int) < (m : Int) := by omega
            clear hgo
            go_wp2_with fail
            go_roundg q
            case measure => have := HG.out; have := HL.out; omega
            case rel => exact ⟨q, dgD r :: d, by simp, by rw [HS.out]; exact congrArg Value.string (str_joinL [dgD r] _), by go_num, HD.out, HO.out, HBl.out⟩
          · have h0' : ¬ (0 : Int) < (m : Int) := by omega
            have hd0 : d = [] := by rcases hgo with h | h; exact absurd h h0; exact h
            have hs0 : s = ⟨#[]⟩ := by rw [HS.out, hd0]
            subst hs0
            clear hgo
            go_wp2_with fail
            go_roundg q
            case measure => have := HG.out; have := HL.out; omega
            case rel => exact ⟨q, dgD r :: d, by simp, by rw [show d = [] from hd0]; exact congrArg Value.string (str_joinL [dgD r] _), by go_num, HD.out, HO.out, HBl.out⟩
        · have h0 : m = 0 := by omega
          subst h0
          have hd0 : d ≠ [] := fun h => hgo (Or.inr h)
          have hdw := hD.fin hd0
          have hse : s.toList.isEmpty = false := by
            rw [HS.out, ByteArray.toList_eq]
            cases d with
            | nil => exact absurd rfl hd0
            | cons _ _ => rfl
          subst hdw
          have HLV := hid HO.out.liesV.1
          have hcap : k ≤ cap := by rw [HK.out]; exact HO.out.liesV.2
          obtain ⟨d, hd⟩ : ∃ d, d = decW k := ⟨_, rfl⟩
          rw [← hd] at HS hdl hsz
          have HDW := hid hd
          clear hD hgo HG hd0 hd HO
          obtain ⟨p, hp⟩ : ∃ p, p = wr.heap.size := ⟨_, rfl⟩
          have hNw := new_any wr
          rw [← hp] at hNw HLV hsw
          clear hp
          go_wp2_with fail
          refine hNw.mono ?_
          clear hNw
          rintro e w2 ⟨rfl, hP2, hB2⟩
          have heq := eqlc_some_nilL ⟨p, 0, none⟩ w2
          have hpl := hP2.lt
          have HLV2 := hid (HLV.out.below hB2)
          have HB2 := hid (HBl.out.trans (hB2.mono hsw))
          have hxs := lenS_str d
          rw [← HS.out] at hxs
          have hF := feed_any p [] (lenS d) 0 w2 hP2 (by simp)
          have hfl : ¬ 65536 < ([] : List UInt8).length + (lenS d).length := by rw [lenS_len]; simp; omega
          rw [(fed_ok hfl).1, (fed_ok hfl).2, List.nil_append, ← hxs] at hF
          have hz1 : (⟨#[80, 85, 84, 32, 47, 120, 32, 72, 84, 84, 80, 47, 49, 46, 49, 13, 10, 72, 111, 115, 116, 58, 32, 97, 13, 10, 67, 111, 110, 116, 101, 110, 116, 45, 76, 101, 110, 103, 116, 104, 58, 32]⟩ : ByteArray).size + s.size = 42 + s.size := rfl
          clear hP2 hB2 HLV HBl hxs hfl
          go_wp2_with fail
          refine hF.mono ?_
          clear hF
          rintro e w3 ⟨rfl, hP3, hK3⟩
          have hs3 := hK3.size
          have HLV3 := hid (HLV2.out.kept hK3 (by omega))
          have HB3 := hid (Below.keptL HB2.out hK3 hsw (by omega))
          have HP3 := hid hP3
          have hpl3 := hP3.lt
          clear hP3 hK3 HLV2 HB2 heq
          by_cases hbig : 16384 < k
          · have hbig' : (16384 : Int) < (k : Int) := by omega
            have hT := len_first k (by omega) []
            rw [if_pos hbig, List.append_nil, ← HDW.out] at hT
            have hNx := next_any p (lenS d) 0 w3 (HM.out.below HB3.out hgl) HP3.out (by rw [lenS_len]; omega)
            rw [nxt_wrong hT] at hNx
            simp only at hNx
            clear hT
            go_wp2_with fail
            refine hNx.mono ?_
            clear hNx
            rintro e w5 ⟨u5, rfl, hO5, hP5, hK5⟩
            obtain ⟨e1, he1, rfl, hp1⟩ := hO5.elem
            simp only [RqE.val, reqV, RqE.vf, RqE.vq]
            have hs5 := hK5.size
            have hB5 := Below.keptL HB3.out hK5 hsw (by omega)
            have hBa := below_alloc w5 (.cells #[.string ⟨e1.q.head.1.toArray⟩, .string ⟨e1.q.head.2.1.toArray⟩, .int .i64 e1.q.head.2.2.1, .slice e1.af e1.q.head.2.2.2.length e1.cf, .string ⟨e1.q.path.toArray⟩, .slice e1.aq e1.q.query.length e1.cq, .string ⟨e1.q.body.toArray⟩, .bool e1.q.close] 38)
            have HB6 := hid (hB5.trans (hBa.mono (by omega)))
            have hAW := awakeP_any _ (HM.out.below HB6.out hgl)
            clear hO5 hp1 he1 hP5 hK5 hB5 hBa HB3 HP3
            go_wp2_with fail
            refine hAW.mono ?_
            clear hAW
            rintro e w7 ⟨rfl, q7⟩
            have hs7 := HB6.out.size
            go_wp2
            go_ret
            exact ⟨rfl, HB6.out.trans (q7.mono hs7)⟩
          · have hbig' : ¬ (16384 : Int) < (k : Int) := by omega
            obtain ⟨j, hj⟩ : ∃ j, j = min c k := ⟨_, rfl⟩
            have hmin : min (c : Int) (k : Int) = (j : Int) := by omega
            have hjk : j ≤ k := by omega
            have hjc : j ≤ cap := by omega
            have hcv := HLV3.out.conv j cap (by rw [← HK.out]; exact hjk)
            have hll : (lenS d).length ≤ 51 := by rw [lenS_len]; omega
            have htl : (l.take j).length ≤ 16384 := by rw [List.length_take]; omega
            have hF := feed_any p (lenS d) (l.take j) 0 w3 HP3.out (by omega)
            have hfl : ¬ 65536 < (lenS d).length + (l.take j).length := by omega
            rw [(fed_ok hfl).1, (fed_ok hfl).2] at hF
            clear hj hfl
            go_wp2_with fail
            refine hF.mono ?_
            clear hF
            rintro e w4 ⟨rfl, hP4, hK4⟩
            have hs4 := hK4.size
            have HLV4 := hid (HLV3.out.kept hK4 (by omega))
            have HB4 := hid (Below.keptL HB3.out hK4 hsw (by omega))
            have hNx := next_any p (lenS d ++ l.take j) 0 w4 (HM.out.below HB4.out hgl) hP4 (by rw [List.length_append]; omega)
            have hT := len_first k (by omega) (l.take j)
            rw [if_neg hbig, ← HDW.out] at hT
            have HP4 := hid hP4
            have hpl4 := hP4.lt
            clear hP4 hK4 HLV3 HB3 HP3 hcv
            by_cases hjk2 : j < k
            · rw [if_pos (by rw [List.length_take]; have := HK.out; omega)] at hT
              rw [nxt_more hT] at hNx
              simp only at hNx
              clear hT
              go_wp2_with fail
              refine hNx.mono ?_
              clear hNx
              rintro e w5 ⟨u5, rfl, hO5, hP5, hK5⟩
              obtain ⟨e1, he1, rfl, hp1⟩ := hO5.elem
              simp only [RqE.val, reqV, RqE.vf, RqE.vq]
              have hs5 := hK5.size
              have hB5 := Below.keptL HB4.out hK5 hsw (by omega)
              have hBa := below_alloc w5 (.cells #[.string ⟨e1.q.head.1.toArray⟩, .string ⟨e1.q.head.2.1.toArray⟩, .int .i64 e1.q.head.2.2.1, .slice e1.af e1.q.head.2.2.2.length e1.cf, .string ⟨e1.q.path.toArray⟩, .slice e1.aq e1.q.query.length e1.cq, .string ⟨e1.q.body.toArray⟩, .bool e1.q.close] 38)
              have HB6 := hid (hB5.trans (hBa.mono (by omega)))
              have HP6 := hid (hP5.below hBa hP5.lt)
              have HLV6 := hid ((HLV4.out.kept hK5 (by omega)).below (hBa.mono (by omega)))
              clear hO5 hp1 he1 hP5 hK5 hB5 hBa HB4 HP4 HLV4
              have hcv2 := HLV6.out.convTail j k (cap - j) HK.out hjk
              have hF := feed_any p (lenS d ++ l.take j) (l.drop j) 0 _ HP6.out (by rw [List.length_append]; omega)
              have hll2 : l.length ≤ 16384 := by rw [← HK.out]; omega
              have hfl : ¬ 65536 < (lenS d ++ l.take j).length + (l.drop j).length := by rw [List.length_append, List.length_drop]; omega
              rw [(fed_ok hfl).1, (fed_ok hfl).2, List.append_assoc, List.take_append_drop] at hF
              clear hfl
              have hszA : (w5.alloc (.cells #[.string ⟨e1.q.head.1.toArray⟩, .string ⟨e1.q.head.2.1.toArray⟩, .int .i64 e1.q.head.2.2.1, .slice e1.af e1.q.head.2.2.2.length e1.cf, .string ⟨e1.q.path.toArray⟩, .slice e1.aq e1.q.query.length e1.cq, .string ⟨e1.q.body.toArray⟩, .bool e1.q.close] 38)).heap.size = w5.heap.size + 1 := by simp
              go_wp2_with fail
              refine hF.mono ?_
              clear hF
              rintro e w7 ⟨rfl, hP7, hK7⟩
              have hs7 := hK7.size
              have HLV7 := hid (HLV6.out.kept hK7 (by omega))
              have HB7 := hid (Below.keptL HB6.out hK7 hsw (by omega))
              have hNx := next_any p (lenS d ++ l) 0 w7 (HM.out.below HB7.out hgl) hP7 (by rw [List.length_append]; omega)
              have hT := len_first k (by omega) l
              rw [if_neg hbig, ← HDW.out, if_neg (by rw [← HK.out]; omega)] at hT
              rw [nxt_got hT, List.drop_eq_nil_of_le (by rw [List.length_append, ← HK.out]; omega)] at hNx
              simp only at hNx
              clear hT hP7 hK7 HLV6 HB6 HP6 hcv2
              go_wp2_with fail
              refine hNx.mono ?_
              clear hNx
              rintro e w8 ⟨u8, rfl, hO8, hP8, hK8⟩
              obtain ⟨e1, he1, rfl, hp1⟩ := hO8.elem
              simp only [RqE.val, reqV, RqE.vf, RqE.vq]
              obtain ⟨sb, hsb⟩ : ∃ sb : ByteArray, sb = ⟨(l.take k).toArray⟩ := ⟨_, rfl⟩
              have hb2 : (⟨e1.q.body.toArray⟩ : ByteArray) = sb := by rw [hsb, he1]; rfl
              rw [hb2]
              have hs8 := hK8.size
              have hpl8 := hP8.lt
              have hB8 := Below.keptL HB7.out hK8 hsw (by omega)
              have hBa := below_alloc w8 (.cells #[.string ⟨e1.q.head.1.toArray⟩, .string ⟨e1.q.head.2.1.toArray⟩, .int .i64 e1.q.head.2.2.1, .slice e1.af e1.q.head.2.2.2.length e1.cf, .string ⟨e1.q.path.toArray⟩, .slice e1.aq e1.q.query.length e1.cq, .string sb, .bool e1.q.close] 38)
              have HB9 := hid (hB8.trans (hBa.mono (by omega)))
              have HP9 := hid (hP8.below hBa hP8.lt)
              have HLV9 := hid ((HLV7.out.kept hK8 (by omega)).below (hBa.mono (by omega)))
              have hcv3 := HLV9.out.conv k cap (by rw [← HK.out]; exact Nat.le_refl _)
              rw [← hsb] at hcv3
              have hal := ReqAt.new w8 (.string ⟨e1.q.head.1.toArray⟩) (.string ⟨e1.q.head.2.1.toArray⟩) (.int .i64 e1.q.head.2.2.1) (.slice e1.af e1.q.head.2.2.2.length e1.cf) (.string ⟨e1.q.path.toArray⟩) (.slice e1.aq e1.q.query.length e1.cq) (.string sb) (.bool e1.q.close)
              obtain ⟨y0, y1, y2, y3, y4, y5, y6, y7⟩ := hal.cells
              have hLf := left_any p [] 0 _ HP9.out
              have hAW := awakeP_any _ (HM.out.below HB9.out hgl)
              have hne : ((j : Int) == (k : Int)) = false := by rw [beq_eq_false_iff_ne]; omega
              clear hO8 hp1 he1 hP8 hK8 hB8 hBa HB7 HLV7 hal y0 y1 y2 y3 y4 y5 y7 hb2 hsb
              go_wp2_with fail
              refine hLf.mono ?_
              clear hLf
              rintro e w10 ⟨rfl, rfl⟩
              go_wp2_with fail
              refine hAW.mono ?_
              clear hAW
              rintro e w11 ⟨rfl, q11⟩
              have hs11 := HB9.out.size
              go_wp2
              go_ret
              exact ⟨rfl, HB9.out.trans (q11.mono hs11)⟩
            · have hjk3 : j = k := by omega
              subst hjk3
              rw [if_neg (by rw [List.length_take, ← HK.out]; omega)] at hT
              rw [nxt_got hT, List.drop_eq_nil_of_le (by rw [List.length_append, List.length_take]; omega)] at hNx
              simp only at hNx
              clear hT
              go_wp2_with fail
              refine hNx.mono ?_
              clear hNx
              rintro e w5 ⟨u5, rfl, hO5, hP5, hK5⟩
              obtain ⟨e1, he1, rfl, hp1⟩ := hO5.elem
              simp only [RqE.val, reqV, RqE.vf, RqE.vq]
              have hs5 := hK5.size
              have hB5 := Below.keptL HB4.out hK5 hsw (by omega)
              have hBa := below_alloc w5 (.cells #[.string ⟨e1.q.head.1.toArray⟩, .string ⟨e1.q.head.2.1.toArray⟩, .int .i64 e1.q.head.2.2.1, .slice e1.af e1.q.head.2.2.2.length e1.cf, .string ⟨e1.q.path.toArray⟩, .slice e1.aq e1.q.query.length e1.cq, .string ⟨e1.q.body.toArray⟩, .bool e1.q.close] 38)
              have HB6 := hid (hB5.trans (hBa.mono (by omega)))
              have HP6 := hid (hP5.below hBa hP5.lt)
              have HLV6 := hid ((HLV4.out.kept hK5 (by omega)).below (hBa.mono (by omega)))
              clear hO5 hp1 he1 hP5 hK5 hB5 hBa HB4 HP4 HLV4
              by_cases hcj : cap = j
              · subst hcj
                have hcv2 := HLV6.out.conv 0 0 (Nat.zero_le _)
                rw [List.take_zero] at hcv2
                have hF := feed_any p [] [] 0 _ HP6.out (by simp)
                rw [(fed_ok (by simp)).1, (fed_ok (by simp)).2, List.nil_append] at hF
                have hszA : (w5.alloc (.cells #[.string ⟨e1.q.head.1.toArray⟩, .string ⟨e1.q.head.2.1.toArray⟩, .int .i64 e1.q.head.2.2.1, .slice e1.af e1.q.head.2.2.2.length e1.cf, .string ⟨e1.q.path.toArray⟩, .slice e1.aq e1.q.query.length e1.cq, .string ⟨e1.q.body.toArray⟩, .bool e1.q.close] 38)).heap.size = w5.heap.size + 1 := by simp
                go_wp2_with fail
                refine hF.mono ?_
                clear hF
                rintro e w7 ⟨rfl, hP7, hK7⟩
                have hs7 := hK7.size
                have HB7 := hid (Below.keptL HB6.out hK7 hsw (by omega))
                have hNx := next_any p [] 0 w7 (HM.out.below HB7.out hgl) hP7 (by simp)
                rw [nxt_more first_nilL] at hNx
                simp only at hNx
                clear hP7 hK7 HLV6 HB6 HP6 hcv2
                go_wp2_with fail
                refine hNx.mono ?_
                clear hNx
                rintro e w8 ⟨u8, rfl, hO8, hP8, hK8⟩
                obtain ⟨e1, he1, rfl, hp1⟩ := hO8.elem
                simp only [RqE.val, reqV, RqE.vf, RqE.vq]
                have hs8 := hK8.size
                have hB8 := Below.keptL HB7.out hK8 hsw (by omega)
                have hBa := below_alloc w8 (.cells #[.string ⟨e1.q.head.1.toArray⟩, .string ⟨e1.q.head.2.1.toArray⟩, .int .i64 e1.q.head.2.2.1, .slice e1.af e1.q.head.2.2.2.length e1.cf, .string ⟨e1.q.path.toArray⟩, .slice e1.aq e1.q.query.length e1.cq, .string ⟨e1.q.body.toArray⟩, .bool e1.q.close] 38)
                have HB9 := hid (hB8.trans (hBa.mono (by omega)))
                have hAW := awakeP_any _ (HM.out.below HB9.out hgl)
                clear hO8 hp1 he1 hP8 hK8 hB8 hBa HB7
                go_wp2_with fail
                refine hAW.mono ?_
                clear hAW
                rintro e w11 ⟨rfl, q11⟩
                have hs11 := HB9.out.size
                go_wp2
                go_ret
                exact ⟨rfl, HB9.out.trans (q11.mono hs11)⟩
              · have hcj2 : j < cap := by omega
                have hcv2 := HLV6.out.convTail j j (cap - j) HK.out hjk
                rw [List.drop_eq_nil_of_le (by rw [← HK.out]; exact Nat.le_refl _), Nat.sub_self] at hcv2
                have hF := feed_any p [] [] 0 _ HP6.out (by simp)
                rw [(fed_ok (by simp)).1, (fed_ok (by simp)).2, List.nil_append] at hF
                have hszA : (w5.alloc (.cells #[.string ⟨e1.q.head.1.toArray⟩, .string ⟨e1.q.head.2.1.toArray⟩, .int .i64 e1.q.head.2.2.1, .slice e1.af e1.q.head.2.2.2.length e1.cf, .string ⟨e1.q.path.toArray⟩, .slice e1.aq e1.q.query.length e1.cq, .string ⟨e1.q.body.toArray⟩, .bool e1.q.close] 38)).heap.size = w5.heap.size + 1 := by simp
                go_wp2_with fail
                refine hF.mono ?_
                clear hF
                rintro e w7 ⟨rfl, hP7, hK7⟩
                have hs7 := hK7.size
                have HB7 := hid (Below.keptL HB6.out hK7 hsw (by omega))
                have hNx := next_any p [] 0 w7 (HM.out.below HB7.out hgl) hP7 (by simp)
                rw [nxt_more first_nilL] at hNx
                simp only at hNx
                clear hP7 hK7 HLV6 HB6 HP6 hcv2
                go_wp2_with fail
                refine hNx.mono ?_
                clear hNx
                rintro e w8 ⟨u8, rfl, hO8, hP8, hK8⟩
                obtain ⟨e1, he1, rfl, hp1⟩ := hO8.elem
                simp only [RqE.val, reqV, RqE.vf, RqE.vq]
                have hs8 := hK8.size
                have hB8 := Below.keptL HB7.out hK8 hsw (by omega)
                have hBa := below_alloc w8 (.cells #[.string ⟨e1.q.head.1.toArray⟩, .string ⟨e1.q.head.2.1.toArray⟩, .int .i64 e1.q.head.2.2.1, .slice e1.af e1.q.head.2.2.2.length e1.cf, .string ⟨e1.q.path.toArray⟩, .slice e1.aq e1.q.query.length e1.cq, .string ⟨e1.q.body.toArray⟩, .bool e1.q.close] 38)
                have HB9 := hid (hB8.trans (hBa.mono (by omega)))
                have hAW := awakeP_any _ (HM.out.below HB9.out hgl)
                clear hO8 hp1 he1 hP8 hK8 hB8 hBa HB7
                go_wp2_with fail
                refine hAW.mono ?_
                clear hAW
                rintro e w11 ⟨rfl, q11⟩
                have hs11 := HB9.out.size
                go_wp2
                go_ret
                exact ⟨rfl, HB9.out.trans (q11.mono hs11)⟩

end Go.Proofs.YtllhibdjopfcnaaDoor
