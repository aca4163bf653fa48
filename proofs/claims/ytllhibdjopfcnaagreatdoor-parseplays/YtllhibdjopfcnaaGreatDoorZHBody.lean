/-
  The body that a head asks for: the code's.
-/
import Derived.Test.YtllhibdjopfcnaaGreatDoorZHLines
import Derived.Test.YtllhibdjopfcnaaGreatDoorZPChunks
namespace Go.Proofs.YtllhibdjopfcnaaGreatDoor
open Go.RowKit
set_option linter.unusedVariables false

def valsF (fs : List PairL) (sm : List UInt8) : List (List UInt8) := (fs.filter fun p => p.1 == sm).map (·.2)
theorem valsL_F (h : HeadL) (nm : List UInt8) : valsL h nm = valsF h.2.2.2 (small nm) := rfl
theorem valsF_yes {fs : List PairL} {sm : List UInt8} {k : Nat} (hk : k < fs.length) (h : (fs[k].1 == sm) = true) : valsF (fs.take (k + 1)) sm = valsF (fs.take k) sm ++ [fs[k].2] := by
  unfold valsF
  rw [List.take_succ_eq_append_getElem hk, List.filter_append, List.filter_cons, if_pos h]
  simp
theorem valsF_no {fs : List PairL} {sm : List UInt8} {k : Nat} (hk : k < fs.length) (h : (fs[k].1 == sm) = false) : valsF (fs.take (k + 1)) sm = valsF (fs.take k) sm := by
  unfold valsF
  rw [List.take_succ_eq_append_getElem hk, List.filter_append, List.filter_cons, if_neg (by rw [h]; simp)]
  simp
theorem valsF_len (fs : List PairL) (sm : List UInt8) : (valsF fs sm).length ≤ fs.length := by
  unfold valsF
  rw [List.length_map]
  exact List.length_filter_le _ _

set_option maxRecDepth 20000 in
set_option maxHeartbeats 2000000 in
theorem values_any (a b c v : Value) (fs : List PairL) (nm : List UInt8) (w : World) (hS : SeesP w v fs) (hl : fs.length ≤ 1048576) (hn : nm.length ≤ 140737488355328) :
    Calls Tryz.prog 58 #[.agg #[a, b, c, v], .string ⟨nm.toArray⟩] w fun e w' => ∃ v', e = .returned v' ∧ OwnsS w' w.heap.size v' (valsF fs (small nm)) ∧ Below w.heap.size w w' := by
  obtain ⟨bb, off, ao, cap, rfl, hcap, _, hao, hcell⟩ := hS
  have hSm := small_any nm (w.alloc (.cells #[a, b, c, .slice ao fs.length cap] 34)) hn
  have hH0 := HeadAt.new w a b c (.slice ao fs.length cap)
  have HB0 := hid (below_alloc w (.cells #[a, b, c, .slice ao fs.length cap] 34))
  obtain ⟨w0, hw0⟩ : ∃ w0, w0 = w.alloc (.cells #[a, b, c, .slice ao fs.length cap] 34) := ⟨_, rfl⟩
  have hsz0 : w0.heap.size = w.heap.size + 1 := by rw [hw0]; simp
  rw [← hw0] at hSm hH0 HB0
  have HW0 := hid hw0
  have HH0 := hid hH0
  have HC := hid hcell
  obtain ⟨sm, hsm⟩ : ∃ sm, sm = small nm := ⟨_, rfl⟩
  rw [← hsm] at hSm ⊢
  clear hw0 hH0 hcell hsm
  go_enter Tryz.func58, Tryz.ntmps58
  go_wp2_with fail
  rw [← HW0.out]
  refine hSm.mono ?_
  clear hSm
  rintro e w1 ⟨rfl, hB1⟩
  have HB1 := hid (HB0.out.trans (hB1.mono (by omega)))
  obtain ⟨_, _, _, q3, _, _, _, _⟩ := (HH0.out.below hB1 HH0.out.lt).cells
  have hsz1 := hB1.size
  clear hB1 HB0 HH0 HW0
  go_wp2_with fail
  go_loopw [5, 13] (fun u i wr => ∃ (k : Nat), k ≤ fs.length ∧ i = .int .i64 (k : Int) ∧ OwnsS wr w.heap.size u (valsF (fs.take k) sm) ∧ Below w.heap.size w wr) (fun _ i _ => fs.length - (intOf i).toNat)
  case atStart => exact ⟨0, Nat.zero_le _, rfl, OwnsS.nil _ _, HB1.out⟩
  clear HB1
  case round =>
    obtain ⟨k, hk, rfl, hO, hB⟩ := hrel
    have hsw : w.heap.size ≤ wr.heap.size := hB.size
    by_cases hlt : k < fs.length
    · have hlt' : (k : Int) < (fs.length : Int) := by omega
      obtain rfl := hao (by intro h; rw [h] at hlt; simp at hlt)
      obtain ⟨d1, d2⟩ := HC.out k hlt
      have hb1 := World.block_lt_of_cell? w _ d1
      have hb2 := World.block_lt_of_cell? w _ d2
      rw [← hB.cell hb1] at d1
      rw [← hB.cell hb2] at d2
      unfold strV at d1 d2
      have HY := hid (fun h => valsF_yes (sm := sm) hlt h)
      have HN := hid (fun h => valsF_no (sm := sm) hlt h)
      have hvl := valsF_len (fs.take k) sm
      rw [List.length_take] at hvl
      obtain ⟨P, hP⟩ : ∃ P, P = fs[k] := ⟨_, rfl⟩
      rw [← hP] at d1 d2 HY HN
      obtain ⟨ys, hys⟩ : ∃ ys, ys = valsF (fs.take k) sm := ⟨_, rfl⟩
      rw [← hys] at hO hvl HY HN
      have HO := hid hO
      have HB2 := hid (hB.trans ((below_alloc wr (.cells #[.string ⟨P.1.toArray⟩, .string ⟨P.2.toArray⟩] 73)).mono hsw))
      obtain ⟨ao2, cap2, rfl⟩ := hO.shape
      clear hP hb1 hb2 hO hys hB
      cases he : (P.1 == sm) with
      | true =>
        have HE := hid (HY.out he)
        have hF := fresh_any P.2 (wr.alloc (.cells #[.string ⟨P.1.toArray⟩, .string ⟨P.2.toArray⟩] 73))
        clear HY HN
        go_wp2_with fail
        refine hF.mono ?_
        clear hF
        rintro e w3 ⟨rfl, hB3⟩
        have HB3 := hid (HB2.out.trans (hB3.mono HB2.out.size))
        have HO3 := hid ((HO.out.below (below_alloc wr (.cells #[.string ⟨P.1.toArray⟩, .string ⟨P.2.toArray⟩] 73))).below hB3)
        have hsz3 : w.heap.size ≤ w3.heap.size := HB3.out.size
        clear hB3 HB2
        go_wp2_with (first
          | (at_builtin
             refine wpList_appS rfl _ _ rfl w.heap.size (.slice ao2 ys.length cap2) ys rfl (HO3.out.below (below_alloc w3 _)) _ P.2 rfl (by simp [strV]) (by omega) (by simp; omega) ?_
             intro v4 w4 hO4 hG4
             have HO4 : Hid (OwnsS w4 w.heap.size v4 (valsF (fs.take (k + 1)) sm)) := by
               unfold Hid
               rw [HE.out]
               exact hO4
             have HB4 := hid (below_grownBy (HB3.out.trans ((below_alloc w3 _).mono hsz3)) hG4 (OwnsS.block HO3.out) (by simp; omega))
             clear hO4 hG4)
          | fail)
        go_roundw
        case rel => exact ⟨k + 1, by omega, by go_num, HO4.out, HB4.out⟩
        case measure => simp [intOf]; omega
      | false =>
        have HE := hid (HN.out he)
        have HO3 := hid (HO.out.below (below_alloc wr (.cells #[.string ⟨P.1.toArray⟩, .string ⟨P.2.toArray⟩] 73)))
        clear HY HN
        go_wp2
        go_roundw
        case rel => exact ⟨k + 1, by omega, by go_num, by rw [HE.out]; exact HO3.out, HB2.out⟩
        case measure => simp [intOf]; omega
    · have hlt' : ¬ (k : Int) < (fs.length : Int) := by omega
      rw [List.take_of_length_le (by omega)] at hO
      have HO := hid hO
      have HB := hid hB
      clear hO hB
      go_wp2
      go_ret
      exact ⟨_, rfl, HO.out, HB.out⟩

def hostsF (fs : List PairL) (minor : Int) : Bool := decide ((valsF fs hostS).length = 1 ∨ (valsF fs hostS).length = 0 ∧ minor = 0)
theorem hostsF_eq (h : HeadL) : hostsF h.2.2.2 h.2.2.1 = hostOk h := by
  unfold hostsF hostOk
  rw [valsL_F, show small hostS = hostS by decide]
set_option maxRecDepth 20000 in
set_option maxHeartbeats 1000000 in
theorem hostFits_any (a b v : Value) (m : Int) (fs : List PairL) (w : World) (hS : SeesP w v fs) (hl : fs.length ≤ 1048576) :
    Calls Tryz.prog 52 #[.agg #[a, b, .int .i64 m, v]] w fun e w' => e = .returned (.bool (hostsF fs m)) ∧ Below w.heap.size w w' := by
  have hV := values_any a b (.int .i64 m) v fs hostS (w.alloc (.cells #[a, b, .int .i64 m, v] 34)) (hS.below (below_alloc w _)) hl (by decide)
  rw [show small hostS = hostS by decide] at hV
  have hH0 := HeadAt.new w a b (.int .i64 m) v
  have HB0 := hid (below_alloc w (.cells #[a, b, .int .i64 m, v] 34))
  obtain ⟨w0, hw0⟩ : ∃ w0, w0 = w.alloc (.cells #[a, b, .int .i64 m, v] 34) := ⟨_, rfl⟩
  have hsz0 : w0.heap.size = w.heap.size + 1 := by rw [hw0]; simp
  rw [← hw0] at hV hH0 HB0
  have HW0 := hid hw0
  have HH0 := hid hH0
  obtain ⟨ys, hys⟩ : ∃ ys, ys = valsF fs hostS := ⟨_, rfl⟩
  unfold hostsF
  rw [← hys] at hV ⊢
  rw [show (⟨hostS.toArray⟩ : ByteArray) = ⟨#[104, 111, 115, 116]⟩ from rfl] at hV
  clear hw0 hH0 hys
  go_enter Tryz.func52, Tryz.ntmps52
  go_wp2_with fail
  rw [← HW0.out]
  refine hV.mono ?_
  clear hV
  rintro e w1 ⟨v1, rfl, hO1, hB1⟩
  have HB1 := hid (HB0.out.trans (hB1.mono (by omega)))
  obtain ⟨ao1, cap1, rfl⟩ := hO1.shape
  obtain ⟨_, _, q2, _, _, _, _, _⟩ := (HH0.out.below hB1 HH0.out.lt).cells
  clear hB1 HB0 HH0 HW0 hO1
  by_cases h1 : ys.length = 1
  · have f1 : ((ys.length : Int) == 1) = true := by rw [beq_iff_eq]; omega
    have HE : Hid (decide (ys.length = 1 ∨ ys.length = 0 ∧ m = 0) = true) := by unfold Hid; rw [decide_eq_true_eq]; exact Or.inl h1
    clear h1
    go_wp2
    go_ret
    exact ⟨by rw [HE.out]; rfl, HB1.out⟩
  · have f1 : ((ys.length : Int) == 1) = false := by rw [beq_eq_false_iff_ne]; omega
    by_cases h0 : ys.length = 0
    · have f0 : ((ys.length : Int) == 0) = true := by rw [beq_iff_eq]; omega
      have HE : Hid (decide (ys.length = 1 ∨ ys.length = 0 ∧ m = 0) = (m == 0)) := by
        unfold Hid
        by_cases hm : m = 0
        · rw [decide_eq_true (Or.inr ⟨h0, hm⟩), hm]; rfl
        · rw [decide_eq_false (by simp [h1, hm]), beq_eq_false_iff_ne.2 hm]
      clear h1 h0
      go_wp2
      go_ret
      exact ⟨by rw [HE.out]; rfl, HB1.out⟩
    · have f0 : ((ys.length : Int) == 0) = false := by rw [beq_eq_false_iff_ne]; omega
      have HE : Hid (decide (ys.length = 1 ∨ ys.length = 0 ∧ m = 0) = false) := by
        unfold Hid
        rw [decide_eq_false]
        simp [h1, h0]
      clear h1 h0
      go_wp2
      go_ret
      exact ⟨by rw [HE.out]; rfl, HB1.out⟩
end Go.Proofs.YtllhibdjopfcnaaGreatDoor

namespace Go.Proofs.YtllhibdjopfcnaaGreatDoor
open Go.RowKit
set_option linter.unusedVariables false

def outB (r : Int × Int × Int) : Value := .tuple #[.int .i64 r.1, .int .i64 r.2.1, .int .i64 r.2.2]
theorem codL_bad {c : List (List UInt8)} {m : Int} (h : ¬ (c.length = 1 ∧ small (c.headD []) = chS ∧ m = 1)) : codL c m = (0, 0, 400) := if_neg h
set_option maxRecDepth 20000 in
set_option maxHeartbeats 1000000 in
theorem codings_any (v : Value) (l : List (List UInt8)) (m : Int) (w : World) (hS : SeesS w v l) (hb : ∀ x ∈ l, x.length ≤ 140737488355328) :
    Calls Tryz.prog 81 #[v, .int .i64 m] w fun e w' => e = .returned (outB (codL l m)) ∧ Below w.heap.size w w' := by
  obtain ⟨bb, off, ao, cap, rfl, hcap, _, hao, hcell⟩ := hS
  by_cases h1 : l.length = 1
  · obtain ⟨x, rfl⟩ : ∃ x, l = [x] := List.length_eq_one_iff.1 h1
    obtain rfl := hao (by simp)
    have c0 := hcell 0 (by simp)
    simp only [List.getElem_cons_zero, strV, Nat.add_zero] at c0
    have hSm := small_any x w (hb x (by simp))
    have hk : codL [x] m = if small x = chS ∧ m = 1 then (2, 0, 0) else (0, 0, 400) := by simp [codL]
    obtain ⟨y, hy⟩ : ∃ y, y = small x := ⟨_, rfl⟩
    rw [← hy] at hSm hk
    clear hcell hao hb hy h1
    simp only [List.length_cons, List.length_nil] at hcap ⊢
    obtain ⟨B, hbs⟩ : ∃ B, (y == [99, 104, 117, 110, 107, 101, 100]) = B := ⟨_, rfl⟩
    by_cases hc : y = chS
    · have hB : B = true := by rw [← hbs, beq_iff_eq]; exact hc
      rw [hB] at hbs
      by_cases hm : m = 1
      · rw [if_pos ⟨hc, hm⟩] at hk
        rw [hk]
        clear hk hc
        subst hm
        go_enter Tryz.func81, Tryz.ntmps81
        go_wp2_with fail
        refine hSm.mono ?_
        clear hSm
        rintro e w1 ⟨rfl, hB1⟩
        have HB1 := hid hB1
        clear hB1
        go_wp2
        refine bodyPost_ret (v := outB (2, 0, 0)) (by simp [results, Tryz.results81, go_sem, outB]) rfl ?_
        exact ⟨rfl, HB1.out⟩
      · rw [if_neg (fun h => hm h.2)] at hk
        rw [hk]
        have hm' : (m != 1) = true := by rw [bne_iff_ne]; exact hm
        clear hk hc hm
        go_enter Tryz.func81, Tryz.ntmps81
        go_wp2_with fail
        refine hSm.mono ?_
        clear hSm
        rintro e w1 ⟨rfl, hB1⟩
        have HB1 := hid hB1
        clear hB1
        go_wp2
        refine bodyPost_ret (v := outB (0, 0, 400)) (by simp [results, Tryz.results81, go_sem, outB]) rfl ?_
        exact ⟨rfl, HB1.out⟩
    · rw [if_neg (fun h => hc h.1)] at hk
      rw [hk]
      have hB : B = false := by rw [← hbs, beq_eq_false_iff_ne]; exact hc
      rw [hB] at hbs
      clear hk hc
      go_enter Tryz.func81, Tryz.ntmps81
      go_wp2_with fail
      refine hSm.mono ?_
      clear hSm
      rintro e w1 ⟨rfl, hB1⟩
      have HB1 := hid hB1
      clear hB1
      go_wp2
      refine bodyPost_ret (v := outB (0, 0, 400)) (by simp [results, Tryz.results81, go_sem, outB]) rfl ?_
      exact ⟨rfl, HB1.out⟩
  · rw [codL_bad (fun h => h1 h.1)]
    have h1' : ((l.length : Int) != 1) = true := by rw [bne_iff_ne]; omega
    clear hcell hao hb h1
    go_enter Tryz.func81, Tryz.ntmps81
    go_wp2
    refine bodyPost_ret (v := outB (0, 0, 400)) (by simp [results, Tryz.results81, go_sem, outB]) rfl ?_
    exact ⟨rfl, Below.refl _ _⟩

theorem madeL_all {l : List UInt8} (h : madeL isDg l = true) : l.all isDg = true ∧ l ≠ [] := by
  unfold madeL at h
  simpa [and_comm] using h
theorem numL_take {l : List UInt8} {k : Nat} (h : k < l.length) : numL (l.take (k + 1)) = 10 * numL (l.take k) + (l[k].toNat - 48) := by
  unfold numL
  rw [List.take_succ_eq_append_getElem h, List.foldl_append]
  rfl
theorem numL_small : ∀ {k : Nat} {l : List UInt8}, l.all isDg = true → k ≤ l.length → numL (l.take k) < 10 ^ k
  | 0, l, h, hk => by simp [numL]
  | k + 1, l, h, hk => by
    have ih := numL_small (k := k) h (by omega)
    rw [numL_take (by omega)]
    have := List.all_eq_true.1 h l[k] (List.getElem_mem _)
    simp only [isDg, decide_eq_true_eq] at this
    rw [Nat.pow_succ]
    omega
theorem u8_digit {b : UInt8} (h : isDg b = true) : ((b.toNat : Int) - 48) % 256 = ((b.toNat - 48 : Nat) : Int) := by
  simp only [isDg, decide_eq_true_eq] at h
  omega
theorem all_same_take {l : List (List UInt8)} {x : List UInt8} {k : Nat} (h : k < l.length) (ha : (l.take k).all (· == x) = true) (hx : (l[k] == x) = true) : (l.take (k + 1)).all (· == x) = true := by
  rw [List.take_succ_eq_append_getElem h, List.all_append, ha]
  simp [hx]
theorem all_same_bad {l : List (List UInt8)} {x : List UInt8} {k : Nat} (h : k < l.length) (hx : (l[k] == x) = false) : l.all (· == x) = false := by
  rw [List.all_eq_false]
  exact ⟨l[k], List.getElem_mem _, by simp [hx]⟩
end Go.Proofs.YtllhibdjopfcnaaGreatDoor

namespace Go.Proofs.YtllhibdjopfcnaaGreatDoor
open Go.RowKit
set_option linter.unusedVariables false

set_option maxRecDepth 20000 in
set_option maxHeartbeats 1000000 in
theorem lengths_any (v : Value) (l : List (List UInt8)) (w : World) (hS : SeesS w v l) (hne : l ≠ []) (hb : ∀ x ∈ l, x.length ≤ 140737488355328) (hl : l.length ≤ 140737488355328) :
    Calls Tryz.prog 82 #[v] w fun e w' => e = .returned (outB (lenL l)) ∧ Below w.heap.size w w' := by
  obtain ⟨bb, off, ao, cap, rfl, hcap, _, hao, hcell⟩ := hS
  obtain rfl := hao hne
  have hpos : 0 < l.length := List.length_pos_iff.2 hne
  have c0 := hcell 0 hpos
  obtain ⟨x, hx⟩ : ∃ x, x = l.headD [] := ⟨_, rfl⟩
  have hx0 : l[0] = x := by
    rw [hx]
    cases l with
    | nil => simp at hpos
    | cons y r => rfl
  have hxl : x.length ≤ 140737488355328 := by rw [← hx0]; exact hb _ (List.getElem_mem _)
  rw [hx0] at c0
  simp only [strV, Nat.add_zero] at c0
  have hM := madeL_Dg x w hxl
  unfold lenL
  rw [← hx]
  have hpos' : (0 : Int) < (l.length : Int) := by omega
  have h0' : ((l.length : Int) == 0) = false := by rw [beq_eq_false_iff_ne]; omega
  clear hb hx hx0 hne hao
  by_cases h9 : 9 < x.length
  · rw [if_pos (Or.inl h9)]
    have h9' : (9 : Int) < (x.length : Int) := by omega
    clear h9 hM hcell
    go_enter Tryz.func82, Tryz.ntmps82
    go_wp2
    go_ret3
    exact ⟨rfl, Below.refl _ _⟩
  have h9' : ¬ (9 : Int) < (x.length : Int) := by omega
  cases hm : madeL isDg x with
  | false =>
    rw [if_pos (Or.inr rfl)]
    rw [hm] at hM
    clear hcell
    go_enter Tryz.func82, Tryz.ntmps82
    go_wp2_with fail
    refine hM.mono ?_
    clear hM
    rintro e w1 ⟨rfl, rfl⟩
    go_wp2
    go_ret3
    exact ⟨rfl, Below.refl _ _⟩
  | true =>
    rw [if_neg (by simp; omega)]
    rw [hm] at hM
    have HC := hid hcell
    have HD := hid (madeL_all hm)
    obtain ⟨V, hV⟩ : ∃ V, V = (if (l.all (· == x)) = false then ((0 : Int), (0 : Int), (400 : Int)) else if 16384 < numL x then (0, 0, 413) else (1, (numL x : Int), 0)) := ⟨_, rfl⟩
    rw [← hV]
    have HV := hid hV
    clear hcell hV hm
    go_enter Tryz.func82, Tryz.ntmps82
    go_wp2_with fail
    refine hM.mono ?_
    clear hM
    rintro e w1 ⟨rfl, rfl⟩
    go_wp2_with fail
    go_loop [3, 22] (fun z i => ∃ (k : Nat), k ≤ l.length ∧ z = .int .i64 0 ∧ i = .int .i64 (k : Int) ∧ (l.take k).all (· == x) = true) (fun _ i => l.length - (intOf i).toNat)
    case atStart => exact ⟨0, Nat.zero_le _, rfl, rfl, by simp⟩
    case round =>
      obtain ⟨k, hk, rfl, rfl, hall⟩ := hrel
      by_cases hlt : k < l.length
      · have hlt' : (k : Int) < (l.length : Int) := by omega
        have d1 := HC.out k hlt
        unfold strV at d1
        have HY := hid (fun h => all_same_take hlt hall h)
        have HN := hid (fun h => all_same_bad (x := x) hlt h)
        obtain ⟨P, hP⟩ : ∃ P, P = l[k] := ⟨_, rfl⟩
        rw [← hP] at d1 HY HN
        clear hP hall
        cases he : (P == x) with
        | true =>
          have HE := hid (HY.out he)
          clear HY HN
          go_wp2
          go_round
          case rel => exact ⟨k + 1, by omega, rfl, by go_num, HE.out⟩
          case measure => simp [intOf]; omega
        | false =>
          have HE : Hid (V = (0, 0, 400)) := by unfold Hid; rw [HV.out, if_pos (HN.out he)]
          clear HY HN HV
          go_wp2
          go_ret3
          exact ⟨by rw [HE.out]; rfl, Below.refl _ _⟩
      · have hlt' : ¬ (k : Int) < (l.length : Int) := by omega
        rw [List.take_of_length_le (by omega)] at hall
        have HV2 : Hid (V = if 16384 < numL x then ((0 : Int), (0 : Int), (413 : Int)) else (1, (numL x : Int), 0)) := by unfold Hid; rw [HV.out, if_neg (by simp [hall])]
        clear HV hall HC c0
        go_wp2_with fail
        go_loop [3, 32] (fun n i => ∃ (k : Nat), k ≤ x.length ∧ i = .int .i64 (k : Int) ∧ n = .int .i64 ((numL (x.take k) : Nat) : Int)) (fun _ i => x.length - (intOf i).toNat)
        case atStart => exact ⟨0, Nat.zero_le _, rfl, rfl⟩
        case round =>
          obtain ⟨q, hq, rfl, rfl⟩ := hrel
          have hns := numL_small HD.out.1 hq
          have hp10 : 10 ^ q ≤ 10 ^ 9 := Nat.pow_le_pow_right (by omega) (by omega)
          by_cases hql : q < x.length
          · have hql' : (q : Int) < (x.length : Int) := by omega
            have hst := numL_take hql
            have hdg := u8_digit (List.all_eq_true.1 HD.out.1 x[q] (List.getElem_mem _))
            have hdg2 := byteL x[q]
            have i1 := index_byte (⟨x.toArray⟩ : ByteArray) .i64 (q : Int) q rfl (by rw [size_list]; exact hql)
            rw [show (⟨x.toArray⟩ : ByteArray)[q]'(by rw [size_list]; exact hql) = x[q] from rfl] at i1
            obtain ⟨c, hc⟩ : ∃ c, c = x[q] := ⟨_, rfl⟩
            rw [← hc] at hst hdg hdg2 i1
            clear hc
            obtain ⟨n0, hn0⟩ : ∃ n, n = numL (x.take q) := ⟨_, rfl⟩
            rw [← hn0] at hst hns ⊢
            have HST := hid hst
            clear hn0 hst
            go_wp2
            go_round
            case rel => exact ⟨q + 1, by omega, by go_num, by rw [HST.out]; go_num⟩
            case measure => simp [intOf]; omega
          · have hql' : ¬ (q : Int) < (x.length : Int) := by omega
            rw [List.take_of_length_le (by omega)] at hns ⊢
            obtain ⟨n0, hn0⟩ : ∃ n, n = numL x := ⟨_, rfl⟩
            rw [← hn0] at HV2 hns ⊢
            clear hn0
            by_cases hbig : 16384 < n0
            · have hbig' : (16384 : Int) < (n0 : Int) := by omega
              rw [if_pos hbig] at HV2
              clear hbig
              go_wp2
              go_ret3
              exact ⟨by rw [HV2.out]; rfl, Below.refl _ _⟩
            · have hbig' : ¬ (16384 : Int) < (n0 : Int) := by omega
              rw [if_neg hbig] at HV2
              clear hbig
              go_wp2
              go_ret3
              exact ⟨by rw [HV2.out]; rfl, Below.refl _ _⟩
end Go.Proofs.YtllhibdjopfcnaaGreatDoor

namespace Go.Proofs.YtllhibdjopfcnaaGreatDoor
open Go.RowKit
set_option linter.unusedVariables false

theorem valsF_bound {fs : List PairL} {nm : List UInt8} {B : Nat} (h : ∀ p ∈ fs, p.2.length ≤ B) : ∀ x ∈ valsF fs nm, x.length ≤ B := by
  intro x hx
  unfold valsF at hx
  obtain ⟨p, hp, rfl⟩ := List.mem_map.1 hx
  exact h p (List.mem_filter.1 hp).1
theorem bodyL_F (h : HeadL) : bodyL h = if 0 < (valsF h.2.2.2 clS).length ∧ 0 < (valsF h.2.2.2 teS).length then (0, 0, 400)
  else if 0 < (valsF h.2.2.2 teS).length then codL (valsF h.2.2.2 teS) h.2.2.1
  else if 0 < (valsF h.2.2.2 clS).length then lenL (valsF h.2.2.2 clS)
  else (0, 0, 0) := by
  unfold bodyL
  rw [valsL_F, valsL_F, show small clS = clS by decide, show small teS = teS by decide]
set_option maxRecDepth 20000 in
set_option maxHeartbeats 2000000 in
theorem body_any (h : HeadL) (a b v : Value) (w : World) (hS : SeesP w v h.2.2.2) (hl : h.2.2.2.length ≤ 1048576) (hb : ∀ p ∈ h.2.2.2, p.2.length ≤ 1048576) :
    Calls Tryz.prog 53 #[.agg #[a, b, .int .i64 h.2.2.1, v]] w fun e w' => e = .returned (outB (bodyL h)) ∧ Below w.heap.size w w' := by
  rw [bodyL_F]
  obtain ⟨fs, hfs⟩ : ∃ fs, fs = h.2.2.2 := ⟨_, rfl⟩
  obtain ⟨m, hm⟩ : ∃ m, m = h.2.2.1 := ⟨_, rfl⟩
  rw [← hfs] at hS hl hb
  rw [← hfs, ← hm]
  clear hfs hm
  have hV := values_any a b (.int .i64 m) v fs clS (w.alloc (.cells #[a, b, .int .i64 m, v] 34)).drew ((hS.below (below_alloc w _)).below (Below.drew (Below.refl _ _))) hl (by decide)
  rw [show small clS = clS by decide] at hV
  have HV2 := hid (fun w1 hS1 => values_any a b (.int .i64 m) v fs teS w1 hS1 hl (by decide))
  rw [show small teS = teS by decide] at HV2
  have hH0 := HeadAt.new w a b (.int .i64 m) v
  have hB0 := below_alloc w (.cells #[a, b, .int .i64 m, v] 34)
  obtain ⟨w0, hw0⟩ : ∃ w0, w0 = w.alloc (.cells #[a, b, .int .i64 m, v] 34) := ⟨_, rfl⟩
  have hsz0 : w0.heap.size = w.heap.size + 1 := by rw [hw0]; simp
  rw [← hw0] at hV hH0 hB0
  have HW0 := hid hw0
  have HS0 := hid (hS.below hB0)
  have HB0 := hid hB0
  have HH0 := hid hH0
  have hb1 := valsF_bound (nm := clS) hb
  have hb2 := valsF_bound (nm := teS) hb
  have hl1 : (valsF fs clS).length ≤ fs.length := by unfold valsF; rw [List.length_map]; exact List.length_filter_le _ _
  have hl2 : (valsF fs teS).length ≤ fs.length := by unfold valsF; rw [List.length_map]; exact List.length_filter_le _ _
  obtain ⟨ys, hys⟩ : ∃ ys, ys = valsF fs clS := ⟨_, rfl⟩
  obtain ⟨zs, hzs⟩ : ∃ zs, zs = valsF fs teS := ⟨_, rfl⟩
  rw [← hys] at hV hb1 hl1 ⊢
  rw [← hzs] at HV2 hb2 hl2 ⊢
  rw [show (⟨clS.toArray⟩ : ByteArray) = ⟨#[99, 111, 110, 116, 101, 110, 116, 45, 108, 101, 110, 103, 116, 104]⟩ from rfl] at hV
  rw [show (⟨teS.toArray⟩ : ByteArray) = ⟨#[116, 114, 97, 110, 115, 102, 101, 114, 45, 101, 110, 99, 111, 100, 105, 110, 103]⟩ from rfl] at HV2
  have HL := hid (fun v1 w1 (hs : SeesS w1 v1 ys) hne => lengths_any v1 ys w1 hs hne (fun x hx => by have := hb1 x hx; omega) (by omega))
  have HC := hid (fun v1 w1 (hs : SeesS w1 v1 zs) => codings_any v1 zs m w1 hs (fun x hx => by have := hb2 x hx; omega))
  obtain ⟨V, hVe⟩ : ∃ V, V = (if 0 < ys.length ∧ 0 < zs.length then ((0 : Int), (0 : Int), (400 : Int)) else if 0 < zs.length then codL zs m else if 0 < ys.length then lenL ys else (0, 0, 0)) := ⟨_, rfl⟩
  rw [← hVe]
  have HE := hid hVe
  clear hw0 hH0 hys hzs hS hB0 hb hb1 hb2 hVe
  go_enter Tryz.func53, Tryz.ntmps53
  go_wp2_with fail
  rw [← HW0.out]
  obtain ⟨z0, z1, z2, z3, _, _, _, _⟩ := HH0.out.cells
  go_region_law
    (first
      | (go_simp
         refine hV.mono ?_
         rintro e' w1 ⟨v1, rfl, hO1, hB1⟩
         obtain ⟨ao1, cap1, rfl⟩ := hO1.shape
         have hB1' : Below w0.heap.size w0 w1 := (Below.drew (Below.refl w0.heap.size w0)).trans hB1
         have hH1 := HH0.out.below hB1' HH0.out.lt
         obtain ⟨p0, p1, p2, p3, _, _, _, _⟩ := hH1.cells
         have hV2 := HV2.out w1 (HS0.out.below hB1')
         have HB1 := hid (HB0.out.trans (hB1'.mono HB0.out.size))
         have HO1 := hid hO1
         have HH1 := hid hH1
         clear hB1 hB1' hO1 hH1 hV HV2)
      | (go_simp
         refine hV2.mono ?_
         rintro e' w2 ⟨v2, rfl, hO2, hB2⟩
         obtain ⟨ao2, cap2, rfl⟩ := hO2.shape
         have hH2 := HH1.out.below hB2 HH1.out.lt
         have HB2 := hid (HB1.out.trans (hB2.mono HB1.out.size))
         have hS1 := (HO1.out.below hB2).sees
         have hS2 := hO2.sees
         obtain ⟨q0, q1, q2, q3, _, _, _, _⟩ := hH2.cells
         have hC := HC.out _ w2 hS2
         have hLg := HL.out _ w2 hS1
         clear hS1 hS2 hB2 hO2 hH2 HO1 HH1 HB1 HC HL p0 p1 p2 p3 hV2))
  all_goals
    by_cases h1 : 0 < ys.length
    · have h1' : (0 : Int) < (ys.length : Int) := by omega
      by_cases h2 : 0 < zs.length
      · have h2' : (0 : Int) < (zs.length : Int) := by omega
        rw [if_pos ⟨h1, h2⟩] at HE
        clear h1 h2 hC hLg
        go_wp2
        go_ret3
        exact ⟨by rw [HE.out]; rfl, HB2.out⟩
      · have h2' : ¬ (0 : Int) < (zs.length : Int) := by omega
        rw [if_neg (fun h => h2 h.2), if_neg h2, if_pos h1] at HE
        have hLg := hLg (List.length_pos_iff.1 h1)
        clear h1 h2 hC
        go_wp2_with fail
        refine hLg.mono ?_
        clear hLg
        rintro e w3 ⟨rfl, hB3⟩
        have HB3 := hid (HB2.out.trans (hB3.mono HB2.out.size))
        unfold outB
        clear hB3
        go_wp2
        go_ret3
        exact ⟨by rw [HE.out]; rfl, HB3.out⟩
    · have h1' : ¬ (0 : Int) < (ys.length : Int) := by omega
      by_cases h2 : 0 < zs.length
      · have h2' : (0 : Int) < (zs.length : Int) := by omega
        rw [if_neg (fun h => h1 h.1), if_pos h2] at HE
        clear h1 h2 hLg
        go_wp2_with fail
        refine hC.mono ?_
        clear hC
        rintro e w3 ⟨rfl, hB3⟩
        have HB3 := hid (HB2.out.trans (hB3.mono HB2.out.size))
        unfold outB
        clear hB3
        go_wp2
        go_ret3
        exact ⟨by rw [HE.out]; rfl, HB3.out⟩
      · have h2' : ¬ (0 : Int) < (zs.length : Int) := by omega
        rw [if_neg (fun h => h1 h.1), if_neg h2, if_neg h1] at HE
        clear h1 h2 hC hLg
        go_wp2
        go_ret3
        exact ⟨by rw [HE.out]; rfl, HB2.out⟩
end Go.Proofs.YtllhibdjopfcnaaGreatDoor

namespace Go.Proofs.YtllhibdjopfcnaaGreatDoor
open Go.RowKit
set_option linter.unusedVariables false

theorem numL_big (l : List UInt8) : 0 ≤ (numL l : Int) := Int.natCast_nonneg _
theorem body_range (h : HeadL) : 0 ≤ (bodyL h).2.1 ∧ (bodyL h).2.1 ≤ 16384 := by
  unfold bodyL lenL codL
  repeat' split
  all_goals first
    | exact ⟨by decide, by decide⟩
    | (rename_i hn; exact ⟨Int.natCast_nonneg _, by simp only; omega⟩)
/-- What bodyOf answers: the body, where it ends, the status. -/
def bodT : Tell (List UInt8) → List UInt8 × Nat × Int
  | (.error none) => ([], 0, 0)
  | (.error (some s)) => ([], 0, s)
  | (.ok (b, n)) => (b, n, 0)
def bodV (q : List UInt8 × Nat × Int) : Value := .tuple #[.string ⟨q.1.toArray⟩, .int .i64 (q.2.1 : Int), .int .i64 q.2.2]
theorem bod_chk (k : Nat) (T : Tell (List UInt8)) : bodT (putT k T) = ((chkT k T).1, (chkT k T).2.1, (chkT k T).2.2.2) := by
  rcases T with (_ | s) | ⟨b, n⟩ <;> rfl

set_option maxRecDepth 20000 in
set_option maxHeartbeats 4000000 in
theorem bodyOf_any (h : HeadL) (a b v : Value) (L : List UInt8) (k : Nat) (w : World) (hS : SeesP w v h.2.2.2) (hl : h.2.2.2.length ≤ 1048576) (hb : ∀ p ∈ h.2.2.2, p.2.length ≤ 1048576) (hs : L.length ≤ 65536) (hk : k ≤ L.length) :
    Calls Tryz.prog 37 #[.agg #[a, b, .int .i64 h.2.2.1, v], .string ⟨L.toArray⟩, .int .i64 (k : Int)] w fun e w' => e = .returned (bodV (bodT (bodyAt h L k))) ∧ Below w.heap.size w w' := by
  obtain ⟨m, hm⟩ : ∃ m, m = h.2.2.1 := ⟨_, rfl⟩
  have hB := body_any h a b v (w.alloc (.cells #[a, b, .int .i64 m, v] 34)) (hS.below (below_alloc w _)) hl hb
  rw [← hm] at hB
  rw [← hm]
  have HB0 := hid (below_alloc w (.cells #[a, b, .int .i64 m, v] 34))
  have HA := hid (HeadAt.new w a b (.int .i64 m) v)
  obtain ⟨z0, z1, z2, z3, _, _, _, _⟩ := (HeadAt.new w a b (.int .i64 m) v).cells
  obtain ⟨w1, hw1⟩ : ∃ w1, w1 = w.alloc (.cells #[a, b, .int .i64 m, v] 34) := ⟨_, rfl⟩
  have HW1 := hid hw1
  have hsz1 : w.heap.size ≤ w1.heap.size := by rw [hw1]; simp
  rw [← hw1] at hB HB0 z0 z1 z2 z3
  have hr := body_range h
  have hst := body_stat h
  obtain ⟨s, hse⟩ : ∃ s : ByteArray, s = ⟨L.toArray⟩ := ⟨_, rfl⟩
  have hsz : s.size = L.length := by rw [hse, size_list]
  have hC := fun w => chunksN_any L k w (by omega) hk
  have hF := fun (y : List UInt8) w => freshP_any y w
  rw [← hse] at hC ⊢
  have HX : Hid (∀ e, s.extract k e = ⟨((L.drop k).take (e - k)).toArray⟩) := hid (fun e => by rw [hse, extract_list])
  obtain ⟨T, hT⟩ : ∃ T, T = bodyAt h L k := ⟨_, rfl⟩
  rw [← hT]
  unfold bodyAt at hT
  obtain ⟨kd, hkd⟩ : ∃ x, x = (bodyL h).1 := ⟨_, rfl⟩
  obtain ⟨st, hstt⟩ : ∃ x, x = (bodyL h).2.2 := ⟨_, rfl⟩
  obtain ⟨n, hn⟩ : ∃ x : Nat, (x : Int) = (bodyL h).2.1 := ⟨(bodyL h).2.1.toNat, by omega⟩
  have e1 : bodyL h = (kd, (n : Int), st) := by rw [hkd, hstt, hn]
  rw [e1] at hB hT hst
  simp only [outB, Int.toNat_natCast] at hB hT hst
  have hn16 : n ≤ 16384 := by omega
  clear hkd hstt hn e1 hr hw1 hse hS hm
  by_cases h0 : st = 0
  · subst h0
    rw [if_neg (by simp)] at hT
    by_cases h2 : kd = 2
    · subst h2
      rw [if_pos rfl] at hT
      have hbc := bod_chk k (chunksL (L.length + 1) [] (L.drop k))
      rw [← hT] at hbc
      obtain ⟨C, hCe⟩ : ∃ C, C = chkT k (chunksL (L.length + 1) [] (L.drop k)) := ⟨_, rfl⟩
      rw [← hCe] at hbc hC
      obtain ⟨c1, c2, c3, c4⟩ := C
      simp only [chkV] at hC
      have HBC := hid hbc
      clear hT hbc hCe hst
      go_enter Tryz.func37, Tryz.ntmps37
      go_wp2_with fail
      rw [← HW1.out]
      refine hB.mono ?_
      clear hB
      rintro e w2 ⟨rfl, hB2⟩
      have HB2 := hid (HB0.out.trans (hB2.mono hsz1))
      clear hB2
      go_wp2_with fail
      refine (hC _).mono ?_
      clear hC
      rintro e w3 ⟨rfl, hB3⟩
      have HB3 := hid (HB2.out.trans (hB3.mono HB2.out.size))
      clear hB3
      go_wp2
      (try simp only [Exit.inBlock, Exit.then])
      go_ret3
      rw [HBC.out]
      exact ⟨rfl, HB3.out⟩
    · have f2 : (kd == 2) = false := by rw [beq_eq_false_iff_ne]; exact h2
      rw [if_neg h2] at hT
      clear h2
      obtain ⟨r, hr⟩ : ∃ r : Nat, r = s.size - k := ⟨_, rfl⟩
      have hsub : (s.size : Int) - (k : Int) = (r : Int) := by omega
      by_cases hlong : L.length < k + n
      · rw [if_pos hlong] at hT
        have f3 : decide (r < n) = true := by simp; omega
        have f4 : r < n := by omega
        have f5 : (s.size : Int) - (k : Int) < (n : Int) := by omega
        have HT := hid hT
        clear hT hC hst hr hlong hsub f3 f4
        go_enter Tryz.func37, Tryz.ntmps37
        go_wp2_with fail
        rw [← HW1.out]
        refine hB.mono ?_
        clear hB
        rintro e w2 ⟨rfl, hB2⟩
        have HB2 := hid (HB0.out.trans (hB2.mono hsz1))
        clear hB2
        go_wp2
        (try simp only [Exit.inBlock, Exit.then])
        go_ret3
        rw [HT.out]
        exact ⟨rfl, HB2.out⟩
      · rw [if_neg hlong] at hT
        have f3 : decide (r < n) = false := by simp; omega
        have HT := hid hT
        obtain ⟨q, hq⟩ : ∃ q, q = k + n := ⟨_, rfl⟩
        have hadd : (k : Int) + (n : Int) = (q : Int) := by omega
        have g1 : (k : Int) ≤ (q : Int) := by omega
        have g2 : (q : Int) ≤ (s.size : Int) := by omega
        have hqk : q - k = n := by omega
        have hx := HX.out q
        rw [hqk] at hx
        have HX2 := hid hx
        have hF2 := hF ((L.drop k).take n)
        rw [← hx] at hF2
        have HQ := hid hq
        clear hT hC hst hr hlong hx hF hq hqk HX
        go_enter Tryz.func37, Tryz.ntmps37
        go_wp2_with fail
        rw [← HW1.out]
        refine hB.mono ?_
        clear hB
        rintro e w2 ⟨rfl, hB2⟩
        have HB2 := hid (HB0.out.trans (hB2.mono hsz1))
        clear hB2
        go_wp2_with fail
        refine (hF2 _).mono ?_
        clear hF2
        rintro e w3 ⟨rfl, hB3⟩
        have HB3 := hid (HB2.out.trans (hB3.mono HB2.out.size))
        clear hB3
        go_wp2
        (try simp only [Exit.inBlock, Exit.then])
        go_ret3
        rw [HT.out]
        refine ⟨?_, HB3.out⟩
        rw [HX2.out, bodT, ← HQ.out]
        rfl
  · rw [if_pos h0] at hT
    have f0 : (st != 0) = true := by rw [bne_iff_ne]; exact h0
    have HT := hid hT
    clear hT hC hst h0
    go_enter Tryz.func37, Tryz.ntmps37
    go_wp2_with fail
    rw [← HW1.out]
    refine hB.mono ?_
    clear hB
    rintro e w2 ⟨rfl, hB2⟩
    have HB2 := hid (HB0.out.trans (hB2.mono hsz1))
    clear hB2
    go_wp2
    (try simp only [Exit.inBlock, Exit.then])
    go_ret3
    rw [HT.out]
    exact ⟨rfl, HB2.out⟩
end Go.Proofs.YtllhibdjopfcnaaGreatDoor
