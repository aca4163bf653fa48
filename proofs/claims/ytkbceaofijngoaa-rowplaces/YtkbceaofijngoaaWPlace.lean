/-
  The contracts of row's Place: appendKey, appendSet; of the document's Ahead.
-/
import Derived.Test.YtkbceaofijngoaaWPlMath
import Derived.Test.YtkbceaofijngoaaWLeaf
namespace Go.Proofs.Ytkbceaofijngoaa
open Go.RowKit
set_option linter.unusedVariables false

theorem sees_row (w : World) (cs : Array Value) (n : Nat) (xs : List Nat) (hl : xs.length = n) (hn : 0 < n) (hc : ∀ j, j < n → cs[j]? = some (.int .u8 ((xs.getD j 0 : Nat) : Int))) : SeesN .u8 (w.alloc (.cells cs 5)) (.slice (some ⟨w.heap.size, 0, none⟩) n n) xs := by
  refine ⟨w.heap.size, 0, _, n, by rw [hl], by omega, (fun h => by cases h), fun _ => rfl, fun j hj => ?_⟩
  rw [Nat.zero_add, ← hc j (by omega)]
  simp
theorem sees_b2 (w : World) (y0 y1 : Int) (n0 n1 : Nat) (h0 : y0 = (n0 : Int)) (h1 : y1 = (n1 : Int)) : SeesN .u8 (w.alloc (.cells #[.int .u8 y0, .int .u8 y1] 5)) (.slice (some ⟨w.heap.size, 0, none⟩) 2 2) [n0, n1] := by
  subst h0
  subst h1
  refine sees_row w _ 2 _ rfl (by decide) (fun j hj => ?_)
  match j, hj with
  | 0, _ => rfl
  | 1, _ => rfl
theorem sees_b4 (w : World) (y0 y1 y2 y3 : Int) (n0 n1 n2 n3 : Nat) (h0 : y0 = (n0 : Int)) (h1 : y1 = (n1 : Int)) (h2 : y2 = (n2 : Int)) (h3 : y3 = (n3 : Int)) : SeesN .u8 (w.alloc (.cells #[.int .u8 y0, .int .u8 y1, .int .u8 y2, .int .u8 y3] 5)) (.slice (some ⟨w.heap.size, 0, none⟩) 4 4) [n0, n1, n2, n3] := by
  subst h0
  subst h1
  subst h2
  subst h3
  refine sees_row w _ 4 _ rfl (by decide) (fun j hj => ?_)
  match j, hj with
  | 0, _ => rfl
  | 1, _ => rfl
  | 2, _ => rfl
  | 3, _ => rfl

set_option maxRecDepth 20000 in
set_option maxHeartbeats 1000000 in
theorem appendKey_any (k : ByteArray) (v : Value) (xs : List Nat) (w : World) (B : Nat) (hO : OwnsN .u8 5 w B v xs) (hB : B ≤ w.heap.size) (hn : k.size ≤ 1000) (hlen : xs.length ≤ 900000) :
    Calls Try.prog 51 #[v, .string k] w fun e w' => ∃ v', e = .returned v' ∧ OwnsN .u8 5 w' B v' (xs ++ keyE (bytesOf k)) ∧ Below B w w' := by
  have HO := hid hO
  have HKL := hid (keyE_len (bytesOf k))
  have HBL := hid (bytesOf_len k)
  clear hO
  go_enter Try.func51, Try.ntmps51
  go_wp2_with fail
  go_loopw [0, 8] (fun u i wr => ∃ (j : Nat) (ys : List Nat), j ≤ k.size ∧ i = .int .i64 (j : Int) ∧ OwnsN .u8 5 wr B u ys ∧ ys ++ keyE ((bytesOf k).drop j) = xs ++ keyE (bytesOf k) ∧ Below B w wr ∧ B ≤ wr.heap.size) (fun _ i _ => k.size - (intOf i).toNat)
  case atStart => exact ⟨0, xs, Nat.zero_le _, rfl, HO.out, rfl, Below.refl _ _, hB⟩
  case round =>
    obtain ⟨j, ys, hj, rfl, hO, hE, hBl, hBs⟩ := hrel
    have hyl2 : ys.length ≤ 903000 := by
      have h1 := HKL.out
      have h2 := HBL.out
      have h3 := congrArg List.length hE
      simp only [List.length_append] at h3
      omega
    have HE := hid hE
    have HO := hid hO
    have HBl := hid hBl
    clear hE hO hBl
    by_cases hlt : j < k.size
    · have hlt' : (j : Int) < (k.size : Int) := by omega
      have hl : j < (bytesOf k).length := by rw [bytesOf_len]; exact hlt
      have hix := index_str k .i64 j j rfl hlt
      have lb := getD_lt (by decide) (bytesOf_lt k) j
      have hE2 := HE.out
      rw [drop_at hl, keyE] at hE2
      obtain ⟨b, hb⟩ : ∃ b, b = (bytesOf k).getD j 0 := ⟨_, rfl⟩
      rw [← hb] at hix lb hE2
      have HE2 := hid hE2
      clear hb hE2 hl HE
      by_cases h0 : b = 0
      · subst h0
        go_wp2_with (first
          | (at_builtin
             refine wpList_appN rowBytes rfl _ _ rfl B u0 ys rfl (HO.out.below (below_alloc wr _)) _ [0] rfl (sees_b1 _ _ 0 (by first | rfl | omega)) (by simp; omega) (by simp; omega) ?_
             intro v2 w2 h1 h2
             have HO2 := hid h1
             have HB2 := hid (below_grownBy (HBl.out.trans ((below_alloc wr _).mono hBs)) h2 (OwnsN.block HO.out) (by simp; omega))
             have hs2 : B ≤ w2.heap.size := by have := h2.size; simp at this; omega
             clear h1 h2 HO)
          | (at_builtin
             refine wpList_appN rowBytes rfl _ _ rfl B v2 (ys ++ [0]) rfl (HO2.out.below (below_alloc w2 _)) _ [1] rfl (sees_b1 _ _ 1 (by first | rfl | omega)) (by simp; omega) (by simp; omega) ?_
             intro v3 w3 h1 h2
             have HO3 := hid h1
             have HB3 := hid (below_grownBy (HB2.out.trans ((below_alloc w2 _).mono hs2)) h2 (OwnsN.block HO2.out) (by simp; omega))
             have hs3 : B ≤ w3.heap.size := by have := h2.size; simp at this; omega
             clear h1 h2)
          | fail)
        go_roundw
        case rel =>
          refine ⟨j + 1, ys ++ [0] ++ [1], by omega, by go_num, HO3.out, ?_, HB3.out, hs3⟩
          rw [← HE2.out]
          simp
        case measure => simp [intOf]; omega
      · have h0' : ((b : Int) == 0) = false := by rw [beq_eq_false_iff_ne]; omega
        go_wp2_with (first
          | (at_builtin
             refine wpList_appN rowBytes rfl _ _ rfl B u0 ys rfl (HO.out.below (below_alloc wr _)) _ [b] rfl (sees_b1 _ _ b (by first | rfl | omega)) (by simp; omega) (by simp; omega) ?_
             intro v2 w2 h1 h2
             have HO2 := hid h1
             have HB2 := hid (below_grownBy (HBl.out.trans ((below_alloc wr _).mono hBs)) h2 (OwnsN.block HO.out) (by simp; omega))
             have hs2 : B ≤ w2.heap.size := by have := h2.size; simp at this; omega
             clear h1 h2 HO)
          | fail)
        go_roundw
        case rel =>
          refine ⟨j + 1, ys ++ [b], by omega, by go_num, HO2.out, ?_, HB2.out, hs2⟩
          rw [← HE2.out, if_neg h0]
          simp
        case measure => simp [intOf]; omega
    · have hlt' : ¬ (j : Int) < (k.size : Int) := by omega
      have hE2 := HE.out
      rw [List.drop_eq_nil_of_le (by rw [bytesOf_len]; omega), keyE] at hE2
      have HE2 := hid hE2
      clear hE2 HE
      go_wp2_with (first
        | (at_builtin
           refine wpList_appN rowBytes rfl _ _ rfl B u0 ys rfl (HO.out.below (below_alloc wr _)) _ [0, 0] rfl (sees_b2 _ _ _ 0 0 rfl rfl) (by simp; omega) (by simp; omega) ?_
           intro v2 w2 h1 h2
           have HO2 := hid h1
           have HB2 := hid (below_grownBy (HBl.out.trans ((below_alloc wr _).mono hBs)) h2 (OwnsN.block HO.out) (by simp; omega))
           clear h1 h2 HO)
        | fail)
      go_ret
      rw [HE2.out] at HO2
      exact ⟨_, rfl, HO2.out, HB2.out⟩

set_option maxRecDepth 20000 in
set_option maxHeartbeats 1000000 in
theorem rowSet_any (w0 : World) (u : Value) (l : List Int) (v : Value) (xs : List Nat) (w : World) (hS : Sees w0 u l) (hw : Below w0.heap.size w0 w) (hl : l.length ≤ 64) (hc : catsP l) (hO : OwnsN .u8 5 w w0.heap.size v xs) (hlen : xs.length ≤ 900000) :
    Calls Try.prog 50 #[v, u] w fun e w' => ∃ v', e = .returned v' ∧ OwnsN .u8 5 w' w0.heap.size v' (xs ++ catsE l) ∧ Below w0.heap.size w w' := by
  obtain ⟨b, off, ao, cap, rfl, hcap, _, hao, hcell⟩ := hS
  have HW := hid hw
  have HC := hid hc
  have HCE := hid hcell
  have HO := hid hO
  have hwsz := hw.size
  clear hO hw hc hcell
  go_enter Try.func50, Try.ntmps50
  go_wp2_with fail
  go_loopw [0, 9] (fun o i wr => ∃ (k : Nat), k ≤ l.length ∧ i = .int .i64 k ∧ OwnsN .u8 5 wr w0.heap.size o (xs ++ catsE (l.take k)) ∧ Below w0.heap.size w wr) (fun _ i _ => l.length - (intOf i).toNat)
  case atStart => exact ⟨0, Nat.zero_le _, rfl, by simpa [catsE] using HO.out, Below.refl _ _⟩
  clear HO
  case round =>
    obtain ⟨k, hk, rfl, hO, hB⟩ := hrel
    have hll : (xs ++ catsE (l.take k)).length ≤ 1000000 := by
      rw [List.length_append, catsE_len, List.length_take]
      omega
    have hsr := hB.size
    have HO := hid hO
    have HB := hid hB
    clear hO hB
    by_cases hlt : k < l.length
    · have hlt' : (k : Int) < (l.length : Int) := by omega
      have hne : l ≠ [] := by intro h; rw [h] at hlt; simp at hlt
      obtain rfl := hao hne
      obtain ⟨y, hy⟩ : ∃ y, y = l.getD k 0 := ⟨_, rfl⟩
      have hcy : wr.cell? ⟨b, off + k, none⟩ = some (.int .i64 y) := by
        have h0 := HCE.out k hlt
        have hb := World.block_lt_of_cell? w0 _ h0
        rw [HB.out.cell (Nat.lt_of_lt_of_le hb (Nat.le_refl _)), HW.out.cell hb, h0, hy]
      have hyr : 1 ≤ y ∧ y ≤ 2147483647 := HC.out.2 y (by rw [hy]; simp [List.getD, hlt])
      have HT := hid (take_snoc hlt hy)
      obtain ⟨m, rfl⟩ := Int.eq_ofNat_of_zero_le (show 0 ≤ y by omega)
      obtain ⟨hy1, hy2⟩ := hyr
      clear hy hne hao
      go_wp2_with (first
        | (at_builtin
           refine wpList_appN rowBytes rfl _ _ rfl w0.heap.size u0 (xs ++ catsE (l.take k)) rfl (HO.out.below (below_alloc wr _)) _ [m / 16777216, m / 65536 % 256, m / 256 % 256, m % 256] rfl (sees_b4 _ _ _ _ _ _ _ _ _ (by omega) (by omega) (by omega) (by omega)) (by simp only [List.length_cons, List.length_nil]; omega) (by simp; omega) ?_
           intro v2 w2 h1 h2
           have HO2 := hid h1
           have HB2 := hid (below_grownBy (HB.out.trans ((below_alloc wr _).mono (by omega))) h2 (OwnsN.block HO.out) (by simp; omega))
           clear h1 h2 HO)
        | fail)
      go_roundw
      case rel =>
        refine ⟨k + 1, by omega, by go_num, ?_, HB2.out⟩
        rw [HT.out, catsE_snoc, ← List.append_assoc]
        exact HO2.out
      case measure => simp [intOf]; omega
    · have hlt' : ¬ (k : Int) < (l.length : Int) := by omega
      have hO := HO.out
      rw [List.take_of_length_le (by omega)] at hO
      have HO2 := hid hO
      clear hO HO
      go_wp2
      go_ret
      exact ⟨_, rfl, HO2.out, HB.out⟩

/-- The errno of a place. -/
def placeL (k : ByteArray) (s : List Int) : List Nat := if placeOk k s then placeB k s else []

theorem okB_nil : okB [] = true := okB_iff.2 ⟨by simp, catsP_nil⟩

set_option maxRecDepth 20000 in
set_option maxHeartbeats 1000000 in
theorem place_any (k : ByteArray) (u : Value) (l : List Int) (w : World) (hS : Sees w u l) (hk : k.size ≤ 4611686018427387904) (hll : l.length ≤ 4611686018427387904) :
    Calls Try.prog 19 #[.string k, u] w fun e w' => e = .returned (.tuple #[.string (strOf (placeL k l)), .int .i64 (errR (placeOk k l))]) ∧ Below w.heap.size w w' := by
  have hK := isKey_any k w hk
  have hC := check_any u (.slice none 0 0) l [] w hS ⟨0, 0, none, 0, rfl, Nat.le_refl _, fun _ => rfl, fun h => absurd rfl h, fun j hj => by simp at hj⟩ hll (by simp)
  have e1 : mayB l [] = okB l := by rw [mayB, okB_nil, Bool.and_true]
  rw [e1] at hC
  have hS0 := hS
  obtain ⟨b, off, ao, cap, rfl, _⟩ := hS
  cases h1 : keyOk k
  · have HE : Hid (placeOk k l = false) := by unfold Hid; rw [placeOk, h1]; rfl
    have HE2 : Hid (placeL k l = []) := by unfold Hid; rw [placeL, HE.out]; rfl
    rw [h1] at hK
    go_enter Try.func19, Try.ntmps19
    go_wp2_with fail
    refine hK.mono ?_
    clear hK
    rintro e w1 ⟨rfl, hw⟩
    subst hw
    go_wp2
    go_ret2
    exact ⟨by rw [HE2.out, HE.out]; rfl, Below.refl _ _⟩
  · rw [h1] at hK
    cases h2 : okB l
    · have HE : Hid (placeOk k l = false) := by unfold Hid; rw [placeOk, h1, h2]; rfl
      have HE2 : Hid (placeL k l = []) := by unfold Hid; rw [placeL, HE.out]; rfl
      rw [h2] at hC
      unfold errOf at hC
      go_enter Try.func19, Try.ntmps19
      go_wp2_with fail
      refine hK.mono ?_
      clear hK
      rintro e w1 ⟨rfl, hw⟩
      subst hw
      go_wp2_with fail
      refine hC.mono ?_
      clear hC
      rintro e w2 ⟨rfl, q2⟩
      have HQ := hid q2
      clear q2
      go_wp2
      go_ret2
      exact ⟨by rw [HE2.out, HE.out]; rfl, HQ.out⟩
    · have HE : Hid (placeOk k l = true) := by unfold Hid; rw [placeOk, h1, h2]; rfl
      have HE2 : Hid (placeL k l = keyE (bytesOf k) ++ catsE l) := by unfold Hid; rw [placeL, HE.out]; rfl
      rw [h2] at hC
      unfold errOf at hC
      obtain ⟨k1, k2⟩ := keyOk_iff.1 h1
      obtain ⟨l1, l2⟩ := okB_iff.1 h2
      have HL2 := hid l2
      have HKL := hid (keyE_len (bytesOf k))
      have HBL := hid (bytesOf_len k)
      have HS0 := hid hS0
      clear l2 hS0
      go_enter Try.func19, Try.ntmps19
      go_wp2_with fail
      refine hK.mono ?_
      clear hK
      rintro e w1 ⟨rfl, hw⟩
      subst hw
      go_wp2_with fail
      refine hC.mono ?_
      clear hC
      rintro e w2 ⟨rfl, q2⟩
      have HQ := hid q2
      have hs2 := q2.size
      have hR := appendKey_any k (.slice none 0 0) [] w2 w2.heap.size (OwnsN.nil _ _ _ _) (Nat.le_refl _) (by omega) (by simp)
      rw [List.nil_append] at hR
      have HSE := hid (HS0.out.below q2)
      clear q2 HS0
      go_wp2_with fail
      refine hR.mono ?_
      clear hR
      rintro e w3 ⟨v3, rfl, hO3, hB3⟩
      have hs3 := hB3.size
      have hR2 := rowSet_any w2 (.slice ao l.length cap) l v3 _ w3 HSE.out hB3 l1 HL2.out hO3 (by have := HKL.out; have := HBL.out; omega)
      have HB3 := hid hB3
      clear hO3 hB3 HSE
      go_wp2_with fail
      refine hR2.mono ?_
      clear hR2
      rintro e w4 ⟨v4, rfl, hO4, hB4⟩
      have hcv := conv_own hO4
      rw [← HE2.out] at hcv
      have HB4 := hid (HQ.out.trans ((HB3.out.trans hB4).mono hs2))
      clear hO4 hB4
      go_wp2
      go_ret2
      exact ⟨by rw [HE.out]; rfl, HB4.out⟩

theorem lessI_step {s t : List Int} {k : Nat} (h1 : k < s.length) (h2 : k < t.length) (h : s.take k = t.take k) (hne : s.getD k 0 ≠ t.getD k 0) : lessI s t = decide (s.getD k 0 < t.getD k 0) := by
  induction k generalizing s t with
  | zero =>
    cases s with
    | nil => simp at h1
    | cons a x => cases t with
      | nil => simp at h2
      | cons b y =>
        simp [lessI] at hne ⊢
        simp [hne]
  | succ k ih =>
    cases s with
    | nil => simp at h1
    | cons a x => cases t with
      | nil => simp at h2
      | cons b y =>
        simp only [List.take_succ_cons, List.cons.injEq] at h
        obtain ⟨rfl, h⟩ := h
        have := ih (s := x) (t := y) (by simpa using h1) (by simpa using h2) h (by simpa using hne)
        simp [lessI]
        simpa using this
theorem lessI_end {s t : List Int} {k : Nat} (hk : k = s.length ∨ k = t.length) (h1 : k ≤ s.length) (h2 : k ≤ t.length) (h : s.take k = t.take k) : lessI s t = decide (s.length < t.length) := by
  induction k generalizing s t with
  | zero =>
    cases s with
    | nil => cases t <;> simp [lessI]
    | cons a x => cases t with
      | nil => simp [lessI]
      | cons b y => simp at hk
  | succ k ih =>
    cases s with
    | nil => simp at h1
    | cons a x => cases t with
      | nil => simp at h2
      | cons b y =>
        simp only [List.take_succ_cons, List.cons.injEq] at h
        obtain ⟨rfl, h⟩ := h
        have := ih (s := x) (t := y) (by simp at hk; omega) (by simpa using h1) (by simpa using h2) h
        simp [lessI]
        simpa using this

set_option maxRecDepth 20000 in
set_option maxHeartbeats 1000000 in
theorem ahead_any (a b : ByteArray) (u1 u2 : Value) (s t : List Int) (w : World) (h1 : Sees w u1 s) (h2 : Sees w u2 t) (hb1 : s.length ≤ 4611686018427387904) (hb2 : t.length ≤ 4611686018427387904) :
    Calls Try.prog 23 #[.string a, u1, .string b, u2] w fun e w' => e = .returned (.bool (aheadB a s b t)) ∧ Below w.heap.size w w' := by
  obtain ⟨b1, o1, a1, c1, rfl, g1, _, ha1, hc1⟩ := h1
  obtain ⟨b2, o2, a2, c2, rfl, g2, _, ha2, hc2⟩ := h2
  have HC1 := hid hc1
  have HC2 := hid hc2
  clear hc1 hc2
  by_cases hab : a = b
  · have hq : (a.toList == b.toList) = true := by rw [beq_str, decide_eq_true hab]
    have HE : Hid (aheadB a s b t = lessI s t) := by unfold Hid; rw [aheadB, if_pos hab]
    clear hab
    obtain ⟨T, hT⟩ : ∃ T, T = lessI s t := ⟨_, rfl⟩
    rw [HE.out, ← hT]
    have HT := hid hT
    clear hT HE
    go_enter Try.func23, Try.ntmps23
    go_wp2_with fail
    go_loopw [9] (fun i wr => ∃ (k : Nat), k ≤ s.length ∧ k ≤ t.length ∧ i = .int .i64 (k : Int) ∧ s.take k = t.take k ∧ ∃ n, wr = w.drewN n) (fun i _ => s.length - (intOf i).toNat)
    case atStart => exact ⟨0, Nat.zero_le _, Nat.zero_le _, rfl, by simp, 0, rfl⟩
    case round =>
      obtain ⟨k, hk, hk2, rfl, hsame, n, rfl⟩ := hrel
      have HS := hid hsame
      clear hsame
      by_cases hlt : k < s.length
      · have hlt' : (k : Int) < (s.length : Int) := by omega
        by_cases hlt2 : k < t.length
        · have hlt2' : (k : Int) < (t.length : Int) := by omega
          obtain rfl := ha1 (by intro h; rw [h] at hlt; simp at hlt)
          obtain rfl := ha2 (by intro h; rw [h] at hlt2; simp at hlt2)
          have d1 := HC1.out k hlt
          have d2 := HC2.out k hlt2
          have HEQ := hid (fun (e : s.getD k 0 = t.getD k 0) => show s.take (k + 1) = t.take (k + 1) by rw [take_snoc hlt rfl, take_snoc hlt2 rfl, HS.out, e])
          have HNE := hid (fun e => lessI_step hlt hlt2 HS.out e)
          obtain ⟨p, hp⟩ : ∃ p, p = s.getD k 0 := ⟨_, rfl⟩
          obtain ⟨q, hqq⟩ : ∃ q, q = t.getD k 0 := ⟨_, rfl⟩
          rw [← hp] at d1 HEQ HNE
          rw [← hqq] at d2 HEQ HNE
          clear hp hqq
          by_cases hpq : p = q
          · have hn : (p != q) = false := by simp [hpq]
            have HN := hid (HEQ.out hpq)
            clear HEQ HNE hpq
            go_wp2_with fail
            go_quiet (fail)
            go_wp2
            go_roundw
            case rel => exact ⟨k + 1, by omega, by omega, by go_num, HN.out, _, rfl⟩
            case measure => simp [intOf]; omega
          · have hn : (p != q) = true := by simp [hpq]
            have HN := hid (HNE.out hpq)
            clear HEQ HNE hpq
            go_wp2_with fail
            go_quiet (fail)
            go_wp2_with fail
            go_quiet (fail)
            go_wp2
            go_ret
            exact ⟨ret_bool (by rw [HT.out, HN.out]), below_drewN (below_drewN (below_drewN (Below.refl _ _) _) _) _⟩
        · have hlt2' : decide ((k : Int) < (t.length : Int)) = false := by simp; omega
          have HN := hid (lessI_end (Or.inr (by omega)) hk hk2 HS.out)
          have HN2 : Hid (T = decide (s.length < t.length)) := by
            unfold Hid
            rw [HT.out, HN.out]
          clear HN
          go_wp2
          go_ret
          exact ⟨ret_bool HN2.out.symm, below_drewN (Below.refl _ _) _⟩
      · have hlt' : decide ((k : Int) < (s.length : Int)) = false := by simp; omega
        have HN := hid (lessI_end (Or.inl (by omega)) hk hk2 HS.out)
        have HN2 : Hid (T = decide (s.length < t.length)) := by
          unfold Hid
          rw [HT.out, HN.out]
        clear HN
        go_wp2
        go_ret
        exact ⟨ret_bool HN2.out.symm, below_drewN (Below.refl _ _) _⟩
  · have hq : (a.toList == b.toList) = false := by rw [beq_str, decide_eq_false hab]
    have HE : Hid (aheadB a s b t = Op.bytesLess a.toList b.toList) := by unfold Hid; rw [aheadB, if_neg hab, less_key]
    clear hab
    go_enter Try.func23, Try.ntmps23
    go_wp2
    go_ret
    exact ⟨ret_bool HE.out.symm, Below.refl _ _⟩

end Go.Proofs.Ytkbceaofijngoaa
