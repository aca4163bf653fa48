/-
  The contracts of package set's functions on lists of texts: fresh, settle, Of, Join, among, pick.
-/
import Derived.Test.YtaillppmfbbnjaaWordsBase
import Derived.Sort.Walk0
namespace Go.Proofs.Ytaillppmfbbnjaa
open Go.RowKit Go.Sort
set_option linter.unusedVariables false

theorem owns_leS {w : World} {base base' : Nat} {v : Value} {xs : List (List UInt8)} (h : OwnsS w base v xs) (hb : base' ≤ base) : OwnsS w base' v xs := by
  refine ⟨h.1, ?_⟩
  rcases h.2 with hn | ⟨g, cap, cur, rfl, hbase, hg, rest⟩
  · exact Or.inl hn
  · exact Or.inr ⟨g, cap, cur, rfl, by omega, hg, rest⟩

theorem sd_nilS : sdS [] = [] := sdS_of (by simp) (fun _ => Iff.rfl)

set_option maxHeartbeats 400000 in
theorem fresh_anyS (v : Value) (xs : List (List UInt8)) (w : World) (hS : SeesS w v xs) (hb : xs.length * 16 ≤ 140737488355328) :
    Calls Try.prog 42 #[v] w fun e w' => ∃ v', e = .returned v' ∧ OwnsS w' w.heap.size v' xs ∧ Below w.heap.size w w' := by
  go_enter Try.func42, Try.ntmps42
  go_wp2_with (at_builtin; refine wpList_appS rfl _ _ rfl w.heap.size (.slice none 0 0) [] rfl (World.ownsRow_nil _ _ _ _) v xs rfl hS (by simpa using hb) (Nat.le_refl _) ?_; intro v' w' h1 h2)
  go_ret
  exact ⟨_, rfl, by simpa using h1, (Below.refl _ _).grown h2 (Nat.le_refl _) (fun k hk => by simp [Value.ownBlock] at hk)⟩

set_option maxHeartbeats 400000 in
theorem settle_anyS (v : Value) (xs : List (List UInt8)) (base : Nat) (w : World) (hO : OwnsS w base v xs) (hb : xs.length < 4611686018427387904) :
    Calls Try.prog 41 #[v] w fun e w' => ∃ v', e = .returned v' ∧ OwnsS w' base v' (sdS xs) ∧ w.grownBy w' v.ownBlock ∧ v'.ownBlock = v.ownBlock := by
  rcases hO.2 with ⟨rfl, hn⟩ | ⟨g, cap, cur, rfl, hbase, hg, h1, h2, h3, h4⟩
  · have hx : xs = [] := List.eq_nil_of_length_eq_zero hn
    subst hx
    go_enter Try.func41, Try.ntmps41
    go_wp2_with fail
    refine (Try.slices_Sort_string_none _ _ _).mono ?_
    rintro e w' ⟨rfl, rfl⟩
    go_wp2_with fail
    refine (Try.slices_Compact_string_empty _ _ _).mono ?_
    rintro e w' ⟨rfl, rfl⟩
    go_wp2
    go_ret
    exact ⟨.slice none 0 0, rfl, by rw [sd_nilS]; exact World.ownsRow_nil _ _ _ _, grownBy_refl _ _, rfl⟩
  · have hgl : g < w.heap.size := (Array.getElem?_eq_some_iff.1 hg).1
    have hH : Holds encStr w g 0 xs.toArray := holds_of_block hg (by simpa using h4)
    have hc1 := Try.slices_Sort_string g 0 cap xs w hH hgl hb
    have hS1 : ∀ n os, (grow (putRow encStr (Sort.ahead w n) g 0 (xs.mergeSort fun x y => decide (x ≤ y)).toArray) os).ownsRow base 9 1 (.slice (some ⟨g, 0, none⟩) xs.length cap) xs.length ((xs.mergeSort fun x y => decide (x ≤ y)).map encStr) :=
      fun n os => ownsRow_sorted (List.length_mergeSort _) hbase hg h1 h2 h3
    have hG1 : ∀ n os, w.grownBy (grow (putRow encStr (Sort.ahead w n) g 0 (xs.mergeSort fun x y => decide (x ≤ y)).toArray) os) (some g) := fun n os => grownBy_sorted _
    clear hH hO hg h4 h3
    have HS1 := hid hS1
    have HG1 := hid hG1
    clear hS1 hG1
    go_enter Try.func41, Try.ntmps41
    go_wp2_with fail
    refine hc1.mono ?_
    clear hc1
    rintro e w1 ⟨rfl, n, os, hw1⟩
    have hS1 := HS1.out n os
    have hG1 := HG1.out n os
    rw [← hw1] at hS1 hG1
    clear hw1 HS1 HG1
    obtain ⟨ys, hys⟩ : ∃ ys, ys = xs.mergeSort fun x y => decide (x ≤ y) := ⟨_, rfl⟩
    have hyl : ys.length = xs.length := by rw [hys]; exact List.length_mergeSort _
    rw [← hys] at hS1
    have hsd : sdS xs = Lib.compact ys := by rw [hys]; rfl
    rcases hS1.2 with ⟨h0, _⟩ | ⟨g', cap', cur1, hv, hbase1, hg1, k1, k2, k3, k4⟩
    · cases h0
    cases hv
    have hc2 := Try.slices_Compact_string g 0 cap ys w1 (holds_of_block hg1 (by rw [hyl]; simpa using k4)) (by omega) (by omega)
    have hle := length_compact_le ys
    have hS2 : ∀ q, (putRow encStr (Sort.ahead w1 q) g 0 (Lib.compact ys ++ List.replicate (ys.length - (Lib.compact ys).length) []).toArray).ownsRow base 9 1 (.slice (some ⟨g, 0, none⟩) (Lib.compact ys).length cap) (Lib.compact ys).length ((Lib.compact ys).map encStr) := by
      intro q
      have h := ownsRow_sorted (n := q) (os := #[]) (ss := ys) (ts := Lib.compact ys ++ List.replicate (ys.length - (Lib.compact ys).length) []) (by simp; omega) hbase1 hg1 (by omega) k2 k3
      rw [grow_empty] at h
      have h' := owns_cut h (Lib.compact ys).length hle
      simpa using h'
    have hG2 : ∀ q, w1.grownBy (putRow encStr (Sort.ahead w1 q) g 0 (Lib.compact ys ++ List.replicate (ys.length - (Lib.compact ys).length) []).toArray) (some g) := by
      intro q
      have h := grownBy_sorted (w := w1) (g := g) (n := q) (os := #[]) (Lib.compact ys ++ List.replicate (ys.length - (Lib.compact ys).length) []).toArray
      rwa [grow_empty] at h
    rw [hyl] at hc2
    simp only [hyl] at hS2 hG2
    have HS2 := hid hS2
    have HG2 := hid hG2
    have HSD := hid hsd
    clear hS2 hG2 hS1 hsd hys hg1 k1 k2 k3 k4 hyl
    go_wp2_with fail
    refine hc2.mono ?_
    clear hc2
    rintro e w2 ⟨rfl, q, hw2⟩
    have hS3 := HS2.out q
    have hG3 := HG2.out q
    rw [← hw2] at hS3 hG3
    clear hw2 HS2 HG2
    go_wp2
    go_ret
    exact ⟨.slice (some ⟨g, 0, none⟩) (Lib.compact ys).length cap, rfl, by rw [HSD.out]; exact hS3, grownBy_trans hG1 hG3, rfl⟩

set_option maxHeartbeats 400000 in
theorem of_anyS (v : Value) (xs : List (List UInt8)) (w : World) (hS : SeesS w v xs) (hb : xs.length * 16 ≤ 140737488355328) :
    Calls Try.prog 56 #[v] w fun e w' => ∃ v', e = .returned v' ∧ OwnsS w' w.heap.size v' (sdS xs) ∧ Below w.heap.size w w' := by
  go_enter Try.func56, Try.ntmps56
  go_wp2_with fail
  refine (fresh_anyS v xs _ hS hb).mono ?_
  rintro e w1 ⟨v1, rfl, hO, hB⟩
  go_wp2_with fail
  refine (settle_anyS v1 xs _ _ hO (by omega)).mono ?_
  rintro e w2 ⟨v2, rfl, hO2, hG, hbk⟩
  go_wp2
  go_ret
  exact ⟨v2, rfl, hO2, hB.grown hG hB.size (fun k hk => (hO.lt k hk).1)⟩

set_option maxHeartbeats 400000 in
theorem join_anyS (v u : Value) (xs ys : List (List UInt8)) (w : World) (hS : SeesS w v xs) (hT : SeesS w u ys) (hb : (xs.length + ys.length) * 16 ≤ 140737488355328) :
    Calls Try.prog 24 #[v, u] w fun e w' => ∃ v', e = .returned v' ∧ OwnsS w' w.heap.size v' (sdS (xs ++ ys)) ∧ Below w.heap.size w w' := by
  go_enter Try.func24, Try.ntmps24
  go_wp2_with fail
  refine (fresh_anyS v xs _ hS (by omega)).mono ?_
  rintro e w1 ⟨v1, rfl, hO, hB⟩
  have hT1 := hT.below hB
  have hsz := hB.size
  go_wp2_with (first | (at_builtin; refine wpList_appS rfl _ _ rfl w.heap.size v1 xs rfl hO u ys rfl hT1 hb hsz ?_; intro v2 w2 hO2 hG2) | fail)
  refine (settle_anyS v2 (xs ++ ys) _ _ hO2 (by rw [List.length_append]; omega)).mono ?_
  rintro e w3 ⟨v3, rfl, hO3, hG3, hbk⟩
  go_wp2
  go_ret
  have hB2 : Below w.heap.size w w2 := hB.grown hG2 hB.size (fun k hk => (hO.lt k hk).1)
  exact ⟨v3, rfl, hO3, hB2.grown hG3 hB2.size (fun k hk => (hO2.lt k hk).1)⟩

theorem cut_at {lt : List UInt8 → List UInt8 → Prop} (h : SOrd lt) (x : List UInt8) : ∀ xs : List (List UInt8), xs.Pairwise lt → ∃ k, k ≤ xs.length ∧ (∀ t (ht : t < xs.length), t < k → lt xs[t] x) ∧ ∀ t (ht : t < xs.length), k ≤ t → ¬ lt xs[t] x
  | [], _ => ⟨0, Nat.le_refl _, fun t ht => absurd ht (by simp), fun t ht => absurd ht (by simp)⟩
  | a :: l, hp => by
    have hh := List.pairwise_cons.1 hp
    rcases h.tri a x with hax | hax | hax
    · obtain ⟨k, hk, h1, h2⟩ := cut_at h x l hh.2
      refine ⟨k + 1, by simp; omega, fun t ht htk => ?_, fun t ht htk => ?_⟩
      · cases t with
        | zero => exact hax
        | succ t => exact h1 t (by simpa using ht) (by omega)
      · cases t with
        | zero => omega
        | succ t => exact h2 t (by simpa using ht) (by omega)
    · subst hax
      refine ⟨0, Nat.zero_le _, fun t ht htk => by omega, fun t ht _ => ?_⟩
      cases t with
      | zero => exact h.irr _
      | succ t => exact fun e => h.irr _ (h.tr _ _ _ e (hh.1 _ (List.getElem_mem (by simpa using ht))))
    · refine ⟨0, Nat.zero_le _, fun t ht htk => by omega, fun t ht _ => ?_⟩
      cases t with
      | zero => exact fun e => h.irr _ (h.tr _ _ _ e hax)
      | succ t => exact fun e => h.irr _ (h.tr _ _ _ (h.tr _ _ _ e hax) (hh.1 _ (List.getElem_mem (by simpa using ht))))

theorem bsearchS_any (v : Value) (xs : List (List UInt8)) (x : List UInt8) (w : World) (hS : SeesS w v xs) (hr : xs.Pairwise (· < ·)) (hb : xs.length < 4611686018427387904) :
    Calls Try.prog 66 #[v, encStr x] w fun e w' => ∃ i : Int, e = .returned (.tuple #[.int .i64 i, .bool (decide (x ∈ xs))]) ∧ ∃ q, w' = w.drewN q := by
  obtain ⟨b, off, ao, cap, rfl, hcap, _, hao, hcell⟩ := hS
  by_cases hne : xs = []
  · subst hne
    have h := Any2.slices_BinarySearch_string_empty Try.laysNm226 ao cap ⟨x.toArray⟩ w
    refine h.mono ?_
    rintro e w1 ⟨rfl, rfl⟩
    exact ⟨0, by simp, 0, rfl⟩
  · obtain rfl := hao hne
    have h := Any2.slices_BinarySearch_string Try.laysNm226 b off xs.length cap (fun j => if j < xs.length then ⟨(xs.getD j []).toArray⟩ else ⟨x.toArray⟩) ⟨x.toArray⟩ w hb (fun j hj => by rw [hcell j hj]; simp [hj])
    obtain ⟨k, hk, h1, h2⟩ := cut_at ordS x xs hr
    have hbs : Lib.bsGo (fun t => Op.bytesLess ((fun j => if j < xs.length then (⟨(xs.getD j []).toArray⟩ : ByteArray) else ⟨x.toArray⟩) t).toList (⟨x.toArray⟩ : ByteArray).toList) xs.length 0 xs.length = k := by
      refine Lib.bsGo_spec _ k (fun t ht => ?_) (fun t ht => ?_) xs.length 0 xs.length (by omega) (Nat.zero_le _) hk
      · have htn : t < xs.length := by omega
        rw [bytesLess_eq]
        simp only [if_pos htn, ByteArray.toList_mk]
        have := h1 t htn ht
        simpa [List.getD, htn] using this
      · rw [bytesLess_eq]
        by_cases htn : t < xs.length
        · simp only [if_pos htn, ByteArray.toList_mk]
          have := h2 t htn ht
          simpa [List.getD, htn] using this
        · simp only [if_neg htn]
          simp
    rw [hbs] at h
    have hd : decide (k < xs.length ∧ (if k < xs.length then (⟨(xs.getD k []).toArray⟩ : ByteArray) else ⟨x.toArray⟩) = ⟨x.toArray⟩) = decide (x ∈ xs) := by
     rw [decide_eq_decide]
     constructor
     · rintro ⟨hkn, he⟩
       simp only [if_pos hkn, ByteArray.mk.injEq] at he
       have he2 : xs.getD k [] = x := by simpa using congrArg Array.toList he
       rw [← he2]
       simp [List.getD, hkn]
     · intro hx
       obtain ⟨i, hi, e⟩ := List.mem_iff_getElem.1 hx
       have hik : k = i := by
         rcases Nat.lt_trichotomy k i with hlt | heq | hgt
         · have q1 := h2 k (by omega) (Nat.le_refl _)
           have q2 := List.pairwise_iff_getElem.1 hr k i (by omega) hi hlt
           rw [e] at q2
           exact absurd q2 q1
         · exact heq
         · have q1 := h1 i hi hgt
           rw [e] at q1
           exact absurd q1 (List.lt_irrefl _)
       subst hik
       refine ⟨hi, ?_⟩
       simp [hi, List.getD, e]
    refine h.mono ?_
    rintro e w1 ⟨rfl, q, rfl⟩
    exact ⟨(k : Int), congrArg (fun b => Ending.returned (.tuple #[.int .i64 (k : Int), .bool b])) hd, q, rfl⟩

set_option maxHeartbeats 400000 in
theorem among_anyS (v : Value) (xs : List (List UInt8)) (x : List UInt8) (w : World) (hS : SeesS w v xs) (hr : xs.Pairwise (· < ·)) (hb : xs.length < 4611686018427387904) :
    Calls Try.prog 57 #[v, encStr x] w fun e w' => e = .returned (.bool (decide (x ∈ xs))) ∧ Below w.heap.size w w' := by
  have hc := bsearchS_any v xs x w hS hr hb
  obtain ⟨bb, hbb⟩ : ∃ bb, bb = decide (x ∈ xs) := ⟨_, rfl⟩
  rw [← hbb] at hc ⊢
  clear hS hr hbb
  obtain ⟨sx, hsx⟩ : ∃ sx : ByteArray, sx = ⟨x.toArray⟩ := ⟨_, rfl⟩
  have e1 : encStr x = .string sx := by rw [hsx]
  rw [e1] at hc ⊢
  clear hsx e1
  go_enter Try.func57, Try.ntmps57
  go_wp2_with fail
  refine hc.mono ?_
  clear hc
  rintro e w1 ⟨i, rfl, q, rfl⟩
  go_wp2
  go_ret
  exact ⟨rfl, below_drewN (Below.refl _ _) _⟩

theorem filter_take_succS {ys : List (List UInt8)} {k : Nat} {y : List UInt8} (p : List UInt8 → Bool) (hk : k < ys.length) (hy : y = ys.getD k []) : (ys.take (k + 1)).filter p = (ys.take k).filter p ++ (if p y then [y] else []) := by
  have e : y = ys[k] := by rw [hy]; simp [List.getD, hk]
  rw [List.take_succ_eq_append_getElem hk, List.filter_append, e]
  by_cases h : p ys[k] <;> simp [h]

set_option maxHeartbeats 1000000 in
theorem pick_anyS (v u : Value) (inn : Bool) (xs ys : List (List UInt8)) (w : World) (hS : SeesS w v xs) (hT : SeesS w u ys) (hb : (xs.length + ys.length) * 16 ≤ 140737488355328) :
    Calls Try.prog 43 #[v, u, .bool inn] w fun e w' => ∃ v', e = .returned v' ∧ OwnsS w' w.heap.size v' ((sdS xs).filter fun x => decide (x ∈ ys) == inn) ∧ Below w.heap.size w w' := by
  go_enter Try.func43, Try.ntmps43
  go_wp2_with fail
  refine (of_anyS u ys _ hT (by omega)).mono ?_
  rintro e w1 ⟨v1, rfl, hO1, hB1⟩
  have hS1 := hS.below hB1
  have hsz1 := hB1.size
  go_wp2_with fail
  refine (of_anyS v xs _ hS1 (by omega)).mono ?_
  rintro e w2 ⟨v2, rfl, hO2, hB2⟩
  have hO1' := hO1.below hB2
  have hl1 := length_sdS_le xs
  have hl2 := length_sdS_le ys
  have hr := sdS_rises ys
  have hsz2 := hB2.size
  obtain ⟨ps, has⟩ : ∃ ps, ps = sdS xs := ⟨_, rfl⟩
  obtain ⟨qs, hbs⟩ : ∃ qs, qs = sdS ys := ⟨_, rfl⟩
  rw [← has] at hO2 hl1
  rw [← hbs] at hO1' hl2 hr
  have HA := hid has
  have HB := hid hbs
  obtain ⟨b2, off2, ao2, cap2, rfl, hcap2, _, hao2, hcell2⟩ := hO2.sees
  have hsee1 := hO1'.sees
  have HO2 := hid hO2
  have HC := hid hcell2
  clear has hbs hO1 hO1' hS1 hS hT hO2 hcell2
  cases inn
  · go_wp2
    go_loopw [8, 16] (fun o i wr => ∃ k : Nat, k ≤ ps.length ∧ i = .int .i64 k ∧ OwnsS wr w2.heap.size o ((ps.take k).filter fun x => decide (x ∈ qs) == false) ∧ Below w2.heap.size w2 wr) (fun _ i _ => ps.length - (intOf i).toNat)
    case atStart => exact ⟨0, Nat.zero_le _, rfl, World.ownsRow_nil _ _ _ _, Below.refl _ _⟩
    case round =>
      obtain ⟨k, hk, rfl, hown, hbel⟩ := hrel
      have hszr := hbel.size
      by_cases hlt : k < ps.length
      · have hne : ps ≠ [] := by intro h; rw [h] at hlt; simp at hlt
        obtain rfl := hao2 hne
        obtain ⟨y, hy⟩ : ∃ y, y = ps.getD k [] := ⟨_, rfl⟩
        have hc := (hbel.cell (World.block_lt_of_cell? w2 _ (HC.out k hlt))).trans (HC.out k hlt)
        rw [← hy] at hc
        have hfs := filter_take_succS (fun x => decide (x ∈ qs) == false) hlt hy
        have hfl := List.length_filter_le (fun x => decide (x ∈ qs) == false) (ps.take k)
        rw [List.length_take] at hfl
        have HF := hid hfs
        have hseer := hsee1.below hbel
        clear hy hfs hne hao2
        by_cases hq : y ∈ qs
        · go_wp2_with fail
          refine (among_anyS _ qs y _ hseer hr (by omega)).mono ?_
          rintro e w3 ⟨rfl, hb3⟩
          have hown3 := hown.below hb3
          have hsz3 := hb3.size
          have R : OwnsS w3 w2.heap.size u8 ((ps.take (k + 1)).filter fun x => decide (x ∈ qs) == false) ∧ Below w2.heap.size w2 w3 := by
            refine ⟨by rw [HF.out, if_neg (by simp [hq]), List.append_nil]; exact hown3, hbel.trans (hb3.mono hszr)⟩
          clear hown3 hown hb3 hc hseer
          go_wp2
          go_roundw
          case rel => exact ⟨k + 1, by omega, by go_num, R.1, R.2⟩
          case measure => simp [intOf]; omega
        · go_wp2_with fail
          refine (among_anyS _ qs y _ hseer hr (by omega)).mono ?_
          rintro e w3 ⟨rfl, hb3⟩
          have hown3 := hown.below hb3
          have hsz3 := hb3.size
          go_wp2_with (first | (at_builtin; refine wpList_appS rfl _ _ rfl w2.heap.size _ _ rfl (OwnsS.below hown3 ((Below.refl _ _).alloc (Nat.le_refl _) _)) _ [y] rfl (sees_oneS _ _) (by simp only [List.length_singleton]; omega) (by simp; omega) ?_; intro v4 w4 hO4 hG4) | fail)
          have R : OwnsS w4 w2.heap.size v4 ((ps.take (k + 1)).filter fun x => decide (x ∈ qs) == false) ∧ Below w2.heap.size w2 w4 := by
            refine ⟨by rw [HF.out, if_pos (by simp [hq])]; exact hO4, ?_⟩
            exact (((hbel.trans (hb3.mono hszr)).alloc (by omega) _)).grown hG4 (by simp; omega) (fun j hj => (hown3.lt j hj).1)
          clear hO4 hG4 hown3 hown hb3 hc hseer
          go_wp2
          go_roundw
          case rel => exact ⟨k + 1, by omega, by go_num, R.1, R.2⟩
          case measure => simp [intOf]; omega
      · have hke : k = ps.length := by omega
        have hall : (ps.take k).filter (fun x => decide (x ∈ qs) == false) = (sdS xs).filter fun x => decide (x ∈ ys) == false := by
          rw [List.take_of_length_le (by omega), HA.out]
          congr 1
          funext x
          rw [HB.out]
          simp [mem_sdS]
        have HALL := hid hall
        clear hall hke
        go_wp2
        go_ret
        exact ⟨_, rfl, by rw [← HALL.out]; exact owns_leS hown (by omega), (hB1.trans (hB2.mono hsz1)).trans (hbel.mono (by omega))⟩
  · go_wp2
    go_loopw [8, 16] (fun o i wr => ∃ k : Nat, k ≤ ps.length ∧ i = .int .i64 k ∧ OwnsS wr w2.heap.size o ((ps.take k).filter fun x => decide (x ∈ qs) == true) ∧ Below w2.heap.size w2 wr) (fun _ i _ => ps.length - (intOf i).toNat)
    case atStart => exact ⟨0, Nat.zero_le _, rfl, World.ownsRow_nil _ _ _ _, Below.refl _ _⟩
    case round =>
      obtain ⟨k, hk, rfl, hown, hbel⟩ := hrel
      have hszr := hbel.size
      by_cases hlt : k < ps.length
      · have hne : ps ≠ [] := by intro h; rw [h] at hlt; simp at hlt
        obtain rfl := hao2 hne
        obtain ⟨y, hy⟩ : ∃ y, y = ps.getD k [] := ⟨_, rfl⟩
        have hc := (hbel.cell (World.block_lt_of_cell? w2 _ (HC.out k hlt))).trans (HC.out k hlt)
        rw [← hy] at hc
        have hfs := filter_take_succS (fun x => decide (x ∈ qs) == true) hlt hy
        have hfl := List.length_filter_le (fun x => decide (x ∈ qs) == true) (ps.take k)
        rw [List.length_take] at hfl
        have HF := hid hfs
        have hseer := hsee1.below hbel
        clear hy hfs hne hao2
        by_cases hq : y ∈ qs
        · go_wp2_with fail
          refine (among_anyS _ qs y _ hseer hr (by omega)).mono ?_
          rintro e w3 ⟨rfl, hb3⟩
          have hown3 := hown.below hb3
          have hsz3 := hb3.size
          go_wp2_with (first | (at_builtin; refine wpList_appS rfl _ _ rfl w2.heap.size _ _ rfl (OwnsS.below hown3 ((Below.refl _ _).alloc (Nat.le_refl _) _)) _ [y] rfl (sees_oneS _ _) (by simp only [List.length_singleton]; omega) (by simp; omega) ?_; intro v4 w4 hO4 hG4) | fail)
          have R : OwnsS w4 w2.heap.size v4 ((ps.take (k + 1)).filter fun x => decide (x ∈ qs) == true) ∧ Below w2.heap.size w2 w4 := by
            refine ⟨by rw [HF.out, if_pos (by simp [hq])]; exact hO4, ?_⟩
            exact (((hbel.trans (hb3.mono hszr)).alloc (by omega) _)).grown hG4 (by simp; omega) (fun j hj => (hown3.lt j hj).1)
          clear hO4 hG4 hown3 hown hb3 hc hseer
          go_wp2
          go_roundw
          case rel => exact ⟨k + 1, by omega, by go_num, R.1, R.2⟩
          case measure => simp [intOf]; omega
        · go_wp2_with fail
          refine (among_anyS _ qs y _ hseer hr (by omega)).mono ?_
          rintro e w3 ⟨rfl, hb3⟩
          have hown3 := hown.below hb3
          have hsz3 := hb3.size
          have R : OwnsS w3 w2.heap.size u8 ((ps.take (k + 1)).filter fun x => decide (x ∈ qs) == true) ∧ Below w2.heap.size w2 w3 := by
            refine ⟨by rw [HF.out, if_neg (by simp [hq]), List.append_nil]; exact hown3, hbel.trans (hb3.mono hszr)⟩
          clear hown3 hown hb3 hc hseer
          go_wp2
          go_roundw
          case rel => exact ⟨k + 1, by omega, by go_num, R.1, R.2⟩
          case measure => simp [intOf]; omega
      · have hke : k = ps.length := by omega
        have hall : (ps.take k).filter (fun x => decide (x ∈ qs) == true) = (sdS xs).filter fun x => decide (x ∈ ys) == true := by
          rw [List.take_of_length_le (by omega), HA.out]
          congr 1
          funext x
          rw [HB.out]
          simp [mem_sdS]
        have HALL := hid hall
        clear hall hke
        go_wp2
        go_ret
        exact ⟨_, rfl, by rw [← HALL.out]; exact owns_leS hown (by omega), (hB1.trans (hB2.mono hsz1)).trans (hbel.mono (by omega))⟩

end Go.Proofs.Ytaillppmfbbnjaa
