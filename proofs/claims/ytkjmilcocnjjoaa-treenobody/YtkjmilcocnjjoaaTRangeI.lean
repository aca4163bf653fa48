/-
  Range.
-/
import Derived.Test.YtkjmilcocnjjoaaTWalkBI
import Derived.Maps.AppendAt
import Derived.RangeFuncBox
namespace Go.Proofs.Ytkjmilcocnjjoaa.I
open Go.RowKit Go.Shelf Tm
set_option linter.unusedVariables false

attribute [local go_sem] Oper.semAt_some

theorem rising_any (p : Nat) (k : ByteArray) (w : World) :
    Calls Try.prog 33 #[.pointer (some ⟨p, 0, none⟩), .string k] w fun e w' => e = .returned (.func (.func 46) #[] #[.pointer (some ⟨w.heap.size, 0, none⟩), .pointer (some ⟨w.heap.size + 1, 0, none⟩)]) ∧ w' = (w.alloc (.cells #[.pointer (some ⟨p, 0, none⟩)] 59)).alloc (.cells #[.string k] 9) := by
  go_enter Try.func33, Try.ntmps33
  go_wp2
  go_ret
  exact ⟨rfl, rfl⟩

set_option maxHeartbeats 4000000 in
theorem rising_stops (o n d B n₀ : Nat) (ho : 2 ≤ o) (ho2 : o ≤ 64) (t : LT d) (k : ByteArray) (w : World) (hn₀ : n₀ ≤ w.heap.size) (hB : B + 1 < w.heap.size) (h : Low n₀ w d t) (hs : srt keyLt (flat d (er d t))) (hok : okT (o - 1) (2 * o - 1) (min d 1) (2 * o - 1) d (er d t))
    (hc0 : w.cell? ⟨B, 0, none⟩ = some (.pointer (some ⟨pT d t, 0, none⟩))) (hc1 : w.cell? ⟨B + 1, 0, none⟩ = some (.string k)) :
    SeqStopsK Fence.wide n Try.prog 46 #[.pointer (some ⟨B, 0, none⟩), .pointer (some ⟨B + 1, 0, none⟩)] (fun x : It => #[.string x.1, encI x.2]) (Below n₀) (fun ys => ys = geL keyLt k (flat d (er d t))) (fun pre => pre <+: geL keyLt k (flat d (er d t))) (geL keyLt k (flat d (er d t))).length w := fun l J Jx W hW hJ hJx hY h0 => by
  have hdd : ∀ k : Nat, (Fence.wide.depth.isSome = true → 1 ≤ k) := fun k h => by simp [Fence.wide] at h
  have c0 := (hW.cell (p := ⟨B, 0, none⟩) (by show B < _; omega)).trans hc0
  have c1 := (hW.cell (p := ⟨B + 1, 0, none⟩) hB).trans hc1
  have hcall := walk_any l n₀ (geL keyLt k (flat d (er d t))).length o ho ho2 J Jx (fun s A A' hs hg => hJ s A A' none hs hg (fun r e => by cases e)) (fun m pre x A hj hl => yieldAt_any rfl m (hY pre x A hj hl)) k d t (n - 1) [] W (min d 1) (h.below (hW.mono hn₀)) hs hok h0 (by simp) (Nat.le_trans hn₀ hW.size)
  refine callsIn_of_wp Try.func46 rfl trivial ?_ rfl
  simp only [Try.ntmps46, List.size_toArray, List.length_cons, List.length_nil, Nat.reduceAdd, Nat.reduceSub, Array.replicate_succ, Array.replicate_zero, List.push_toArray, List.append_toArray, List.nil_append, List.cons_append]
  gi_wp2
  refine ⟨trivial, hdd _, ?_⟩
  refine hcall.mono ?_
  clear hcall
  rintro e W1 (⟨rfl, hJ1, _⟩ | ⟨rfl, q, hq, hx⟩)
  · gi_wp2
    go_end0
    exact ⟨⟨_, rfl⟩, .inl ⟨_, rfl, by simpa using hJ1⟩⟩
  · gi_wp2
    go_end0
    exact ⟨⟨_, rfl⟩, .inr ⟨q, hq, by simpa using hx⟩⟩

theorem less_eq (x y : List UInt8) : Op.bytesLess x y = decide (Lib.compareBytes x y < 0) := by
  induction x generalizing y with
  | nil => cases y <;> simp [Op.bytesLess, Lib.compareBytes]
  | cons a x ih => cases y with
    | nil => simp [Op.bytesLess, Lib.compareBytes]
    | cons b y =>
      simp only [Op.bytesLess, Lib.compareBytes]
      by_cases h1 : a < b
      · simp [h1]
      · by_cases h2 : b < a
        · have h3 : ¬ a = b := fun e => by subst e; exact h1 h2
          simp [h1, h2, h3]
        · have h3 : a = b := by
            apply UInt8.toNat_inj.1
            simp only [UInt8.lt_iff_toNat_lt] at h1 h2
            omega
          subst h3
          simp [ih y]
theorem less_key (a b : ByteArray) : Op.bytesLess a.toList b.toList = keyLt a b := by
  rw [less_eq, ByteArray.toList_eq, ByteArray.toList_eq]; rfl

/-- Below the end, if there is one. -/
def okTo (tt k : ByteArray) : Bool := decide (tt = ⟨#[]⟩) || keyLt k tt
def rangeL (k tt : ByteArray) (m : Int) (L : List It) : List It := ((geL keyLt k L).takeWhile fun x => okTo tt x.1).take m.toNat

theorem range_all {k tt : ByteArray} {m : Int} {L : List It} (h : ∀ x ∈ geL keyLt k L, okTo tt x.1 = true) (hm : ((geL keyLt k L).length : Int) < m) : rangeL k tt m L = geL keyLt k L := by
  unfold rangeL
  have e := List.takeWhile_append_of_pos (p := fun x : It => okTo tt x.1) (l₁ := geL keyLt k L) (l₂ := []) h
  simp only [List.append_nil, List.takeWhile_nil] at e
  rw [e, List.take_of_length_le (by omega)]
theorem range_most {k tt : ByteArray} {m : Int} {L pre : List It} (hp : pre <+: geL keyLt k L) (h : ∀ x ∈ pre, okTo tt x.1 = true) (hm : (pre.length : Int) = m) : rangeL k tt m L = pre := by
  obtain ⟨r, hr⟩ := hp
  unfold rangeL
  rw [← hr, List.takeWhile_append_of_pos h, List.take_left' (by omega)]
theorem range_to {k tt : ByteArray} {m : Int} {L out : List It} {x : It} (hp : (out ++ [x]) <+: geL keyLt k L) (h : ∀ y ∈ out, okTo tt y.1 = true) (hx : okTo tt x.1 = false) (hm : (out.length : Int) < m) : rangeL k tt m L = out := by
  obtain ⟨r, hr⟩ := hp
  unfold rangeL
  rw [← hr, List.append_assoc, List.takeWhile_append_of_pos h]
  simp only [List.singleton_append, List.takeWhile_cons, hx]
  simp only [Bool.false_eq_true, if_false, List.append_nil]
  exact List.take_of_length_le (by omega)

theorem ownFrom_ex {β γ : Type} {B : Nat} {I : γ → β → World → Prop} (h : ∀ c, OwnFrom B (I c)) : OwnFrom B (fun s W => ∃ c, I c s W) := fun s W W' row ⟨c, hc⟩ hg hr => ⟨c, h c s W W' row hc hg hr⟩

set_option maxRecDepth 100000 in
set_option maxHeartbeats 4000000 in
theorem range_any {w : World} {q o d : Nat} {t : LT d} {L : List It} (h : TrA w q o d t L) (ho : 2 ≤ o) (ho2 : o ≤ 64) (hL : L.length ≤ 1099511627776) (k tt : ByteArray) (m : Int) (hm : 0 < m) :
    Calls Try.prog 16 #[.pointer (some ⟨q, 0, none⟩), .string k, .string tt, .int .i64 m] w fun e w' =>
      ∃ v, e = .returned v ∧ w'.ownsRow w.heap.size 47 2 v (rangeL k tt m L).length (itC encI (rangeL k tt m L)) ∧ Below w.heap.size w w' := by
  obtain ⟨i0, hi0, hz0, hzs, hzb⟩ := info_parts I.info
  obtain ⟨c0, c1, c2, c3, cf⟩ := h.cells
  have hm0 : ¬ m ≤ 0 := by omega
  have hdd : ∀ k : Nat, (Fence.wide.depth.isSome = true → 1 ≤ k) := fun k h => by simp [Fence.wide] at h
  have hq := heap_lt h.blk
  have HH := hid h
  have e0 := hdd
  -- the boxes
  obtain ⟨W2, hW2⟩ : ∃ W2, W2 = (w.alloc (.cells #[.string tt] 9)).alloc (.cells #[.int .i64 m] 3) := ⟨_, rfl⟩
  have s2 : W2.heap.size = w.heap.size + 2 := by rw [hW2]; simp
  have b2 : Below w.heap.size w W2 := by rw [hW2]; exact ((Below.refl _ w).alloc (Nat.le_refl _) _).alloc (by simp) _
  have bxT : Boxed W2 w.heap.size 9 (.string tt) := by rw [hW2]; exact (Boxed.new w 9 _).alloc _
  have bxM : Boxed W2 (w.heap.size + 1) 3 (.int .i64 m) := by
    have := Boxed.new (w.alloc (.cells #[.string tt] 9)) 3 (.int .i64 m)
    rw [World.size_alloc] at this
    rw [hW2]; exact this
  obtain ⟨W3, hW3⟩ : ∃ W3, W3 = W2.alloc (.cells #[.slice none 0 0] 28) := ⟨_, rfl⟩
  have s3 : W3.heap.size = w.heap.size + 3 := by rw [hW3]; simp [s2]
  have b3 : Below w.heap.size w W3 := by rw [hW3]; exact b2.alloc (by omega) _
  have bxO : Boxed W3 (w.heap.size + 2) 28 (.slice none 0 0) := by
    have := Boxed.new W2 28 (.slice none 0 0)
    rw [s2] at this
    rw [hW3]; exact this
  obtain ⟨W5, hW5⟩ : ∃ W5, W5 = (W3.alloc (.cells #[.pointer (some ⟨pT d t, 0, none⟩)] 59)).alloc (.cells #[.string k] 9) := ⟨_, rfl⟩
  have s5 : W5.heap.size = w.heap.size + 5 := by rw [hW5]; simp [s3]
  have b5 : Below w.heap.size w W5 := by rw [hW5]; exact (b3.alloc (by omega) _).alloc (by simp [s3]; omega) _
  have bxP : Boxed W5 (w.heap.size + 3) 59 (.pointer (some ⟨pT d t, 0, none⟩)) := by
    have := (Boxed.new W3 59 (.pointer (some ⟨pT d t, 0, none⟩))).alloc (.cells #[.string k] 9)
    rw [s3] at this
    rw [hW5]; exact this
  have bxK : Boxed W5 (w.heap.size + 4) 9 (.string k) := by
    have := Boxed.new (W3.alloc (.cells #[.pointer (some ⟨pT d t, 0, none⟩)] 59)) 9 (.string k)
    rw [World.size_alloc, s3] at this
    rw [hW5]; exact this
  have bxT5 : Boxed W5 w.heap.size 9 (.string tt) := by rw [hW5]; exact (((by rw [hW3]; exact bxT.alloc _ : Boxed W3 w.heap.size 9 (.string tt))).alloc _).alloc _
  have bxM5 : Boxed W5 (w.heap.size + 1) 3 (.int .i64 m) := by rw [hW5]; exact (((by rw [hW3]; exact bxM.alloc _ : Boxed W3 (w.heap.size + 1) 3 (.int .i64 m))).alloc _).alloc _
  have bxO5 : Boxed W5 (w.heap.size + 2) 28 (.slice none 0 0) := by rw [hW5]; exact (bxO.alloc _).alloc _
  have hlow : Low w.heap.size W5 d t := by
    refine Low.below (W := w) ⟨h.lies, fun b hb => ?_⟩ b5
    rcases Nat.lt_or_ge b w.heap.size with hlt | hge
    · exact hlt
    · have := cnt_lt hge h.lies; omega
  have hstops := rising_stops o 2 d (w.heap.size + 3) w.heap.size ho ho2 t k W5 (by omega) (by omega) hlow (by rw [h.holds]; exact h.srt) h.ok bxP.cell bxK.cell
  rw [h.holds] at hstops
  have hgl : (geL keyLt k L).length ≤ L.length := by unfold geL; simp
  have d0 : W2.cell? ⟨q, 0, none⟩ = some (.pointer (some ⟨q, 0, none⟩)) := (b2.cell (p := ⟨q, 0, none⟩) hq).trans c0
  have d3 : W3.cell? ⟨q, 3, none⟩ = some (.pointer (some ⟨pT d t, 0, none⟩)) := (b3.cell (p := ⟨q, 3, none⟩) hq).trans c3
  have dm : W2.cell? ⟨w.heap.size + 1, 0, none⟩ = some (.int .i64 m) := bxM.cell
  have HB5 := hid b5
  have HST := hid hstops
  have HG := hid (And.intro bxT5 (And.intro bxM5 bxO5))
  have hrs := rising_any (pT d t) k W3
  rw [← hW5, s3] at hrs
  clear h hlow hstops b2 b3 b5 bxT bxM bxO bxP bxK bxT5 bxM5 bxO5 c0 c1 c2 c3 cf
  refine (callsIn_wide (n := 3)).1 ?_
  refine callsIn_of_wp_marks Try.func16 rfl trivial ?_ rfl
  simp only [Try.ntmps16, List.size_toArray, List.length_cons, List.length_nil, Nat.reduceAdd, Nat.reduceSub, Array.replicate_succ, Array.replicate_zero, List.push_toArray, List.append_toArray, List.nil_append, List.cons_append]
  have HW2 := hid hW2
  have HW3 := hid hW3
  have HS2 := hid s2
  clear hW2 hW3 hW5 s2 s3
  gi_wp2
  rw [← HW2.out]
  refine ⟨trivial, ?_⟩
  refine (callsIn_wide.2 (given_yes q W2 d0)).mono ?_
  rintro e wz ⟨rfl, hz⟩
  subst hz
  have d3' : (W2.alloc (.cells #[.slice none 0 0] 28)).cell? ⟨q, 3, none⟩ = some (.pointer (some ⟨pT d t, 0, none⟩)) := by rw [← HW3.out]; exact d3
  gi_wp2
  rw [← HW3.out]
  refine ⟨trivial, ?_⟩
  refine (callsIn_wide.2 hrs).mono ?_
  rintro e wz ⟨rfl, hz⟩
  subst hz
  clear hrs d3' d0 d3 dm HW2 HW3
  gi_wp2
  rw [HS2.out]
  have hBs : w.heap.size ≤ wz.heap.size := by omega
  refine wpIn_rangeFunc_ownG rfl (by decide) (gf := 46) (lb := #[.pointer (some ⟨w.heap.size + 3, 0, none⟩), .pointer (some ⟨w.heap.size + 3 + 1, 0, none⟩)]) rfl trivial (enters_of Try.func46 (by kernel_rfl) rfl)
    HST.out belowK_t (belowK_b (by omega)) (Below.refl _ _) (fun _ => rfl)
    (fun pre W => ((((∃ v, Boxed W (w.heap.size + 2) 28 v ∧ W.ownsRow w.heap.size 47 2 v pre.length (itC encI pre) ∧ True) ∧ Below w.heap.size w W) ∧ Boxed W w.heap.size 9 (.string tt)) ∧ Boxed W (w.heap.size + 1) 3 (.int .i64 m)) ∧ ((∀ x ∈ pre, okTo tt x.1 = true) ∧ (pre.length : Int) < m))
    (fun c pre W => ∃ out : List It, ((∃ v, Boxed W (w.heap.size + 2) 28 v ∧ W.ownsRow w.heap.size 47 2 v out.length (itC encI out) ∧ True) ∧ Below w.heap.size w W) ∧ (c = .exit 0 ∧ (∀ x ∈ out, okTo tt x.1 = true) ∧ ((out = pre ∧ (out.length : Int) = m) ∨ ∃ x, pre = out ++ [x] ∧ okTo tt x.1 = false ∧ (out.length : Int) < m)))
    (OwnFrom.and (OwnFrom.and (OwnFrom.and (OwnFrom.and (Own.from (holdsRow_own w.heap.size (w.heap.size + 2) 28 47 2 (fun pre : List It => pre.length) (fun pre => itC encI pre) (fun _ _ => True)) _) (ownFrom_below (Nat.le_refl _) hBs)) (Own.from (boxed_own _ _ (fun _ => .string tt)) _)) (Own.from (boxed_own _ _ (fun _ => .int .i64 m)) _)) (ownFrom_pure _ (fun pre : List It => (∀ x ∈ pre, okTo tt x.1 = true) ∧ (pre.length : Int) < m)))
    (fun c => ownFrom_ex (fun out : List It => OwnFrom.and (OwnFrom.and (Own.from (holdsRow_own w.heap.size (w.heap.size + 2) 28 47 2 (fun _ : List It => out.length) (fun _ => itC encI out) (fun _ _ => True)) _) (ownFrom_below (Nat.le_refl _) hBs)) (ownFrom_pure _ (fun pre : List It => c = .exit 0 ∧ (∀ x ∈ out, okTo tt x.1 = true) ∧ ((out = pre ∧ (out.length : Int) = m) ∨ ∃ x, pre = out ++ [x] ∧ okTo tt x.1 = false ∧ (out.length : Int) < m)))))
    ⟨⟨⟨⟨⟨_, HG.out.2.2, World.ownsRow_nil _ _ _ _, trivial⟩, HB5.out⟩, HG.out.1⟩, HG.out.2.1⟩, ⟨fun x hx => (by cases hx), by simpa using hm⟩⟩
    (fun x => { tmps := #[.pointer (some ⟨q, 0, none⟩), .string k, .string tt, .int .i64 m, undef, undef, .pointer (some ⟨w.heap.size, 0, none⟩), .pointer (some ⟨w.heap.size + 1, 0, none⟩), .slice none 0 0, .pointer (some ⟨w.heap.size + 2, 0, none⟩), .string x.1, encI x.2, .pointer (some ⟨q, 0, none⟩), .bool true, .bool false, .bool false, .int .i64 m, .bool (decide (m ≤ 0)), .bool (decide (m ≤ 0)), .pointer (some ⟨q, 0, none⟩), .pointer (some ⟨q, 0, none⟩), .pointer (some ⟨q, 3, none⟩), .pointer (some ⟨pT d t, 0, none⟩), .string k, .func (.func 46) #[] #[.pointer (some ⟨w.heap.size + 3, 0, none⟩), .pointer (some ⟨w.heap.size + 3 + 1, 0, none⟩)], .string x.1, encI x.2, undef, undef, undef, undef, undef, undef, undef, undef, undef, undef, undef, undef, undef, undef, undef, undef, undef, undef], defers := [] }) ?assign ?body ?done ?stop
  case assign =>
    intro l x W K hK
    gi_wp2
    exact hK
  case body =>
    rintro l pre x W ⟨⟨⟨⟨⟨v, hv, hrow, _⟩, hB⟩, hbT⟩, hbM⟩, hpre, hlt⟩ hN
    have hc := hv.cell
    have hcT := hbT.cell
    have hcM := hbM.cell
    have hpl : pre.length ≤ 1099511627776 := by omega
    cases hok : okTo tt x.1 with
    | false =>
      have htt : ¬ tt = ⟨#[]⟩ := fun e => by subst e; simp [okTo] at hok
      have hlk : keyLt x.1 tt = false := by simp [okTo] at hok; exact hok.2
      have h1 : (tt.toList == []) = false := by
        rw [ByteArray.toList_eq]
        cases hd : tt.data.toList with
        | nil => exact absurd (by obtain ⟨⟨l⟩⟩ := tt; simp at hd; subst hd; rfl) htt
        | cons => rfl
      have h2 : Op.bytesLess x.1.toList tt.toList = false := by rw [less_key]; exact hlk
      clear htt hlk
      gi_wp2
      exact ⟨KeepsFrom.refl _ _, pre, ⟨⟨v, hv, hrow, trivial⟩, hB⟩, rfl, hpre, .inr ⟨x, rfl, hok, hlt⟩⟩
    | true =>
      have hall : ∀ y ∈ pre ++ [x], okTo tt y.1 = true := fun y hy => by
        rcases List.mem_append.1 hy with hy | hy
        · exact hpre y hy
        · obtain rfl := List.mem_singleton.1 hy; exact hok
      have hlen1 : (pre ++ [x]).length = pre.length + 1 := by simp
      have hwr : IntKind.i64.wrap ((pre.length : Int) + 1) = (pre.length : Int) + 1 := by rw [IntKind.wrap_i64]; omega
      have HALL := hid hall
      have hdec : (tt = ⟨#[]⟩) ∨ ((tt.toList == []) = false ∧ Op.bytesLess x.1.toList tt.toList = true) := by
        by_cases htt : tt = ⟨#[]⟩
        · exact .inl htt
        · right
          refine ⟨?_, ?_⟩
          · rw [ByteArray.toList_eq]
            cases hd : tt.data.toList with
            | nil => exact absurd (by obtain ⟨⟨l⟩⟩ := tt; simp at hd; subst hd; rfl) htt
            | cons => rfl
          · rw [less_key]; simpa [okTo, htt] using hok
      have hBs2 := hB.size
      have hnews : ∀ j u, (itC encI [x])[j]? = some u → (W.alloc (.cells #[.string x.1, encI x.2] 47)).cell? ((⟨W.heap.size, 0, none⟩ : Addr).add j) = some u := World.news_of_block (heap_alloc_new W _)
      have hone1 := itC_one encI encI_one [x]
      clear hall hok
      simp only [encI] at hnews ⊢
      rcases hdec with rfl | ⟨h1, h2⟩
      all_goals
        by_cases hml : ((pre.length : Int) + 1 = m)
        all_goals
          gi_wp2_with (gi_at_builtin; refine wpListIn_append_own _ rfl _ _ 28 rfl w.heap.size 47 i0 _ 2 _ Try.underlying28 hi0 hz0 hzs hzb rfl (by decide) _ _ _ rfl (hrow.alloc _) ⟨W.heap.size, 0, none⟩ 1 1 (itC encI [x]) rfl rfl hnews hone1 (by simp only [maxLen]; omega) (by omega) (by simp; omega) ?_; intro v' w1 hown' hgrow _; obtain ⟨g', cap', rfl⟩ := ownsRow_succ hown'; obtain ⟨hv1, hv2, hr2, hk2, hb2⟩ := hv.appended (by decide) hrow hBs2 (by omega) hown' hgrow; have hc1 := hv1.cell; have hf1 := hv1.frozen; have hc2 := hv2.cell; have hbM2 := ((hbM.alloc _).kept hgrow (hbM.not_row (by decide) hrow)).other (B' := w.heap.size + 2) (by omega) (.slice (some ⟨g', 0, none⟩) (pre.length + 1) cap'); have hbT2 := ((hbT.alloc _).kept hgrow (hbT.not_row (by decide) hrow)).other (B' := w.heap.size + 2) (by omega) (.slice (some ⟨g', 0, none⟩) (pre.length + 1) cap'); have hcM2 := hbM2.cell)
          first
            | exact ⟨hk2.from _, pre ++ [x], ⟨⟨_, hv2, by rw [itC_app, hlen1]; exact hr2, trivial⟩, hB.trans hb2⟩, rfl, HALL.out, .inl ⟨rfl, by rw [hlen1]; omega⟩⟩
            | exact ⟨hk2.from _, hb2, ⟨⟨⟨⟨_, hv2, by rw [itC_app, hlen1]; exact hr2, trivial⟩, hB.trans hb2⟩, hbT2⟩, hbM2⟩, HALL.out, by rw [hlen1]; omega⟩
  case done =>
    rintro D ys W hD rfl ⟨⟨⟨⟨⟨v, hv, hrow, _⟩, hB⟩, hbT⟩, hbM⟩, hpre, hlt⟩ hK
    have hc := hv.cell
    gi_wp2
    refine ⟨by simp, .inl ⟨_, _, rfl, run_takeDeferred hK, ?_⟩⟩
    refine ⟨_, results_tmp rfl _ _ _, v, rfl, ?_, hB.trans (belowK_b (w := w) (Nat.le_refl _) W D _ _ (by omega) hK rfl rfl)⟩
    rw [range_all hpre hlt]
    exact ownsRow_putObj hrow _ hK rfl
  case stop =>
    rintro D c pre W hD hp ⟨out, ⟨⟨v, hv, hrow, _⟩, hB⟩, rfl, hall, hor⟩ hK
    have hc := hv.cell
    gi_wp2
    refine ⟨by simp, .inl ⟨_, _, rfl, run_takeDeferred hK, ?_⟩⟩
    refine ⟨_, results_tmp rfl _ _ _, v, rfl, ?_, hB.trans (belowK_b (w := w) (Nat.le_refl _) W D _ _ (by omega) hK rfl rfl)⟩
    have hrl : rangeL k tt m L = out := by
      rcases hor with ⟨rfl, hm2⟩ | ⟨x, rfl, hx, hm2⟩
      · exact range_most hp hall hm2
      · exact range_to hp hall hx hm2
    rw [hrl]
    exact ownsRow_putObj hrow _ hK rfl

end Go.Proofs.Ytkjmilcocnjjoaa.I
