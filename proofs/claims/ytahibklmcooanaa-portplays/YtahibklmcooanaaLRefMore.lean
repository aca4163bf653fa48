/-
  The contracts of the document's own Join, Meet, Less and Within, and of 'spoil'.
-/
import Derived.Test.YtahibklmcooanaaLRefOfWalk
import Derived.Test.YtahibklmcooanaaLSetB
namespace Go.Proofs.Ytahibklmcooanaa
open Go.RowKit
set_option linter.unusedVariables false

/-- 'append(v, y)', v the call's own: where it lies then. -/
theorem wpList_app1 {w : World} {ops : Array Oper} {rest : List Oper} {o : Oper} {a : Act} {Q : Exit → Act → World → Prop} (hgd : o.guard = none) (s x : Operand)
    (ho : o.op = .call { callee := .builtin .append, args := #[s, x], argTypes := #[35, 35] }) (base : Nat) (v : Value) (xs : List Int) (hs : a.eval s = v) (hown : Owns w base v xs)
    (vb : Nat) (y : Int) (hx : a.eval x = .slice (some ⟨vb, 0, none⟩) 1 1) (hc : w.cell? ⟨vb, 0, none⟩ = some (.int .i64 y)) (hb : (xs.length + 1) * 8 ≤ 140737488355328) (hbase : base ≤ w.heap.size)
    (h : ∀ v' w', Owns w' base v' (xs ++ [y]) → w.grownBy w' v.ownBlock → (v'.ownBlock = v.ownBlock ∨ ∀ j, v'.ownBlock = some j → w.heap.size ≤ j) → wpList Try.prog ops Q rest (a.put o.dst v') w') : wpList Try.prog ops Q (o :: rest) a w := by
  obtain ⟨i0, hi, hz0, hz1, hz2⟩ := info_parts Try.info3
  have hnews : ∀ j u, [Value.int .i64 y][j]? = some u → w.cell? ((⟨vb, 0, none⟩ : Addr).add j) = some u := by
    intro j u hj
    match j, hj with
    | 0, hj => simp at hj; subst hj; rw [addr_add]; simpa using hc
  have h1c : ∀ u ∈ [Value.int .i64 y], u.oneCell' = true := fun u hu => by simp at hu; subst hu; rfl
  have hwide : ∀ {w' : World}, w.grownBy w' none → w.grownBy w' v.ownBlock := fun hg => ⟨hg.os, hg.tape, hg.output, hg.size, fun k hk _ => hg.block k hk (by simp)⟩
  have grows : ∀ (ao : Option Addr) (cap : Nat), v = .slice ao xs.length cap → (ao = none → xs.length = 0 ∧ cap = 0) → (∀ b, ao = some b → ∀ j u, (xs.map (Value.int .i64))[j]? = some u → w.cell? (b.add j) = some u) → cap < xs.length + 1 → wpList Try.prog ops Q (o :: rest) a w := by
    intro ao cap hv hn hcs hfull
    refine wpList_append_grows w hgd s x 35 ho 3 i0 (.int .i64 0) 1 8 Try.underlying35 hi hz0 hz1 hz2 rfl (by decide) ao xs.length cap (xs.map (Value.int .i64)) (by rw [hs, hv]) hn (by simp) hcs ⟨vb, 0, none⟩ 1 1 [.int .i64 y] hx rfl hnews h1c hfull (by simp only [maxLen]; omega) hb ?_
    intro v' w' h2 h3
    have h4 : Owns w' w.heap.size v' (xs ++ [y]) := by simpa [Owns] using h2
    exact h v' w' (owns_le h4 hbase) (hwide h3) (Or.inr fun j hj => (h4.lt j hj).1)
  rcases hown.2 with ⟨hv, hn⟩ | ⟨g, cap, cur, hv, hbg, hg, hnc, hcm, hcs, htake⟩
  · exact grows none 0 (by rw [hv, hn]) (fun _ => ⟨hn, rfl⟩) (fun b hb => by cases hb) (by omega)
  · by_cases hroom : xs.length + 1 ≤ cap
    · have hown' := hown
      unfold Owns at hown'
      rw [hv] at hown'
      refine wpList_append_fits w hgd s x 35 ho base 3 i0 1 Try.underlying35 hi hz1 g xs.length cap _ (by rw [hs, hv]) hown' ⟨vb, 0, none⟩ 1 1 [.int .i64 y] hx rfl hnews h1c hroom ?_
      intro w' h2 h3
      refine h _ w' ?_ (by rw [hv]; exact h3) (Or.inl (by rw [hv]; rfl))
      simpa [Owns] using h2
    · exact grows (some ⟨g, 0, none⟩) cap hv (fun h => by cases h) (fun b hb j u hj => by cases hb; exact hown.cells (g := g) (by rw [hv]; rfl) j u hj) (by omega)

set_option maxHeartbeats 1000000 in
theorem refLess_any (v u : Value) (xs ys : List Int) (w : World) (hS : Sees w v xs) (hT : Sees w u ys) (hb : xs.length + ys.length ≤ 17179869184) :
    Calls Try.prog 16 #[v, u] w fun e w' => ∃ v', e = .returned v' ∧ Owns w' w.heap.size v' (lessL xs ys) ∧ Below w.heap.size w w' := by
  obtain ⟨b, off, ao, cap, rfl, hcap, _, hao, hcell⟩ := hS
  have HC := hid hcell
  clear hcell
  go_enter Try.func16, Try.ntmps16
  go_wp2
  go_loopw [5, 6] (fun o i wr => ∃ k : Nat, k ≤ xs.length ∧ i = .int .i64 k ∧ Owns wr w.heap.size o ((xs.take k).filter fun x => !decide (x ∈ ys)) ∧ Below w.heap.size w wr) (fun _ i _ => xs.length - (intOf i).toNat)
  case atStart => exact ⟨0, Nat.zero_le _, rfl, World.ownsRow_nil _ _ _ _, Below.refl _ _⟩
  case round =>
    obtain ⟨k, hk, rfl, hown, hbel⟩ := hrel
    have hszr := hbel.size
    have hfl := List.length_filter_le (fun x => !decide (x ∈ ys)) (xs.take k)
    rw [List.length_take] at hfl
    by_cases hlt : k < xs.length
    · have hne : xs ≠ [] := by intro h; rw [h] at hlt; simp at hlt
      obtain rfl := hao hne
      obtain ⟨y, hy⟩ : ∃ y, y = xs.getD k 0 := ⟨_, rfl⟩
      have hc := (hbel.cell (World.block_lt_of_cell? w _ (HC.out k hlt))).trans (HC.out k hlt)
      rw [← hy] at hc
      have hfs := filter_take_succ (fun x => !decide (x ∈ ys)) hlt hy
      have HF := hid hfs
      have hseer := hT.below hbel
      clear hy hfs hne hao
      by_cases hq : y ∈ ys
      · go_wp2_with fail
        refine (has_any _ ys y _ hseer (by omega)).mono ?_
        rintro e w3 ⟨rfl, rfl⟩
        have R : Owns w3 w.heap.size u5 ((xs.take (k + 1)).filter fun x => !decide (x ∈ ys)) := by
          rw [HF.out, if_neg (by simp [hq]), List.append_nil]; exact hown
        clear hown hc hseer
        go_wp2
        go_roundw
        case rel => exact ⟨k + 1, by omega, by go_num, R, hbel⟩
        case measure => simp [intOf]; omega
      · go_wp2_with fail
        refine (has_any _ ys y _ hseer (by omega)).mono ?_
        rintro e w3 ⟨rfl, rfl⟩
        go_wp2_with (first | (at_builtin; refine wpList_app rfl (.tmp 20) (.tmp 25) rfl w.heap.size _ _ rfl (Owns.below hown ((Below.refl _ _).alloc (Nat.le_refl _) _)) _ [y] rfl (sees_one _ _) (by simp only [List.length_singleton]; omega) (by simp; omega) ?_; intro v4 w4 hO4 hG4))
        have R : Owns w4 w.heap.size v4 ((xs.take (k + 1)).filter fun x => !decide (x ∈ ys)) ∧ Below w.heap.size w w4 := by
          refine ⟨by rw [HF.out, if_pos (by simp [hq])]; exact hO4, ?_⟩
          exact (hbel.alloc (by omega) _).grown hG4 (by simp; omega) (fun j hj => (hown.lt j hj).1)
        clear hO4 hG4 hown hc hseer
        go_wp2
        go_roundw
        case rel => exact ⟨k + 1, by omega, by go_num, R.1, R.2⟩
        case measure => simp [intOf]; omega
    · have hall : (xs.take k).filter (fun x => !decide (x ∈ ys)) = xs.filter (fun x => !decide (x ∈ ys)) := by rw [List.take_of_length_le (by omega)]
      rw [hall] at hown hfl
      clear hall
      have hsee := hown.sees
      go_wp2_with fail
      refine (refOf_any _ _ _ hsee (by omega)).mono ?_
      rintro e w4 ⟨v4, rfl, hO4, hB4⟩
      rw [← lessL_eq xs ys] at hO4
      go_wp2
      go_ret
      exact ⟨v4, rfl, owns_le hO4 hszr, hbel.trans (hB4.mono hszr)⟩

set_option maxHeartbeats 400000 in
theorem refWithin_any (v u : Value) (xs ys : List Int) (w : World) (hS : Sees w v xs) (hT : Sees w u ys) (hb : xs.length + ys.length ≤ 17179869184) :
    Calls Try.prog 17 #[v, u] w fun e w' => e = .returned (.bool (withinB xs ys)) ∧ Below w.heap.size w w' := by
  have hlen := length_lessL xs ys
  go_enter Try.func17, Try.ntmps17
  go_wp2_with fail
  refine (refLess_any v u xs ys _ hS hT hb).mono ?_
  rintro e w1 ⟨v1, rfl, hO, hB⟩
  obtain ⟨b2, off2, ao2, cap2, rfl, hcap2, _, hao2, hcell2⟩ := hO.sees
  clear hao2 hcell2 hO
  obtain ⟨ls, hls⟩ : ∃ ls, ls = lessL xs ys := ⟨_, rfl⟩
  have hfin : withinB xs ys = ((ls.length : Int) == 0) := by
    unfold withinB
    rw [← hls]
    cases ls <;> simp
    omega
  rw [← hls] at hlen
  have HF := hid hfin
  rw [← hls]
  clear hfin hls
  go_wp2
  go_ret
  exact ⟨ret_bool (by rw [HF.out]), hB⟩

theorem cell_one (w : World) (v : Value) : (w.alloc (.cells #[v] 3)).cell? ⟨w.heap.size, 0, none⟩ = some v := by simp

theorem grownBy_mono {a b c : World} {r r' : Option Nat} (h : a.grownBy b r) (k : b.grownBy c r') (hr : r' = r ∨ ∀ j, r' = some j → a.heap.size ≤ j) : a.grownBy c r := by
  refine ⟨k.os.trans h.os, k.tape.trans h.tape, k.output.trans h.output, Nat.le_trans h.size k.size, fun i hi hne => ?_⟩
  refine (k.block i (Nat.lt_of_lt_of_le hi h.size) (fun e => ?_)).trans (h.block i hi hne)
  rcases hr with rfl | hr
  · exact hne e
  · have := hr i e.symm
    omega

theorem owns_store {w : World} {base k : Nat} {g n cap : Nat} {ys : List Int} (y : Int) (h : Owns w base (.slice (some ⟨g, 0, none⟩) n cap) ys) (hn : ys.length = n) :
    Owns (w.setCell ⟨g, k, none⟩ (.int .i64 y)) base (.slice (some ⟨g, 0, none⟩) n cap) (ys.set k y) ∧ w.grownBy (w.setCell ⟨g, k, none⟩ (.int .i64 y)) (some g) := by
  subst hn
  have hs := World.ownsRow.stored h k (.int .i64 y)
  refine ⟨?_, hs.2⟩
  unfold Owns
  rw [List.length_set, List.map_set]
  exact hs.1

end Go.Proofs.Ytahibklmcooanaa
