/-
  Rows of things of several cells; lists laid anew; texts laid anew.
-/
import Derived.Test.YtplljpodejpbgaaGreatDoorJNob
import Derived.Test.YtplljpodejpbgaaGreatDoorLRef
namespace Go.Proofs.YtplljpodejpbgaaGreatDoor
open Go.RowKit
set_option linter.unusedVariables false
set_option linter.unusedSimpArgs false

/-- The slice v reads n things of k cells each. -/
def SeesK (k : Nat) (w : World) (v : Value) (n : Nat) (cs : List Value) : Prop :=
  cs.length = n * k ∧ ∃ b off ao cap, v = .slice ao n cap ∧ n ≤ cap ∧ (ao = none → cap = 0) ∧ (0 < n → ao = some ⟨b, off, none⟩) ∧ ∀ j, j < cs.length → w.cell? ⟨b, off + j, none⟩ = some (cs.getD j undef)
theorem SeesK.below {k : Nat} {w w' : World} {v : Value} {n : Nat} {cs : List Value} (h : SeesK k w v n cs) (hb : Below w.heap.size w w') : SeesK k w' v n cs := by
  obtain ⟨hl, b, off, ao, cap, h1, h2, h3, h4, h5⟩ := h
  exact ⟨hl, b, off, ao, cap, h1, h2, h3, h4, fun j hj => (hb.cell (World.block_lt_of_cell? w _ (h5 j hj))).trans (h5 j hj)⟩
theorem SeesK.shape {k : Nat} {w : World} {v : Value} {n : Nat} {cs : List Value} (h : SeesK k w v n cs) : ∃ ao cap, v = .slice ao n cap := by
  obtain ⟨_, b, off, ao, cap, h1, _⟩ := h
  exact ⟨ao, cap, h1⟩
theorem sees_of_row {k : Nat} {w : World} {base : Nat} {e : TypeId} {v : Value} {n : Nat} {cs : List Value} (h : w.ownsRow base e k v n cs) : SeesK k w v n cs := by
  refine ⟨h.1, ?_⟩
  rcases h.2 with ⟨rfl, rfl⟩ | ⟨g, cap, cur, rfl, hbase, hg, hcap, _, hsz, ht⟩
  · exact ⟨0, 0, none, 0, rfl, Nat.le_refl _, fun _ => rfl, fun h => absurd h (by omega), fun j hj => by have := h.1; omega⟩
  · refine ⟨g, 0, _, cap, rfl, hcap, (fun h => by cases h), fun _ => rfl, fun j hj => ?_⟩
    have hj' : j < cur.size := by
      have := congrArg List.length ht
      simp at this
      omega
    have hc : cs.getD j undef = cur.getD j undef := by
      have hj2 : j < n * k := by have := h.1; omega
      rw [← ht]
      simp [List.getD, List.getElem?_take, hj2, Array.getElem?_toList]
    rw [hc]
    simp [World.cell?, hg, hj']
theorem row_shape {k : Nat} {w : World} {base : Nat} {e : TypeId} {v : Value} {n : Nat} {cs : List Value} (h : w.ownsRow base e k v n cs) : ∃ ao cap, v = .slice ao n cap := (sees_of_row h).shape

/-- 'append(v, u...)' of rows of things, v the call's own. -/
theorem wpList_appK {T e : TypeId} {z : Value} {by8 k : Nat} (hT : Tryz.prog.underlying T = some (.slice e)) (hinfo : (Tryz.prog.info? e).map (fun i => (i.zero, i.size, i.bytes)) = some (some z, k, by8)) (hz : z.cells.size = k) (hk : 0 < k)
    {w : World} {ops : Array Oper} {rest : List Oper} {o : Oper} {a : Act} {Q : Exit → Act → World → Prop} (hgd : o.guard = none) (s x : Operand)
    (ho : o.op = .call { callee := .builtin .append, args := #[s, x], argTypes := #[T, T] }) (base : Nat) (v : Value) (n : Nat) (xs : List Value) (hs : a.eval s = v) (hown : w.ownsRow base e k v n xs)
    (u : Value) (m : Nat) (ys : List Value) (hx : a.eval x = u) (hsee : SeesK k w u m ys) (h1 : ∀ y ∈ ys, y.oneCell' = true) (hb : (n + m) * by8 ≤ 140737488355328) (h63 : n + m ≤ maxLen) (hbase : base ≤ w.heap.size)
    (h : ∀ v' w', w'.ownsRow base e k v' (n + m) (xs ++ ys) → w.grownBy w' v.ownBlock → wpList Tryz.prog ops Q rest (a.put o.dst v') w') : wpList Tryz.prog ops Q (o :: rest) a w := by
  obtain ⟨i0, hi, hz0, hz1, hz2⟩ := info_parts hinfo
  obtain ⟨hl, b, off, ao, cap, rfl, hcap, hnil, hao, hcell⟩ := hsee
  by_cases hy : m = 0
  · subst hy
    have hy0 : ys = [] := List.eq_nil_of_length_eq_zero (by simpa using hl)
    subst hy0
    cases ao with
    | none =>
      obtain rfl := hnil rfl
      refine wpList_append_own_none hgd s x T ho base e i0 k hT hi v _ _ hs hown hx ?_
      exact h v w (by simpa using hown) ⟨rfl, rfl, rfl, Nat.le_refl _, fun _ _ _ => rfl⟩
    | some ad =>
      refine wpList_append_own w hgd s x T ho base e i0 z k by8 hT hi hz0 hz1 hz2 hz hk v _ _ hs hown ad 0 cap [] hx (by simp) (by simp) (by simp) h63 (by simpa using hb) hbase ?_
      intro v' w' h1 h2 _
      exact h v' w' (by simpa using h1) h2
  · obtain rfl := hao (by omega)
    refine wpList_append_own w hgd s x T ho base e i0 z k by8 hT hi hz0 hz1 hz2 hz hk v _ _ hs hown ⟨b, off, none⟩ m cap ys hx hl ?_ h1 h63 hb hbase ?_
    · intro j y hj
      have hjl : j < ys.length := (List.getElem?_eq_some_iff.1 hj).1
      rw [addr_add, hcell j hjl]
      simp [List.getD, hj]
    · intro v' w' h1 h2 _
      exact h v' w' h1 h2

theorem infoAcc : (Tryz.prog.info? 86).map (fun i => (i.zero, i.size, i.bytes)) = some (some (.agg #[.string ⟨#[]⟩, .string ⟨#[]⟩, .string ⟨#[]⟩, .int .i64 0, .slice none 0 0]), 5, 80) := by kernel_rfl
theorem infoGra : (Tryz.prog.info? 66).map (fun i => (i.zero, i.size, i.bytes)) = some (some (.agg #[.int .i64 0, .int .i64 0, .int .i64 0, .int .i64 0]), 4, 32) := by kernel_rfl

set_option maxHeartbeats 400000 in
theorem freshI_any (v : Value) (xs : List Int) (w : World) (hS : Sees w v xs) (hb : xs.length * 8 ≤ 140737488355328) :
    Calls Tryz.prog 31 #[v] w fun e w' => ∃ v', e = .returned v' ∧ Owns w' w.heap.size v' xs ∧ Below w.heap.size w w' := by
  go_enter Tryz.func31, Tryz.ntmps31
  go_wp2_with (at_builtin; refine wpList_app rfl _ _ rfl w.heap.size (.slice none 0 0) [] rfl (World.ownsRow_nil _ _ _ _) v xs rfl hS (by simpa using hb) (Nat.le_refl _) ?_; intro v' w' h1 h2)
  go_ret
  exact ⟨_, rfl, by simpa using h1, (Below.refl _ _).grown h2 (Nat.le_refl _) (fun k hk => by simp [Value.ownBlock] at hk)⟩
set_option maxHeartbeats 400000 in
theorem freshA_any (v : Value) (n : Nat) (cs : List Value) (w : World) (hS : SeesK 5 w v n cs) (h1 : ∀ y ∈ cs, y.oneCell' = true) (hb : n * 80 ≤ 140737488355328) :
    Calls Tryz.prog 42 #[v] w fun e w' => ∃ v', e = .returned v' ∧ w'.ownsRow w.heap.size 86 5 v' n cs ∧ Below w.heap.size w w' := by
  go_enter Tryz.func42, Tryz.ntmps42
  go_wp2_with (at_builtin; refine wpList_appK Tryz.underlying70 infoAcc rfl (by decide) rfl _ _ rfl w.heap.size (.slice none 0 0) 0 [] rfl (World.ownsRow_nil _ _ _ _) v n cs rfl hS h1 (by simpa using hb) (by simp only [maxLen]; omega) (Nat.le_refl _) ?_; intro v' w' h1 h2)
  go_ret
  exact ⟨_, rfl, by simpa using h1, (Below.refl _ _).grown h2 (Nat.le_refl _) (fun k hk => by simp [Value.ownBlock] at hk)⟩
set_option maxHeartbeats 400000 in
theorem freshG_any (v : Value) (n : Nat) (cs : List Value) (w : World) (hS : SeesK 4 w v n cs) (h1 : ∀ y ∈ cs, y.oneCell' = true) (hb : n * 32 ≤ 140737488355328) :
    Calls Tryz.prog 44 #[v] w fun e w' => ∃ v', e = .returned v' ∧ w'.ownsRow w.heap.size 66 4 v' n cs ∧ Below w.heap.size w w' := by
  go_enter Tryz.func44, Tryz.ntmps44
  go_wp2_with (at_builtin; refine wpList_appK Tryz.underlying32 infoGra rfl (by decide) rfl _ _ rfl w.heap.size (.slice none 0 0) 0 [] rfl (World.ownsRow_nil _ _ _ _) v n cs rfl hS h1 (by simpa using hb) (by simp only [maxLen]; omega) (Nat.le_refl _) ?_; intro v' w' h1 h2)
  go_ret
  exact ⟨_, rfl, by simpa using h1, (Below.refl _ _).grown h2 (Nat.le_refl _) (fun k hk => by simp [Value.ownBlock] at hk)⟩

theorem secrecy_any (n : Int) (w : World) (h0 : 0 ≤ n) (h1 : n ≤ 1000000) :
    Calls Tryz.prog 35 #[.int .i64 n] w fun e w' => e = .returned (.int .i64 (2 * n + 1)) ∧ w = w' := by
  go_enter Tryz.func35, Tryz.ntmps35
  go_wp2
  go_ret
  exact ⟨rfl, rfl⟩
theorem integrity_any (n : Int) (w : World) (h0 : 0 ≤ n) (h1 : n ≤ 1000000) :
    Calls Tryz.prog 34 #[.int .i64 n] w fun e w' => e = .returned (.int .i64 (2 * n + 2)) ∧ w = w' := by
  have hs := hid (secrecy_any n w h0 h1)
  go_enter Tryz.func34, Tryz.ntmps34
  go_wp2_with fail
  refine hs.out.mono ?_
  rintro e w1 ⟨rfl, hw⟩
  subst w1
  go_wp2
  go_ret
  exact ⟨ret_int (by omega), rfl⟩
theorem isNaN_any (x : Int) (w : World) : Calls Tryz.prog 92 #[.int .i64 x] w fun e w' => e = .returned (.bool false) ∧ w = w' := by
  go_enter Tryz.func92, Tryz.ntmps92
  go_wp2
  go_ret
  exact ⟨rfl, rfl⟩
def cmpI (x y : Int) : Int := if x < y then -1 else if y < x then 1 else 0
theorem compare_any (x y : Int) (w : World) : Calls Tryz.prog 74 #[.int .i64 x, .int .i64 y] w fun e w' => e = .returned (.int .i64 (cmpI x y)) ∧ w = w' := by
  have hx := hid (fun z w => isNaN_any z w)
  by_cases h1 : x < y
  · rw [show cmpI x y = -1 from if_pos h1]
    go_enter Tryz.func74, Tryz.ntmps74
    go_wp2_with fail
    refine (hx.out _ _).mono ?_
    rintro e w1 ⟨rfl, hw⟩
    subst w1
    go_wp2_with fail
    refine (hx.out _ _).mono ?_
    rintro e w1 ⟨rfl, hw⟩
    subst w1
    go_wp2
    go_ret
    exact ⟨rfl, rfl⟩
  · by_cases h2 : y < x
    · rw [show cmpI x y = 1 by unfold cmpI; rw [if_neg h1, if_pos h2]]
      go_enter Tryz.func74, Tryz.ntmps74
      go_wp2_with fail
      refine (hx.out _ _).mono ?_
      rintro e w1 ⟨rfl, hw⟩
      subst w1
      go_wp2_with fail
      refine (hx.out _ _).mono ?_
      rintro e w1 ⟨rfl, hw⟩
      subst w1
      go_wp2
      go_ret
      exact ⟨rfl, rfl⟩
    · rw [show cmpI x y = 0 by unfold cmpI; rw [if_neg h1, if_neg h2]]
      go_enter Tryz.func74, Tryz.ntmps74
      go_wp2_with fail
      refine (hx.out _ _).mono ?_
      rintro e w1 ⟨rfl, hw⟩
      subst w1
      go_wp2_with fail
      refine (hx.out _ _).mono ?_
      rintro e w1 ⟨rfl, hw⟩
      subst w1
      go_wp2
      go_ret
      exact ⟨rfl, rfl⟩
end Go.Proofs.YtplljpodejpbgaaGreatDoor
