/-
  What the walk of UriPlus leans on: two rows of bytes side by side.
-/
import Derived.Test.YtomjclkijakcpaaAwake
import Derived.Test.YtomjclkijakcpaaPlusMath
import Derived.Lib.AppendStr
namespace Go.Proofs.Ytomjclkijakcpaa
open Go.RowKit
set_option linter.unusedVariables false

/-! ### 'append(v, text...)': where it lies then -/
theorem append_str_where {w : World} {base : Nat} {v : Value} {n : Nat} {xs : List Value} (hown : w.ownsRow base 5 1 v n xs) (s : ByteArray) (hpos : 0 < s.size) (hb : n + s.size ≤ 140737488355328) {ty : TypeId} {v' : Value} {w' : World}
    (hr : (Builtin.append_ #[38, 9] ty #[v, .string s]).run Try.prog w = .ok v' w') : v'.ownBlock = v.ownBlock ∨ v'.ownBlock = some w.heap.size := by
  obtain ⟨i0, hi, hz0, hz1, hz2⟩ := info_parts Try.info5
  have hxl : xs.length = n := by simpa using hown.1
  rcases hown.2 with ⟨rfl, rfl⟩ | ⟨g, cap, cur, rfl, hbg, hg, hnc, hcm, hcs, htake⟩
  · right
    have h := run_append_nil_string (P := Try.prog) w 38 9 ty 5 i0 (.int .u8 0) Try.underlying38 Try.underlying9 hi hz0 s hpos (by omega) (by rw [hz2]; omega)
    rw [h] at hr
    obtain ⟨rfl, _⟩ := Result.ok.inj hr
    rfl
  · by_cases hroom : n + s.size ≤ cap
    · left
      have h := Go.Lib.run_append_room_string (P := Try.prog) w 38 9 ty 5 i0 Try.underlying38 Try.underlying9 hi hz1 g n cap cur hg s hroom (by rw [hcs]; omega)
      rw [h] at hr
      obtain ⟨rfl, _⟩ := Result.ok.inj hr
      rfl
    · right
      have holds : ∀ j u, xs[j]? = some u → w.cell? ((⟨g, 0, none⟩ : Addr).add j) = some u := hown.cells (g := g) rfl
      have h := Go.Lib.run_append_grow_string (P := Try.prog) w 38 9 ty 5 i0 (.int .u8 0) Try.underlying38 Try.underlying9 hi hz0 ⟨g, 0, none⟩ n cap xs (by rw [hz1]; omega) holds s (by omega) (by omega) (by rw [hz2]; exact growslice_fits (by omega) (by omega))
      rw [h] at hr
      obtain ⟨rfl, _⟩ := Result.ok.inj hr
      rfl

theorem strCells_cells (l : List UInt8) : Go.Lib.strCells ⟨l.toArray⟩ = cellsN .u8 (l.map UInt8.toNat) := by
  simp [Go.Lib.strCells, cellsN]

theorem wpList_appS {w : World} {ops : Array Oper} {rest : List Oper} {o : Oper} {a : Act} {Q : Exit → Act → World → Prop} (hgd : o.guard = none) (sl x : Operand)
    (ho : o.op = .call { callee := .builtin .append, args := #[sl, x], argTypes := #[38, 9] }) (base : Nat) (v : Value) (xs q : List UInt8) (hs : a.eval sl = v) (hown : OwnsB w base v xs)
    (hx : a.eval x = .string ⟨q.toArray⟩) (hq : 0 < q.length) (hb : xs.length + q.length ≤ 140737488355328) (hbase : base ≤ w.heap.size)
    (h : ∀ v' w', OwnsB w' base v' (xs ++ q) → w.grownBy w' v.ownBlock → (v'.ownBlock = v.ownBlock ∨ v'.ownBlock = some w.heap.size) → wpList Try.prog ops Q rest (a.put o.dst v') w') : wpList Try.prog ops Q (o :: rest) a w := by
  obtain ⟨i0, hi, hz0, hz1, hz2⟩ := info_parts Try.info5
  refine wpList_plain hgd fun K hK => ?_
  have hqs : (⟨q.toArray⟩ : ByteArray).size = q.length := size_list q
  have hxl : (xs.map UInt8.toNat).length = xs.length := by simp
  obtain ⟨v', w', hr, h2, h3, h4⟩ := Go.Lib.run_append_own_string (P := Try.prog) w base 38 9 o.type 5 i0 Try.underlying38 Try.underlying9 hi hz0 hz1 hz2 v _ _ hown ⟨q.toArray⟩ (by rw [hqs, hxl]; simp only [maxLen]; omega) (by rw [hqs, hxl]; exact hb) hbase
  have hw := append_str_where hown ⟨q.toArray⟩ (by omega) (by rw [hqs, hxl]; exact hb) hr
  unfold Oper.wp execOp
  simp only [ho, resolve, invoke, builtin, Sem.run_bind, Sem.run_pure, Result.andThen_ok, List.map_toArray, List.map_cons, List.map_nil, hs, hx, hr]
  refine hK _ _ (h v' w' ?_ h3 hw)
  unfold OwnsB OwnsN
  rw [strCells_cells, ← cellsN_app, ← List.map_append] at h2
  rw [hqs, hxl] at h2
  simpa using h2

/-- Two rows of the call's own, apart. -/
structure Two (w : World) (B : Nat) (t u : Value) (xs ys : List UInt8) : Prop where
  ot : OwnsB w B t xs
  ou : OwnsB w B u ys
  apart : ∀ a b, t.ownBlock = some a → u.ownBlock = some b → a ≠ b
theorem Two.nil (w : World) (B : Nat) : Two w B (.slice none 0 0) (.slice none 0 0) [] [] := ⟨OwnsB.nil _ _, OwnsB.nil _ _, fun a b h => by cases h⟩
theorem ownsB_lt {w : World} {B : Nat} {v : Value} {l : List UInt8} (h : OwnsB w B v l) : ∀ k, v.ownBlock = some k → k < w.heap.size := fun k hk => (World.ownsRow.lt h k hk).2
theorem Two.alloc {w : World} {B : Nat} {t u : Value} {xs ys : List UInt8} (h : Two w B t u xs ys) (o : Obj) : Two (w.alloc o) B t u xs ys := ⟨h.ot.below (below_alloc w o), h.ou.below (below_alloc w o), h.apart⟩
theorem Two.below {w w' : World} {B : Nat} {t u : Value} {xs ys : List UInt8} (h : Two w B t u xs ys) (hb : Below w.heap.size w w') : Two w' B t u xs ys := ⟨h.ot.below hb, h.ou.below hb, h.apart⟩
theorem Two.grow1 {w w' : World} {B : Nat} {t t' u : Value} {xs xs' ys : List UInt8} (h : Two w B t u xs ys) (hO : OwnsB w' B t' xs') (hG : w.grownBy w' t.ownBlock) (hw : t'.ownBlock = t.ownBlock ∨ t'.ownBlock = some w.heap.size) : Two w' B t' u xs' ys := by
  refine ⟨hO, World.ownsRow.kept h.ou hG ?_, fun a b ha hb => ?_⟩
  · cases hu : u.ownBlock with
    | none => exact Or.inl rfl
    | some b => exact Or.inr (fun e => h.apart b b e.symm hu rfl)
  · rcases hw with hw | hw
    · rw [hw] at ha; exact h.apart a b ha hb
    · rw [hw] at ha
      have := ownsB_lt h.ou b hb
      have : w.heap.size = a := Option.some.inj ha
      omega
theorem Two.swap {w : World} {B : Nat} {t u : Value} {xs ys : List UInt8} (h : Two w B t u xs ys) : Two w B u t ys xs := ⟨h.ou, h.ot, fun a b ha hb e => h.apart b a hb ha e.symm⟩
theorem Two.grow2 {w w' : World} {B : Nat} {t u u' : Value} {xs ys ys' : List UInt8} (h : Two w B t u xs ys) (hO : OwnsB w' B u' ys') (hG : w.grownBy w' u.ownBlock) (hw : u'.ownBlock = u.ownBlock ∨ u'.ownBlock = some w.heap.size) : Two w' B t u' xs ys' := (h.swap.grow1 hO hG hw).swap

theorem sub_take (q : List UInt8) (s : ByteArray) (k : Nat) (h : k < s.size) : sub q (s.data.toList.take (k + 1)) = sub q (s.data.toList.take k) ++ (if s[k] = 43 then q else [s[k]]) := by
  have h' : k < s.data.toList.length := by rw [len_str]; exact h
  rw [List.take_succ_eq_append_getElem h', sub_append]
  show _ = sub q (s.data.toList.take k) ++ (if s.data.toList[k] = 43 then q else [s.data.toList[k]])
  simp [sub]
theorem sub_pre (q : List UInt8) (hq : q.length = 3) (s : ByteArray) (k : Nat) : (sub q (s.data.toList.take k)).length ≤ 3 * k := by
  have := sub_len q hq (s.data.toList.take k)
  rw [List.length_take] at this
  omega

theorem sub_answers (plus : Bool) (q1 q2 : UInt8) (h1 : 0 ≤ hexD q1) (h2 : 0 ≤ hexD q2) (he : signB q1 q2 = plusB plus 43) (l : List UInt8) (hc : bro l l.length = false) :
    decOut plus (sub [37, q1, q2] l) = decOut plus l ∧ decErr (sub [37, q1, q2] l) = decErr l := by
  obtain ⟨i1, i2⟩ := dec_sub plus q1 q2 h1 h2 he l (bro_all hc)
  unfold decOut decErr
  rw [dec_any true plus, dec_any true plus l, i1]
  by_cases h : (dec plus l).2 = none
  · rw [if_pos h, if_pos h, if_pos (i2.2 h), if_pos (i2.2 h)]
    exact ⟨rfl, rfl⟩
  · rw [if_neg h, if_neg h, if_neg (fun e => h (i2.1 e)), if_neg (fun e => h (i2.1 e))]
    exact ⟨rfl, rfl⟩
theorem bro_err {l : List UInt8} (h : bro l l.length = true) : decErr l = 60 := by
  unfold decErr
  rw [if_neg]
  intro hn
  obtain ⟨j, hj⟩ := bro_true h
  rw [dec_cond true l hn j] at hj
  cases hj
theorem getElem_str (s : ByteArray) (k : Nat) (h : k < s.size) : s.data.toList[k]? = some s[k] := by
  have hl : k < s.data.toList.length := by rw [len_str]; exact h
  rw [List.getElem?_eq_getElem hl]
  rfl
theorem getElem_strN (s : ByteArray) (k : Nat) (h : s.size ≤ k) : s.data.toList[k]? = none := by
  exact List.getElem?_eq_none (by rw [len_str]; exact h)
theorem byte43 {b : UInt8} (h : ((b.toNat : Int) == 43) = true) : b = 43 := by
  have : (b.toNat : Int) = 43 := by simpa using h
  have := byte_eq (b := b) (n := 43) (by omega)
  simpa using this
theorem byte43n {b : UInt8} (h : ((b.toNat : Int) == 43) = false) : b ≠ 43 := by
  intro e
  rw [e] at h
  exact absurd h (by decide)
theorem byte37n {b : UInt8} (h : ((b.toNat : Int) == 37) = false) : b ≠ 37 := by
  intro e
  rw [e] at h
  exact absurd h (by decide)
theorem byte37 {b : UInt8} (h : ((b.toNat : Int) == 37) = true) : b = 37 := by
  have : (b.toNat : Int) = 37 := by simpa using h
  have := byte_eq (b := b) (n := 37) (by omega)
  simpa using this

end Go.Proofs.Ytomjclkijakcpaa
