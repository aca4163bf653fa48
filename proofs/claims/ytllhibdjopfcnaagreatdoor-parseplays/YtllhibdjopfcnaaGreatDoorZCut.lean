/-
  Decode of the code, whole.
-/
import Derived.Test.YtllhibdjopfcnaaGreatDoorZDec
import Derived.Test.YtllhibdjopfcnaaGreatDoorZShelf
import Derived.Laws.StructEq
namespace Go.Proofs.YtllhibdjopfcnaaGreatDoor
open Go.RowKit
set_option linter.unusedVariables false

theorem indexByte_cut (c : UInt8) : ∀ (l : List UInt8), (Lib.indexByte l c = -1 ∧ cutC c l = (l, [], false)) ∨ ∃ k : Nat, Lib.indexByte l c = k ∧ k < l.length ∧ cutC c l = (l.take k, l.drop (k + 1), true)
  | [] => Or.inl ⟨rfl, rfl⟩
  | b :: l => by
    unfold Lib.indexByte
    by_cases h : (b == c) = true
    · rw [if_pos h]
      have hb : b = c := by simpa using h
      exact Or.inr ⟨0, rfl, by simp, by rw [cutC, if_pos hb]; rfl⟩
    · rw [if_neg h]
      have hb : ¬ b = c := by simpa using h
      rcases indexByte_cut c l with ⟨h1, h2⟩ | ⟨k, h1, h2, h3⟩
      · rw [h1]
        exact Or.inl ⟨rfl, by rw [cutC, if_neg hb, h2]⟩
      · rw [h1, if_neg (by simp)]
        exact Or.inr ⟨k + 1, by omega, by simp; omega, by rw [cutC, if_neg hb, h3]; rfl⟩

theorem extract_list (l : List UInt8) (a b : Nat) : (⟨l.toArray⟩ : ByteArray).extract a b = ⟨((l.drop a).take (b - a)).toArray⟩ := by
  rw [ByteArray.extract_mk]
theorem size_list (l : List UInt8) : (⟨l.toArray⟩ : ByteArray).size = l.length := by
  show l.toArray.size = l.length
  simp
theorem str_list (s : ByteArray) : (⟨s.data.toList.toArray⟩ : ByteArray) = s := by
  simp

set_option maxHeartbeats 400000 in
theorem cut36_any (l : List UInt8) (c : UInt8) (w : World) (hs : l.length ≤ 4611686018427387904) :
    Calls Tryz.prog 84 #[.string ⟨l.toArray⟩, .string ⟨#[c]⟩] w fun e w' => e = .returned (.tuple #[.string ⟨(cutC c l).1.toArray⟩, .string ⟨(cutC c l).2.1.toArray⟩, .bool (cutC c l).2.2]) ∧ ∃ n, w' = w.drewN n := by
  obtain ⟨s, hs'⟩ : ∃ s : ByteArray, s = ⟨l.toArray⟩ := ⟨_, rfl⟩
  have hsz : s.size = l.length := by rw [hs', size_list]
  have hI := Tryz.stringslite_Index_one s c w
  rw [show s.data.toList = l by rw [hs']] at hI
  rw [← hs']
  have HS := hid hs'
  clear hs'
  rcases indexByte_cut c l with ⟨h, h3⟩ | ⟨k, h, h2, h3⟩
  · rw [h] at hI
    have HE := hid h3
    clear h3
    go_enter Tryz.func84, Tryz.ntmps84
    go_wp2_with fail
    refine hI.mono ?_
    rintro e w' ⟨rfl, rfl⟩
    go_wp2
    go_ret3
    refine ⟨?_, 0, rfl⟩
    rw [HE.out, HS.out]
    rfl
  · rw [h] at hI
    have HE := hid h3
    have h1 : (k : Int) + 1 ≤ (s.size : Int) := by omega
    have h2' : (k : Int) ≤ (s.size : Int) := by omega
    clear h3
    go_enter Tryz.func84, Tryz.ntmps84
    go_wp2_with fail
    refine hI.mono ?_
    rintro e w' ⟨rfl, rfl⟩
    go_wp2
    go_quiet (fail)
    go_wp2
    go_ret3
    refine ⟨?_, _, rfl⟩
    rw [HE.out, HS.out, extract_list, extract_list]
    simp
    rw [List.take_of_length_le (by simp)]

set_option maxHeartbeats 400000 in
theorem cut_any (l : List UInt8) (c : UInt8) (w : World) (hs : l.length ≤ 4611686018427387904) :
    Calls Tryz.prog 55 #[.string ⟨l.toArray⟩, .string ⟨#[c]⟩] w fun e w' => e = .returned (.tuple #[.string ⟨(cutC c l).1.toArray⟩, .string ⟨(cutC c l).2.1.toArray⟩, .bool (cutC c l).2.2]) ∧ ∃ n, w' = w.drewN n := by
  have hI := cut36_any l c w hs
  go_enter Tryz.func55, Tryz.ntmps55
  go_wp2_with fail
  refine hI.mono ?_
  rintro e w' ⟨rfl, n, rfl⟩
  go_wp2
  go_ret3
  exact ⟨rfl, n, rfl⟩

theorem cutC_len (c : UInt8) (l : List UInt8) : (cutC c l).1.length ≤ l.length ∧ ((cutC c l).2.2 = true → (cutC c l).2.1.length < l.length) ∧ (cutC c l).2.1.length ≤ l.length := by
  rcases cutC_spec c l with ⟨_, h⟩ | ⟨a, b, rfl, _, h⟩
  · rw [h]
    exact ⟨Nat.le_refl _, (fun h => by cases h), by simp⟩
  · rw [h]
    exact ⟨by simp, (fun _ => by simp; omega), by simp; omega⟩

end Go.Proofs.YtllhibdjopfcnaaGreatDoor

namespace Go.Proofs.YtllhibdjopfcnaaGreatDoor
open Go.RowKit
set_option linter.unusedVariables false

def strV (l : List UInt8) : Value := .string ⟨l.toArray⟩
/-- The cells of a list of pairs. -/
def cellsP : List PairL → List Value
  | [] => []
  | p :: r => strV p.1 :: strV p.2 :: cellsP r
theorem cellsP_len (l : List PairL) : (cellsP l).length = l.length * 2 := by
  induction l with
  | nil => rfl
  | cons p r ih => simp [cellsP, ih]; omega
theorem cellsP_app (a b : List PairL) : cellsP (a ++ b) = cellsP a ++ cellsP b := by
  induction a with
  | nil => rfl
  | cons p r ih => simp [cellsP, ih]
theorem cellsP_get : ∀ (l : List PairL) (j : Nat) (h : j < l.length), (cellsP l)[j * 2]? = some (strV l[j].1) ∧ (cellsP l)[j * 2 + 1]? = some (strV l[j].2)
  | [], j, h => by simp at h
  | p :: r, 0, h => by simp [cellsP]
  | p :: r, j + 1, h => by
    have ih := cellsP_get r j (by simpa using h)
    rw [show (j + 1) * 2 = j * 2 + 1 + 1 by omega]
    simpa [cellsP] using ih
theorem cellsP_one (l : List PairL) : ∀ v ∈ cellsP l, v.oneCell' = true := by
  induction l with
  | nil => intro v hv; cases hv
  | cons p r ih =>
    intro v hv
    simp only [cellsP, List.mem_cons] at hv
    rcases hv with rfl | rfl | hv
    · rfl
    · rfl
    · exact ih v hv

/-- The slice v reads the pairs l in the world w. -/
def SeesP (w : World) (v : Value) (l : List PairL) : Prop :=
  ∃ b off ao cap, v = .slice ao l.length cap ∧ l.length ≤ cap ∧ (ao = none → cap = 0) ∧ (l ≠ [] → ao = some ⟨b, off, none⟩) ∧ ∀ j, (h : j < l.length) → w.cell? ⟨b, off + j * 2, none⟩ = some (strV l[j].1) ∧ w.cell? ⟨b, off + j * 2 + 1, none⟩ = some (strV l[j].2)
theorem SeesP.below {w w' : World} {v : Value} {l : List PairL} (h : SeesP w v l) (hb : Below w.heap.size w w') : SeesP w' v l := by
  obtain ⟨b, off, ao, cap, hv, hc, hn, ha, hcell⟩ := h
  refine ⟨b, off, ao, cap, hv, hc, hn, ha, fun j hj => ?_⟩
  obtain ⟨h1, h2⟩ := hcell j hj
  exact ⟨(hb.cell (World.block_lt_of_cell? w _ h1)).trans h1, (hb.cell (World.block_lt_of_cell? w _ h2)).trans h2⟩

/-- The slice v is the call's own, made from block 'base' on, and holds the pairs l. -/
def OwnsP (w : World) (base : Nat) (v : Value) (l : List PairL) : Prop := w.ownsRow base 73 2 v l.length (cellsP l)
theorem OwnsP.below {w w' : World} {base : Nat} {v : Value} {l : List PairL} (h : OwnsP w base v l) (hb : Below w.heap.size w w') : OwnsP w' base v l := ownsRow_below h hb
theorem OwnsP.nil (w : World) (base : Nat) : OwnsP w base (.slice none 0 0) [] := World.ownsRow_nil _ _ _ _
theorem OwnsP.sees {w : World} {base : Nat} {v : Value} {l : List PairL} (h : OwnsP w base v l) : SeesP w v l := by
  rcases h.2 with ⟨rfl, hn⟩ | ⟨g, cap, cur, rfl, hbase, hg, hcap, _, _, ht⟩
  · have : l = [] := List.eq_nil_of_length_eq_zero hn
    subst this
    exact ⟨0, 0, none, 0, rfl, Nat.le_refl _, fun _ => rfl, fun h => absurd rfl h, fun j hj => by simp at hj⟩
  · refine ⟨g, 0, _, cap, rfl, hcap, (fun h => by cases h), fun _ => rfl, fun j hj => ?_⟩
    obtain ⟨e1, e2⟩ := cellsP_get l j hj
    have h1 := h.cells (g := g) rfl _ _ e1
    have h2 := h.cells (g := g) rfl _ _ e2
    rw [addr_add] at h1 h2
    exact ⟨h1, h2⟩
theorem OwnsP.shape {w : World} {base : Nat} {v : Value} {l : List PairL} (h : OwnsP w base v l) : ∃ ao cap, v = .slice ao l.length cap := by
  rcases h.2 with ⟨rfl, hn⟩ | ⟨g, cap, cur, rfl, _⟩
  · exact ⟨none, 0, by rw [hn]⟩
  · exact ⟨_, cap, rfl⟩
theorem OwnsP.block {w : World} {base : Nat} {v : Value} {l : List PairL} (h : OwnsP w base v l) : ∀ j, v.ownBlock = some j → base ≤ j := by
  intro j hj
  rcases h.2 with ⟨rfl, hn⟩ | ⟨g, cap, cur, rfl, hb, _⟩
  · simp [Value.ownBlock] at hj
  · simp [Value.ownBlock] at hj
    omega
theorem OwnsP.le {w : World} {base base' : Nat} {v : Value} {l : List PairL} (h : OwnsP w base v l) (hb : base' ≤ base) : OwnsP w base' v l := by
  refine ⟨h.1, ?_⟩
  rcases h.2 with hn | ⟨g, cap, cur, rfl, hbase, hg, rest⟩
  · exact Or.inl hn
  · exact Or.inr ⟨g, cap, cur, rfl, by omega, hg, rest⟩

theorem Tryz.info46 : (Tryz.prog.info? 73).map (fun i => (i.zero, i.size, i.bytes)) = some (some (.agg #[.string ⟨#[]⟩, .string ⟨#[]⟩]), 2, 32) := by kernel_rfl

theorem news_pair (w : World) (a b : List UInt8) (t : TypeId) : ∀ j u, (cellsP [(a, b)])[j]? = some u → (w.alloc (.cells #[strV a, strV b] t)).cell? ((⟨w.heap.size, 0, none⟩ : Addr).add j) = some u :=
  World.news_of_block (heap_alloc_new w _)

theorem run_appP (w : World) (ty : TypeId) (base : Nat) (v : Value) (l : List PairL) (hown : OwnsP w base v l) (b : Nat) (p : PairL)
    (hsee : ∀ j u, (cellsP [p])[j]? = some u → w.cell? ((⟨b, 0, none⟩ : Addr).add j) = some u) (hb : (l.length + 1) * 32 ≤ 140737488355328) (hbase : base ≤ w.heap.size) :
    ∃ v' w', (Builtin.append_ #[32, 32] ty #[v, .slice (some ⟨b, 0, none⟩) 1 1]).run Tryz.prog w = .ok v' w' ∧ OwnsP w' base v' (l ++ [p]) ∧ w.grownBy w' v.ownBlock := by
  obtain ⟨i0, hi, hz0, hz1, hz2⟩ := info_parts Tryz.info46
  have hmx : l.length + 1 ≤ maxLen := by simp only [maxLen]; omega
  obtain ⟨g, cap', w', hr, h1, h2, _, _⟩ := run_append_lies (P := Tryz.prog) w 32 ty base 73 i0 _ 2 32 Tryz.underlying32 hi hz0 hz1 hz2 (by decide) (by decide) v _ _ hown ⟨b, 0, none⟩ 1 1 (cellsP [p]) rfl hsee (cellsP_one _) (by decide) hmx hb hbase _ rfl
  exact ⟨_, w', hr, by simpa [OwnsP, cellsP_app] using h1, h2⟩

theorem wp_appP {w : World} {o : Oper} {a : Act} {K : Act → World → Prop} {Q : Exit → Act → World → Prop} (s x : Operand)
    (ho : o.op = .call { callee := .builtin .append, args := #[s, x], argTypes := #[32, 32] }) (base : Nat) (v : Value) (l : List PairL) (hs : a.eval s = v) (hown : OwnsP w base v l) (b : Nat) (p : PairL)
    (hx : a.eval x = .slice (some ⟨b, 0, none⟩) 1 1) (hsee : ∀ j u, (cellsP [p])[j]? = some u → w.cell? ((⟨b, 0, none⟩ : Addr).add j) = some u) (hb : (l.length + 1) * 32 ≤ 140737488355328) (hbase : base ≤ w.heap.size)
    (h : ∀ v' w', OwnsP w' base v' (l ++ [p]) → w.grownBy w' v.ownBlock → K (a.put o.dst v') w') : o.wp Tryz.prog a w K Q := by
  obtain ⟨v', w', hr, h1, h2⟩ := run_appP w o.type base v l hown b p hsee hb hbase
  unfold Oper.wp execOp
  simp only [ho, resolve, invoke, builtin, Sem.run_bind, Sem.run_pure, Result.andThen_ok, List.map_toArray, List.map_cons, List.map_nil, hs, hx, hr]
  exact h v' w' h1 h2
theorem step_appP {w : World} {ops : Array Oper} {o : Oper} {a : Act} {K : Act → World → Prop} {Q : Exit → Act → World → Prop} {E : Prop} (hgd : o.guard = none) (s x : Operand)
    (ho : o.op = .call { callee := .builtin .append, args := #[s, x], argTypes := #[32, 32] }) (base : Nat) (v : Value) (l : List PairL) (hs : a.eval s = v) (hown : OwnsP w base v l) (b : Nat) (p : PairL)
    (hx : a.eval x = .slice (some ⟨b, 0, none⟩) 1 1) (hsee : ∀ j u, (cellsP [p])[j]? = some u → w.cell? ((⟨b, 0, none⟩ : Addr).add j) = some u) (hb : (l.length + 1) * 32 ≤ 140737488355328) (hbase : base ≤ w.heap.size)
    (h : ∀ v' w', OwnsP w' base v' (l ++ [p]) → w.grownBy w' v.ownBlock → K (a.put o.dst v') w') :
    if Region.wanted o (yielded ops a.tmps) = true then Oper.wp Tryz.prog o a w K Q else E := by
  have hw : Region.wanted o (yielded ops a.tmps) = true := by simp [Region.wanted, hgd]
  rw [if_pos hw]
  exact wp_appP s x ho base v l hs hown b p hx hsee hb hbase h
theorem wpList_appP {w : World} {ops : Array Oper} {rest : List Oper} {o : Oper} {a : Act} {Q : Exit → Act → World → Prop} (hgd : o.guard = none) (s x : Operand)
    (ho : o.op = .call { callee := .builtin .append, args := #[s, x], argTypes := #[32, 32] }) (base : Nat) (v : Value) (l : List PairL) (hs : a.eval s = v) (hown : OwnsP w base v l) (b : Nat) (p : PairL)
    (hx : a.eval x = .slice (some ⟨b, 0, none⟩) 1 1) (hsee : ∀ j u, (cellsP [p])[j]? = some u → w.cell? ((⟨b, 0, none⟩ : Addr).add j) = some u) (hb : (l.length + 1) * 32 ≤ 140737488355328) (hbase : base ≤ w.heap.size)
    (h : ∀ v' w', OwnsP w' base v' (l ++ [p]) → w.grownBy w' v.ownBlock → wpList Tryz.prog ops Q rest (a.put o.dst v') w') : wpList Tryz.prog ops Q (o :: rest) a w :=
  wpList_plain hgd fun _ hK => wp_appP s x ho base v l hs hown b p hx hsee hb hbase fun v' w' h1 h2 => hK _ _ (h v' w' h1 h2)

end Go.Proofs.YtllhibdjopfcnaaGreatDoor

namespace Go.Proofs.YtllhibdjopfcnaaGreatDoor
open Go.RowKit
set_option linter.unusedVariables false

theorem ret_boolS {a b : Bool} (h : a = b) : (Ending.returned (.bool a) : Ending) = .returned (.bool b) := by rw [h]
theorem Tryz.fields46 : (Tryz.prog.fieldsOf 73).toList.map (fun f => (f.name, f.type, f.offset)) = [("Name", 9, 0), ("Value", 9, 1)] := by kernel_rfl
theorem Tryz.under46 : Tryz.prog.underlying 73 = some (.struct (Tryz.prog.fieldsOf 73)) := by kernel_rfl
theorem Tryz.stood46 : Tryz.prog.stoodInHeld 73 = false := by kernel_rfl
theorem Tryz.guard46 : Tryz.prog.eqGuardType Tryz.prog.depth 73 = false := by kernel_rfl
theorem neq46 (a b c d : ByteArray) (w : World) : (binOp .neq 73 (.agg #[.string a, .string b]) (.agg #[.string c, .string d])).run Tryz.prog w = .ok (.bool (!(a.toList == c.toList && b.toList == d.toList))) w := by
  rw [run_neq_struct, run_equalIn_agg w 9999 73 _ _ Tryz.under46 Tryz.stood46]
  have h := Tryz.fields46
  match hfs : (Tryz.prog.fieldsOf 73).toList with
  | [] => rw [hfs] at h; simp at h
  | [_] => rw [hfs] at h; simp at h
  | f1 :: f2 :: f3 :: r => rw [hfs] at h; simp at h
  | [f1, f2] =>
    rw [hfs] at h
    simp at h
    obtain ⟨⟨n1, t1, o1⟩, n2, t2, o2⟩ := h
    simp [Op.eqFields, n1, t1, o1, n2, t2, o2, go_sem]
    by_cases h1 : a.toList = c.toList
    · by_cases h2 : b.toList = d.toList
      · simp [h1, h2]
      · simp [h1, h2]
    · simp [h1]
theorem toList_str (l : List UInt8) : (⟨l.toArray⟩ : ByteArray).toList = l := by
  rw [ByteArray.toList_eq]
theorem neqP (p q : PairL) (w : World) : (binOp .neq 73 (.agg #[.string ⟨p.1.toArray⟩, .string ⟨p.2.toArray⟩]) (.agg #[.string ⟨q.1.toArray⟩, .string ⟨q.2.toArray⟩])).run Tryz.prog w = .ok (.bool (!decide (p = q))) w := by
  rw [neq46, toList_str, toList_str, toList_str, toList_str]
  congr 2
  obtain ⟨p1, p2⟩ := p
  obtain ⟨q1, q2⟩ := q
  by_cases h1 : p1 = q1
  · by_cases h2 : p2 = q2
    · simp [h1, h2]
    · simp [h1, h2]
  · simp [h1]
theorem guardP (x y : Operand) (xs ys : Array Value) (w : World) : (eqGuard .neq 73 x y (.agg xs) (.agg ys)).run Tryz.prog w = .ok () w := run_eqGuard_agg w .neq 73 x y xs ys Tryz.guard46
theorem take_eq_succ {l1 l2 : List PairL} {k : Nat} (h1 : k < l1.length) (h2 : k < l2.length) (h : l1.take k = l2.take k) (e : l1[k] = l2[k]) : l1.take (k + 1) = l2.take (k + 1) := by
  rw [List.take_succ_eq_append_getElem h1, List.take_succ_eq_append_getElem h2, h, e]

set_option maxRecDepth 20000 in
set_option maxHeartbeats 1000000 in
theorem same_any (v1 v2 : Value) (l1 l2 : List PairL) (w : World) (h1 : SeesP w v1 l1) (h2 : SeesP w v2 l2) (hbig : l1.length ≤ 140737488355328) :
    Calls Tryz.prog 31 #[v1, v2] w fun e w' => e = .returned (.bool (decide (l1 = l2))) ∧ ∃ n, w' = w.drewN n := by
  obtain ⟨b1, o1, a1, c1, rfl, g1, _, ha1, hc1⟩ := h1
  obtain ⟨b2, o2, a2, c2, rfl, g2, _, ha2, hc2⟩ := h2
  have HC1 := hid hc1
  have HC2 := hid hc2
  clear hc1 hc2
  obtain ⟨T, hT⟩ : ∃ T, T = decide (l1 = l2) := ⟨_, rfl⟩
  rw [← hT]
  have HT := hid hT
  clear hT
  by_cases hlen : l1.length = l2.length
  · have HL := hid hlen
    have hl' : ((l1.length : Int) != (l2.length : Int)) = false := by simp [hlen]
    clear hlen
    go_enter Tryz.func31, Tryz.ntmps31
    go_wp2_with fail
    go_loopw [5] (fun i wr => ∃ (k : Nat), k ≤ l1.length ∧ i = .int .i64 (k : Int) ∧ l1.take k = l2.take k ∧ ∃ n, wr = w.drewN n) (fun i _ => l1.length - (intOf i).toNat)
    case atStart => exact ⟨0, Nat.zero_le _, rfl, by simp, 0, rfl⟩
    case round =>
      obtain ⟨k, hk, rfl, hsame, n, rfl⟩ := hrel
      have HS := hid hsame
      clear hsame
      have hlen := HL.out
      by_cases hlt : k < l1.length
      · have hlt' : (k : Int) < (l1.length : Int) := by omega
        have hlt2 : k < l2.length := by omega
        have hlt2' : (k : Int) < (l2.length : Int) := by omega
        obtain rfl := ha1 (by intro h; rw [h] at hlt; simp at hlt)
        obtain rfl := ha2 (by intro h; rw [h] at hlt2; simp at hlt2)
        clear hlen
        obtain ⟨d1, d2⟩ := HC1.out k hlt
        obtain ⟨d3, d4⟩ := HC2.out k hlt2
        unfold strV at d1 d2 d3 d4
        have hn := fun w => neqP l1[k] l2[k] w
        have hg := guardP
        have HE := hid (fun e => take_eq_succ hlt hlt2 HS.out e)
        have HNE : Hid (l1[k] ≠ l2[k] → T = false) := by
          unfold Hid
          intro hne
          rw [HT.out, decide_eq_false_iff_not]
          intro e
          apply hne
          subst e
          rfl
        obtain ⟨p, hp⟩ : ∃ p, p = l1[k] := ⟨_, rfl⟩
        obtain ⟨q, hq⟩ : ∃ q, q = l2[k] := ⟨_, rfl⟩
        rw [← hp] at d1 d2 hn HE HNE
        rw [← hq] at d3 d4 hn HE HNE
        clear hp hq
        by_cases hpq : p = q
        · rw [decide_eq_true hpq] at hn
          have HN := hid (HE.out hpq)
          clear HE HNE hpq
          go_wp2_with fail
          go_quiet (fail)
          go_wp2
          go_roundw
          case rel => exact ⟨k + 1, by omega, by go_num, HN.out, _, rfl⟩
          case measure => simp [intOf]; omega
        · rw [decide_eq_false hpq] at hn
          have HN := hid (HNE.out hpq)
          clear HE HNE hpq
          go_wp2_with fail
          go_quiet (fail)
          go_wp2
          go_ret
          exact ⟨ret_bool HN.out.symm, _, World.drewN_drewN _ _ _⟩
      · have hlt' : ¬ (k : Int) < (l1.length : Int) := by omega
        have HN : Hid (T = true) := by
          unfold Hid
          have h := HS.out
          rw [List.take_of_length_le (by omega), List.take_of_length_le (by omega)] at h
          rw [HT.out, decide_eq_true h]
        clear hlen HS
        go_wp2
        go_ret
        exact ⟨ret_bool HN.out.symm, _, rfl⟩
  · have hl' : ((l1.length : Int) != (l2.length : Int)) = true := by
      rw [bne_iff_ne]; omega
    have HN : Hid (T = false) := by
      unfold Hid
      rw [HT.out, decide_eq_false_iff_not]
      intro e
      exact hlen (by rw [e])
    clear hlen
    go_enter Tryz.func31, Tryz.ntmps31
    go_wp2
    go_ret
    exact ⟨ret_bool HN.out.symm, 0, rfl⟩

end Go.Proofs.YtllhibdjopfcnaaGreatDoor

namespace Go.Proofs.YtllhibdjopfcnaaGreatDoor
open Go.RowKit
set_option linter.unusedVariables false

theorem madeCells_zero (n : Nat) : madeCells #[.int .u8 0] n = (cellsN .u8 (List.replicate n 0)).toArray := by
  apply Array.ext
  · simp [madeCells, cellsN]
  · intro i h1 h2
    simp [madeCells, cellsN, Nat.mod_one]
theorem owns_made (w : World) (base l c : Nat) (hl : l ≤ c) (hc : c ≤ 140737488355328) (hb : base ≤ w.heap.size) : OwnsN .u8 5 (w.alloc (.cells (madeCells #[.int .u8 0] c) 5)) base (.slice (some ⟨w.heap.size, 0, none⟩) l c) (List.replicate l 0) := by
  refine ⟨by simp [cellsN_len], Or.inr ⟨w.heap.size, c, madeCells #[.int .u8 0] c, by rw [List.length_replicate], hb, heap_alloc_new w _, by simpa using hl, by simp only [maxLen]; omega, by simp [size_madeCells], ?_⟩⟩
  rw [madeCells_zero]
  simp only [cellsN, ← List.map_take]
  simp [Nat.min_eq_left hl]
theorem made_run (w : World) (l c : Int) (h0 : 0 ≤ l) (hlc : l ≤ c) (hc : c ≤ 140737488355328) : (Instr.makeSlice 75 (.int .i64 l) (.int .i64 c)).run Tryz.prog w = .ok (.slice (some ⟨w.heap.size, 0, none⟩) l.toNat c.toNat) (w.alloc (.cells (madeCells #[.int .u8 0] c.toNat) 5)) := by
  obtain ⟨i0, hi, hz0, hz1, hz2⟩ := info_parts Tryz.info5
  have h := run_make (P := Tryz.prog) w 75 5 i0 (.int .u8 0) Tryz.underlying75 hi hz0 .i64 .i64 l c h0 hlc (by rw [hz2]; omega) (by omega)
  rw [hz1, Nat.mul_one] at h
  exact h

/-- What Decode answers. -/
def decOut (plus : Bool) (L : List UInt8) : List UInt8 := if (dec plus L).2 = none then (dec plus L).1 else []
def decErr (L : List UInt8) : Int := if (dec true L).2 = none then 0 else 60
def decPl (L : List UInt8) : Nat := (dec true L).2.getD 0

set_option maxRecDepth 20000 in
set_option maxHeartbeats 1000000 in
theorem decode_any (s : ByteArray) (plus : Bool) (w : World) (hs : s.size + 1 ≤ 140737488355328) :
    Calls Tryz.prog 56 #[.string s, .bool plus] w fun e w' => e = .returned (.tuple #[.string ⟨(decOut plus s.data.toList).toArray⟩, .int .i64 (decErr s.data.toList), .int .i64 (decPl s.data.toList : Int)]) ∧ Below w.heap.size w w' := by
  obtain ⟨w1, hw1⟩ : ∃ w1, w1 = w.alloc (.cells #[.bool plus] 4) := ⟨_, rfl⟩
  have hz1 : w1.heap.size = w.heap.size + 1 := by rw [hw1]; simp
  have hmk := made_run w1 0 (s.size : Int) (by omega) (by omega) (by omega)
  rw [show (s.size : Int).toNat = s.size by omega, hz1] at hmk
  obtain ⟨w2, hw2⟩ : ∃ w2, w2 = w1.alloc (.cells (madeCells #[.int .u8 0] s.size) 5) := ⟨_, rfl⟩
  have hz2 : w2.heap.size = w.heap.size + 2 := by rw [hw2]; simp [hz1]
  rw [← hw2] at hmk
  obtain ⟨w4, hw4⟩ : ∃ w4, w4 = w2.alloc (.cells #[.slice (some ⟨w.heap.size + 1, 0, none⟩) 0 s.size] 75) := ⟨_, rfl⟩
  have hv0 : VarAt 4 w1 w.heap.size (.bool plus) := by rw [hw1]; exact heap_alloc_new w _
  have hv1 : VarAt 4 w2 w.heap.size (.bool plus) := by rw [hw2]; exact hv0.below (below_alloc w1 _) (by omega)
  have ho2 : OwnsN .u8 5 w2 w.heap.size (.slice (some ⟨w1.heap.size, 0, none⟩) 0 s.size) (List.replicate 0 0) := by rw [hw2]; exact owns_made w1 w.heap.size 0 s.size (by omega) (by omega) (by omega)
  rw [hz1] at ho2
  have hDS : DecS w4 w.heap.size w.heap.size (w.heap.size + 2) plus [] := by
    rw [hw4]
    refine ⟨⟨w.heap.size + 1, s.size, ?_, ?_, by omega, by omega, by simp; omega⟩, ?_, by omega, by omega, by omega⟩
    · unfold VarAt
      rw [← hz2]
      exact heap_alloc_new w2 _
    · exact ownsRow_below ho2 (below_alloc w2 _)
    · exact hv1.below (below_alloc w2 _) (by omega)
  have hB4 : Below w.heap.size w w4 := by
    rw [hw4]
    refine Below.alloc ?_ (by omega) _
    rw [hw2]
    refine Below.alloc ?_ (by omega) _
    rw [hw1]
    exact below_alloc w _
  have hWk := walkD_any s plus w.heap.size w.heap.size (w.heap.size + 2) w4 hDS hs
  have HB4 := hid hB4
  have HW1 := hid hw1
  have HW4 := hid hw4
  have e1 : dec plus s.data.toList = (if (dec plus s.data.toList).2 = none then (decOut plus s.data.toList, none) else ((dec plus s.data.toList).1, some (decPl s.data.toList))) := by
    unfold decOut decPl
    rw [dec_any true plus]
    cases h : dec plus s.data.toList with
    | mk a b => cases b <;> simp
  have HE := hid e1
  have HErr := hid (show decErr s.data.toList = if (dec plus s.data.toList).2 = none then 0 else 60 by rw [decErr, dec_any true plus])
  have HPl := hid (show decPl s.data.toList = (dec plus s.data.toList).2.getD 0 by rw [decPl, dec_any true plus])
  have HOut := hid (show decOut plus s.data.toList = if (dec plus s.data.toList).2 = none then (dec plus s.data.toList).1 else [] from rfl)
  obtain ⟨A1, hA1⟩ : ∃ x, x = decOut plus s.data.toList := ⟨_, rfl⟩
  obtain ⟨A2, hA2⟩ : ∃ x, x = decErr s.data.toList := ⟨_, rfl⟩
  obtain ⟨A3, hA3⟩ : ∃ x, x = decPl s.data.toList := ⟨_, rfl⟩
  rw [← hA1] at HOut ⊢
  rw [← hA2] at HErr ⊢
  rw [← hA3] at HPl ⊢
  obtain ⟨R, hR⟩ : ∃ R, R = dec plus s.data.toList := ⟨_, rfl⟩
  rw [← hR] at HOut HErr HPl hWk
  rw [hw1, show Int.toNat 0 = 0 from rfl] at hmk
  clear hw2 hv0 hv1 ho2 hDS hB4 e1 HE hA1 hA2 hA3 hR hw4 hw1 HW1 hz1
  go_enter Tryz.func56, Tryz.ntmps56
  go_wp2_with fail
  rw [← HW4.out]
  refine hWk.mono ?_
  clear hWk hmk hz2 HW4
  rintro e w5 ⟨rfl, hS, hB⟩
  obtain ⟨⟨g, cap, hV, hO, _, _, _⟩, _, _, _, _⟩ := hS
  have hc := hO.conv
  obtain ⟨k1, k2⟩ := hV.cells
  have HB := hid (HB4.out.trans hB)
  clear hV hO hB HB4
  obtain ⟨R1, R2⟩ := R
  cases R2 with
  | none =>
    have E1 := HOut.out
    have E2 := HErr.out
    have E3 := HPl.out
    simp at E1 E2 E3
    have HE1 := hid E1
    have HE2 := hid E2
    have HE3 := hid E3
    obtain ⟨M, hM⟩ : ∃ M, M = R1.length := ⟨_, rfl⟩
    rw [← hM] at k1 hc
    clear E1 E2 E3 HOut HErr HPl hM
    go_wp2
    go_ret3
    refine ⟨?_, HB.out⟩
    rw [HE1.out, HE2.out, HE3.out]
    rfl
  | some x =>
    have E1 := HOut.out
    have E2 := HErr.out
    have E3 := HPl.out
    simp at E1 E2 E3
    have HE1 := hid E1
    have HE2 := hid E2
    have HE3 := hid E3
    clear E1 E2 E3 HOut HErr HPl k1 k2 hc
    go_wp2
    go_ret3
    refine ⟨?_, HB.out⟩
    rw [HE1.out, HE2.out, HE3.out]
    rfl

end Go.Proofs.YtllhibdjopfcnaaGreatDoor
