/-
  Something is given to somebody: it is owned, and noted.
-/
import Derived.Test.YtplljpodejpbgaaGreatDoorJState
import Derived.Test.YtplljpodejpbgaaGreatDoorLSet
import Derived.Deep.AppendLies
namespace Go.Proofs.YtplljpodejpbgaaGreatDoor
open Go.RowKit
set_option linter.unusedVariables false
set_option linter.unusedSimpArgs false

/-- 'append(v, x)' of one thing of k cells: where the new row lies. -/
theorem wpList_appK1 {T e : TypeId} {z : Value} {by8 k : Nat} (hT : Tryz.prog.underlying T = some (.slice e)) (hinfo : (Tryz.prog.info? e).map (fun i => (i.zero, i.size, i.bytes)) = some (some z, k, by8)) (hz : z.cells.size = k) (hk : 0 < k)
    {w : World} {ops : Array Oper} {rest : List Oper} {o : Oper} {a : Act} {Q : Exit → Act → World → Prop} (hgd : o.guard = none) (s x : Operand)
    (ho : o.op = .call { callee := .builtin .append, args := #[s, x], argTypes := #[T, T] }) (base : Nat) (v : Value) (n : Nat) (xs : List Value) (hs : a.eval s = v) (hown : w.ownsRow base e k v n xs)
    (b : Nat) (ys : List Value) (hx : a.eval x = .slice (some ⟨b, 0, none⟩) 1 1) (hsee : SeesK k w (.slice (some ⟨b, 0, none⟩) 1 1) 1 ys) (h1 : ∀ y ∈ ys, y.oneCell' = true) (hb : (n + 1) * by8 ≤ 140737488355328) (h63 : n + 1 ≤ maxLen) (hbase : base ≤ w.heap.size)
    (h : ∀ g cap w', w'.ownsRow base e k (.slice (some ⟨g, 0, none⟩) (n + 1) cap) (n + 1) (xs ++ ys) → w.grownBy w' v.ownBlock → (v.ownBlock = some g ∨ g = w.heap.size) → g < w'.heap.size → wpList Tryz.prog ops Q rest (a.put o.dst (.slice (some ⟨g, 0, none⟩) (n + 1) cap)) w') : wpList Tryz.prog ops Q (o :: rest) a w := by
  obtain ⟨i0, hi, hz0, hz1, hz2⟩ := info_parts hinfo
  obtain ⟨hl, b', off, ao, cap, hv, hcap, hnil, hao, hcell⟩ := hsee
  simp only [Value.slice.injEq] at hv
  obtain ⟨hv1, _, hv3⟩ := hv
  have h2 := hao (by omega)
  rw [← hv1] at h2
  simp only [Option.some.injEq, Addr.mk.injEq, and_true] at h2
  obtain ⟨rfl, rfl⟩ := h2
  refine wpList_append_lies w hgd s x T ho base e i0 z k by8 hT hi hz0 hz1 hz2 hz hk v n xs hs hown ⟨b, 0, none⟩ 1 1 ys hx hl ?_ h1 (by omega) h63 hb hbase w.heap.size rfl h
  intro j y hj
  have hjl : j < ys.length := (List.getElem?_eq_some_iff.1 hj).1
  rw [addr_add, hcell j hjl]
  simp [List.getD, hj]
theorem seesGra (X : World) (a b c e : Int) : SeesK 4 (X.alloc (.cells #[.int .i64 a, .int .i64 b, .int .i64 c, .int .i64 e] 66)) (.slice (some ⟨X.heap.size, 0, none⟩) 1 1) 1 (gC [⟨a, b, c, e⟩]) := by
  refine ⟨rfl, X.heap.size, 0, _, 1, rfl, Nat.le_refl _, (fun h => by cases h), fun _ => rfl, fun j hj => ?_⟩
  rw [Nat.zero_add]
  refine cell_of_list (cs := gC [⟨a, b, c, e⟩]) (heap_alloc_new X _) ?_
  rw [List.getD_eq_getElem?_getD, List.getElem?_eq_getElem hj, Option.getD_some]
theorem frozen_same {w w' : World} {b j : Nat} (h : w'.heap[b]? = w.heap[b]?) : w'.frozen? ⟨b, j, none⟩ = w.frozen? ⟨b, j, none⟩ := by simp only [World.frozen?, h]
theorem cell_same {w w' : World} {b j : Nat} (h : w'.heap[b]? = w.heap[b]?) : w'.cell? ⟨b, j, none⟩ = w.cell? ⟨b, j, none⟩ := by simp only [World.cell?, h]
theorem undrew {X w' : World} (h : Below X.drew.heap.size X.drew w') : Below X.heap.size X w' := ⟨h.os, h.tape, h.output, h.size, h.block⟩
def ownP (p : Acc × Value) (o : List Int) (v : Value) : Acc × Value := ({ p.1 with own := o }, v)
theorem grant_fin {w w1 X w4 : World} {d ub mb : Nat} {us : List (Acc × Value)} {vd : Value} {dr : List Int} {n : Nat} {ss : List Ses} {vg : Value} {gs : List Gra} (h : IdAt w d ub mb us vd dr n ss vg gs)
    {to : Nat} {p : Acc × Value} (hp : us[to]? = some p) {base : Nat} {v' : Value} {ow : List Int} {g4 k4 : Nat} {g : Gra} {o : Obj} (hB : Below w.heap.size w w1) (hO : Owns w1 base v' ow) (hr : ow.Pairwise (· < ·))
    (hXL : X.heap[ub]? = some (.cells (aC (us.set to (ownP p ow v'))).toArray 86 (0, 0))) (hXO : ∀ k, k ≠ ub → X.heap[k]? = w1.heap[k]?) (hXS : X.heap.size = w1.heap.size) (hXo : X.os = w1.os ∧ X.tape = w1.tape ∧ X.output = w1.output)
    (hO4 : w4.ownsRow 0 66 4 (.slice (some ⟨g4, 0, none⟩) (gs.length + 1) k4) (gs.length + 1) (gC gs ++ gC [g])) (hG4 : (X.alloc o).grownBy w4 vg.ownBlock) (hW4 : vg.ownBlock = some g4 ∨ g4 = (X.alloc o).heap.size) (hY4 : w4.heap[d]? = X.heap[d]?) :
    IdAt (w4.setCell ⟨d, 5, none⟩ (.slice (some ⟨g4, 0, none⟩) (gs.length + 1) k4)) d ub mb (us.set to (ownP p ow v')) vd dr n ss (.slice (some ⟨g4, 0, none⟩) (gs.length + 1) k4) (gs ++ [g]) ∧
      Gr (mineD d ub mb vg) w (w4.setCell ⟨d, 5, none⟩ (.slice (some ⟨g4, 0, none⟩) (gs.length + 1) k4)) ∧ (∀ k, (Value.slice (some ⟨g4, 0, none⟩) (gs.length + 1) k4).ownBlock = some k → vg.ownBlock = some k ∨ w.heap.size ≤ k) := by
  obtain ⟨n1, n2, n3, n4, n5⟩ := h.apart
  have hs := hB.size
  have ha : (X.alloc o).heap.size = X.heap.size + 1 := by simp
  have hz : w4.heap.size = (w4.setCell ⟨d, 5, none⟩ (.slice (some ⟨g4, 0, none⟩) (gs.length + 1) k4)).heap.size := by simp
  obtain ⟨Z, hZ⟩ : ∃ Z, Z = w4.setCell ⟨d, 5, none⟩ (.slice (some ⟨g4, 0, none⟩) (gs.length + 1) k4) := ⟨_, rfl⟩
  rw [← hZ] at hz ⊢
  have hd1 : w1.heap[d]? = w.heap[d]? := hB.block d h.ltd
  have hdX : X.heap[d]? = w.heap[d]? := (hXO d n1).trans hd1
  -- what is none of its own stays
  have k1 : ∀ k, k < w1.heap.size → k ≠ d → k ≠ ub → vg.ownBlock ≠ some k → Z.heap[k]? = w1.heap[k]? := fun k hk e1 e2 e3 => by
    rw [hZ, heap_setCell_other _ _ _ _ (by simpa using e1), hG4.block k (by omega) (fun e => e3 e.symm), heap_alloc_old X _ (by omega), hXO k e2]
  have k0 : ∀ k, k < w.heap.size → ¬ mineD d ub mb vg k → Z.heap[k]? = w.heap[k]? := fun k hk hm =>
    (k1 k (by omega) (fun e => hm (Or.inl e)) (fun e => hm (Or.inr (Or.inl e))) (fun e => hm (Or.inr (Or.inr (Or.inr e))))).trans (hB.block k hk)
  have hlies : Z.heap[d]? = some (.cells #[.pointer (some ⟨d, 0, none⟩), .slice (some ⟨ub, 0, none⟩) us.length us.length, vd, .int .i64 (n : Int), .map (some mb), .slice (some ⟨g4, 0, none⟩) (gs.length + 1) k4] 73 (0, 0)) := by
    have hset := heap_setCell_same w4 d 5 _ _ (.slice (some ⟨g4, 0, none⟩) (gs.length + 1) k4) ((hY4.trans hdX).trans h.lies)
    rw [hZ, hset]
    rfl
  have hub : Z.heap[ub]? = X.heap[ub]? := by
    have := h.ltu
    rw [hZ, heap_setCell_other _ _ _ _ (by simpa using n1.symm), hG4.block ub (by omega) (fun e => (n4 ub e.symm).2.1 rfl), heap_alloc_old X _ (by omega)]
  have hold : ∀ (k : Nat) (cur : Array Value), w.heap[k]? = some (.cells cur 3 (0, 0)) → Z.heap[k]? = w.heap[k]? := fun k cur hk => k0 k (Array.getElem?_eq_some_iff.1 hk).1 (n5 k cur hk)
  have hnew : Owns Z 0 v' ow := by
    refine ownsRow_same (ownsRow_base hO (Nat.zero_le _)) fun j hj => ?_
    obtain ⟨cur, hc⟩ := ownsRow_ty hO hj
    refine k1 j (ownsRow_lt hO hj) (ty_ne hc (hd1.trans h.lies) (by decide)) (ty_ne hc ((hB.block ub h.ltu).trans h.row) (by decide)) fun e => ?_
    obtain ⟨cur', hc'⟩ := ownsRow_ty h.gra e
    exact ty_ne hc ((hB.block j (ownsRow_lt h.gra e)).trans hc') (by decide) rfl
  refine ⟨⟨?_, ?_, ?_, ?_, ?_, ?_, h.low, h.ord, ?_, ?_, ?_⟩, ?_, ?_⟩
  · rw [List.length_set]; exact hlies
  · rw [hub]; exact hXL
  · intro q hq
    rcases List.mem_or_eq_of_mem_set hq with hq | hq
    · exact ownsRow_same (h.own q hq) fun j hj => by
        obtain ⟨cur, hc⟩ := ownsRow_ty (h.own q hq) hj
        exact hold j cur hc
    · subst hq
      exact hnew
  · intro q hq
    rcases List.mem_or_eq_of_mem_set hq with hq | hq
    · exact h.rises q hq
    · subst hq
      exact hr
  · exact ownsRow_same h.dra fun j hj => by
      obtain ⟨cur, hc⟩ := ownsRow_ty h.dra hj
      exact hold j cur hc
  · obtain ⟨k, D, hm, r⟩ := h.map
    exact ⟨k, D, map_same hm ((k1 mb (by have := h.ltm; omega) n2.symm n3.symm (fun e => (n4 mb e).2.2 rfl)).trans (hB.block mb h.ltm)), r⟩
  · rw [gC_app, List.length_append]
    refine ownsRow_same hO4 fun j hj => ?_
    obtain ⟨cur, hc⟩ := ownsRow_ty hO4 hj
    rw [hZ]
    exact heap_setCell_other _ _ _ _ (by simpa using ty_ne hc ((hY4.trans hdX).trans h.lies) (by decide))
  · rw [List.length_set]; exact h.n1
  · rw [List.length_set]; exact h.n2
  · exact ⟨by rw [hZ]; exact hG4.os.trans (hXo.1.trans hB.os), by rw [hZ]; exact hG4.tape.trans (hXo.2.1.trans hB.tape), by rw [hZ]; exact hG4.output.trans (hXo.2.2.trans hB.output), by have := hG4.size; omega, fun k hk hm => k0 k hk hm⟩
  · intro k hk
    simp [Value.ownBlock] at hk
    subst hk
    rcases hW4 with e | e
    · exact Or.inl e
    · right; omega
set_option maxRecDepth 100000 in
set_option maxHeartbeats 2000000 in
theorem grant_any (w : World) (d ub mb : Nat) (us : List (Acc × Value)) (vd : Value) (dr : List Int) (n : Nat) (ss : List Ses) (vg : Value) (gs : List Gra) (h : IdAt w d ub mb us vd dr n ss vg gs)
    (to : Nat) (p : Acc × Value) (hp : us[to]? = some p) (step frm cat : Int) (hb : p.1.own.length ≤ 1099511627776) (hg : gs.length ≤ 2199023255552) :
    Calls Tryz.prog 33 #[.pointer (some ⟨d, 0, none⟩), .int .i64 step, .int .i64 frm, .int .i64 (to : Int), .int .i64 cat] w fun e w' => e = .returned (.tuple #[]) ∧
      ∃ v' vg', IdAt w' d ub mb (us.set to (ownP p (sd (p.1.own ++ [cat])) v')) vd dr n ss vg' (gs ++ [⟨step, frm, to, cat⟩]) ∧ Gr (mineD d ub mb vg) w w' ∧ (∀ k, vg'.ownBlock = some k → vg.ownBlock = some k ∨ w.heap.size ≤ k) := by
  obtain ⟨c0, c1, c2, c3, c4, c5⟩ := h.cells
  obtain ⟨a0, a1, a2, a3, a4⟩ := h.acc hp
  have hto : to < us.length := (List.getElem?_eq_some_iff.1 hp).1
  have hn2 := h.n2
  have hpm : p ∈ us := List.mem_of_getElem? hp
  have hO := h.own p hpm
  have hltd := h.ltd
  have hltu := h.ltu
  have fu := (h.warm (to * 5 + 4)).2
  obtain ⟨v0, hv0⟩ : ∃ v0, v0 = p.2 := ⟨_, rfl⟩
  obtain ⟨W, hW⟩ : ∃ W, W = (w.alloc (.cells #[.int .i64 cat] 3)).drew := ⟨_, rfl⟩
  have hbW : Below w.heap.size w W := by rw [hW]; exact Below.drew (below_alloc w _)
  rw [← hv0] at a4 hO
  have hS : Sees W v0 p.1.own := hO.sees.below hbW
  have hT : Sees W (.slice (some ⟨w.heap.size, 0, none⟩) 1 1) [cat] := by rw [hW]; exact (sees_one w cat).below (Below.drew (Below.refl _ _))
  have hj := hid (join_any v0 _ p.1.own [cat] W hS hT (by simp; omega))
  have z1 : W.cell? ⟨d, 1, none⟩ = some (.slice (some ⟨ub, 0, none⟩) us.length us.length) := (hbW.cell (p := ⟨d, 1, none⟩) hltd).trans c1
  have z2 : W.cell? ⟨ub, to * 5 + 4, none⟩ = some v0 := (hbW.cell (p := ⟨ub, to * 5 + 4, none⟩) hltu).trans a4
  have k1 := c1
  have k2 := a4
  have hdu := h.apart.1
  have HB := hid hbW
  have HW := hid hW
  have HP := hid h
  have HPP := hid hp
  have HV := hid hv0
  have e1 : (to : Int) < (us.length : Int) := by omega
  clear hbW hW h hS hT hO hp hv0 hpm
  go_enter Tryz.func33, Tryz.ntmps33
  go_wp2_with fail
  refine wp_region_noPanic ?_
  refine wp_region_held_drew (S := fun w' => w'.cell? ⟨d, 1, none⟩ = some (.slice (some ⟨ub, 0, none⟩) us.length us.length)) (by kernel_rfl) ?_ (fun hHeld => ?_)
  · exact k1
  refine wpAnyH_take (i := 0) (oi := { dst := some 10, op := Op.move (Operand.tmp 0), type := 27, pos := "own.go:70", after := #[], guard := none }) (v := (.pointer (some ⟨d, 0, none⟩))) rfl (by kernel_rfl) (by kernel_rfl) (by kernel_rfl) (fun _ _ _ h => h) (Or.inl ⟨by rfl, ?_⟩) (by assumption) ?_
  · intro w hSw
    try dsimp only at hSw
    go_simp
  try simp only [Act.put, List.setIfInBounds_toArray, List.set_cons_zero, List.set_cons_succ]
  refine wpAnyH_take (i := 1) (oi := { dst := some 11, op := Op.nilCheck (Operand.tmp 10), type := 0, pos := "own.go:70", after := #[{ on := 0, ground := Ground.data }], guard := none }) (v := (.pointer (some ⟨d, 0, none⟩))) rfl (by kernel_rfl) (by kernel_rfl) (by kernel_rfl) (fun _ _ _ h => h) (Or.inl ⟨by rfl, ?_⟩) (by assumption) ?_
  · intro w hSw
    try dsimp only at hSw
    go_simp
  try simp only [Act.put, List.setIfInBounds_toArray, List.set_cons_zero, List.set_cons_succ]
  refine wpAnyH_take (i := 2) (oi := { dst := some 12, op := Op.fieldAddr 73 (Operand.tmp 11) 1, type := 0, pos := "own.go:70", after := #[{ on := 1, ground := Ground.data }], guard := none }) (v := (.pointer (some ⟨d, 1, none⟩))) rfl (by kernel_rfl) (by kernel_rfl) (by kernel_rfl) (fun _ _ _ h => h) (Or.inl ⟨by rfl, ?_⟩) (by assumption) ?_
  · intro w hSw
    try dsimp only at hSw
    go_simp
  try simp only [Act.put, List.setIfInBounds_toArray, List.set_cons_zero, List.set_cons_succ]
  refine wpAnyH_take (i := 3) (oi := { dst := some 13, op := Op.load 70 (Operand.tmp 12), type := 70, pos := "own.go:70", after := #[{ on := 2, ground := Ground.data }], guard := none }) (v := (.slice (some ⟨ub, 0, none⟩) us.length us.length)) rfl (by kernel_rfl) (by kernel_rfl) (by kernel_rfl) (fun _ _ _ h => h) (Or.inl ⟨by rfl, ?_⟩) (by assumption) ?_
  · intro w hSw
    try dsimp only at hSw
    go_simp
  try simp only [Act.put, List.setIfInBounds_toArray, List.set_cons_zero, List.set_cons_succ]
  refine wpAnyH_take (i := 4) (oi := { dst := some 14, op := Op.move (Operand.tmp 3), type := 3, pos := "own.go:70", after := #[], guard := none }) (v := (.int .i64 (to : Int))) rfl (by kernel_rfl) (by kernel_rfl) (by kernel_rfl) (fun _ _ _ h => h) (Or.inl ⟨by rfl, ?_⟩) (by assumption) ?_
  · intro w hSw
    try dsimp only at hSw
    go_simp
  try simp only [Act.put, List.setIfInBounds_toArray, List.set_cons_zero, List.set_cons_succ]
  refine wpAnyH_take (i := 5) (oi := { dst := some 15, op := Op.move (Operand.tmp 0), type := 27, pos := "own.go:70", after := #[], guard := none }) (v := (.pointer (some ⟨d, 0, none⟩))) rfl (by kernel_rfl) (by kernel_rfl) (by kernel_rfl) (fun _ _ _ h => h) (Or.inl ⟨by rfl, ?_⟩) (by assumption) ?_
  · intro w hSw
    try dsimp only at hSw
    go_simp
  try simp only [Act.put, List.setIfInBounds_toArray, List.set_cons_zero, List.set_cons_succ]
  refine wpAnyH_take (i := 6) (oi := { dst := some 16, op := Op.nilCheck (Operand.tmp 15), type := 0, pos := "own.go:70", after := #[{ on := 5, ground := Ground.data }], guard := none }) (v := (.pointer (some ⟨d, 0, none⟩))) rfl (by kernel_rfl) (by kernel_rfl) (by kernel_rfl) (fun _ _ _ h => h) (Or.inl ⟨by rfl, ?_⟩) (by assumption) ?_
  · intro w hSw
    try dsimp only at hSw
    go_simp
  try simp only [Act.put, List.setIfInBounds_toArray, List.set_cons_zero, List.set_cons_succ]
  refine wpAnyH_take (i := 7) (oi := { dst := some 17, op := Op.fieldAddr 73 (Operand.tmp 16) 1, type := 0, pos := "own.go:70", after := #[{ on := 6, ground := Ground.data }], guard := none }) (v := (.pointer (some ⟨d, 1, none⟩))) rfl (by kernel_rfl) (by kernel_rfl) (by kernel_rfl) (fun _ _ _ h => h) (Or.inl ⟨by rfl, ?_⟩) (by assumption) ?_
  · intro w hSw
    try dsimp only at hSw
    go_simp
  try simp only [Act.put, List.setIfInBounds_toArray, List.set_cons_zero, List.set_cons_succ]
  refine wpAnyH_take (i := 8) (oi := { dst := some 18, op := Op.load 70 (Operand.tmp 17), type := 70, pos := "own.go:70", after := #[{ on := 7, ground := Ground.data }], guard := none }) (v := (.slice (some ⟨ub, 0, none⟩) us.length us.length)) rfl (by kernel_rfl) (by kernel_rfl) (by kernel_rfl) (fun _ _ _ h => h) (Or.inl ⟨by rfl, ?_⟩) (by assumption) ?_
  · intro w hSw
    try dsimp only at hSw
    go_simp
  try simp only [Act.put, List.setIfInBounds_toArray, List.set_cons_zero, List.set_cons_succ]
  refine wpAnyH_take (i := 9) (oi := { dst := some 19, op := Op.move (Operand.tmp 3), type := 3, pos := "own.go:70", after := #[], guard := none }) (v := (.int .i64 (to : Int))) rfl (by kernel_rfl) (by kernel_rfl) (by kernel_rfl) (fun _ _ _ h => h) (Or.inl ⟨by rfl, ?_⟩) (by assumption) ?_
  · intro w hSw
    try dsimp only at hSw
    go_simp
  try simp only [Act.put, List.setIfInBounds_toArray, List.set_cons_zero, List.set_cons_succ]
  refine wpAnyH_take (i := 10) (oi := { dst := some 20, op := Op.indexAddr 70 (Operand.tmp 18) (Operand.tmp 19), type := 0, pos := "own.go:70", after := #[{ on := 8, ground := Ground.data }, { on := 9, ground := Ground.data }], guard := none }) (v := (.pointer (some ⟨ub, to * 5, none⟩))) rfl (by kernel_rfl) (by kernel_rfl) (by kernel_rfl) (fun _ _ _ h => h) (Or.inl ⟨by rfl, ?_⟩) (by assumption) ?_
  · intro w hSw
    try dsimp only at hSw
    go_simp
  try simp only [Act.put, List.setIfInBounds_toArray, List.set_cons_zero, List.set_cons_succ]
  refine wpAnyH_take (i := 11) (oi := { dst := some 21, op := Op.fieldAddr 86 (Operand.tmp 20) 4, type := 0, pos := "own.go:70", after := #[{ on := 10, ground := Ground.data }], guard := none }) (v := (.pointer (some ⟨ub, to * 5 + 4, none⟩))) rfl (by kernel_rfl) (by kernel_rfl) (by kernel_rfl) (fun _ _ _ h => h) (Or.inl ⟨by rfl, ?_⟩) (by assumption) ?_
  · intro w hSw
    try dsimp only at hSw
    go_simp
  try simp only [Act.put, List.setIfInBounds_toArray, List.set_cons_zero, List.set_cons_succ]
  refine wpAnyH_take (i := 13) (oi := { dst := some 23, op := Op.move (Operand.tmp 4), type := 3, pos := "own.go:70", after := #[], guard := none }) (v := (.int .i64 cat)) rfl (by kernel_rfl) (by kernel_rfl) (by kernel_rfl) (fun _ _ _ h => h) (Or.inl ⟨by rfl, ?_⟩) (by assumption) ?_
  · intro w hSw
    try dsimp only at hSw
    go_simp
  try simp only [Act.put, List.setIfInBounds_toArray, List.set_cons_zero, List.set_cons_succ]
  refine wpAnyH_ready (rs := [12, 14]) (by kernel_rfl) (by simp) ?_
  refine AllReadyH.cons (o := { dst := some 22, op := Op.load 23 (Operand.tmp 21), type := 23, pos := "own.go:70", after := #[{ on := 11, ground := Ground.data }], guard := none }) rfl (fun K hK => ?_) (AllReadyH.cons (o := { dst := some 24, op := Op.buildSlice 23 1 #[(0, Operand.tmp 23)], type := 23, pos := "own.go:70", after := #[{ on := 13, ground := Ground.data }], guard := none }) rfl (fun K hK => ?_) AllReadyH.nil)
  · go_simp
    refine hK.out _ _ ?_ (fun hHeld => ?_)
    · first | (with_reducible exact x1) | (with_reducible exact z1) | (with_reducible exact j1) | exact k1 | trace_state
    clear hK K
    try simp only [Act.put, List.setIfInBounds_toArray, List.set_cons_zero, List.set_cons_succ]
    refine wpAnyH_ready (rs := [14]) (by kernel_rfl) (by simp) ?_
    refine AllReadyH.cons (o := { dst := some 24, op := Op.buildSlice 23 1 #[(0, Operand.tmp 23)], type := 23, pos := "own.go:70", after := #[{ on := 13, ground := Ground.data }], guard := none }) rfl (fun K hK => ?_) AllReadyH.nil
    go_simp
    rw [← HW.out]
    refine hK.out _ _ ?_ (fun hHeld => ?_)
    · first | (with_reducible exact x1) | (with_reducible exact z1) | (with_reducible exact j1) | exact k1 | trace_state
    clear hK K
    try simp only [Act.put, List.setIfInBounds_toArray, List.set_cons_zero, List.set_cons_succ]
    refine wpAnyH_ready (rs := [15]) (by kernel_rfl) (by simp) ?_
    refine AllReadyH.cons (o := { dst := some 25, op := Op.call { callee := Callee.value (Operand.func 63), args := #[Operand.tmp 22, Operand.tmp 24], argTypes := #[23, 23] }, type := 23, pos := "own.go:70", after := #[{ on := 12, ground := Ground.data }, { on := 14, ground := Ground.data }], guard := none }) rfl (fun K hK => ?_) AllReadyH.nil
    go_simp
    refine hj.out.mono ?_
    rintro e w1 ⟨v', rfl, hO1, hb1⟩
    obtain ⟨ao', cap', hsh⟩ := row_shape hO1
    rw [hsh] at hO1
    subst hsh
    have HB1 := hid (HB.out.trans (hb1.mono HB.out.size))
    have j1 : w1.cell? ⟨d, 1, none⟩ = some (.slice (some ⟨ub, 0, none⟩) us.length us.length) := (HB1.out.cell (p := ⟨d, 1, none⟩) hltd).trans c1
    have j2 : w1.cell? ⟨ub, to * 5 + 4, none⟩ = some v0 := (HB1.out.cell (p := ⟨ub, to * 5 + 4, none⟩) hltu).trans a4
    have j3 : w1.frozen? ⟨ub, to * 5 + 4, none⟩ = false := (HB1.out.frozen (p := ⟨ub, to * 5 + 4, none⟩) hltu).trans fu
    have HO1 := hid hO1
    have x1 : (w1.setCell ⟨ub, to * 5 + 4, none⟩ (.slice ao' (sd (p.1.own ++ [cat])).length cap')).cell? ⟨d, 1, none⟩ = some (.slice (some ⟨ub, 0, none⟩) us.length us.length) := by rw [World.cell?_setCell_far _ _ _ _ (by simpa using hdu.symm)]; exact j1
    clear hO1 hb1 hj
    refine hK.out _ _ ?_ (fun hHeld => ?_)
    · first | (with_reducible exact x1) | (with_reducible exact z1) | (with_reducible exact j1) | exact k1 | trace_state
    clear hK K
    try simp only [Act.put, List.setIfInBounds_toArray, List.set_cons_zero, List.set_cons_succ]
    refine wpAnyH_take (i := 16) (oi := { dst := some 26, op := Op.indexAddr 70 (Operand.tmp 13) (Operand.tmp 14), type := 0, pos := "own.go:70", after := #[{ on := 3, ground := Ground.data }, { on := 4, ground := Ground.data }, { on := 0, ground := Ground.phase }, { on := 1, ground := Ground.phase }, { on := 2, ground := Ground.phase }, { on := 3, ground := Ground.phase }, { on := 4, ground := Ground.phase }, { on := 5, ground := Ground.phase }, { on := 6, ground := Ground.phase }, { on := 7, ground := Ground.phase }, { on := 8, ground := Ground.phase }, { on := 9, ground := Ground.phase }, { on := 10, ground := Ground.phase }, { on := 11, ground := Ground.phase }, { on := 12, ground := Ground.phase }, { on := 13, ground := Ground.phase }, { on := 14, ground := Ground.phase }, { on := 15, ground := Ground.phase }], guard := none }) (v := (.pointer (some ⟨ub, to * 5, none⟩))) rfl (by kernel_rfl) (by kernel_rfl) (by kernel_rfl) (fun _ _ _ h => h) (Or.inl ⟨by rfl, ?_⟩) (by assumption) ?_
    · intro w hSw
      try dsimp only at hSw
      go_simp
    try simp only [Act.put, List.setIfInBounds_toArray, List.set_cons_zero, List.set_cons_succ]
    refine wpAnyH_take (i := 17) (oi := { dst := some 27, op := Op.fieldAddr 86 (Operand.tmp 26) 4, type := 0, pos := "own.go:70", after := #[{ on := 16, ground := Ground.data }, { on := 0, ground := Ground.phase }, { on := 1, ground := Ground.phase }, { on := 2, ground := Ground.phase }, { on := 3, ground := Ground.phase }, { on := 4, ground := Ground.phase }, { on := 5, ground := Ground.phase }, { on := 6, ground := Ground.phase }, { on := 7, ground := Ground.phase }, { on := 8, ground := Ground.phase }, { on := 9, ground := Ground.phase }, { on := 10, ground := Ground.phase }, { on := 11, ground := Ground.phase }, { on := 12, ground := Ground.phase }, { on := 13, ground := Ground.phase }, { on := 14, ground := Ground.phase }, { on := 15, ground := Ground.phase }], guard := none }) (v := (.pointer (some ⟨ub, to * 5 + 4, none⟩))) rfl (by kernel_rfl) (by kernel_rfl) (by kernel_rfl) (fun _ _ _ h => h) (Or.inl ⟨by rfl, ?_⟩) (by assumption) ?_
    · intro w hSw
      try dsimp only at hSw
      go_simp
    try simp only [Act.put, List.setIfInBounds_toArray, List.set_cons_zero, List.set_cons_succ]
    refine wpAnyH_ready (rs := [18]) (by kernel_rfl) (by simp) ?_
    refine AllReadyH.cons (o := { dst := none, op := Op.store 23 (Operand.tmp 27) (Operand.tmp 25), type := 0, pos := "own.go:70", after := #[{ on := 17, ground := Ground.data }, { on := 15, ground := Ground.data }, { on := 15, ground := Ground.chain }, { on := 0, ground := Ground.phase }, { on := 1, ground := Ground.phase }, { on := 2, ground := Ground.phase }, { on := 3, ground := Ground.phase }, { on := 4, ground := Ground.phase }, { on := 5, ground := Ground.phase }, { on := 6, ground := Ground.phase }, { on := 7, ground := Ground.phase }, { on := 8, ground := Ground.phase }, { on := 9, ground := Ground.phase }, { on := 10, ground := Ground.phase }, { on := 11, ground := Ground.phase }, { on := 12, ground := Ground.phase }, { on := 13, ground := Ground.phase }, { on := 14, ground := Ground.phase }, { on := 15, ground := Ground.phase }], guard := none }) rfl (fun K hK => ?_) AllReadyH.nil
    go_simp
    try go_wp2_with fail
    refine hK.out _ _ ?_ (fun hHeld => ?_)
    · first | (with_reducible exact x1) | (with_reducible exact z1) | (with_reducible exact j1) | exact k1 | trace_state
    clear hK K
    try simp only [Act.put, List.setIfInBounds_toArray, List.set_cons_zero, List.set_cons_succ]
    refine wpAnyH_done (by kernel_rfl) ?_ _
    refine NoPanic.normal ?_
    obtain ⟨X, hX⟩ : ∃ X, X = w1.setCell ⟨ub, to * 5 + 4, none⟩ (.slice ao' (sd (p.1.own ++ [cat])).length cap') := ⟨_, rfl⟩
    rw [← hX]
    have xl : X.heap[ub]? = some (.cells (aC (us.set to (ownP p (sd (p.1.own ++ [cat])) (.slice ao' (sd (p.1.own ++ [cat])).length cap')))).toArray 86 (0, 0)) := by
      have hw1 := HB1.out.block ub hltu
      have hset := heap_setCell_same w1 ub (to * 5 + 4) _ _ (.slice ao' (sd (p.1.own ++ [cat])).length cap') (hw1.trans HP.out.row)
      have e := aC_own us to p (sd (p.1.own ++ [cat])) (.slice ao' (sd (p.1.own ++ [cat])).length cap') HPP.out
      rw [hX, hset, show aC (us.set to (ownP p (sd (p.1.own ++ [cat])) (.slice ao' (sd (p.1.own ++ [cat])).length cap'))) = _ from e.symm]
      simp
    have xo : ∀ k, k ≠ ub → X.heap[k]? = w1.heap[k]? := fun k hk => by rw [hX]; exact heap_setCell_other _ _ _ _ hk
    have xs : X.heap.size = w1.heap.size := by rw [hX]; simp
    have xe : X.os = w1.os ∧ X.tape = w1.tape ∧ X.output = w1.output := by rw [hX]; exact ⟨rfl, rfl, rfl⟩
    have HXE := hid xe
    have xd : X.heap[d]? = w.heap[d]? := (xo d hdu).trans (HB1.out.block d hltd)
    have xc : X.cell? ⟨d, 5, none⟩ = some vg := by simp [World.cell?, xd, HP.out.lies]
    have xf : X.frozen? ⟨d, 5, none⟩ = false := by simp [World.frozen?, xd, HP.out.lies]
    have hgr : X.ownsRow 0 66 4 vg gs.length (gC gs) := ownsRow_same HP.out.gra fun j hj => (xo j (HP.out.apart.2.2.2.1 j hj).2.1).trans (HB1.out.block j (ownsRow_lt HP.out.gra hj))
    have hd2 : X.heap.size ≠ d := by have := HB1.out.size; omega
    have HXL := hid xl
    have HXO := hid xo
    have HGR := hid hgr
    have HXS := hid xs
    have HXD := hid xd
    have hds : d < X.heap.size := by have := HB1.out.size; omega
    clear xl xo hgr xs xd xe hX x1 j1 j2 j3 z1 z2 k1 k2 c0 c1 c2 c3 c4 c5 a0 a1 a2 a3 a4 fu hHeld
    go_wp2_with (at_builtin; refine wpList_appK1 Tryz.underlying32 infoGra rfl (by decide) rfl _ _ rfl 0 vg gs.length (gC gs) rfl (ownsRow_below HGR.out (below_alloc X _)) X.heap.size (gC [⟨step, frm, to, cat⟩]) rfl (seesGra X step frm to cat) (gC_one _) (by omega) (by simp only [maxLen]; omega) (Nat.zero_le _) ?_; intro g4 k4 w4 hO4 hG4 hW4 hl4; have y4 : w4.heap[d]? = X.heap[d]? := (hG4.block d (by simp; omega) (fun e => (HP.out.apart.2.2.2.1 d e.symm).1 rfl)).trans (heap_alloc_old X _ hds); have y5 : w4.cell? ⟨d, 5, none⟩ = some vg := (cell_same y4).trans xc; have f5 : w4.frozen? ⟨d, 5, none⟩ = false := (frozen_same y4).trans xf; have HW4 := hid hW4; have HO4 := hid hO4; have HG4 := hid hG4; have HY4 := hid y4; clear hO4 hG4 y4 hW4 hl4)
    go_returns
    exact ⟨rfl, _, _, grant_fin HP.out HPP.out HB1.out HO1.out (sd_rises _) HXL.out HXO.out HXS.out HXE.out HO4.out HG4.out HW4.out HY4.out⟩
  · go_simp
    rw [← HW.out]
    refine hK.out _ _ ?_ (fun hHeld => ?_)
    · first | (with_reducible exact x1) | (with_reducible exact z1) | (with_reducible exact j1) | exact k1 | trace_state
    clear hK K
    try simp only [Act.put, List.setIfInBounds_toArray, List.set_cons_zero, List.set_cons_succ]
    refine wpAnyH_ready (rs := [12]) (by kernel_rfl) (by simp) ?_
    refine AllReadyH.cons (o := { dst := some 22, op := Op.load 23 (Operand.tmp 21), type := 23, pos := "own.go:70", after := #[{ on := 11, ground := Ground.data }], guard := none }) rfl (fun K hK => ?_) AllReadyH.nil
    go_simp
    refine hK.out _ _ ?_ (fun hHeld => ?_)
    · first | (with_reducible exact x1) | (with_reducible exact z1) | (with_reducible exact j1) | exact k1 | trace_state
    clear hK K
    try simp only [Act.put, List.setIfInBounds_toArray, List.set_cons_zero, List.set_cons_succ]
    refine wpAnyH_ready (rs := [15]) (by kernel_rfl) (by simp) ?_
    refine AllReadyH.cons (o := { dst := some 25, op := Op.call { callee := Callee.value (Operand.func 63), args := #[Operand.tmp 22, Operand.tmp 24], argTypes := #[23, 23] }, type := 23, pos := "own.go:70", after := #[{ on := 12, ground := Ground.data }, { on := 14, ground := Ground.data }], guard := none }) rfl (fun K hK => ?_) AllReadyH.nil
    go_simp
    refine hj.out.mono ?_
    rintro e w1 ⟨v', rfl, hO1, hb1⟩
    obtain ⟨ao', cap', hsh⟩ := row_shape hO1
    rw [hsh] at hO1
    subst hsh
    have HB1 := hid (HB.out.trans (hb1.mono HB.out.size))
    have j1 : w1.cell? ⟨d, 1, none⟩ = some (.slice (some ⟨ub, 0, none⟩) us.length us.length) := (HB1.out.cell (p := ⟨d, 1, none⟩) hltd).trans c1
    have j2 : w1.cell? ⟨ub, to * 5 + 4, none⟩ = some v0 := (HB1.out.cell (p := ⟨ub, to * 5 + 4, none⟩) hltu).trans a4
    have j3 : w1.frozen? ⟨ub, to * 5 + 4, none⟩ = false := (HB1.out.frozen (p := ⟨ub, to * 5 + 4, none⟩) hltu).trans fu
    have HO1 := hid hO1
    have x1 : (w1.setCell ⟨ub, to * 5 + 4, none⟩ (.slice ao' (sd (p.1.own ++ [cat])).length cap')).cell? ⟨d, 1, none⟩ = some (.slice (some ⟨ub, 0, none⟩) us.length us.length) := by rw [World.cell?_setCell_far _ _ _ _ (by simpa using hdu.symm)]; exact j1
    clear hO1 hb1 hj
    refine hK.out _ _ ?_ (fun hHeld => ?_)
    · first | (with_reducible exact x1) | (with_reducible exact z1) | (with_reducible exact j1) | exact k1 | trace_state
    clear hK K
    try simp only [Act.put, List.setIfInBounds_toArray, List.set_cons_zero, List.set_cons_succ]
    refine wpAnyH_take (i := 16) (oi := { dst := some 26, op := Op.indexAddr 70 (Operand.tmp 13) (Operand.tmp 14), type := 0, pos := "own.go:70", after := #[{ on := 3, ground := Ground.data }, { on := 4, ground := Ground.data }, { on := 0, ground := Ground.phase }, { on := 1, ground := Ground.phase }, { on := 2, ground := Ground.phase }, { on := 3, ground := Ground.phase }, { on := 4, ground := Ground.phase }, { on := 5, ground := Ground.phase }, { on := 6, ground := Ground.phase }, { on := 7, ground := Ground.phase }, { on := 8, ground := Ground.phase }, { on := 9, ground := Ground.phase }, { on := 10, ground := Ground.phase }, { on := 11, ground := Ground.phase }, { on := 12, ground := Ground.phase }, { on := 13, ground := Ground.phase }, { on := 14, ground := Ground.phase }, { on := 15, ground := Ground.phase }], guard := none }) (v := (.pointer (some ⟨ub, to * 5, none⟩))) rfl (by kernel_rfl) (by kernel_rfl) (by kernel_rfl) (fun _ _ _ h => h) (Or.inl ⟨by rfl, ?_⟩) (by assumption) ?_
    · intro w hSw
      try dsimp only at hSw
      go_simp
    try simp only [Act.put, List.setIfInBounds_toArray, List.set_cons_zero, List.set_cons_succ]
    refine wpAnyH_take (i := 17) (oi := { dst := some 27, op := Op.fieldAddr 86 (Operand.tmp 26) 4, type := 0, pos := "own.go:70", after := #[{ on := 16, ground := Ground.data }, { on := 0, ground := Ground.phase }, { on := 1, ground := Ground.phase }, { on := 2, ground := Ground.phase }, { on := 3, ground := Ground.phase }, { on := 4, ground := Ground.phase }, { on := 5, ground := Ground.phase }, { on := 6, ground := Ground.phase }, { on := 7, ground := Ground.phase }, { on := 8, ground := Ground.phase }, { on := 9, ground := Ground.phase }, { on := 10, ground := Ground.phase }, { on := 11, ground := Ground.phase }, { on := 12, ground := Ground.phase }, { on := 13, ground := Ground.phase }, { on := 14, ground := Ground.phase }, { on := 15, ground := Ground.phase }], guard := none }) (v := (.pointer (some ⟨ub, to * 5 + 4, none⟩))) rfl (by kernel_rfl) (by kernel_rfl) (by kernel_rfl) (fun _ _ _ h => h) (Or.inl ⟨by rfl, ?_⟩) (by assumption) ?_
    · intro w hSw
      try dsimp only at hSw
      go_simp
    try simp only [Act.put, List.setIfInBounds_toArray, List.set_cons_zero, List.set_cons_succ]
    refine wpAnyH_ready (rs := [18]) (by kernel_rfl) (by simp) ?_
    refine AllReadyH.cons (o := { dst := none, op := Op.store 23 (Operand.tmp 27) (Operand.tmp 25), type := 0, pos := "own.go:70", after := #[{ on := 17, ground := Ground.data }, { on := 15, ground := Ground.data }, { on := 15, ground := Ground.chain }, { on := 0, ground := Ground.phase }, { on := 1, ground := Ground.phase }, { on := 2, ground := Ground.phase }, { on := 3, ground := Ground.phase }, { on := 4, ground := Ground.phase }, { on := 5, ground := Ground.phase }, { on := 6, ground := Ground.phase }, { on := 7, ground := Ground.phase }, { on := 8, ground := Ground.phase }, { on := 9, ground := Ground.phase }, { on := 10, ground := Ground.phase }, { on := 11, ground := Ground.phase }, { on := 12, ground := Ground.phase }, { on := 13, ground := Ground.phase }, { on := 14, ground := Ground.phase }, { on := 15, ground := Ground.phase }], guard := none }) rfl (fun K hK => ?_) AllReadyH.nil
    go_simp
    try go_wp2_with fail
    refine hK.out _ _ ?_ (fun hHeld => ?_)
    · first | (with_reducible exact x1) | (with_reducible exact z1) | (with_reducible exact j1) | exact k1 | trace_state
    clear hK K
    try simp only [Act.put, List.setIfInBounds_toArray, List.set_cons_zero, List.set_cons_succ]
    refine wpAnyH_done (by kernel_rfl) ?_ _
    refine NoPanic.normal ?_
    obtain ⟨X, hX⟩ : ∃ X, X = w1.setCell ⟨ub, to * 5 + 4, none⟩ (.slice ao' (sd (p.1.own ++ [cat])).length cap') := ⟨_, rfl⟩
    rw [← hX]
    have xl : X.heap[ub]? = some (.cells (aC (us.set to (ownP p (sd (p.1.own ++ [cat])) (.slice ao' (sd (p.1.own ++ [cat])).length cap')))).toArray 86 (0, 0)) := by
      have hw1 := HB1.out.block ub hltu
      have hset := heap_setCell_same w1 ub (to * 5 + 4) _ _ (.slice ao' (sd (p.1.own ++ [cat])).length cap') (hw1.trans HP.out.row)
      have e := aC_own us to p (sd (p.1.own ++ [cat])) (.slice ao' (sd (p.1.own ++ [cat])).length cap') HPP.out
      rw [hX, hset, show aC (us.set to (ownP p (sd (p.1.own ++ [cat])) (.slice ao' (sd (p.1.own ++ [cat])).length cap'))) = _ from e.symm]
      simp
    have xo : ∀ k, k ≠ ub → X.heap[k]? = w1.heap[k]? := fun k hk => by rw [hX]; exact heap_setCell_other _ _ _ _ hk
    have xs : X.heap.size = w1.heap.size := by rw [hX]; simp
    have xe : X.os = w1.os ∧ X.tape = w1.tape ∧ X.output = w1.output := by rw [hX]; exact ⟨rfl, rfl, rfl⟩
    have HXE := hid xe
    have xd : X.heap[d]? = w.heap[d]? := (xo d hdu).trans (HB1.out.block d hltd)
    have xc : X.cell? ⟨d, 5, none⟩ = some vg := by simp [World.cell?, xd, HP.out.lies]
    have xf : X.frozen? ⟨d, 5, none⟩ = false := by simp [World.frozen?, xd, HP.out.lies]
    have hgr : X.ownsRow 0 66 4 vg gs.length (gC gs) := ownsRow_same HP.out.gra fun j hj => (xo j (HP.out.apart.2.2.2.1 j hj).2.1).trans (HB1.out.block j (ownsRow_lt HP.out.gra hj))
    have hd2 : X.heap.size ≠ d := by have := HB1.out.size; omega
    have HXL := hid xl
    have HXO := hid xo
    have HGR := hid hgr
    have HXS := hid xs
    have HXD := hid xd
    have hds : d < X.heap.size := by have := HB1.out.size; omega
    clear xl xo hgr xs xd xe hX x1 j1 j2 j3 z1 z2 k1 k2 c0 c1 c2 c3 c4 c5 a0 a1 a2 a3 a4 fu hHeld
    go_wp2_with (at_builtin; refine wpList_appK1 Tryz.underlying32 infoGra rfl (by decide) rfl _ _ rfl 0 vg gs.length (gC gs) rfl (ownsRow_below HGR.out (below_alloc X _)) X.heap.size (gC [⟨step, frm, to, cat⟩]) rfl (seesGra X step frm to cat) (gC_one _) (by omega) (by simp only [maxLen]; omega) (Nat.zero_le _) ?_; intro g4 k4 w4 hO4 hG4 hW4 hl4; have y4 : w4.heap[d]? = X.heap[d]? := (hG4.block d (by simp; omega) (fun e => (HP.out.apart.2.2.2.1 d e.symm).1 rfl)).trans (heap_alloc_old X _ hds); have y5 : w4.cell? ⟨d, 5, none⟩ = some vg := (cell_same y4).trans xc; have f5 : w4.frozen? ⟨d, 5, none⟩ = false := (frozen_same y4).trans xf; have HW4 := hid hW4; have HO4 := hid hO4; have HG4 := hid hG4; have HY4 := hid y4; clear hO4 hG4 y4 hW4 hl4)
    go_returns
    exact ⟨rfl, _, _, grant_fin HP.out HPP.out HB1.out HO1.out (sd_rises _) HXL.out HXO.out HXS.out HXE.out HO4.out HG4.out HW4.out HY4.out⟩

end Go.Proofs.YtplljpodejpbgaaGreatDoor
