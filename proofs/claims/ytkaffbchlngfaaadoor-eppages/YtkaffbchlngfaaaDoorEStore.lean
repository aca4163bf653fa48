/-
  A byte is stored into a memory.
-/
import Derived.Test.YtkaffbchlngfaaaDoorEPage
import Derived.Test.YtkaffbchlngfaaaDoorERun
namespace Go.Proofs.YtkaffbchlngfaaaDoor
open Go.RowKit
set_option linter.unusedVariables false
set_option linter.unusedSimpArgs false

theorem MemP.flag {w : World} {q : Nat} {pg : List Nat} {ow : List Bool} {b : List Nat} (h : MemP w q pg ow b) (j : Nat) (hj : j < 16) : w.cell? ⟨q, 16 + j, none⟩ = some (.bool (ow.getD j false)) := by
  refine cell_list h.blk ?_
  have h1 := h.lp
  have h2 := h.lo
  unfold memC
  rw [List.getElem?_append_right (by simp; omega)]
  simp [List.getD, h1, show j < ow.length by omega]
theorem set_self {ow : List Bool} {d : Nat} (h : ow.getD d false = true) : ow.set d true = ow := by
  apply List.ext_getElem?
  intro j
  rw [List.getElem?_set]
  by_cases e : d = j
  · subst e
    rw [if_pos rfl]
    by_cases hl : d < ow.length
    · rw [if_pos hl]
      rw [List.getD_eq_getElem?_getD, List.getElem?_eq_getElem hl] at h
      rw [List.getElem?_eq_getElem hl]
      simp only [Option.getD_some] at h
      rw [h]
    · rw [if_neg hl, List.getElem?_eq_none (by omega)]
  · rw [if_neg e]
def StoR (w : World) (q : Nat) (pg : List Nat) (ow : List Bool) (b : List Nat) (a x : Nat) (e : Ending) (w' : World) : Prop :=
  e = .returned (.bool true) ∧ ∃ pg', LayAt w w' q pg pg' (ow.set (a / 256) true) (b.set a x)
set_option maxRecDepth 100000 in
set_option maxHeartbeats 2000000 in
theorem store_any (w : World) (q : Nat) (pg : List Nat) (ow : List Bool) (b : List Nat) (h : MemP w q pg ow b) (nd : pg.Nodup) (nq : q ∉ pg) (a x : Nat) (ha : a < 4096) (hx : x < 256) :
    Calls Tryd.prog 66 #[.pointer (some ⟨q, 0, none⟩), .int .i64 (a : Int), .int .u8 (x : Int)] w (StoR w q pg ow b a x) := by
  have hp := isPart_yes a 1 (by omega) w
  have HL0 := hid (LayAt.refl h nd nq)
  have hlp := h.lp
  have HQL := hid (Array.getElem?_eq_some_iff.1 h.blk).1
  obtain ⟨d, hd⟩ : ∃ d, d = a / 256 := ⟨_, rfl⟩
  obtain ⟨m, hm⟩ : ∃ m, m = a % 256 := ⟨_, rfl⟩
  have hdm : 256 * d + m = a := by omega
  have hd16 : d < 16 := by omega
  have hm256 : m < 256 := by omega
  have e1 : (a : Int).tdiv 256 = (d : Int) := by rw [Int.tdiv_eq_ediv_of_nonneg (by omega)]; omega
  have e2 : (a : Int).tmod 256 = (m : Int) := by rw [Int.tmod_eq_emod_of_nonneg (by omega)]; omega
  have e3 : IntKind.i64.wrap (d : Int) = (d : Int) := wrap_i64_nat _ (by omega)
  have e4 : (d : Int) < 16 := by omega
  have e5 : (m : Int) < 256 := by omega
  have c0 := h.flag d hd16
  have c1 := h.ptr d hd16
  have f1 := frozen_list (j := d) h.blk
  have hpg := h.pgs d hd16
  unfold StoR
  rw [← hd]
  by_cases ho : ow.getD d false = true
  · rw [ho] at c0
    have c2 := h.byte d m hd16 hm256
    have f2 := frozen_list (j := m) hpg
    have HF := hid (HL0.out.byte d m x hd16 hm256 hx)
    rw [hdm] at HF
    rw [set_self ho]
    generalize pg.getD d 0 = P at *
    generalize b.getD (256 * d + m) 0 = y at *
    clear h nd nq hpg ho hd hm hdm hlp HL0
    go_enter Tryd.func66, Tryd.ntmps66
    go_wp2_with fail
    refine hp.mono ?_
    rintro e w1 ⟨rfl, hw1⟩
    subst w1
    clear hp
    go_wp2
    go_ret
    exact ⟨rfl, _, HF.out⟩
  · have ho2 : ow.getD d false = false := by simpa using ho
    rw [ho2] at c0
    have hcp := pcopy_any w.drew (pg.getD d 0) (pgL b d) (by have := h.lb; simp [pgL]; omega) hpg
    rw [World.size_drew] at hcp
    obtain ⟨P, hP⟩ : ∃ P, P = pg.getD d 0 := ⟨_, rfl⟩
    rw [← hP] at c1 hcp
    have HDM := hid hdm
    have HPG := hid hlp
    clear h nd nq hpg ho ho2 hd hm hdm hlp hP
    go_enter Tryd.func66, Tryd.ntmps66
    go_wp2_with fail
    refine hp.mono ?_
    rintro e w1 ⟨rfl, hw1⟩
    subst w1
    clear hp
    go_wp2_with fail
    refine wp_region_noPanic ?_
    refine wp_region_held_drew (S := fun _ => True) (by kernel_rfl) ?_ (fun hHeld => ?_)
    · trivial
    refine wpAnyH_take (i := 0) (oi := { dst := some 20, op := Op.move (Operand.tmp 0), type := 57, pos := "memory.go:43", after := #[], guard := none }) (v := (.pointer (some ⟨q, 0, none⟩))) rfl (by kernel_rfl) (by kernel_rfl) (by kernel_rfl) (fun _ _ _ h => h) (Or.inl ⟨by rfl, ?_⟩) (by assumption) ?_
    · intro w hSw
      try dsimp only at hSw
      go_simp
    try simp only [Act.put, List.setIfInBounds_toArray, List.set_cons_zero, List.set_cons_succ]
    refine wpAnyH_take (i := 1) (oi := { dst := some 21, op := Op.move (Operand.tmp 7), type := 3, pos := "memory.go:43", after := #[], guard := none }) (v := (.int .i64 (d : Int))) rfl (by kernel_rfl) (by kernel_rfl) (by kernel_rfl) (fun _ _ _ h => h) (Or.inl ⟨by rfl, ?_⟩) (by assumption) ?_
    · intro w hSw
      try dsimp only at hSw
      go_simp
    try simp only [Act.put, List.setIfInBounds_toArray, List.set_cons_zero, List.set_cons_succ]
    refine wpAnyH_take (i := 2) (oi := { dst := some 22, op := Op.move (Operand.tmp 0), type := 57, pos := "memory.go:43", after := #[], guard := none }) (v := (.pointer (some ⟨q, 0, none⟩))) rfl (by kernel_rfl) (by kernel_rfl) (by kernel_rfl) (fun _ _ _ h => h) (Or.inl ⟨by rfl, ?_⟩) (by assumption) ?_
    · intro w hSw
      try dsimp only at hSw
      go_simp
    try simp only [Act.put, List.setIfInBounds_toArray, List.set_cons_zero, List.set_cons_succ]
    refine wpAnyH_take (i := 3) (oi := { dst := some 23, op := Op.move (Operand.tmp 7), type := 3, pos := "memory.go:43", after := #[], guard := none }) (v := (.int .i64 (d : Int))) rfl (by kernel_rfl) (by kernel_rfl) (by kernel_rfl) (fun _ _ _ h => h) (Or.inl ⟨by rfl, ?_⟩) (by assumption) ?_
    · intro w hSw
      try dsimp only at hSw
      go_simp
    try simp only [Act.put, List.setIfInBounds_toArray, List.set_cons_zero, List.set_cons_succ]
    refine wpAnyH_take (i := 4) (oi := { dst := some 24, op := Op.nilCheck (Operand.tmp 22), type := 0, pos := "memory.go:43", after := #[{ on := 2, ground := Ground.data }], guard := none }) (v := (.pointer (some ⟨q, 0, none⟩))) rfl (by kernel_rfl) (by kernel_rfl) (by kernel_rfl) (fun _ _ _ h => h) (Or.inl ⟨by rfl, ?_⟩) (by assumption) ?_
    · intro w hSw
      try dsimp only at hSw
      go_simp
    try simp only [Act.put, List.setIfInBounds_toArray, List.set_cons_zero, List.set_cons_succ]
    refine wpAnyH_take (i := 5) (oi := { dst := some 25, op := Op.fieldAddr 107 (Operand.tmp 24) 0, type := 0, pos := "memory.go:43", after := #[{ on := 4, ground := Ground.data }], guard := none }) (v := (.pointer (some ⟨q, 0, none⟩))) rfl (by kernel_rfl) (by kernel_rfl) (by kernel_rfl) (fun _ _ _ h => h) (Or.inl ⟨by rfl, ?_⟩) (by assumption) ?_
    · intro w hSw
      try dsimp only at hSw
      go_simp
    try simp only [Act.put, List.setIfInBounds_toArray, List.set_cons_zero, List.set_cons_succ]
    refine wpAnyH_take (i := 6) (oi := { dst := some 26, op := Op.indexAddr 105 (Operand.tmp 25) (Operand.tmp 23), type := 0, pos := "memory.go:43", after := #[{ on := 5, ground := Ground.data }, { on := 3, ground := Ground.data }], guard := none }) (v := (.pointer (some ⟨q, d, none⟩))) rfl (by kernel_rfl) (by kernel_rfl) (by kernel_rfl) (fun _ _ _ h => h) (Or.inl ⟨by rfl, ?_⟩) (by assumption) ?_
    · intro w hSw
      try dsimp only at hSw
      go_simp
    try simp only [Act.put, List.setIfInBounds_toArray, List.set_cons_zero, List.set_cons_succ]
    refine wpAnyH_take (i := 9) (oi := { dst := some 29, op := Op.nilCheck (Operand.tmp 20), type := 0, pos := "memory.go:43", after := #[{ on := 0, ground := Ground.data }], guard := none }) (v := (.pointer (some ⟨q, 0, none⟩))) rfl (by kernel_rfl) (by kernel_rfl) (by kernel_rfl) (fun _ _ _ h => h) (Or.inl ⟨by rfl, ?_⟩) (by assumption) ?_
    · intro w hSw
      try dsimp only at hSw
      go_simp
    try simp only [Act.put, List.setIfInBounds_toArray, List.set_cons_zero, List.set_cons_succ]
    refine wpAnyH_take (i := 10) (oi := { dst := some 30, op := Op.fieldAddr 107 (Operand.tmp 29) 0, type := 0, pos := "memory.go:43", after := #[{ on := 9, ground := Ground.data }], guard := none }) (v := (.pointer (some ⟨q, 0, none⟩))) rfl (by kernel_rfl) (by kernel_rfl) (by kernel_rfl) (fun _ _ _ h => h) (Or.inl ⟨by rfl, ?_⟩) (by assumption) ?_
    · intro w hSw
      try dsimp only at hSw
      go_simp
    try simp only [Act.put, List.setIfInBounds_toArray, List.set_cons_zero, List.set_cons_succ]
    refine wpAnyH_ready (rs := [7]) (by kernel_rfl) (by simp) ?_
    refine AllReadyH.cons (o := { dst := some 27, op := Op.load 104 (Operand.tmp 26), type := 104, pos := "memory.go:43", after := #[{ on := 6, ground := Ground.data }], guard := none }) rfl (fun K hK => ?_) AllReadyH.nil
    go_simp
    try go_wp2_with fail
    refine hK.out _ _ ?_ (fun hHeld => ?_)
    · trivial
    clear hK K
    try simp only [Act.put, List.setIfInBounds_toArray, List.set_cons_zero, List.set_cons_succ]
    refine wpAnyH_ready (rs := [8]) (by kernel_rfl) (by simp) ?_
    refine AllReadyH.cons (o := { dst := some 28, op := Op.call { callee := Callee.value (Operand.func 58), args := #[Operand.tmp 27], argTypes := #[104] }, type := 104, pos := "memory.go:43", after := #[{ on := 7, ground := Ground.data }], guard := none }) rfl (fun K hK => ?_) AllReadyH.nil
    go_simp
    refine hcp.mono ?_
    rintro e w1 ⟨rfl, z1, b1⟩
    have hb1 := undrew b1
    have HL1 := hid (HL0.out.page d hd16 hb1 z1)
    have c9 : w1.cell? ⟨q, d, none⟩ = some (.pointer (some ⟨P, 0, none⟩)) := (hb1.cell (p := ⟨q, d, none⟩) HQL.out).trans c1
    have f9 : w1.frozen? ⟨q, d, none⟩ = false := (hb1.frozen (p := ⟨q, d, none⟩) HQL.out).trans f1
    clear hcp z1 b1 hb1
    try go_wp2_with fail
    refine hK.out _ _ ?_ (fun hHeld => ?_)
    · trivial
    clear hK K
    try simp only [Act.put, List.setIfInBounds_toArray, List.set_cons_zero, List.set_cons_succ]
    refine wpAnyH_take (i := 11) (oi := { dst := some 31, op := Op.indexAddr 105 (Operand.tmp 30) (Operand.tmp 21), type := 0, pos := "memory.go:43", after := #[{ on := 10, ground := Ground.data }, { on := 1, ground := Ground.data }, { on := 0, ground := Ground.phase }, { on := 1, ground := Ground.phase }, { on := 2, ground := Ground.phase }, { on := 3, ground := Ground.phase }, { on := 4, ground := Ground.phase }, { on := 5, ground := Ground.phase }, { on := 6, ground := Ground.phase }, { on := 7, ground := Ground.phase }, { on := 8, ground := Ground.phase }], guard := none }) (v := (.pointer (some ⟨q, d, none⟩))) rfl (by kernel_rfl) (by kernel_rfl) (by kernel_rfl) (fun _ _ _ h => h) (Or.inl ⟨by rfl, ?_⟩) (by assumption) ?_
    · intro w hSw
      try dsimp only at hSw
      go_simp
    try simp only [Act.put, List.setIfInBounds_toArray, List.set_cons_zero, List.set_cons_succ]
    refine wpAnyH_ready (rs := [12]) (by kernel_rfl) (by simp) ?_
    refine AllReadyH.cons (o := { dst := none, op := Op.store 104 (Operand.tmp 31) (Operand.tmp 28), type := 0, pos := "memory.go:43", after := #[{ on := 11, ground := Ground.data }, { on := 8, ground := Ground.data }, { on := 8, ground := Ground.chain }, { on := 0, ground := Ground.phase }, { on := 1, ground := Ground.phase }, { on := 2, ground := Ground.phase }, { on := 3, ground := Ground.phase }, { on := 4, ground := Ground.phase }, { on := 5, ground := Ground.phase }, { on := 6, ground := Ground.phase }, { on := 7, ground := Ground.phase }, { on := 8, ground := Ground.phase }], guard := none }) rfl (fun K hK => ?_) AllReadyH.nil
    go_simp
    try go_wp2_with fail
    refine hK.out _ _ ?_ (fun hHeld => ?_)
    · trivial
    clear hK K
    try simp only [Act.put, List.setIfInBounds_toArray, List.set_cons_zero, List.set_cons_succ]
    refine wpAnyH_done (by kernel_rfl) ?_ _
    refine NoPanic.normal ?_
    obtain ⟨X1, hX1⟩ : ∃ X1, X1 = w1.setCell ⟨q, d, none⟩ (.pointer (some ⟨w.heap.size, 0, none⟩)) := ⟨_, rfl⟩
    rw [← hX1]
    rw [← hX1] at HL1
    have hl1 := HL1.out
    have g0 : ∃ v, X1.cell? ⟨q, 16 + d, none⟩ = some v := ⟨_, hl1.mem.flag d hd16⟩
    obtain ⟨v0, g0⟩ := g0
    have g1 := frozen_list (j := 16 + d) hl1.mem.blk
    obtain ⟨X2, hX2⟩ : ∃ X2, X2 = X1.setCell ⟨q, 16 + d, none⟩ (.bool true) := ⟨_, rfl⟩
    have hl2 := hl1.flag d hd16
    rw [← hX2] at hl2
    have hn : (pg.set d w.heap.size).getD d 0 = w.heap.size := by simp [List.getD, HPG.out, hd16]
    have g2 := hl2.mem.ptr d hd16
    have g3 := hl2.mem.byte d m hd16 hm256
    have g4 := frozen_list (j := m) (hl2.mem.pgs d hd16)
    have HF := hid (hl2.byte d m x hd16 hm256 hx)
    rw [hn] at g2 g3 g4 HF
    rw [HDM.out] at g3 HF
    have g5 := frozen_list (j := m) (hl1.mem.pgs d hd16)
    rw [hn] at g5
    generalize b.getD a 0 = y at *
    rw [hX2] at g2 g3 g4 HF
    clear hX1 hX2 hl1 hl2 hn HL1 HL0 c9 f9 c0 c1 f1
    go_wp2
    go_ret
    exact ⟨rfl, _, HF.out⟩
end Go.Proofs.YtkaffbchlngfaaaDoor
