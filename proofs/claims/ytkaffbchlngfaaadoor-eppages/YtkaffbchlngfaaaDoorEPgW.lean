/-
  The walk of the law EpPages.
-/
import Derived.Test.YtkaffbchlngfaaaDoorEPgM
import Derived.Test.YtkaffbchlngfaaaDoorEAwake
namespace Go.Proofs.YtkaffbchlngfaaaDoor
open Go.RowKit
set_option linter.unusedVariables false
set_option linter.unusedSimpArgs false

theorem and4095 (a : Int) : ∃ c : Nat, c ≤ 4095 ∧ IntKind.i64.wrap ((BitVec.ofInt IntKind.i64.bits a &&& BitVec.ofInt IntKind.i64.bits 4095).toNat : Int) = (c : Int) := by
  refine ⟨(BitVec.ofInt IntKind.i64.bits a &&& BitVec.ofInt IntKind.i64.bits 4095).toNat, ?_, ?_⟩
  · rw [BitVec.toNat_and]
    exact Nat.and_le_right
  · have h : (BitVec.ofInt IntKind.i64.bits a &&& BitVec.ofInt IntKind.i64.bits 4095).toNat ≤ 4095 := by
      rw [BitVec.toNat_and]
      exact Nat.and_le_right
    rw [IntKind.wrap_i64]
    omega
theorem bits4095 (a : Int) : ∃ c : Nat, c ≤ 4095 ∧ bits .and .i64 a 4095 = (c : Int) := by
  obtain ⟨c, h, e⟩ := and4095 a
  refine ⟨c, h, ?_⟩
  rw [← e]
  rfl
def haL : List InsL := [(25, 0)]
theorem pg_nodup (q : Nat) : ((List.range 16).map fun j => q + 1 + j).Nodup := by
  unfold List.Nodup
  rw [List.pairwise_map]
  exact List.Pairwise.imp (fun h => by omega) List.nodup_range
theorem pg_mem (q x : Nat) (h : x ∈ (List.range 16).map fun j => q + 1 + j) : q + 1 ≤ x ∧ x < q + 17 := by
  obtain ⟨j, hj, rfl⟩ := List.mem_map.1 h
  have := List.mem_range.1 hj
  omega
set_option maxRecDepth 100000 in
set_option maxHeartbeats 1000000 in
theorem new_long (v : Value) (l : List InsL) (w : World) (hS : SeesI w v l) (hT : Tabs w) (hlen : l.length ≤ 140737488355328) (h0 : (checkL l).1 = 0) (t : ByteArray) (ht : 4096 < t.size) :
    Calls Tryd.prog 8 #[v, .string t] w fun e w' => e = .returned (.tuple #[.pointer none, .int .i64 4]) ∧ Below w.heap.size w w' := by
  have hr : Calls Tryd.prog 25 #[v, .string t] w fun e w' => e = .returned (.int .i64 4) ∧ Below w.heap.size w w' := by
    have hc := check_any v l w hS hT hlen
    rw [h0] at hc
    generalize (checkL l).2 = P at *
    have h3 : ((4096 : Int) < (t.size : Int)) := by omega
    clear hS hT h0
    go_enter Tryd.func25, Tryd.ntmps25
    go_wp2_with fail
    refine hc.mono ?_
    rintro e w1 ⟨rfl, b1⟩
    have HB := hid b1
    clear hc b1
    go_wp2
    go_ret
    exact ⟨rfl, HB.out⟩
  clear hS hT h0
  go_enter Tryd.func8, Tryd.ntmps8
  go_wp2_with fail
  refine hr.mono ?_
  rintro e w1 ⟨rfl, b1⟩
  have HB := hid b1
  clear hr b1
  go_wp2
  go_ret2
  exact ⟨rfl, HB.out⟩

set_option maxRecDepth 100000 in
set_option maxHeartbeats 4000000 in
theorem pages_walk (t : ByteArray) (place : Int) (s : ByteArray) (w : World) (hT : Tabs w) :
    Calls Tryd.prog 7 #[.string t, .int .i64 place, .string s] w fun e w' => e = .returned (.bool true) ∧ Below w.heap.size w w' := by
  obtain ⟨W, hW⟩ : ∃ W, W = w.alloc (.cells #[.int .i64 25, .int .i64 0] 68) := ⟨_, rfl⟩
  have hb : Below w.heap.size w W := by rw [hW]; exact below_alloc w _
  have hV : SeesI W (.slice (some ⟨w.heap.size, 0, none⟩) 1 1) haL := by rw [hW]; exact seesI_new w haL 68 (by decide)
  have HAW : Hid (∀ w1, Below w.heap.size w w1 → Calls Tryd.prog 10 #[] w1 fun e w' => e = .returned (.bool true) ∧ Below w.heap.size w w') := fun w1 h1 => (awake_any w1 (hT.below h1)).mono fun e w' ⟨he, h2⟩ => ⟨he, h1.trans (h2.mono h1.size)⟩
  have HB := hid hb
  have hsW := hb.size
  by_cases ht : t.size ≤ 4096
  · have hnew := new_yes (.slice (some ⟨w.heap.size, 0, none⟩) 1 1) haL W hV (hT.below hb) (by decide) t (by unfold whyE; rw [if_pos (by decide), if_pos ht]) ht
    obtain ⟨a, ha, ea⟩ := bits4095 place
    have HT4 := hid ht
    have HA4 := hid ha
    clear hb hV hT ht ha
    go_enter Tryd.func7, Tryd.ntmps7
    go_wp2_with fail
    rw [← hW]
    clear hW
    refine hnew.mono ?_
    rintro e w1 ⟨p, vc, q, rfl, e1, o1, m1, hq, hqp, hvc, b1⟩
    have hs1 := b1.size
    have hB1 := HB.out.trans (b1.mono hsW)
    have hpl := (Array.getElem?_eq_some_iff.1 e1).1
    have hnil := eqlE_some_nil ⟨p, 0, none⟩ w1
    have htx := text_yes w1 p vc q none e1 _ _ _ m1 0 4096 (by decide)
    obtain ⟨WAS, hWAS⟩ : ∃ X, X = strOf (((imgL t).drop 0).take 4096) := ⟨_, rfl⟩
    rw [← hWAS] at htx
    have HWAS := hid hWAS
    have hWs : WAS.size = 4096 := by rw [hWAS]; exact was_size t HT4.out
    have HM1 := hid m1
    have HE1 := hid e1
    have HB1 := hid hB1
    have HQ := hid hq
    have HQP := hid hqp
    have HPL := hid hpl
    have HWS := hid hWs
    clear hnew m1 o1 hB1 hvc b1 e1 hWAS hq hqp hpl hWs
    go_wp2_with fail
    refine htx.mono ?_
    rintro e w2 ⟨rfl, b2⟩
    have m2 := HM1.out.below b2
    have e2 := HE1.out.below b2
    have hB2 := HB1.out.trans (b2.mono HB1.out.size)
    have HM2 := hid m2
    have HE2 := hid e2
    have HB2 := hid hB2
    by_cases hs : a + s.size ≤ 4096
    · have hlay := lay_yes w2 p vc q none e2 _ _ _ m2 (pg_nodup q) (fun h => by have := pg_mem q q h; omega) a s hs
      have h4 : (s.size : Int) ≤ 4096 - (a : Int) := by omega
      have h5 : IntKind.i64.wrap (4096 - (a : Int)) = 4096 - (a : Int) := by
        rw [show (4096 : Int) - (a : Int) = ((4096 - a : Nat) : Int) by omega]
        exact wrap_i64_nat _ (by omega)
      have hp2 := (Array.getElem?_eq_some_iff.1 e2).1
      have HP2 := hid hp2
      have HS := hid hs
      clear htx m2 e2 b2 hB2 hnil hp2 hs
      go_wp2_with fail
      refine hlay.mono ?_
      rintro e w3 ⟨rfl, pg', h3⟩
      have hqp := HQP.out
      have hq := HQ.out
      have e3 : EpAt w3 p vc q none := (h3.keep p HP2.out (by omega) (fun h => by have := pg_mem q p h; omega)).trans HE2.out
      have hB3 : Below w.heap.size w w3 := HB2.out.trans ⟨h3.os, h3.tape, h3.output, h3.size, fun j hj => h3.keep j (by have := HB2.out.size; omega) (by omega) (fun h => by have := pg_mem q j h; omega)⟩
      have htx := text_yes w3 p vc q none e3 _ _ _ h3.mem 0 4096 (by decide)
      rw [now_eq t s HT4.out a HS.out, ← HWAS.out] at htx
      obtain ⟨NOW, hNOW⟩ : ∃ X, X = WAS.extract 0 a ++ s ++ WAS.extract (a + s.size) 4096 := ⟨_, rfl⟩
      rw [← hNOW] at htx
      have HNOW := hid hNOW
      have HM3 := hid h3.mem
      have HE3 := hid e3
      have HB3 := hid hB3
      clear hlay h3 e3 hB3 hqp hq hNOW
      go_wp2_with fail
      refine htx.mono ?_
      rintro e w4 ⟨rfl, b4⟩
      have b4d := Below.drew b4
      have hpag := pages_yes w4.drew p vc q none (HE3.out.below b4d) _ _ _ (HM3.out.below b4d)
      unfold OwnedR at hpag
      have HB4 := hid (HB3.out.trans (b4d.mono HB3.out.size))
      clear b4d
      clear htx b4
      go_wp2_with fail
      have hs := HS.out
      have ha := HA4.out
      have hWs := HWS.out
      obtain ⟨B, hB⟩ : ∃ B : Nat, B = a + s.size := ⟨_, rfl⟩
      have hB1 : IntKind.i64.wrap ((a : Int) + (s.size : Int)) = (B : Int) := by
        rw [show (a : Int) + (s.size : Int) = ((a + s.size : Nat) : Int) by omega, hB]
        exact wrap_i64_nat _ (by omega)
      obtain ⟨A1, hA1⟩ : ∃ X, X = WAS.extract 0 a := ⟨_, rfl⟩
      obtain ⟨A2, hA2⟩ : ∃ X, X = A1 ++ s := ⟨_, rfl⟩
      obtain ⟨A3, hA3⟩ : ∃ X, X = WAS.extract B 4096 := ⟨_, rfl⟩
      have hN2 : NOW = A2 ++ A3 := by rw [HNOW.out, hA2, hA1, hA3, hB]
      refine wp_region_noPanic ?_
      refine wp_region_held_drew (S := fun _ => True) (by kernel_rfl) ?_ (fun hHeld => ?_)
      · trivial
      refine wpAnyH_take (i := 0) (oi := { dst := some 78, op := Op.move (Operand.tmp 9), type := 9, pos := "law.go:184", after := #[], guard := none }) (v := (.string WAS)) rfl (by kernel_rfl) (by kernel_rfl) (by kernel_rfl) (fun _ _ _ h => h) (Or.inl ⟨by rfl, ?_⟩) (by assumption) ?_
      · intro w hSw
        try dsimp only at hSw
        go_simp
      try simp only [Act.put, List.setIfInBounds_toArray, List.set_cons_zero, List.set_cons_succ]
      refine wpAnyH_take (i := 1) (oi := { dst := some 79, op := Op.call { callee := Callee.builtin Builtin.len, args := #[Operand.tmp 78], argTypes := #[9] }, type := 3, pos := "law.go:184", after := #[{ on := 0, ground := Ground.data }], guard := none }) (v := (.int .i64 4096)) rfl (by kernel_rfl) (by kernel_rfl) (by kernel_rfl) (fun _ _ _ h => h) (Or.inl ⟨by rfl, ?_⟩) (by assumption) ?_
      · intro w hSw
        try dsimp only at hSw
        go_simp
      try simp only [Act.put, List.setIfInBounds_toArray, List.set_cons_zero, List.set_cons_succ]
      refine wpAnyH_take (i := 2) (oi := { dst := some 80, op := Op.binOp BinOp.neq 3 (Operand.tmp 79) (Operand.const (Value.int IntKind.i64 4096)) 3, type := 4, pos := "law.go:184", after := #[{ on := 1, ground := Ground.data }], guard := none }) (v := (.bool false)) rfl (by kernel_rfl) (by kernel_rfl) (by kernel_rfl) (fun _ _ _ h => h) (Or.inl ⟨by rfl, ?_⟩) (by assumption) ?_
      · intro w hSw
        try dsimp only at hSw
        go_simp
      try simp only [Act.put, List.setIfInBounds_toArray, List.set_cons_zero, List.set_cons_succ]
      refine wpAnyH_take (i := 3) (oi := { dst := some 81, op := Op.move (Operand.tmp 80), type := 4, pos := "law.go:184", after := #[{ on := 2, ground := Ground.data }], guard := none }) (v := (.bool false)) rfl (by kernel_rfl) (by kernel_rfl) (by kernel_rfl) (fun _ _ _ h => h) (Or.inl ⟨by rfl, ?_⟩) (by assumption) ?_
      · intro w hSw
        try dsimp only at hSw
        go_simp
      try simp only [Act.put, List.setIfInBounds_toArray, List.set_cons_zero, List.set_cons_succ]
      refine wpAnyH_take (i := 4) (oi := { dst := some 82, op := Op.move (Operand.tmp 13), type := 9, pos := "law.go:184", after := #[{ on := 3, ground := Ground.guard }], guard := some (3, false) }) (v := (.string NOW)) rfl (by kernel_rfl) (by kernel_rfl) (by kernel_rfl) (fun _ _ _ h => h) (Or.inl ⟨by rfl, ?_⟩) (by assumption) ?_
      · intro w hSw
        try dsimp only at hSw
        go_simp
      try simp only [Act.put, List.setIfInBounds_toArray, List.set_cons_zero, List.set_cons_succ]
      refine wpAnyH_take (i := 5) (oi := { dst := some 83, op := Op.move (Operand.tmp 9), type := 9, pos := "law.go:184", after := #[{ on := 3, ground := Ground.guard }], guard := some (3, false) }) (v := (.string WAS)) rfl (by kernel_rfl) (by kernel_rfl) (by kernel_rfl) (fun _ _ _ h => h) (Or.inl ⟨by rfl, ?_⟩) (by assumption) ?_
      · intro w hSw
        try dsimp only at hSw
        go_simp
      try simp only [Act.put, List.setIfInBounds_toArray, List.set_cons_zero, List.set_cons_succ]
      refine wpAnyH_take (i := 6) (oi := { dst := some 84, op := Op.move (Operand.tmp 11), type := 3, pos := "law.go:184", after := #[{ on := 3, ground := Ground.guard }], guard := some (3, false) }) (v := (.int .i64 (a : Int))) rfl (by kernel_rfl) (by kernel_rfl) (by kernel_rfl) (fun _ _ _ h => h) (Or.inl ⟨by rfl, ?_⟩) (by assumption) ?_
      · intro w hSw
        try dsimp only at hSw
        go_simp
      try simp only [Act.put, List.setIfInBounds_toArray, List.set_cons_zero, List.set_cons_succ]
      refine wpAnyH_take (i := 7) (oi := { dst := some 85, op := Op.slice 9 (Operand.tmp 83) none (some (Operand.tmp 84)) none, type := 9, pos := "law.go:184", after := #[{ on := 5, ground := Ground.data }, { on := 6, ground := Ground.data }, { on := 3, ground := Ground.guard }], guard := some (3, false) }) (v := (.string A1)) rfl (by kernel_rfl) (by kernel_rfl) (by kernel_rfl) (fun _ _ _ h => h) (Or.inl ⟨by rfl, ?_⟩) (by assumption) ?_
      · intro w hSw
        try dsimp only at hSw
        go_simp
        intro h
        omega
      try simp only [Act.put, List.setIfInBounds_toArray, List.set_cons_zero, List.set_cons_succ]
      refine wpAnyH_take (i := 8) (oi := { dst := some 86, op := Op.move (Operand.tmp 2), type := 9, pos := "law.go:184", after := #[{ on := 3, ground := Ground.guard }], guard := some (3, false) }) (v := (.string s)) rfl (by kernel_rfl) (by kernel_rfl) (by kernel_rfl) (fun _ _ _ h => h) (Or.inl ⟨by rfl, ?_⟩) (by assumption) ?_
      · intro w hSw
        try dsimp only at hSw
        go_simp
      try simp only [Act.put, List.setIfInBounds_toArray, List.set_cons_zero, List.set_cons_succ]
      refine wpAnyH_take (i := 9) (oi := { dst := some 87, op := Op.binOp BinOp.add 9 (Operand.tmp 85) (Operand.tmp 86) 9, type := 9, pos := "law.go:184", after := #[{ on := 7, ground := Ground.data }, { on := 8, ground := Ground.data }, { on := 3, ground := Ground.guard }], guard := some (3, false) }) (v := (.string A2)) rfl (by kernel_rfl) (by kernel_rfl) (by kernel_rfl) (fun _ _ _ h => h) (Or.inl ⟨by rfl, ?_⟩) (by assumption) ?_
      · intro w hSw
        try dsimp only at hSw
        go_simp
        omega
      try simp only [Act.put, List.setIfInBounds_toArray, List.set_cons_zero, List.set_cons_succ]
      refine wpAnyH_take (i := 10) (oi := { dst := some 88, op := Op.move (Operand.tmp 9), type := 9, pos := "law.go:184", after := #[{ on := 3, ground := Ground.guard }], guard := some (3, false) }) (v := (.string WAS)) rfl (by kernel_rfl) (by kernel_rfl) (by kernel_rfl) (fun _ _ _ h => h) (Or.inl ⟨by rfl, ?_⟩) (by assumption) ?_
      · intro w hSw
        try dsimp only at hSw
        go_simp
      try simp only [Act.put, List.setIfInBounds_toArray, List.set_cons_zero, List.set_cons_succ]
      refine wpAnyH_take (i := 11) (oi := { dst := some 89, op := Op.move (Operand.tmp 11), type := 3, pos := "law.go:184", after := #[{ on := 3, ground := Ground.guard }], guard := some (3, false) }) (v := (.int .i64 (a : Int))) rfl (by kernel_rfl) (by kernel_rfl) (by kernel_rfl) (fun _ _ _ h => h) (Or.inl ⟨by rfl, ?_⟩) (by assumption) ?_
      · intro w hSw
        try dsimp only at hSw
        go_simp
      try simp only [Act.put, List.setIfInBounds_toArray, List.set_cons_zero, List.set_cons_succ]
      refine wpAnyH_take (i := 12) (oi := { dst := some 90, op := Op.move (Operand.tmp 2), type := 9, pos := "law.go:184", after := #[{ on := 3, ground := Ground.guard }], guard := some (3, false) }) (v := (.string s)) rfl (by kernel_rfl) (by kernel_rfl) (by kernel_rfl) (fun _ _ _ h => h) (Or.inl ⟨by rfl, ?_⟩) (by assumption) ?_
      · intro w hSw
        try dsimp only at hSw
        go_simp
      try simp only [Act.put, List.setIfInBounds_toArray, List.set_cons_zero, List.set_cons_succ]
      refine wpAnyH_take (i := 13) (oi := { dst := some 91, op := Op.call { callee := Callee.builtin Builtin.len, args := #[Operand.tmp 90], argTypes := #[9] }, type := 3, pos := "law.go:184", after := #[{ on := 12, ground := Ground.data }, { on := 3, ground := Ground.guard }], guard := some (3, false) }) (v := (.int .i64 (s.size : Int))) rfl (by kernel_rfl) (by kernel_rfl) (by kernel_rfl) (fun _ _ _ h => h) (Or.inl ⟨by rfl, ?_⟩) (by assumption) ?_
      · intro w hSw
        try dsimp only at hSw
        go_simp
      try simp only [Act.put, List.setIfInBounds_toArray, List.set_cons_zero, List.set_cons_succ]
      refine wpAnyH_take (i := 14) (oi := { dst := some 92, op := Op.binOp BinOp.add 3 (Operand.tmp 89) (Operand.tmp 91) 3, type := 3, pos := "law.go:184", after := #[{ on := 11, ground := Ground.data }, { on := 13, ground := Ground.data }, { on := 3, ground := Ground.guard }], guard := some (3, false) }) (v := (.int .i64 (B : Int))) rfl (by kernel_rfl) (by kernel_rfl) (by kernel_rfl) (fun _ _ _ h => h) (Or.inl ⟨by rfl, ?_⟩) (by assumption) ?_
      · intro w hSw
        try dsimp only at hSw
        go_simp
      try simp only [Act.put, List.setIfInBounds_toArray, List.set_cons_zero, List.set_cons_succ]
      refine wpAnyH_take (i := 15) (oi := { dst := some 93, op := Op.slice 9 (Operand.tmp 88) (some (Operand.tmp 92)) none none, type := 9, pos := "law.go:184", after := #[{ on := 10, ground := Ground.data }, { on := 14, ground := Ground.data }, { on := 3, ground := Ground.guard }], guard := some (3, false) }) (v := (.string A3)) rfl (by kernel_rfl) (by kernel_rfl) (by kernel_rfl) (fun _ _ _ h => h) (Or.inl ⟨by rfl, ?_⟩) (by assumption) ?_
      · intro w hSw
        try dsimp only at hSw
        go_simp
        rw [if_pos (by omega), show ((a : Int) + (s.size : Int)).toNat = a + s.size by omega]
      try simp only [Act.put, List.setIfInBounds_toArray, List.set_cons_zero, List.set_cons_succ]
      refine wpAnyH_take (i := 16) (oi := { dst := some 94, op := Op.binOp BinOp.add 9 (Operand.tmp 87) (Operand.tmp 93) 9, type := 9, pos := "law.go:184", after := #[{ on := 9, ground := Ground.data }, { on := 15, ground := Ground.data }, { on := 3, ground := Ground.guard }], guard := some (3, false) }) (v := (.string NOW)) rfl (by kernel_rfl) (by kernel_rfl) (by kernel_rfl) (fun _ _ _ h => h) (Or.inl ⟨by rfl, ?_⟩) (by assumption) ?_
      · intro w hSw
        try dsimp only at hSw
        go_simp
        omega
      try simp only [Act.put, List.setIfInBounds_toArray, List.set_cons_zero, List.set_cons_succ]
      refine wpAnyH_take (i := 17) (oi := { dst := some 95, op := Op.binOp BinOp.neq 9 (Operand.tmp 82) (Operand.tmp 94) 9, type := 4, pos := "law.go:184", after := #[{ on := 4, ground := Ground.data }, { on := 16, ground := Ground.data }, { on := 3, ground := Ground.guard }], guard := some (3, false) }) (v := (.bool false)) rfl (by kernel_rfl) (by kernel_rfl) (by kernel_rfl) (fun _ _ _ h => h) (Or.inl ⟨by rfl, ?_⟩) (by assumption) ?_
      · intro w hSw
        try dsimp only at hSw
        go_simp
      try simp only [Act.put, List.setIfInBounds_toArray, List.set_cons_zero, List.set_cons_succ]
      refine wpAnyH_take (i := 18) (oi := { dst := some 96, op := Op.pick (Operand.tmp 81) (Operand.const (Value.bool true)) (Operand.tmp 95), type := 4, pos := "law.go:184", after := #[{ on := 3, ground := Ground.data }, { on := 17, ground := Ground.data }], guard := none }) (v := (.bool false)) rfl (by kernel_rfl) (by kernel_rfl) (by kernel_rfl) (fun _ _ _ h => h) (Or.inl ⟨by rfl, ?_⟩) (by assumption) ?_
      · intro w hSw
        try dsimp only at hSw
        go_simp
      try simp only [Act.put, List.setIfInBounds_toArray, List.set_cons_zero, List.set_cons_succ]
      refine wpAnyH_done (by kernel_rfl) ?_ _
      refine NoPanic.normal ?_
      clear hs ha hWs hA1 hA2 hA3 hN2
      by_cases hn : s.size = 0
      · rw [hn, own_none a] at hpag
        have HN := hid hn
        have hz : ((s.size : Int) == 0) = true := by rw [hn]; rfl
        clear hn
        go_wp2_with fail
        refine hpag.mono ?_
        rintro e w5 ⟨v, rfl, o5, b5⟩
        obtain ⟨al, cl, hul⟩ := ownsRow_shape o5
        subst hul
        have haw := HAW.out w5 (HB4.out.trans (b5.mono HB4.out.size))
        clear hpag o5 b5
        go_wp2_with fail
        refine haw.mono ?_
        rintro e w6 ⟨rfl, b6⟩
        have HB6 := hid b6
        clear haw b6
        go_wp2
        go_ret
        exact ⟨by first | rfl | simp, HB6.out⟩
      · have hs := HS.out
        have ha := HA4.out
        rw [own_some a s.size hs (by omega)] at hpag
        obtain ⟨f, hf⟩ : ∃ f, f = a / 256 := ⟨_, rfl⟩
        obtain ⟨g, hg⟩ : ∃ g, g = (a + s.size - 1) / 256 := ⟨_, rfl⟩
        obtain ⟨D, hD⟩ : ∃ D, D = g - f := ⟨_, rfl⟩
        obtain ⟨B1, hBB⟩ : ∃ B1, B1 = a + s.size - 1 := ⟨_, rfl⟩
        rw [← hf, ← hg, ← hD] at hpag
        have hz : ((s.size : Int) == 0) = false := by
          rw [beq_eq_false_iff_ne]
          omega
        have k1 : (a : Int).tdiv 256 = (f : Int) := by rw [Int.tdiv_eq_ediv_of_nonneg (by omega)]; omega
        have k2 : IntKind.i64.wrap ((B : Int) - 1) = (B1 : Int) := by
          rw [show (B : Int) - 1 = (B1 : Int) by omega]
          exact wrap_i64_nat _ (by omega)
        have k3 : (B1 : Int).tdiv 256 = (g : Int) := by rw [Int.tdiv_eq_ediv_of_nonneg (by omega)]; omega
        have k4 : IntKind.i64.wrap (f : Int) = (f : Int) := wrap_i64_nat _ (by omega)
        have k5 : IntKind.i64.wrap (g : Int) = (g : Int) := wrap_i64_nat _ (by omega)
        have k6 : IntKind.i64.wrap ((g : Int) - (f : Int)) = (D : Int) := by
          rw [show (g : Int) - (f : Int) = (D : Int) by omega]
          exact wrap_i64_nat _ (by omega)
        obtain ⟨L, hL⟩ : ∃ L : Nat, L = D + 1 := ⟨_, rfl⟩
        have k7 : IntKind.i64.wrap ((D : Int) + 1) = (L : Int) := by
          rw [show (D : Int) + 1 = (L : Int) by omega]
          exact wrap_i64_nat _ (by omega)
        have k8 : IntKind.i64.wrap ((L : Int) - 1) = (D : Int) := by
          rw [show (L : Int) - 1 = (D : Int) by omega]
          exact wrap_i64_nat _ (by omega)
        have k9 : (D : Int) < (L : Int) := by omega
        have k10 : (0 : Int) < (L : Int) := by omega
        have HFG := hid (show f + D = g by omega)
        have HLD := hid hL
        clear hn hs ha hf hg hD hBB hL hB
        go_wp2_with fail
        refine hpag.mono ?_
        rintro e w5 ⟨v, rfl, o5, b5⟩
        obtain ⟨gb, off, ao, cap, hv, hcap, _, hao, hcell⟩ := o5.sees
        have hlen : ((List.range' f (D + 1)).map (fun x => ((x : Nat) : Int))).length = L := by simp [HLD.out]
        have hne : (List.range' f (D + 1)).map (fun x => ((x : Nat) : Int)) ≠ [] := by intro h; rw [h] at hlen; have := HLD.out; simp at hlen; omega
        obtain rfl := hao hne
        have c0 := hcell 0 (by rw [hlen]; have := HLD.out; omega)
        have c1 := hcell D (by rw [hlen]; have := HLD.out; omega)
        rw [hlen] at hv hcap
        have g0 : ((List.range' f (D + 1)).map (fun x => ((x : Nat) : Int))).getD 0 0 = (f : Int) := by simp [List.getD]
        have g1 : ((List.range' f (D + 1)).map (fun x => ((x : Nat) : Int))).getD D 0 = (g : Int) := by
          have := HFG.out
          simp [List.getD, List.getElem?_range']
          omega
        rw [g0, Nat.add_zero] at c0
        rw [g1] at c1
        subst hv
        have haw := HAW.out w5 (HB4.out.trans (b5.mono HB4.out.size))
        clear hpag o5 b5 hao hcell hlen hne g0 g1
        go_wp2_with fail
        refine haw.mono ?_
        rintro e w6 ⟨rfl, b6⟩
        have HB6 := hid b6
        clear haw b6
        go_wp2
        go_ret
        exact ⟨by first | rfl | simp, HB6.out⟩
    · have hlay := lay_long w2 p vc q none e2 a s (by have := HA4.out; omega) (by omega)
      have h4 : decide ((s.size : Int) ≤ 4096 - (a : Int)) = false := decide_eq_false (by omega)
      have h5 : IntKind.i64.wrap (4096 - (a : Int)) = 4096 - (a : Int) := by
        have := HA4.out
        rw [show (4096 : Int) - (a : Int) = ((4096 - a : Nat) : Int) by omega]
        exact wrap_i64_nat _ (by omega)
      have htx2 := text_yes w2 p vc q none e2 _ _ _ m2 0 4096 (by decide)
      rw [← HWAS.out] at htx2
      clear htx m2 e2 b2 hB2 hnil hs
      go_wp2_with fail
      refine hlay.mono ?_
      rintro e w3 ⟨rfl, hw3⟩
      subst w3
      clear hlay
      go_wp2_with fail
      refine htx2.mono ?_
      rintro e w3 ⟨rfl, b3⟩
      have hpag := pages_yes w3 p vc q none (HE2.out.below b3) _ _ _ (HM2.out.below b3)
      unfold OwnedR at hpag
      rw [show oIdx (List.replicate 16 false) 16 = [] from own_none 0] at hpag
      have HB3 := hid (HB2.out.trans (b3.mono HB2.out.size))
      clear htx2 b3
      go_wp2_with fail
      refine hpag.mono ?_
      rintro e w4 ⟨v, rfl, o4, b4⟩
      obtain ⟨al, cl, hul⟩ := ownsRow_shape o4
      subst hul
      have hB4 := HB3.out.trans (b4.mono HB3.out.size)
      have haw := HAW.out w4 hB4
      clear hpag o4 b4 hB4
      go_wp2_with fail
      refine haw.mono ?_
      rintro e w5 ⟨rfl, b5⟩
      have HB5 := hid b5
      clear haw b5
      go_wp2
      go_ret
      exact ⟨by first | rfl | simp, HB5.out⟩
  · have hnew := new_long (.slice (some ⟨w.heap.size, 0, none⟩) 1 1) haL W hV (hT.below hb) (by decide) (by decide) t (by omega)
    have h3 : ((4096 : Int) < (t.size : Int)) := by omega
    clear hb hV hT ht
    go_enter Tryd.func7, Tryd.ntmps7
    go_wp2_with fail
    rw [← hW]
    clear hW
    refine hnew.mono ?_
    rintro e w1 ⟨rfl, b1⟩
    have haw := HAW.out w1 (HB.out.trans (b1.mono hsW))
    clear hnew b1
    go_wp2_with fail
    refine haw.mono ?_
    rintro e w5 ⟨rfl, b5⟩
    have HB5 := hid b5
    clear haw b5
    go_wp2
    go_ret
    exact ⟨by first | rfl | simp, HB5.out⟩
end Go.Proofs.YtkaffbchlngfaaaDoor
