/-
  The law's memory, and how the machine asks it.
-/
import Derived.Test.YtfnojlgmbfocfaaDoorVPut
import Derived.Recover
namespace Go.Proofs.YtfnojlgmbfocfaaDoor
open Go.RowKit
set_option linter.unusedVariables false
set_option linter.unusedSimpArgs false

theorem Tryd.infoB : (Tryd.prog.info? 5).map (fun i => (i.zero, i.size, i.bytes)) = some (some (.int .u8 0), 1, 1) := by kernel_rfl
theorem OwnsN.form {k : IntKind} {e : TypeId} {w : World} {base : Nat} {v : Value} {xs : List Nat} (h : OwnsN k e w base v xs) (hx : 0 < xs.length) : ∃ g cap cur, v = .slice (some ⟨g, 0, none⟩) xs.length cap ∧ xs.length ≤ cap ∧ base ≤ g ∧ w.heap[g]? = some (.cells cur e (0, 0)) ∧ ∀ j, (hj : j < xs.length) → w.cell? ⟨g, j, none⟩ = some (.int k (xs[j] : Int)) ∧ w.frozen? ⟨g, j, none⟩ = false := by
  rcases h.2 with ⟨rfl, hn⟩ | ⟨g, cap, cur, rfl, hbase, hg, hcap, _, _, ht⟩
  · omega
  · refine ⟨g, cap, cur, rfl, hcap, hbase, hg, fun j hj => ⟨?_, by simp [World.frozen?, hg]⟩⟩
    have hc := h.cells (g := g) rfl j _ (cellsN_get k xs j hj)
    rw [addr_add, Nat.zero_add] at hc
    rw [hc]
    simp [List.getD, hj]
/-- One byte of a row is set. -/
theorem OwnsN.put {k : IntKind} {e : TypeId} {w : World} {base g cap : Nat} {xs : List Nat} (h : OwnsN k e w base (.slice (some ⟨g, 0, none⟩) xs.length cap) xs) (j n : Nat) (hj : j < xs.length) : OwnsN k e (w.setCell ⟨g, j, none⟩ (.int k (n : Int))) base (.slice (some ⟨g, 0, none⟩) xs.length cap) (xs.set j n) := by
  have h2 := (World.ownsRow.stored h j (.int k (n : Int))).1
  unfold OwnsN
  have e1 : (xs.set j n).length = xs.length := by simp
  have e2 : cellsN k (xs.set j n) = (cellsN k xs).set j (.int k (n : Int)) := by simp [cellsN, List.map_set]
  rw [e1, e2]
  exact h2

set_option maxHeartbeats 1000000 in
theorem memLoad_any (w : World) (q r : Nat) (b : List Nat) (ld st : Nat) (vb : Value) (h : MemAt w q r b ld st vb) (a : Int) (hld : ld < 9223372036854775807) (hb : b.length ≤ 4611686018427387904) :
    Calls Tryd.prog 70 #[.pointer (some ⟨q, 0, none⟩), .int .i64 a] w fun e w' =>
      e = .returned (.tuple (if 0 ≤ a ∧ a < b.length then #[.int .u8 ((b.getD a.toNat 0 : Nat) : Int), .bool true] else #[.int .u8 0, .bool false])) ∧ MemAt w' q r b (ld + 1) st vb ∧ w' = w.setCell ⟨q, 1, none⟩ (.int .i64 ((ld + 1 : Nat) : Int)) := by
  obtain ⟨c0, c1, c2, f1, f2⟩ := h.cells
  have hM := h.setLd (ld + 1)
  obtain ⟨d0, d1, d2, _, _⟩ := hM.cells
  have HM := hid hM
  have hO := hM.own
  have e1 : ((ld + 1 : Nat) : Int) = (ld : Int) + 1 := by omega
  obtain ⟨aob, capb, hvb⟩ := OwnsN.shape h.own
  subst hvb
  rw [e1] at d0 d1 d2 HM hO ⊢
  by_cases h0 : 0 ≤ a
  · obtain ⟨k, rfl⟩ := Int.eq_ofNat_of_zero_le h0
    by_cases h1 : k < b.length
    · rw [if_pos (by omega)]
      obtain ⟨g, cap, cur, hv, hc, _, _, hcell⟩ := OwnsN.form hO (by omega)
      cases hv
      obtain ⟨x1, x2⟩ := hcell k h1
      have e2 : b.getD ((k : Nat) : Int).toNat 0 = b[k] := by simp [List.getD, h1]
      have n1 : decide ((k : Int) < 0) = false := decide_eq_false (by omega)
      have n2 : ¬ ((b.length : Int) ≤ (k : Int)) := by omega
      have n3 : (k : Int) < (b.length : Int) := by omega
      rw [e2]
      obtain ⟨x, hx⟩ : ∃ x, x = b[k] := ⟨_, rfl⟩
      rw [← hx] at x1 ⊢
      clear h hM hO hcell hx e2
      go_enter Tryd.func70, Tryd.ntmps70
      go_wp2
      go_ret2
      exact ⟨rfl, HM.out, rfl⟩
    · rw [if_neg (by omega)]
      have n1 : decide ((k : Int) < 0) = false := decide_eq_false (by omega)
      have n2 : ((b.length : Int) ≤ (k : Int)) := by omega
      clear h hM hO
      go_enter Tryd.func70, Tryd.ntmps70
      go_wp2
      go_ret2
      exact ⟨rfl, HM.out, rfl⟩
  · rw [if_neg (by omega)]
    have n1 : a < 0 := by omega
    clear h hM hO
    go_enter Tryd.func70, Tryd.ntmps70
    go_wp2
    go_ret2
    exact ⟨rfl, HM.out, rfl⟩

theorem catchL (w : World) : CallsD Tryd.prog 53 #[] .returning w fun e u' w' => e = .returned (.tuple #[]) ∧ u' = .returning ∧ w' = w := by
  refine callsD_of_wpS Tryd.func53 rfl fun c₀ cs hu => ?_
  apply wpS_region
  simp [wpOpsS, go_sem, recoverD, hu, Tryd.ntmps53, Exit.thenS, bodyPostS, results, Tryd.results53]
  cases c₀
  simp_all
theorem catchS (w : World) : CallsD Tryd.prog 54 #[] .returning w fun e u' w' => e = .returned (.tuple #[]) ∧ u' = .returning ∧ w' = w := by
  refine callsD_of_wpS Tryd.func54 rfl fun c₀ cs hu => ?_
  apply wpS_region
  simp [wpOpsS, go_sem, recoverD, hu, Tryd.ntmps54, Exit.thenS, bodyPostS, results, Tryd.results54]
  cases c₀
  simp_all

def memV (q : Nat) : Value := .iface 29 (.pointer (some ⟨q, 0, none⟩))
theorem meth_load (q : Nat) (w : World) : (method 61 29 (.pointer (some ⟨q, 0, none⟩)) "Load").run Tryd.prog w = .ok (70, .pointer (some ⟨q, 0, none⟩)) w := by kernel_rfl
theorem meth_store (q : Nat) (w : World) : (method 61 29 (.pointer (some ⟨q, 0, none⟩)) "Store").run Tryd.prog w = .ok (71, .pointer (some ⟨q, 0, none⟩)) w := by kernel_rfl

set_option maxHeartbeats 1000000 in
theorem memStore_any (w : World) (q r : Nat) (b : List Nat) (ld st : Nat) (vb : Value) (h : MemAt w q r b ld st vb) (a : Int) (x : Nat) (hx256 : x < 256) (hst : st < 9223372036854775807) (hb : b.length ≤ 4611686018427387904) :
    Calls Tryd.prog 71 #[.pointer (some ⟨q, 0, none⟩), .int .i64 a, .int .u8 (x : Int)] w fun e w' =>
      e = .returned (.bool (decide (0 ≤ a ∧ a < b.length))) ∧ MemAt w' q r (if 0 ≤ a ∧ a < b.length then b.set a.toNat x else b) ld (st + 1) vb ∧ Kp w.heap.size q r w w' := by
  obtain ⟨c0, c1, c2, f1, f2⟩ := h.cells
  have hM := h.setSt (st + 1)
  obtain ⟨d0, d1, d2, _, _⟩ := hM.cells
  have HM := hid hM
  have hO := hM.own
  have e1 : ((st + 1 : Nat) : Int) = (st : Int) + 1 := by omega
  obtain ⟨aob, capb, hvb⟩ := OwnsN.shape h.own
  subst hvb
  have HK : Hid (Kp w.heap.size q r w (w.setCell ⟨q, 2, none⟩ (.int .i64 ((st + 1 : Nat) : Int)))) := hid (Kp.set ⟨q, 2, none⟩ (Or.inl rfl) _)
  rw [e1] at d0 d1 d2 HM hO HK
  by_cases h0 : 0 ≤ a
  · obtain ⟨k, rfl⟩ := Int.eq_ofNat_of_zero_le h0
    by_cases h1 : k < b.length
    · have hc : 0 ≤ (k : Int) ∧ (k : Int) < (b.length : Int) := by omega
      rw [if_pos hc, decide_eq_true hc]
      obtain ⟨g, cap, cur, hv, hcp, _, hblk, hcell⟩ := OwnsN.form hO (by omega)
      cases hv
      obtain ⟨x1, x2⟩ := hcell k h1
      have hat := hM.at_ g rfl
      have hO2 := OwnsN.put hO k x h1
      have hq2 : ((w.setCell ⟨q, 2, none⟩ (.int .i64 ((st : Int) + 1))).setCell ⟨g, k, none⟩ (.int .u8 (x : Int))).heap[q]? = (w.setCell ⟨q, 2, none⟩ (.int .i64 ((st : Int) + 1))).heap[q]? := far_set (by omega)
      have HM2 : Hid (MemAt ((w.setCell ⟨q, 2, none⟩ (.int .i64 ((st : Int) + 1))).setCell ⟨g, k, none⟩ (.int .u8 (x : Int))) q r (b.set k x) ld (st + 1) (.slice (some ⟨g, 0, none⟩) b.length capb)) := by
        unfold Hid
        refine ⟨by rw [hq2]; exact HM.out.blk, hO2, hM.at_, fun y hy => ?_⟩
        rcases List.mem_or_eq_of_mem_set hy with hy | rfl
        · exact hM.lt256 y hy
        · exact hx256
      have HK2 : Hid (Kp w.heap.size q r w ((w.setCell ⟨q, 2, none⟩ (.int .i64 ((st : Int) + 1))).setCell ⟨g, k, none⟩ (.int .u8 (x : Int)))) := hid (HK.out.trans (Kp.set ⟨g, k, none⟩ (Or.inr (Or.inl hat.1)) _))
      have n1 : decide ((k : Int) < 0) = false := decide_eq_false (by omega)
      have n2 : ¬ ((b.length : Int) ≤ (k : Int)) := by omega
      have n3 : (k : Int) < (b.length : Int) := by omega
      have hne : ¬ q = g := by omega
      clear h hM hO hcell hc hO2 hq2 hat hblk
      go_enter Tryd.func71, Tryd.ntmps71
      go_wp2
      go_ret
      exact ⟨rfl, HM2.out, HK2.out⟩
    · have hc : ¬ (0 ≤ (k : Int) ∧ (k : Int) < (b.length : Int)) := by omega
      rw [if_neg hc, decide_eq_false hc]
      have n1 : decide ((k : Int) < 0) = false := decide_eq_false (by omega)
      have n2 : ((b.length : Int) ≤ (k : Int)) := by omega
      clear h hM hO hc
      go_enter Tryd.func71, Tryd.ntmps71
      go_wp2
      go_ret
      exact ⟨rfl, HM.out, HK.out⟩
  · have hc : ¬ (0 ≤ a ∧ a < (b.length : Int)) := by omega
    rw [if_neg hc, decide_eq_false hc]
    have n1 : a < 0 := by omega
    clear h hM hO hc
    go_enter Tryd.func71, Tryd.ntmps71
    go_wp2
    go_ret
    exact ⟨rfl, HM.out, HK.out⟩

set_option maxHeartbeats 1000000 in
theorem load_any (w : World) (q r : Nat) (b : List Nat) (ld st : Nat) (vb : Value) (h : MemAt w q r b ld st vb) (a : Int) (hld : ld < 9223372036854775807) (hb : b.length ≤ 4611686018427387904) :
    Calls Tryd.prog 50 #[memV q, .int .i64 a] w fun e w' =>
      e = .returned (.tuple (if 0 ≤ a ∧ a < b.length then #[.int .u8 ((b.getD a.toNat 0 : Nat) : Int), .bool true] else #[.int .u8 0, .bool false])) ∧ MemAt w' q r b (ld + 1) st vb ∧ Kp w.heap.size q r w w' := by
  have hL := memLoad_any w q r b ld st vb h a hld hb
  have hm := meth_load q
  have hmf : ∀ (fn : Fn) (first cap : Array Value) (w : World), (Instr.makeFunc fn first cap).run Tryd.prog w = .ok (.func fn first cap) w := fun _ _ _ _ => rfl
  unfold memV
  obtain ⟨x, c, hxc⟩ : ∃ x c, (if 0 ≤ a ∧ a < (b.length : Int) then #[Value.int .u8 ((b.getD a.toNat 0 : Nat) : Int), .bool true] else #[.int .u8 0, .bool false]) = #[.int .u8 x, .bool c] := by
    split
    · exact ⟨_, _, rfl⟩
    · exact ⟨_, _, rfl⟩
  rw [hxc] at hL ⊢
  clear h hxc
  go_enter_defers Tryd.func50, Tryd.ntmps50
  go_wp2_with fail
  refine hL.mono ?_
  rintro e w1 ⟨rfl, h1, h2⟩
  have HM := hid h1
  have HK : Hid (Kp w.heap.size q r w w1) := by unfold Hid; rw [h2]; exact Kp.set ⟨q, 1, none⟩ (Or.inl rfl) _
  clear h1 h2 hL
  go_wp2
  refine leaves_cons (f := 53) (args := #[]) (by simp) (by simp [go_sem]) ?_
  refine (catchL _).mono ?_
  rintro e u' w'' ⟨rfl, rfl, rfl⟩
  simp [Leaves, settle, results, Tryd.results50, go_sem]
  exact ⟨HM.out, HK.out⟩

set_option maxHeartbeats 1000000 in
theorem store_any (w : World) (q r : Nat) (b : List Nat) (ld st : Nat) (vb : Value) (h : MemAt w q r b ld st vb) (a : Int) (x : Nat) (hx256 : x < 256) (hst : st < 9223372036854775807) (hb : b.length ≤ 4611686018427387904) :
    Calls Tryd.prog 51 #[memV q, .int .i64 a, .int .u8 (x : Int)] w fun e w' =>
      e = .returned (.bool (decide (0 ≤ a ∧ a < b.length))) ∧ MemAt w' q r (if 0 ≤ a ∧ a < b.length then b.set a.toNat x else b) ld (st + 1) vb ∧ Kp w.heap.size q r w w' := by
  have hL := memStore_any w q r b ld st vb h a x hx256 hst hb
  have hm := meth_store q
  have hmf : ∀ (fn : Fn) (first cap : Array Value) (w : World), (Instr.makeFunc fn first cap).run Tryd.prog w = .ok (.func fn first cap) w := fun _ _ _ _ => rfl
  unfold memV
  obtain ⟨c, hxc⟩ : ∃ c, c = decide (0 ≤ a ∧ a < (b.length : Int)) := ⟨_, rfl⟩
  obtain ⟨b', hb'⟩ : ∃ b', b' = if 0 ≤ a ∧ a < (b.length : Int) then b.set a.toNat x else b := ⟨_, rfl⟩
  rw [← hxc, ← hb'] at hL ⊢
  clear h hxc hb'
  go_enter_defers Tryd.func51, Tryd.ntmps51
  go_wp2_with fail
  refine hL.mono ?_
  rintro e w1 ⟨rfl, h1, h2⟩
  have HM := hid h1
  have HK := hid h2
  clear h1 h2 hL
  go_wp2
  refine leaves_cons (f := 54) (args := #[]) (by simp) (by simp [go_sem]) ?_
  refine (catchS _).mono ?_
  rintro e u' w'' ⟨rfl, rfl, rfl⟩
  simp [Leaves, settle, results, Tryd.results51, go_sem]
  exact ⟨HM.out, HK.out⟩
end Go.Proofs.YtfnojlgmbfocfaaDoor
