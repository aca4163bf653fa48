/-
  Bytes are laid into a memory.
-/
import Derived.Test.YtkaffbchlngfaaaDoorEStore
namespace Go.Proofs.YtkaffbchlngfaaaDoor
open Go.RowKit
set_option linter.unusedVariables false
set_option linter.unusedSimpArgs false

def bN (b : List Nat) (a : Nat) (s : List Nat) : Nat → List Nat
  | 0 => b
  | k + 1 => (bN b a s k).set (a + k) (s.getD k 0)
def oN (ow : List Bool) (a : Nat) : Nat → List Bool
  | 0 => ow
  | k + 1 => (oN ow a k).set ((a + k) / 256) true
def MLayR (w : World) (q : Nat) (pg : List Nat) (ow : List Bool) (b : List Nat) (a : Nat) (s : ByteArray) (k : Nat) (w' : World) : Prop :=
  ∃ pg', LayAt w w' q pg pg' (oN ow a k) (bN b a (bytesOf s) k)
set_option maxRecDepth 100000 in
set_option maxHeartbeats 1000000 in
theorem mlay_any (w : World) (q : Nat) (pg : List Nat) (ow : List Bool) (b : List Nat) (h : MemP w q pg ow b) (nd : pg.Nodup) (nq : q ∉ pg) (a : Nat) (s : ByteArray) (ha : a + s.size ≤ 4096) :
    Calls Tryd.prog 52 #[.pointer (some ⟨q, 0, none⟩), .int .i64 (a : Int), .string s] w fun e w' => e = .returned (.tuple #[]) ∧ MLayR w q pg ow b a s s.size w' := by
  have H0 : Hid (MLayR w q pg ow b a s 0 w) := ⟨pg, LayAt.refl h nd nq⟩
  have hbl := bytesOf_len s
  have HBL := hid hbl
  have HBS := hid (bytesOf_lt s)
  obtain ⟨n, hn⟩ : ∃ n, n = s.size := ⟨_, rfl⟩
  have HN := hid hn
  clear h nd nq hbl
  rw [← hn] at ha
  go_enter Tryd.func52, Tryd.ntmps52
  go_wp2_with fail
  rw [← hn]
  clear hn
  go_loopw [9] (fun i wr => ∃ k : Nat, i = .int .i64 (k : Int) ∧ k ≤ n ∧ Hid (MLayR w q pg ow b a s k wr)) (fun i _ => n - (intOf i).toNat)
  case atStart => exact ⟨0, rfl, Nat.zero_le _, H0⟩
  case round =>
    obtain ⟨k, rfl, hkn, hM⟩ := hrel
    by_cases hk : k < n
    · have hk2 : (k : Int) < (n : Int) := by omega
      have hks : k < s.size := by have := HN.out; omega
      have hix := index_str s .i64 (k : Int) k rfl hks wr
      obtain ⟨x, hx⟩ : ∃ x, x = (bytesOf s).getD k 0 := ⟨_, rfl⟩
      have hx256 : x < 256 := by
        rw [hx, List.getD_eq_getElem?_getD, List.getElem?_eq_getElem (by rw [HBL.out]; exact hks)]
        exact HBS.out _ (List.getElem_mem _)
      rw [← hx] at hix
      obtain ⟨pg', hL⟩ := hM.out
      have hst := store_any wr q pg' _ _ hL.mem hL.nd hL.nq (a + k) x (by omega) hx256
      rw [show ((a + k : Nat) : Int) = (a : Int) + (k : Int) by omega] at hst
      have e1 : IntKind.i64.wrap ((a : Int) + (k : Int)) = (a : Int) + (k : Int) := by
        rw [show (a : Int) + (k : Int) = ((a + k : Nat) : Int) by omega]
        exact wrap_i64_nat _ (by omega)
      have HL := hid hL
      have HX := hid hx
      clear hL hx hks
      go_wp2_with fail
      refine hst.mono ?_
      rintro e w1 ⟨rfl, pg2, h2⟩
      have HD : Hid (MLayR w q pg ow b a s (k + 1) w1) := by
        refine ⟨pg2, HL.out.trans ?_⟩
        show LayAt wr w1 q pg' pg2 ((oN ow a k).set ((a + k) / 256) true) ((bN b a (bytesOf s) k).set (a + k) ((bytesOf s).getD k 0))
        rw [← HX.out]
        exact h2
      clear hst h2
      go_wp2
      go_roundw
      case rel => exact ⟨k + 1, by go_num, by omega, HD⟩
      case measure => simp [intOf]; omega
    · obtain rfl : k = n := by omega
      go_wp2
      go_end0
      have hd := hM.out
      rw [HN.out] at hd
      exact ⟨rfl, hd⟩
set_option maxRecDepth 100000 in
set_option maxHeartbeats 1000000 in
theorem isPart_long (a n : Nat) (ha : a ≤ 4096) (h : 4096 < a + n) (w : World) : Calls Tryd.prog 42 #[.int .i64 (a : Int), .int .i64 (n : Int)] w fun e w' => e = .returned (.bool false) ∧ w' = w := by
  have h1 : (0 : Int) ≤ (a : Int) := by omega
  have h2 : (0 : Int) ≤ (n : Int) := by omega
  have h3 : (a : Int) ≤ 4096 := by omega
  have h5 : IntKind.i64.wrap (4096 - (a : Int)) = 4096 - (a : Int) := by
    rw [show (4096 : Int) - (a : Int) = ((4096 - a : Nat) : Int) by omega]
    exact wrap_i64_nat _ (by omega)
  have h4 : decide ((n : Int) ≤ 4096 - (a : Int)) = false := decide_eq_false (by omega)
  go_enter Tryd.func42, Tryd.ntmps42
  go_wp2
  go_ret
  exact ⟨rfl, rfl⟩
set_option maxRecDepth 100000 in
set_option maxHeartbeats 1000000 in
theorem lay_long (w : World) (p : Nat) (vc : Value) (q : Nat) (r : Option Nat) (h : EpAt w p vc q r) (a : Nat) (s : ByteArray) (ha : a ≤ 4096) (hs : 4096 < a + s.size) :
    Calls Tryd.prog 24 #[.pointer (some ⟨p, 0, none⟩), .int .i64 (a : Int), .string s] w fun e w' => e = .returned (.bool false) ∧ w' = w := by
  have hg := given_yes w p vc q r h
  have hp := isPart_long a s.size ha hs w
  clear h
  go_enter Tryd.func24, Tryd.ntmps24
  go_wp2_with fail
  refine hg.mono ?_
  rintro e w1 ⟨rfl, hw1⟩
  subst w1
  clear hg
  go_wp2_with fail
  refine hp.mono ?_
  rintro e w1 ⟨rfl, hw1⟩
  subst w1
  clear hp
  go_wp2
  go_ret
  exact ⟨rfl, rfl⟩
set_option maxRecDepth 100000 in
set_option maxHeartbeats 1000000 in
theorem lay_yes (w : World) (p : Nat) (vc : Value) (q : Nat) (r : Option Nat) (h : EpAt w p vc q r) (pg : List Nat) (ow : List Bool) (b : List Nat) (hm : MemP w q pg ow b) (nd : pg.Nodup) (nq : q ∉ pg) (a : Nat) (s : ByteArray) (ha : a + s.size ≤ 4096) :
    Calls Tryd.prog 24 #[.pointer (some ⟨p, 0, none⟩), .int .i64 (a : Int), .string s] w fun e w' => e = .returned (.bool true) ∧ MLayR w q pg ow b a s s.size w' := by
  have hg := given_yes w p vc q r h
  have hp := isPart_yes a s.size ha w
  have hl := mlay_any w q pg ow b hm nd nq a s ha
  obtain ⟨_, _, c2, _, _⟩ := h.cells
  clear h hm nd nq
  go_enter Tryd.func24, Tryd.ntmps24
  go_wp2_with fail
  refine hg.mono ?_
  rintro e w1 ⟨rfl, hw1⟩
  subst w1
  clear hg
  go_wp2_with fail
  refine hp.mono ?_
  rintro e w1 ⟨rfl, hw1⟩
  subst w1
  clear hp
  go_wp2_with fail
  refine hl.mono ?_
  rintro e w1 ⟨rfl, h1⟩
  have H1 := hid h1
  clear hl h1
  go_wp2
  go_ret
  exact ⟨rfl, H1.out⟩
end Go.Proofs.YtkaffbchlngfaaaDoor
