/-
  The end of a line of a chunked body: the code's.
-/
import Derived.Test.YtllhibdjopfcnaaGreatDoorZDec
import Derived.Test.YtllhibdjopfcnaaGreatDoorZPMath
import Derived.Test.YtllhibdjopfcnaaGreatDoorZHTools
import Derived.Lib.AppendStr
namespace Go.Proofs.YtllhibdjopfcnaaGreatDoor
open Go.RowKit
set_option linter.unusedVariables false

theorem isHx_iff (b : UInt8) : isHx b = decide (48 ≤ b.toNat ∧ b.toNat ≤ 57 ∨ 65 ≤ b.toNat ∧ b.toNat ≤ 70 ∨ 97 ≤ b.toNat ∧ b.toNat ≤ 102) := by
  unfold isHx hexD
  rw [decide_eq_decide]
  constructor
  · intro h
    split at h
    · omega
    · split at h
      · omega
      · split at h <;> omega
  · intro h
    split
    · omega
    · split
      · omega
      · split <;> omega
theorem isMk_iff (b : UInt8) : isMk b = decide (b.toNat = 59) := by
  unfold isMk
  rw [decide_eq_decide]
  exact ⟨fun h => by rw [h]; rfl, fun h => UInt8.toNat_inj.1 (by rw [h]; rfl)⟩
theorem isRm_iff (b : UInt8) : isRm b = decide (32 ≤ b.toNat ∧ b.toNat ≤ 126 ∨ b.toNat = 9) := rfl
theorem isDigitP_any (b : UInt8) (w : World) : Calls Tryz.prog 70 #[.int .u8 (b.toNat : Int)] w fun e w' => e = .returned (.bool (isHx b)) ∧ w = w' := by
  have hb := b.toNat_lt
  rw [isHx_iff]
  obtain ⟨n, hn⟩ : ∃ n, n = b.toNat := ⟨_, rfl⟩
  rw [← hn] at hb ⊢
  clear hn
  rcases (by omega : (0 ≤ n ∧ n ≤ 47) ∨ (48 ≤ n ∧ n ≤ 57) ∨ (58 ≤ n ∧ n ≤ 64) ∨ (65 ≤ n ∧ n ≤ 70) ∨ (71 ≤ n ∧ n ≤ 96) ∨ (97 ≤ n ∧ n ≤ 102) ∨ (103 ≤ n ∧ n ≤ 255)) with ⟨h1, h2⟩ | ⟨h1, h2⟩ | ⟨h1, h2⟩ | ⟨h1, h2⟩ | ⟨h1, h2⟩ | ⟨h1, h2⟩ | ⟨h1, h2⟩
  · have f0 : decide ((48 : Int) ≤ (n : Int)) = false := by simp; omega
    have f1 : decide ((n : Int) ≤ 57) = true := by simp; omega
    have f2 : decide ((65 : Int) ≤ (n : Int)) = false := by simp; omega
    have f3 : decide ((n : Int) ≤ 70) = true := by simp; omega
    have f4 : decide ((97 : Int) ≤ (n : Int)) = false := by simp; omega
    have f5 : decide ((n : Int) ≤ 102) = true := by simp; omega
    rw [decide_eq_false (by omega)]
    clear h1 h2 hb
    go_enter Tryz.func70, Tryz.ntmps70
    go_wp2
    go_ret
    exact ⟨rfl, rfl⟩
  · have f0 : decide ((48 : Int) ≤ (n : Int)) = true := by simp; omega
    have f1 : decide ((n : Int) ≤ 57) = true := by simp; omega
    have f2 : decide ((65 : Int) ≤ (n : Int)) = false := by simp; omega
    have f3 : decide ((n : Int) ≤ 70) = true := by simp; omega
    have f4 : decide ((97 : Int) ≤ (n : Int)) = false := by simp; omega
    have f5 : decide ((n : Int) ≤ 102) = true := by simp; omega
    rw [decide_eq_true (by omega)]
    clear h1 h2 hb
    go_enter Tryz.func70, Tryz.ntmps70
    go_wp2
    go_ret
    exact ⟨rfl, rfl⟩
  · have f0 : decide ((48 : Int) ≤ (n : Int)) = true := by simp; omega
    have f1 : decide ((n : Int) ≤ 57) = false := by simp; omega
    have f2 : decide ((65 : Int) ≤ (n : Int)) = false := by simp; omega
    have f3 : decide ((n : Int) ≤ 70) = true := by simp; omega
    have f4 : decide ((97 : Int) ≤ (n : Int)) = false := by simp; omega
    have f5 : decide ((n : Int) ≤ 102) = true := by simp; omega
    rw [decide_eq_false (by omega)]
    clear h1 h2 hb
    go_enter Tryz.func70, Tryz.ntmps70
    go_wp2
    go_ret
    exact ⟨rfl, rfl⟩
  · have f0 : decide ((48 : Int) ≤ (n : Int)) = true := by simp; omega
    have f1 : decide ((n : Int) ≤ 57) = false := by simp; omega
    have f2 : decide ((65 : Int) ≤ (n : Int)) = true := by simp; omega
    have f3 : decide ((n : Int) ≤ 70) = true := by simp; omega
    have f4 : decide ((97 : Int) ≤ (n : Int)) = false := by simp; omega
    have f5 : decide ((n : Int) ≤ 102) = true := by simp; omega
    rw [decide_eq_true (by omega)]
    clear h1 h2 hb
    go_enter Tryz.func70, Tryz.ntmps70
    go_wp2
    go_ret
    exact ⟨rfl, rfl⟩
  · have f0 : decide ((48 : Int) ≤ (n : Int)) = true := by simp; omega
    have f1 : decide ((n : Int) ≤ 57) = false := by simp; omega
    have f2 : decide ((65 : Int) ≤ (n : Int)) = true := by simp; omega
    have f3 : decide ((n : Int) ≤ 70) = false := by simp; omega
    have f4 : decide ((97 : Int) ≤ (n : Int)) = false := by simp; omega
    have f5 : decide ((n : Int) ≤ 102) = true := by simp; omega
    rw [decide_eq_false (by omega)]
    clear h1 h2 hb
    go_enter Tryz.func70, Tryz.ntmps70
    go_wp2
    go_ret
    exact ⟨rfl, rfl⟩
  · have f0 : decide ((48 : Int) ≤ (n : Int)) = true := by simp; omega
    have f1 : decide ((n : Int) ≤ 57) = false := by simp; omega
    have f2 : decide ((65 : Int) ≤ (n : Int)) = true := by simp; omega
    have f3 : decide ((n : Int) ≤ 70) = false := by simp; omega
    have f4 : decide ((97 : Int) ≤ (n : Int)) = true := by simp; omega
    have f5 : decide ((n : Int) ≤ 102) = true := by simp; omega
    rw [decide_eq_true (by omega)]
    clear h1 h2 hb
    go_enter Tryz.func70, Tryz.ntmps70
    go_wp2
    go_ret
    exact ⟨rfl, rfl⟩
  · have f0 : decide ((48 : Int) ≤ (n : Int)) = true := by simp; omega
    have f1 : decide ((n : Int) ≤ 57) = false := by simp; omega
    have f2 : decide ((65 : Int) ≤ (n : Int)) = true := by simp; omega
    have f3 : decide ((n : Int) ≤ 70) = false := by simp; omega
    have f4 : decide ((97 : Int) ≤ (n : Int)) = true := by simp; omega
    have f5 : decide ((n : Int) ≤ 102) = false := by simp; omega
    rw [decide_eq_false (by omega)]
    clear h1 h2 hb
    go_enter Tryz.func70, Tryz.ntmps70
    go_wp2
    go_ret
    exact ⟨rfl, rfl⟩
theorem isMark_any (b : UInt8) (w : World) : Calls Tryz.prog 72 #[.int .u8 (b.toNat : Int)] w fun e w' => e = .returned (.bool (isMk b)) ∧ w = w' := by
  have hb := b.toNat_lt
  rw [isMk_iff]
  obtain ⟨n, hn⟩ : ∃ n, n = b.toNat := ⟨_, rfl⟩
  rw [← hn] at hb ⊢
  clear hn
  rcases (by omega : (0 ≤ n ∧ n ≤ 58) ∨ (59 ≤ n ∧ n ≤ 59) ∨ (60 ≤ n ∧ n ≤ 255)) with ⟨h1, h2⟩ | ⟨h1, h2⟩ | ⟨h1, h2⟩
  · have f0 : ((n : Int) == 59) = false := by simp; omega
    rw [decide_eq_false (by omega)]
    clear h1 h2 hb
    go_enter Tryz.func72, Tryz.ntmps72
    go_wp2
    go_ret
    exact ⟨rfl, rfl⟩
  · have f0 : ((n : Int) == 59) = true := by simp; omega
    rw [decide_eq_true (by omega)]
    clear h1 h2 hb
    go_enter Tryz.func72, Tryz.ntmps72
    go_wp2
    go_ret
    exact ⟨rfl, rfl⟩
  · have f0 : ((n : Int) == 59) = false := by simp; omega
    rw [decide_eq_false (by omega)]
    clear h1 h2 hb
    go_enter Tryz.func72, Tryz.ntmps72
    go_wp2
    go_ret
    exact ⟨rfl, rfl⟩
theorem isOfRemark_any (b : UInt8) (w : World) : Calls Tryz.prog 73 #[.int .u8 (b.toNat : Int)] w fun e w' => e = .returned (.bool (isRm b)) ∧ w = w' := by
  have hb := b.toNat_lt
  rw [isRm_iff]
  obtain ⟨n, hn⟩ : ∃ n, n = b.toNat := ⟨_, rfl⟩
  rw [← hn] at hb ⊢
  clear hn
  rcases (by omega : (0 ≤ n ∧ n ≤ 8) ∨ (9 ≤ n ∧ n ≤ 9) ∨ (10 ≤ n ∧ n ≤ 31) ∨ (32 ≤ n ∧ n ≤ 126) ∨ (127 ≤ n ∧ n ≤ 255)) with ⟨h1, h2⟩ | ⟨h1, h2⟩ | ⟨h1, h2⟩ | ⟨h1, h2⟩ | ⟨h1, h2⟩
  · have f0 : decide ((32 : Int) ≤ (n : Int)) = false := by simp; omega
    have f1 : decide ((n : Int) ≤ 126) = true := by simp; omega
    have f2 : ((n : Int) == 9) = false := by simp; omega
    rw [decide_eq_false (by omega)]
    clear h1 h2 hb
    go_enter Tryz.func73, Tryz.ntmps73
    go_wp2
    go_ret
    exact ⟨rfl, rfl⟩
  · have f0 : decide ((32 : Int) ≤ (n : Int)) = false := by simp; omega
    have f1 : decide ((n : Int) ≤ 126) = true := by simp; omega
    have f2 : ((n : Int) == 9) = true := by simp; omega
    rw [decide_eq_true (by omega)]
    clear h1 h2 hb
    go_enter Tryz.func73, Tryz.ntmps73
    go_wp2
    go_ret
    exact ⟨rfl, rfl⟩
  · have f0 : decide ((32 : Int) ≤ (n : Int)) = false := by simp; omega
    have f1 : decide ((n : Int) ≤ 126) = true := by simp; omega
    have f2 : ((n : Int) == 9) = false := by simp; omega
    rw [decide_eq_false (by omega)]
    clear h1 h2 hb
    go_enter Tryz.func73, Tryz.ntmps73
    go_wp2
    go_ret
    exact ⟨rfl, rfl⟩
  · have f0 : decide ((32 : Int) ≤ (n : Int)) = true := by simp; omega
    have f1 : decide ((n : Int) ≤ 126) = true := by simp; omega
    have f2 : ((n : Int) == 9) = false := by simp; omega
    rw [decide_eq_true (by omega)]
    clear h1 h2 hb
    go_enter Tryz.func73, Tryz.ntmps73
    go_wp2
    go_ret
    exact ⟨rfl, rfl⟩
  · have f0 : decide ((32 : Int) ≤ (n : Int)) = true := by simp; omega
    have f1 : decide ((n : Int) ≤ 126) = false := by simp; omega
    have f2 : ((n : Int) == 9) = false := by simp; omega
    rw [decide_eq_false (by omega)]
    clear h1 h2 hb
    go_enter Tryz.func73, Tryz.ntmps73
    go_wp2
    go_ret
    exact ⟨rfl, rfl⟩
theorem digitOf_any (b : UInt8) (w : World) (hx : isHx b = true) : Calls Tryz.prog 71 #[.int .u8 (b.toNat : Int)] w fun e w' => e = .returned (.int .u32 (hexD b)) ∧ w = w' := by
  have hb := b.toNat_lt
  rw [isHx_iff, decide_eq_true_eq] at hx
  unfold hexD
  obtain ⟨n, hn⟩ : ∃ n, n = b.toNat := ⟨_, rfl⟩
  rw [← hn] at hb hx ⊢
  clear hn
  rcases hx with h | h | h
  · have f1 : ¬ (97 : Int) ≤ (n : Int) := by omega
    have f2 : ¬ (65 : Int) ≤ (n : Int) := by omega
    rw [if_pos h]
    go_enter Tryz.func71, Tryz.ntmps71
    go_wp2
    go_ret
    exact ⟨ret_int (by omega), rfl⟩
  · have f1 : ¬ (97 : Int) ≤ (n : Int) := by omega
    have f2 : (65 : Int) ≤ (n : Int) := by omega
    rw [if_neg (by omega), if_pos h]
    go_enter Tryz.func71, Tryz.ntmps71
    go_wp2
    go_ret
    exact ⟨ret_int (by omega), rfl⟩
  · have f1 : (97 : Int) ≤ (n : Int) := by omega
    rw [if_neg (by omega), if_neg (by omega), if_pos h]
    go_enter Tryz.func71, Tryz.ntmps71
    go_wp2
    go_ret
    exact ⟨ret_int (by omega), rfl⟩

/-- At p lies a reader: its text, its place, its bytes. -/
def RdAt (w : World) (p : Nat) (s : ByteArray) (k : Nat) (v : Value) : Prop := w.heap[p]? = some (.cells #[.string s, .int .i64 (k : Int), v] 88 (0, 0))
theorem RdAt.lt {w : World} {p : Nat} {s : ByteArray} {k : Nat} {v : Value} (h : RdAt w p s k v) : p < w.heap.size := (Array.getElem?_eq_some_iff.1 h).1
theorem RdAt.same {w w' : World} {p : Nat} {s : ByteArray} {k : Nat} {v : Value} (h : RdAt w p s k v) (e : w'.heap[p]? = w.heap[p]?) : RdAt w' p s k v := by
  unfold RdAt
  rw [e]
  exact h
theorem RdAt.below {w w' : World} {p B : Nat} {s : ByteArray} {k : Nat} {v : Value} (h : RdAt w p s k v) (hb : Below B w w') (hp : p < B) : RdAt w' p s k v := h.same (hb.block p hp)
theorem RdAt.cells {w : World} {p : Nat} {s : ByteArray} {k : Nat} {v : Value} (h : RdAt w p s k v) :
    w.cell? ⟨p, 0, none⟩ = some (.string s) ∧ w.cell? ⟨p, 1, none⟩ = some (.int .i64 (k : Int)) ∧ w.cell? ⟨p, 2, none⟩ = some v ∧
    w.frozen? ⟨p, 0, none⟩ = false ∧ w.frozen? ⟨p, 1, none⟩ = false ∧ w.frozen? ⟨p, 2, none⟩ = false := by
  unfold RdAt at h
  refine ⟨?_, ?_, ?_, ?_, ?_, ?_⟩ <;> simp [World.cell?, World.frozen?, h]
theorem RdAt.store1 {w : World} {p : Nat} {s : ByteArray} {k : Nat} {v : Value} (h : RdAt w p s k v) (z : Int) (j : Nat) (hz : z = (j : Int)) : RdAt (w.setCell ⟨p, 1, none⟩ (.int .i64 z)) p s j v := by
  subst hz
  unfold RdAt at *
  simp only [World.setCell, Array.getElem?_modify, h]
  simp
theorem RdAt.store2 {w : World} {p : Nat} {s : ByteArray} {k : Nat} {v : Value} (h : RdAt w p s k v) (u : Value) : RdAt (w.setCell ⟨p, 2, none⟩ u) p s k u := by
  unfold RdAt at *
  simp only [World.setCell, Array.getElem?_modify, h]
  simp
theorem RdAt.drewN {w : World} {p : Nat} {s : ByteArray} {k : Nat} {v : Value} (h : RdAt w p s k v) (n : Nat) : RdAt (w.drewN n) p s k v := h.below (below_drewN (Below.refl w.heap.size w) n) h.lt

set_option maxRecDepth 20000 in
set_option maxHeartbeats 1000000 in
theorem sees_hx (p : Nat) (s : ByteArray) (k : Nat) (v : Value) (w : World) (h : RdAt w p s k v) (hk : k ≤ s.size) (hs : s.size ≤ 140737488355328) :
    Calls Tryz.prog 69 #[.pointer (some ⟨p, 0, none⟩), .func (.func 70) #[] #[]] w fun e w' => e = .returned (.bool (seesB isHx (s.data.toList.drop k))) ∧ ∃ n, w' = w.drewN n := by
  obtain ⟨c0, c1, c2, _, _, _⟩ := h.cells
  by_cases hlt : k < s.size
  · have i1 := index_byte s .i64 (k : Int) k rfl hlt
    have e : seesB isHx (s.data.toList.drop k) = isHx s[k] := by rw [drop_byte s k hlt]; rfl
    rw [e]
    obtain ⟨b, hb⟩ : ∃ b, b = s[k] := ⟨_, rfl⟩
    rw [← hb] at i1 ⊢
    have hI := fun w => isDigitP_any b w
    have f1 : decide ((k : Int) < (s.size : Int)) = true := by simp; omega
    clear hb h e
    go_enter Tryz.func69, Tryz.ntmps69
    go_wp2_with fail
    go_quiet ((go_at_call 70; refine Calls.quiet_of_same ((hI _).mono fun _ _ h => ⟨h.1, h.2.symm⟩)))
    go_wp2
    go_ret
    exact ⟨rfl, _, rfl⟩
  · have f1 : decide ((k : Int) < (s.size : Int)) = false := by simp; omega
    have e : seesB isHx (s.data.toList.drop k) = false := by rw [List.drop_eq_nil_of_le (by rw [len_str]; omega)]; rfl
    rw [e]
    clear h e
    go_enter Tryz.func69, Tryz.ntmps69
    go_wp2_with fail
    go_quiet (fail)
    go_wp2
    go_ret
    exact ⟨rfl, _, rfl⟩

set_option maxRecDepth 20000 in
set_option maxHeartbeats 1000000 in
theorem sees_mk (p : Nat) (s : ByteArray) (k : Nat) (v : Value) (w : World) (h : RdAt w p s k v) (hk : k ≤ s.size) (hs : s.size ≤ 140737488355328) :
    Calls Tryz.prog 69 #[.pointer (some ⟨p, 0, none⟩), .func (.func 72) #[] #[]] w fun e w' => e = .returned (.bool (seesB isMk (s.data.toList.drop k))) ∧ ∃ n, w' = w.drewN n := by
  obtain ⟨c0, c1, c2, _, _, _⟩ := h.cells
  by_cases hlt : k < s.size
  · have i1 := index_byte s .i64 (k : Int) k rfl hlt
    have e : seesB isMk (s.data.toList.drop k) = isMk s[k] := by rw [drop_byte s k hlt]; rfl
    rw [e]
    obtain ⟨b, hb⟩ : ∃ b, b = s[k] := ⟨_, rfl⟩
    rw [← hb] at i1 ⊢
    have hI := fun w => isMark_any b w
    have f1 : decide ((k : Int) < (s.size : Int)) = true := by simp; omega
    clear hb h e
    go_enter Tryz.func69, Tryz.ntmps69
    go_wp2_with fail
    go_quiet ((go_at_call 72; refine Calls.quiet_of_same ((hI _).mono fun _ _ h => ⟨h.1, h.2.symm⟩)))
    go_wp2
    go_ret
    exact ⟨rfl, _, rfl⟩
  · have f1 : decide ((k : Int) < (s.size : Int)) = false := by simp; omega
    have e : seesB isMk (s.data.toList.drop k) = false := by rw [List.drop_eq_nil_of_le (by rw [len_str]; omega)]; rfl
    rw [e]
    clear h e
    go_enter Tryz.func69, Tryz.ntmps69
    go_wp2_with fail
    go_quiet (fail)
    go_wp2
    go_ret
    exact ⟨rfl, _, rfl⟩

set_option maxRecDepth 20000 in
set_option maxHeartbeats 1000000 in
theorem sees_rm (p : Nat) (s : ByteArray) (k : Nat) (v : Value) (w : World) (h : RdAt w p s k v) (hk : k ≤ s.size) (hs : s.size ≤ 140737488355328) :
    Calls Tryz.prog 69 #[.pointer (some ⟨p, 0, none⟩), .func (.func 73) #[] #[]] w fun e w' => e = .returned (.bool (seesB isRm (s.data.toList.drop k))) ∧ ∃ n, w' = w.drewN n := by
  obtain ⟨c0, c1, c2, _, _, _⟩ := h.cells
  by_cases hlt : k < s.size
  · have i1 := index_byte s .i64 (k : Int) k rfl hlt
    have e : seesB isRm (s.data.toList.drop k) = isRm s[k] := by rw [drop_byte s k hlt]; rfl
    rw [e]
    obtain ⟨b, hb⟩ : ∃ b, b = s[k] := ⟨_, rfl⟩
    rw [← hb] at i1 ⊢
    have hI := fun w => isOfRemark_any b w
    have f1 : decide ((k : Int) < (s.size : Int)) = true := by simp; omega
    clear hb h e
    go_enter Tryz.func69, Tryz.ntmps69
    go_wp2_with fail
    go_quiet ((go_at_call 73; refine Calls.quiet_of_same ((hI _).mono fun _ _ h => ⟨h.1, h.2.symm⟩)))
    go_wp2
    go_ret
    exact ⟨rfl, _, rfl⟩
  · have f1 : decide ((k : Int) < (s.size : Int)) = false := by simp; omega
    have e : seesB isRm (s.data.toList.drop k) = false := by rw [List.drop_eq_nil_of_le (by rw [len_str]; omega)]; rfl
    rw [e]
    clear h e
    go_enter Tryz.func69, Tryz.ntmps69
    go_wp2_with fail
    go_quiet (fail)
    go_wp2
    go_ret
    exact ⟨rfl, _, rfl⟩
end Go.Proofs.YtllhibdjopfcnaaGreatDoor

namespace Go.Proofs.YtllhibdjopfcnaaGreatDoor
open Go.RowKit
set_option linter.unusedVariables false

theorem eol_cases (l : List UInt8) : (Lib.hasPrefix l [13, 10] = true ∧ eolL l = (.ok ((), 2))) ∨ (Lib.hasPrefix l [13, 10] = false ∧ Lib.hasPrefix [13, 10] l = true ∧ eolL l = (.error none)) ∨
    (Lib.hasPrefix l [13, 10] = false ∧ Lib.hasPrefix [13, 10] l = false ∧ eolL l = (.error (some 400))) := by
  match l with
  | [] => exact Or.inr (Or.inl ⟨rfl, rfl, rfl⟩)
  | [a] =>
    by_cases ha : a = 13
    · subst ha; exact Or.inr (Or.inl ⟨rfl, rfl, rfl⟩)
    · refine Or.inr (Or.inr ⟨?_, ?_, by rw [eolL_one, if_neg ha]⟩)
      · simp [Lib.hasPrefix, List.isPrefixOf]
      · simp [Lib.hasPrefix, List.isPrefixOf, ha]
  | a :: b :: r =>
    by_cases ha : a = 13 ∧ b = 10
    · obtain ⟨rfl, rfl⟩ := ha
      exact Or.inl ⟨by simp [Lib.hasPrefix, List.isPrefixOf], rfl⟩
    · refine Or.inr (Or.inr ⟨?_, ?_, by rw [eolL_two, if_neg ha]⟩)
      · cases h : Lib.hasPrefix (a :: b :: r) [13, 10] with
        | false => rfl
        | true =>
          simp [Lib.hasPrefix, List.isPrefixOf] at h
          exact absurd ⟨h.1.symm, h.2.symm⟩ ha
      · cases h : Lib.hasPrefix [13, 10] (a :: b :: r) with
        | false => rfl
        | true =>
          simp [Lib.hasPrefix, List.isPrefixOf] at h
          exact absurd ⟨h.1, h.2.1⟩ ha
theorem extract_p (L : List UInt8) (k : Nat) (s : ByteArray) (hs : s = ⟨L.toArray⟩) : (s.extract k s.size).data.toList = L.drop k := by
  subst hs
  rw [ByteArray.data_extract, Array.toList_extract]
  simp only [List.extract]
  rw [List.take_of_length_le (by simp [ByteArray.size])]
/-- What the end of a line answers, and the place then. -/
def eolS : Tell Unit → Int
  | (.error none) => -1
  | (.error (some s)) => s
  | (.ok (_, _)) => 0
def eolK (k : Nat) : Tell Unit → Nat
  | (.ok (_, _)) => k + 2
  | _ => k

set_option maxRecDepth 20000 in
set_option maxHeartbeats 2000000 in
theorem passEnd_any (p : Nat) (L : List UInt8) (k : Nat) (v : Value) (w : World) (s : ByteArray) (hse : s = ⟨L.toArray⟩) (h : RdAt w p s k v) (hk : k ≤ L.length) (hs : L.length ≤ 140737488355328) :
    Calls Tryz.prog 74 #[.pointer (some ⟨p, 0, none⟩)] w fun e w' => e = .returned (.int .i64 (eolS (eolL (L.drop k)))) ∧ RdAt w' p s (eolK k (eolL (L.drop k))) v ∧ Kept p w.heap.size w w' := by
  have hsz : s.size = L.length := by rw [hse, size_list]
  obtain ⟨c0, c1, c2, _, g1, _⟩ := h.cells
  have HX := hid (extract_p L k s hse)
  have hP1 := fun w => Tryz.strings_HasPrefix (s.extract k s.size) ⟨#[13, 10]⟩ w
  have hP2 := fun w => Tryz.strings_HasPrefix ⟨#[13, 10]⟩ (s.extract k s.size) w
  rw [show (⟨#[13, 10]⟩ : ByteArray).data.toList = [13, 10] from rfl, HX.out] at hP1 hP2
  have hle : (k : Int) ≤ (s.size : Int) := by omega
  have HH := hid h
  have HSZ := hid hsz
  clear HX hse h hsz
  rcases eol_cases (L.drop k) with ⟨e1, e3⟩ | ⟨e1, e2, e3⟩ | ⟨e1, e2, e3⟩
  · rw [e1] at hP1
    have HE := hid e3
    clear hP2 e1 e3
    go_enter Tryz.func74, Tryz.ntmps74
    go_wp2_with fail
    go_quiet (fail)
    go_wp2_with fail
    refine (hP1 _).mono ?_
    clear hP1
    rintro e w1 ⟨rfl, hw1⟩
    have c1' : w1.cell? ⟨p, 1, none⟩ = some (.int .i64 (k : Int)) := by rw [hw1]; exact (HH.out.drewN _).cells.2.1
    have g1' : w1.frozen? ⟨p, 1, none⟩ = false := by rw [hw1]; exact (HH.out.drewN _).cells.2.2.2.2.1
    have HR := hid (show RdAt w1 p s k v by rw [hw1]; exact HH.out.drewN _)
    have HK := hid (show Kept p w.heap.size w w1 by rw [hw1]; exact Kept.of_below (below_drewN (Below.refl _ _) _))
    clear hw1 HH
    go_wp2
    go_ret
    rw [HE.out]
    exact ⟨rfl, HR.out.store1 _ _ (by go_num), HK.out.trans (Kept.store _ _ _)⟩
  · rw [e1] at hP1
    rw [e2] at hP2
    have HE := hid e3
    clear e1 e2 e3
    go_enter Tryz.func74, Tryz.ntmps74
    go_wp2_with fail
    go_quiet (fail)
    go_wp2_with fail
    refine (hP1 _).mono ?_
    clear hP1
    rintro e w1 ⟨rfl, hw1⟩
    have HR := hid (show RdAt w1 p s k v by rw [hw1]; exact HH.out.drewN _)
    have HK := hid (show Kept p w.heap.size w w1 by rw [hw1]; exact Kept.of_below (below_drewN (Below.refl _ _) _))
    clear hw1 HH
    go_wp2_with fail
    refine (hP2 _).mono ?_
    clear hP2
    rintro e w2 ⟨rfl, hw2⟩
    subst hw2
    go_wp2
    go_ret
    rw [HE.out]
    exact ⟨rfl, HR.out, HK.out⟩
  · rw [e1] at hP1
    rw [e2] at hP2
    have HE := hid e3
    clear e1 e2 e3
    go_enter Tryz.func74, Tryz.ntmps74
    go_wp2_with fail
    go_quiet (fail)
    go_wp2_with fail
    refine (hP1 _).mono ?_
    clear hP1
    rintro e w1 ⟨rfl, hw1⟩
    have HR := hid (show RdAt w1 p s k v by rw [hw1]; exact HH.out.drewN _)
    have HK := hid (show Kept p w.heap.size w w1 by rw [hw1]; exact Kept.of_below (below_drewN (Below.refl _ _) _))
    clear hw1 HH
    go_wp2_with fail
    refine (hP2 _).mono ?_
    clear hP2
    rintro e w2 ⟨rfl, hw2⟩
    subst hw2
    go_wp2
    go_ret
    rw [HE.out]
    exact ⟨rfl, HR.out, HK.out⟩

theorem cellsN_u8 (l : List UInt8) : cellsN .u8 (l.map UInt8.toNat) = l.map fun b => Value.int .u8 b.toNat := by
  simp [cellsN, Function.comp]
theorem step_appStr {w : World} {ops : Array Oper} {o : Oper} {a : Act} {K : Act → World → Prop} {Q : Exit → Act → World → Prop} {E : Prop} (hgd : o.guard = none) (s x : Operand)
    (ho : o.op = .call { callee := .builtin .append, args := #[s, x], argTypes := #[75, 9] }) (base : Nat) (v : Value) (out : List UInt8) (hs : a.eval s = v) (hown : OwnsB w base v out)
    (y : ByteArray) (hx : a.eval x = .string y) (hb : out.length + y.size ≤ 140737488355328) (hbase : base ≤ w.heap.size)
    (h : ∀ v' w', OwnsB w' base v' (out ++ y.data.toList) → w.grownBy w' v.ownBlock → K (a.put o.dst v') w') :
    if Region.wanted o (yielded ops a.tmps) = true then Oper.wp Tryz.prog o a w K Q else E := by
  have hw : Region.wanted o (yielded ops a.tmps) = true := by simp [Region.wanted, hgd]
  rw [if_pos hw]
  obtain ⟨i0, hi, hz0, hz1, hz2⟩ := info_parts Tryz.info5
  unfold OwnsB OwnsN at hown
  rw [List.length_map, cellsN_u8] at hown
  obtain ⟨v', w', hr, h1, h2, _⟩ := Go.Lib.run_append_own_string (P := Tryz.prog) w base 75 9 o.type 5 i0 Tryz.underlying75 Tryz.underlying9 hi hz0 hz1 hz2 v _ _ hown y (by simp only [maxLen]; omega) hb hbase
  unfold Oper.wp execOp
  simp only [ho, resolve, invoke, builtin, Sem.run_bind, Sem.run_pure, Result.andThen_ok, List.map_toArray, List.map_cons, List.map_nil, hs, hx, hr]
  refine h v' w' ?_ h2
  unfold OwnsB OwnsN
  rw [List.length_map, cellsN_u8, List.length_append, len_str]
  simpa [Go.Lib.strCells] using h1
theorem OwnsB.kept {w w' : World} {base p : Nat} {v : Value} {l : List UInt8} (h : OwnsB w base v l) (hk : Kept p w.heap.size w w') (hp : p < base) : OwnsB w' base v l := by
  refine ⟨h.1, ?_⟩
  rcases h.2 with hn | ⟨g, cap, cur, rfl, hbase, hg, rest⟩
  · exact Or.inl hn
  · exact Or.inr ⟨g, cap, cur, rfl, hbase, by rw [hk.block g (Array.getElem?_eq_some_iff.1 hg).1 (by omega)]; exact hg, rest⟩
theorem Kept.join {p B : Nat} {a b c : World} (h : Kept p B a b) (k : Kept p b.heap.size b c) (hB : B ≤ b.heap.size) : Kept p B a c := h.trans (k.le hB)
/-- What 'append' to one's own bytes keeps. -/
theorem Kept.grown {p B : Nat} {a b c : World} {r : Option Nat} (h : Kept p B a b) (k : b.grownBy c r) (hB : B ≤ b.heap.size) (hr : ∀ j, r = some j → B ≤ j) : Kept p B a c :=
  ⟨k.os.trans h.os, k.tape.trans h.tape, k.output.trans h.output, Nat.le_trans h.size k.size, fun i hi hp => (k.block i (by omega) (fun e => by have := hr i e.symm; omega)).trans (h.block i hi hp)⟩
end Go.Proofs.YtllhibdjopfcnaaGreatDoor
