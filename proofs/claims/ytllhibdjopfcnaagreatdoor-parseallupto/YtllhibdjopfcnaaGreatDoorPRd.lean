/-
  Kinds of bytes of a chunked body, the number of a digit: the code's.
-/
import Derived.Test.YtllhibdjopfcnaaGreatDoorLeaf
import Derived.Test.YtllhibdjopfcnaaGreatDoorPMath
namespace Go.Proofs.YtllhibdjopfcnaaGreatDoor
open Go.RowKit
set_option linter.unusedVariables false

theorem isHx_iff (b : UInt8) : isHx b = decide (48 ≤ b.toNat ∧ b.toNat ≤ 57 ∨ 65 ≤ b.toNat ∧ b.toNat ≤ 70 ∨ 97 ≤ b.toNat ∧ b.toNat ≤ 102) := by
  unfold isHx hexD
  rw [decide_eq_decide]
  constructor
  · intro h
    split at h
    · omega
    · split at h
      · omega
      · split at h <;> omega
  · intro h
    split
    · omega
    · split
      · omega
      · split <;> omega
theorem isMk_iff (b : UInt8) : isMk b = decide (b.toNat = 59) := by
  unfold isMk
  rw [decide_eq_decide]
  exact ⟨fun h => by rw [h]; rfl, fun h => UInt8.toNat_inj.1 (by rw [h]; rfl)⟩
theorem isRm_iff (b : UInt8) : isRm b = decide (32 ≤ b.toNat ∧ b.toNat ≤ 126 ∨ b.toNat = 9) := rfl
theorem isDigitP_any (b : UInt8) (w : World) : Calls Tryz.prog 70 #[.int .u8 (b.toNat : Int)] w fun e w' => e = .returned (.bool (isHx b)) ∧ w = w' := by
  have hb := b.toNat_lt
  rw [isHx_iff]
  obtain ⟨n, hn⟩ : ∃ n, n = b.toNat := ⟨_, rfl⟩
  rw [← hn] at hb ⊢
  clear hn
  rcases (by omega : (0 ≤ n ∧ n ≤ 47) ∨ (48 ≤ n ∧ n ≤ 57) ∨ (58 ≤ n ∧ n ≤ 64) ∨ (65 ≤ n ∧ n ≤ 70) ∨ (71 ≤ n ∧ n ≤ 96) ∨ (97 ≤ n ∧ n ≤ 102) ∨ (103 ≤ n ∧ n ≤ 255)) with ⟨h1, h2⟩ | ⟨h1, h2⟩ | ⟨h1, h2⟩ | ⟨h1, h2⟩ | ⟨h1, h2⟩ | ⟨h1, h2⟩ | ⟨h1, h2⟩
  · have f0 : decide ((48 : Int) ≤ (n : Int)) = false := by simp; omega
    have f1 : decide ((n : Int) ≤ 57) = true := by simp; omega
    have f2 : decide ((65 : Int) ≤ (n : Int)) = false := by simp; omega
    have f3 : decide ((n : Int) ≤ 70) = true := by simp; omega
    have f4 : decide ((97 : Int) ≤ (n : Int)) = false := by simp; omega
    have f5 : decide ((n : Int) ≤ 102) = true := by simp; omega
    rw [decide_eq_false (by omega)]
    clear h1 h2 hb
    go_enter Tryz.func70, Tryz.ntmps70
    go_wp2
    go_ret
    exact ⟨rfl, rfl⟩
  · have f0 : decide ((48 : Int) ≤ (n : Int)) = true := by simp; omega
    have f1 : decide ((n : Int) ≤ 57) = true := by simp; omega
    have f2 : decide ((65 : Int) ≤ (n : Int)) = false := by simp; omega
    have f3 : decide ((n : Int) ≤ 70) = true := by simp; omega
    have f4 : decide ((97 : Int) ≤ (n : Int)) = false := by simp; omega
    have f5 : decide ((n : Int) ≤ 102) = true := by simp; omega
    rw [decide_eq_true (by omega)]
    clear h1 h2 hb
    go_enter Tryz.func70, Tryz.ntmps70
    go_wp2
    go_ret
    exact ⟨rfl, rfl⟩
  · have f0 : decide ((48 : Int) ≤ (n : Int)) = true := by simp; omega
    have f1 : decide ((n : Int) ≤ 57) = false := by simp; omega
    have f2 : decide ((65 : Int) ≤ (n : Int)) = false := by simp; omega
    have f3 : decide ((n : Int) ≤ 70) = true := by simp; omega
    have f4 : decide ((97 : Int) ≤ (n : Int)) = false := by simp; omega
    have f5 : decide ((n : Int) ≤ 102) = true := by simp; omega
    rw [decide_eq_false (by omega)]
    clear h1 h2 hb
    go_enter Tryz.func70, Tryz.ntmps70
    go_wp2
    go_ret
    exact ⟨rfl, rfl⟩
  · have f0 : decide ((48 : Int) ≤ (n : Int)) = true := by simp; omega
    have f1 : decide ((n : Int) ≤ 57) = false := by simp; omega
    have f2 : decide ((65 : Int) ≤ (n : Int)) = true := by simp; omega
    have f3 : decide ((n : Int) ≤ 70) = true := by simp; omega
    have f4 : decide ((97 : Int) ≤ (n : Int)) = false := by simp; omega
    have f5 : decide ((n : Int) ≤ 102) = true := by simp; omega
    rw [decide_eq_true (by omega)]
    clear h1 h2 hb
    go_enter Tryz.func70, Tryz.ntmps70
    go_wp2
    go_ret
    exact ⟨rfl, rfl⟩
  · have f0 : decide ((48 : Int) ≤ (n : Int)) = true := by simp; omega
    have f1 : decide ((n : Int) ≤ 57) = false := by simp; omega
    have f2 : decide ((65 : Int) ≤ (n : Int)) = true := by simp; omega
    have f3 : decide ((n : Int) ≤ 70) = false := by simp; omega
    have f4 : decide ((97 : Int) ≤ (n : Int)) = false := by simp; omega
    have f5 : decide ((n : Int) ≤ 102) = true := by simp; omega
    rw [decide_eq_false (by omega)]
    clear h1 h2 hb
    go_enter Tryz.func70, Tryz.ntmps70
    go_wp2
    go_ret
    exact ⟨rfl, rfl⟩
  · have f0 : decide ((48 : Int) ≤ (n : Int)) = true := by simp; omega
    have f1 : decide ((n : Int) ≤ 57) = false := by simp; omega
    have f2 : decide ((65 : Int) ≤ (n : Int)) = true := by simp; omega
    have f3 : decide ((n : Int) ≤ 70) = false := by simp; omega
    have f4 : decide ((97 : Int) ≤ (n : Int)) = true := by simp; omega
    have f5 : decide ((n : Int) ≤ 102) = true := by simp; omega
    rw [decide_eq_true (by omega)]
    clear h1 h2 hb
    go_enter Tryz.func70, Tryz.ntmps70
    go_wp2
    go_ret
    exact ⟨rfl, rfl⟩
  · have f0 : decide ((48 : Int) ≤ (n : Int)) = true := by simp; omega
    have f1 : decide ((n : Int) ≤ 57) = false := by simp; omega
    have f2 : decide ((65 : Int) ≤ (n : Int)) = true := by simp; omega
    have f3 : decide ((n : Int) ≤ 70) = false := by simp; omega
    have f4 : decide ((97 : Int) ≤ (n : Int)) = true := by simp; omega
    have f5 : decide ((n : Int) ≤ 102) = false := by simp; omega
    rw [decide_eq_false (by omega)]
    clear h1 h2 hb
    go_enter Tryz.func70, Tryz.ntmps70
    go_wp2
    go_ret
    exact ⟨rfl, rfl⟩
theorem isMark_any (b : UInt8) (w : World) : Calls Tryz.prog 72 #[.int .u8 (b.toNat : Int)] w fun e w' => e = .returned (.bool (isMk b)) ∧ w = w' := by
  have hb := b.toNat_lt
  rw [isMk_iff]
  obtain ⟨n, hn⟩ : ∃ n, n = b.toNat := ⟨_, rfl⟩
  rw [← hn] at hb ⊢
  clear hn
  rcases (by omega : (0 ≤ n ∧ n ≤ 58) ∨ (59 ≤ n ∧ n ≤ 59) ∨ (60 ≤ n ∧ n ≤ 255)) with ⟨h1, h2⟩ | ⟨h1, h2⟩ | ⟨h1, h2⟩
  · have f0 : ((n : Int) == 59) = false := by simp; omega
    rw [decide_eq_false (by omega)]
    clear h1 h2 hb
    go_enter Tryz.func72, Tryz.ntmps72
    go_wp2
    go_ret
    exact ⟨rfl, rfl⟩
  · have f0 : ((n : Int) == 59) = true := by simp; omega
    rw [decide_eq_true (by omega)]
    clear h1 h2 hb
    go_enter Tryz.func72, Tryz.ntmps72
    go_wp2
    go_ret
    exact ⟨rfl, rfl⟩
  · have f0 : ((n : Int) == 59) = false := by simp; omega
    rw [decide_eq_false (by omega)]
    clear h1 h2 hb
    go_enter Tryz.func72, Tryz.ntmps72
    go_wp2
    go_ret
    exact ⟨rfl, rfl⟩
theorem isOfRemark_any (b : UInt8) (w : World) : Calls Tryz.prog 73 #[.int .u8 (b.toNat : Int)] w fun e w' => e = .returned (.bool (isRm b)) ∧ w = w' := by
  have hb := b.toNat_lt
  rw [isRm_iff]
  obtain ⟨n, hn⟩ : ∃ n, n = b.toNat := ⟨_, rfl⟩
  rw [← hn] at hb ⊢
  clear hn
  rcases (by omega : (0 ≤ n ∧ n ≤ 8) ∨ (9 ≤ n ∧ n ≤ 9) ∨ (10 ≤ n ∧ n ≤ 31) ∨ (32 ≤ n ∧ n ≤ 126) ∨ (127 ≤ n ∧ n ≤ 255)) with ⟨h1, h2⟩ | ⟨h1, h2⟩ | ⟨h1, h2⟩ | ⟨h1, h2⟩ | ⟨h1, h2⟩
  · have f0 : decide ((32 : Int) ≤ (n : Int)) = false := by simp; omega
    have f1 : decide ((n : Int) ≤ 126) = true := by simp; omega
    have f2 : ((n : Int) == 9) = false := by simp; omega
    rw [decide_eq_false (by omega)]
    clear h1 h2 hb
    go_enter Tryz.func73, Tryz.ntmps73
    go_wp2
    go_ret
    exact ⟨rfl, rfl⟩
  · have f0 : decide ((32 : Int) ≤ (n : Int)) = false := by simp; omega
    have f1 : decide ((n : Int) ≤ 126) = true := by simp; omega
    have f2 : ((n : Int) == 9) = true := by simp; omega
    rw [decide_eq_true (by omega)]
    clear h1 h2 hb
    go_enter Tryz.func73, Tryz.ntmps73
    go_wp2
    go_ret
    exact ⟨rfl, rfl⟩
  · have f0 : decide ((32 : Int) ≤ (n : Int)) = false := by simp; omega
    have f1 : decide ((n : Int) ≤ 126) = true := by simp; omega
    have f2 : ((n : Int) == 9) = false := by simp; omega
    rw [decide_eq_false (by omega)]
    clear h1 h2 hb
    go_enter Tryz.func73, Tryz.ntmps73
    go_wp2
    go_ret
    exact ⟨rfl, rfl⟩
  · have f0 : decide ((32 : Int) ≤ (n : Int)) = true := by simp; omega
    have f1 : decide ((n : Int) ≤ 126) = true := by simp; omega
    have f2 : ((n : Int) == 9) = false := by simp; omega
    rw [decide_eq_true (by omega)]
    clear h1 h2 hb
    go_enter Tryz.func73, Tryz.ntmps73
    go_wp2
    go_ret
    exact ⟨rfl, rfl⟩
  · have f0 : decide ((32 : Int) ≤ (n : Int)) = true := by simp; omega
    have f1 : decide ((n : Int) ≤ 126) = false := by simp; omega
    have f2 : ((n : Int) == 9) = false := by simp; omega
    rw [decide_eq_false (by omega)]
    clear h1 h2 hb
    go_enter Tryz.func73, Tryz.ntmps73
    go_wp2
    go_ret
    exact ⟨rfl, rfl⟩
theorem digitOf_any (b : UInt8) (w : World) (hx : isHx b = true) : Calls Tryz.prog 71 #[.int .u8 (b.toNat : Int)] w fun e w' => e = .returned (.int .u32 (hexD b)) ∧ w = w' := by
  have hb := b.toNat_lt
  rw [isHx_iff, decide_eq_true_eq] at hx
  unfold hexD
  obtain ⟨n, hn⟩ : ∃ n, n = b.toNat := ⟨_, rfl⟩
  rw [← hn] at hb hx ⊢
  clear hn
  rcases hx with h | h | h
  · have f1 : ¬ (97 : Int) ≤ (n : Int) := by omega
    have f2 : ¬ (65 : Int) ≤ (n : Int) := by omega
    rw [if_pos h]
    go_enter Tryz.func71, Tryz.ntmps71
    go_wp2
    go_ret
    exact ⟨ret_int (by omega), rfl⟩
  · have f1 : ¬ (97 : Int) ≤ (n : Int) := by omega
    have f2 : (65 : Int) ≤ (n : Int) := by omega
    rw [if_neg (by omega), if_pos h]
    go_enter Tryz.func71, Tryz.ntmps71
    go_wp2
    go_ret
    exact ⟨ret_int (by omega), rfl⟩
  · have f1 : (97 : Int) ≤ (n : Int) := by omega
    rw [if_neg (by omega), if_neg (by omega), if_pos h]
    go_enter Tryz.func71, Tryz.ntmps71
    go_wp2
    go_ret
    exact ⟨ret_int (by omega), rfl⟩

/-- At p lies a reader: its text, its place, its bytes. -/
def RdAt (w : World) (p : Nat) (s : ByteArray) (k : Nat) (v : Value) : Prop := w.heap[p]? = some (.cells #[.string s, .int .i64 (k : Int), v] 88 (0, 0))
theorem RdAt.lt {w : World} {p : Nat} {s : ByteArray} {k : Nat} {v : Value} (h : RdAt w p s k v) : p < w.heap.size := (Array.getElem?_eq_some_iff.1 h).1
theorem RdAt.same {w w' : World} {p : Nat} {s : ByteArray} {k : Nat} {v : Value} (h : RdAt w p s k v) (e : w'.heap[p]? = w.heap[p]?) : RdAt w' p s k v := by
  unfold RdAt
  rw [e]
  exact h
theorem RdAt.below {w w' : World} {p B : Nat} {s : ByteArray} {k : Nat} {v : Value} (h : RdAt w p s k v) (hb : Below B w w') (hp : p < B) : RdAt w' p s k v := h.same (hb.block p hp)
theorem RdAt.cells {w : World} {p : Nat} {s : ByteArray} {k : Nat} {v : Value} (h : RdAt w p s k v) :
    w.cell? ⟨p, 0, none⟩ = some (.string s) ∧ w.cell? ⟨p, 1, none⟩ = some (.int .i64 (k : Int)) ∧ w.cell? ⟨p, 2, none⟩ = some v ∧
    w.frozen? ⟨p, 0, none⟩ = false ∧ w.frozen? ⟨p, 1, none⟩ = false ∧ w.frozen? ⟨p, 2, none⟩ = false := by
  unfold RdAt at h
  refine ⟨?_, ?_, ?_, ?_, ?_, ?_⟩ <;> simp [World.cell?, World.frozen?, h]
theorem RdAt.store1 {w : World} {p : Nat} {s : ByteArray} {k : Nat} {v : Value} (h : RdAt w p s k v) (z : Int) (j : Nat) (hz : z = (j : Int)) : RdAt (w.setCell ⟨p, 1, none⟩ (.int .i64 z)) p s j v := by
  subst hz
  unfold RdAt at *
  simp only [World.setCell, Array.getElem?_modify, h]
  simp
theorem RdAt.store2 {w : World} {p : Nat} {s : ByteArray} {k : Nat} {v : Value} (h : RdAt w p s k v) (u : Value) : RdAt (w.setCell ⟨p, 2, none⟩ u) p s k u := by
  unfold RdAt at *
  simp only [World.setCell, Array.getElem?_modify, h]
  simp
theorem RdAt.drewN {w : World} {p : Nat} {s : ByteArray} {k : Nat} {v : Value} (h : RdAt w p s k v) (n : Nat) : RdAt (w.drewN n) p s k v := h.below (below_drewN (Below.refl w.heap.size w) n) h.lt

set_option maxRecDepth 20000 in
set_option maxHeartbeats 1000000 in
theorem sees_hx (p : Nat) (s : ByteArray) (k : Nat) (v : Value) (w : World) (h : RdAt w p s k v) (hk : k ≤ s.size) (hs : s.size ≤ 140737488355328) :
    Calls Tryz.prog 69 #[.pointer (some ⟨p, 0, none⟩), .func (.func 70) #[] #[]] w fun e w' => e = .returned (.bool (seesB isHx (s.data.toList.drop k))) ∧ ∃ n, w' = w.drewN n := by
  obtain ⟨c0, c1, c2, _, _, _⟩ := h.cells
  by_cases hlt : k < s.size
  · have i1 := index_byte s .i64 (k : Int) k rfl hlt
    have e : seesB isHx (s.data.toList.drop k) = isHx s[k] := by rw [drop_byte s k hlt]; rfl
    rw [e]
    obtain ⟨b, hb⟩ : ∃ b, b = s[k] := ⟨_, rfl⟩
    rw [← hb] at i1 ⊢
    have hI := fun w => isDigitP_any b w
    have f1 : decide ((k : Int) < (s.size : Int)) = true := by simp; omega
    clear hb h e
    go_enter Tryz.func69, Tryz.ntmps69
    go_wp2_with fail
    go_quiet ((go_at_call 70; refine Calls.quiet_of_same ((hI _).mono fun _ _ h => ⟨h.1, h.2.symm⟩)))
    go_wp2
    go_ret
    exact ⟨rfl, _, rfl⟩
  · have f1 : decide ((k : Int) < (s.size : Int)) = false := by simp; omega
    have e : seesB isHx (s.data.toList.drop k) = false := by rw [List.drop_eq_nil_of_le (by rw [len_str]; omega)]; rfl
    rw [e]
    clear h e
    go_enter Tryz.func69, Tryz.ntmps69
    go_wp2_with fail
    go_quiet (fail)
    go_wp2
    go_ret
    exact ⟨rfl, _, rfl⟩

set_option maxRecDepth 20000 in
set_option maxHeartbeats 1000000 in
theorem sees_mk (p : Nat) (s : ByteArray) (k : Nat) (v : Value) (w : World) (h : RdAt w p s k v) (hk : k ≤ s.size) (hs : s.size ≤ 140737488355328) :
    Calls Tryz.prog 69 #[.pointer (some ⟨p, 0, none⟩), .func (.func 72) #[] #[]] w fun e w' => e = .returned (.bool (seesB isMk (s.data.toList.drop k))) ∧ ∃ n, w' = w.drewN n := by
  obtain ⟨c0, c1, c2, _, _, _⟩ := h.cells
  by_cases hlt : k < s.size
  · have i1 := index_byte s .i64 (k : Int) k rfl hlt
    have e : seesB isMk (s.data.toList.drop k) = isMk s[k] := by rw [drop_byte s k hlt]; rfl
    rw [e]
    obtain ⟨b, hb⟩ : ∃ b, b = s[k] := ⟨_, rfl⟩
    rw [← hb] at i1 ⊢
    have hI := fun w => isMark_any b w
    have f1 : decide ((k : Int) < (s.size : Int)) = true := by simp; omega
    clear hb h e
    go_enter Tryz.func69, Tryz.ntmps69
    go_wp2_with fail
    go_quiet ((go_at_call 72; refine Calls.quiet_of_same ((hI _).mono fun _ _ h => ⟨h.1, h.2.symm⟩)))
    go_wp2
    go_ret
    exact ⟨rfl, _, rfl⟩
  · have f1 : decide ((k : Int) < (s.size : Int)) = false := by simp; omega
    have e : seesB isMk (s.data.toList.drop k) = false := by rw [List.drop_eq_nil_of_le (by rw [len_str]; omega)]; rfl
    rw [e]
    clear h e
    go_enter Tryz.func69, Tryz.ntmps69
    go_wp2_with fail
    go_quiet (fail)
    go_wp2
    go_ret
    exact ⟨rfl, _, rfl⟩

set_option maxRecDepth 20000 in
set_option maxHeartbeats 1000000 in
theorem sees_rm (p : Nat) (s : ByteArray) (k : Nat) (v : Value) (w : World) (h : RdAt w p s k v) (hk : k ≤ s.size) (hs : s.size ≤ 140737488355328) :
    Calls Tryz.prog 69 #[.pointer (some ⟨p, 0, none⟩), .func (.func 73) #[] #[]] w fun e w' => e = .returned (.bool (seesB isRm (s.data.toList.drop k))) ∧ ∃ n, w' = w.drewN n := by
  obtain ⟨c0, c1, c2, _, _, _⟩ := h.cells
  by_cases hlt : k < s.size
  · have i1 := index_byte s .i64 (k : Int) k rfl hlt
    have e : seesB isRm (s.data.toList.drop k) = isRm s[k] := by rw [drop_byte s k hlt]; rfl
    rw [e]
    obtain ⟨b, hb⟩ : ∃ b, b = s[k] := ⟨_, rfl⟩
    rw [← hb] at i1 ⊢
    have hI := fun w => isOfRemark_any b w
    have f1 : decide ((k : Int) < (s.size : Int)) = true := by simp; omega
    clear hb h e
    go_enter Tryz.func69, Tryz.ntmps69
    go_wp2_with fail
    go_quiet ((go_at_call 73; refine Calls.quiet_of_same ((hI _).mono fun _ _ h => ⟨h.1, h.2.symm⟩)))
    go_wp2
    go_ret
    exact ⟨rfl, _, rfl⟩
  · have f1 : decide ((k : Int) < (s.size : Int)) = false := by simp; omega
    have e : seesB isRm (s.data.toList.drop k) = false := by rw [List.drop_eq_nil_of_le (by rw [len_str]; omega)]; rfl
    rw [e]
    clear h e
    go_enter Tryz.func69, Tryz.ntmps69
    go_wp2_with fail
    go_quiet (fail)
    go_wp2
    go_ret
    exact ⟨rfl, _, rfl⟩
end Go.Proofs.YtllhibdjopfcnaaGreatDoor
