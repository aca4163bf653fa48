/-
  A hash: given, Write, Len, Sum, New; of one that nobody made, and of one of New's.
-/
import Derived.Test.YtfefccmefmminaaDoorAbc
namespace Go.Proofs.YtfefccmefmminaaDoor
open Go.RowKit
set_option linter.unusedVariables false

theorem Tryd.size44 : (Tryd.prog.info? 44).map (·.size) = some 74 := by kernel_rfl
theorem eql_self (a : Addr) (w : World) : (binOp .eql 26 (.pointer (some a)) (.pointer (some a))).run Tryd.prog w = .ok (.bool true) w := by
  obtain ⟨j, hj, _⟩ := Option.map_eq_some_iff.1 Tryd.size44
  exact run_eql_ptr_same w a Tryd.underlying26 hj
theorem eql_nil_some (a : Addr) (w : World) : (binOp .eql 26 (.pointer none) (.pointer (some a))).run Tryd.prog w = .ok (.bool false) w := by
  have h : ∀ d : Nat, (Op.equalIn (d + 1) 26 (.pointer none) (.pointer (some a))).run Tryd.prog w = .ok false w := fun d => by
    simp [Op.equalIn, run_underlying Tryd.underlying26]
  simp only [binOp]
  simp [Op.equal, Op.maxDepth, h 9999]

set_option maxHeartbeats 400000 in
theorem given_yes (p : Nat) (w : World) (h0 : w.cell? ⟨p, 0, none⟩ = some (.pointer (some ⟨p, 0, none⟩))) :
    Calls Tryd.prog 28 #[.pointer (some ⟨p, 0, none⟩)] w fun e w' => e = .returned (.bool true) ∧ w = w' := by
  have he := eql_self ⟨p, 0, none⟩ w
  go_enter Tryd.func28, Tryd.ntmps28
  go_wp2
  go_ret
  exact ⟨rfl, rfl⟩
set_option maxHeartbeats 400000 in
theorem given_zero (p : Nat) (w : World) (h0 : w.cell? ⟨p, 0, none⟩ = some (.pointer none)) :
    Calls Tryd.prog 28 #[.pointer (some ⟨p, 0, none⟩)] w fun e w' => e = .returned (.bool false) ∧ w = w' := by
  have he := eql_nil_some ⟨p, 0, none⟩ w
  go_enter Tryd.func28, Tryd.ntmps28
  go_wp2
  go_ret
  exact ⟨rfl, rfl⟩
set_option maxHeartbeats 400000 in
theorem given_nil (w : World) :
    Calls Tryd.prog 28 #[.pointer none] w fun e w' => e = .returned (.bool false) ∧ w = w' := by
  go_enter Tryd.func28, Tryd.ntmps28
  go_wp2
  go_ret
  exact ⟨rfl, rfl⟩

/-- A hash that nobody made: no hash, or one of zero values. -/
def Nobody (w : World) (pv : Value) : Prop := pv = .pointer none ∨ ∃ z, pv = .pointer (some ⟨z, 0, none⟩) ∧ w.cell? ⟨z, 0, none⟩ = some (.pointer none)

theorem given_no (pv : Value) (w : World) (h : Nobody w pv) : Calls Tryd.prog 28 #[pv] w fun e w' => e = .returned (.bool false) ∧ w = w' := by
  rcases h with rfl | ⟨z, rfl, hz⟩
  · exact given_nil w
  · exact given_zero z w hz

set_option maxHeartbeats 400000 in
theorem write_no (pv : Value) (s : ByteArray) (w : World) (h : Nobody w pv) : Calls Tryd.prog 13 #[pv, .string s] w fun e w' => e = .returned (.tuple #[]) ∧ w = w' := by
  go_enter Tryd.func13, Tryd.ntmps13
  go_wp2_with fail
  refine (given_no pv _ h).mono ?_
  rintro e w1 ⟨rfl, rfl⟩
  go_wp2
  go_returns
  exact ⟨rfl, rfl⟩
set_option maxHeartbeats 400000 in
theorem len_no (pv : Value) (w : World) (h : Nobody w pv) : Calls Tryd.prog 14 #[pv] w fun e w' => e = .returned (.int .i64 0) ∧ w = w' := by
  go_enter Tryd.func14, Tryd.ntmps14
  go_wp2_with fail
  refine (given_no pv _ h).mono ?_
  rintro e w1 ⟨rfl, rfl⟩
  go_wp2
  go_ret
  exact ⟨rfl, rfl⟩
set_option maxHeartbeats 400000 in
theorem hsum_no (pv : Value) (w : World) (h : Nobody w pv) : Calls Tryd.prog 15 #[pv] w fun e w' => e = .returned (.string { data := #[] }) ∧ w = w' := by
  go_enter Tryd.func15, Tryd.ntmps15
  go_wp2_with fail
  refine (given_no pv _ h).mono ?_
  rintro e w1 ⟨rfl, rfl⟩
  go_wp2
  go_ret
  exact ⟨rfl, rfl⟩

/-- At p lies a hash of New's that has taken m. -/
def HashAt (w : World) (p : Nat) (m : List Nat) : Prop := PM w p [.pointer (some ⟨p, 0, none⟩)] 44 m
theorem HashAt.self {w : World} {p : Nat} {m : List Nat} (h : HashAt w p m) : w.cell? ⟨p, 0, none⟩ = some (.pointer (some ⟨p, 0, none⟩)) := by
  have := h.1.1
  simp [World.cell?, this]

set_option maxHeartbeats 400000 in
theorem write_any (p : Nat) (m : List Nat) (s : ByteArray) (w : World) (h : HashAt w p m) (hR : Rounds w) (hp : p ≠ 0) (hl : m.length + s.size ≤ 1152921504606846976) :
    Calls Tryd.prog 13 #[.pointer (some ⟨p, 0, none⟩), .string s] w fun e w' => e = .returned (.tuple #[]) ∧ HashAt w' p (m ++ bytesOf s) ∧ w.grownBy w' (some p) := by
  have hg := given_yes p w h.self
  have ht := take_any p _ 44 m s w h hR hp hl
  rw [show [Value.pointer (some (⟨p, 0, none⟩ : Addr))].length = 1 from rfl] at ht
  have HT := hid ht
  have HG := hid hg
  clear ht hg h
  go_enter Tryd.func13, Tryd.ntmps13
  go_wp2_with fail
  refine HG.out.mono ?_
  rintro e w1 ⟨rfl, rfl⟩
  go_wp2_with fail
  refine HT.out.mono ?_
  rintro e w1 ⟨rfl, h1, h2⟩
  have H1 := hid h1
  have H2 := hid h2
  clear h1 h2 HT HG
  go_wp2
  go_returns
  exact ⟨rfl, H1.out, H2.out⟩
set_option maxHeartbeats 400000 in
theorem len_any (p : Nat) (m : List Nat) (w : World) (h : HashAt w p m) : Calls Tryd.prog 14 #[.pointer (some ⟨p, 0, none⟩)] w fun e w' => e = .returned (.int .i64 m.length) ∧ w = w' := by
  have HG := hid (given_yes p w h.self)
  have ct := h.1.taken
  rw [show [Value.pointer (some (⟨p, 0, none⟩ : Addr))].length = 1 from rfl] at ct
  clear h
  go_enter Tryd.func14, Tryd.ntmps14
  go_wp2_with fail
  refine HG.out.mono ?_
  rintro e w1 ⟨rfl, rfl⟩
  go_wp2
  go_ret
  exact ⟨rfl, rfl⟩
set_option maxRecDepth 20000 in
set_option maxHeartbeats 1000000 in
theorem hsum_any (p : Nat) (m : List Nat) (w : World) (h : HashAt w p m) (hR : Rounds w) (hl : m.length ≤ 576460752303423488) :
    Calls Tryd.prog 15 #[.pointer (some ⟨p, 0, none⟩)] w fun e w' => e = .returned (.string (strOf (digest H0 K0 m))) ∧ Below w.heap.size w w' := by
  have HG := hid (given_yes p w h.self)
  obtain ⟨A, hA⟩ : ∃ A, A = P3 (stOf H0 K0 m) (blOf m) m.length := ⟨_, rfl⟩
  have hrg : w.rangeAt p 1 A := fun j v hv => by
    rw [hA] at hv
    rw [← hv]
    exact h.1.cell j
  have hinf : (Tryd.prog.info? 42).map (·.size) = some A.length := by rw [hA, P3_len h.1.2.1 h.1.2.2]; exact Tryd.size42
  have hdg := digest_any m w hR h.2 hl
  rw [← hA] at hdg
  have HRG := hid hrg
  have HI := hid hinf
  have HD := hid hdg
  clear hrg hinf hdg hA h hR
  go_enter Tryd.func15, Tryd.ntmps15
  go_wp2_with fail
  refine HG.out.mono ?_
  rintro e w1 ⟨rfl, rfl⟩
  go_wp2_with (first | (refine wpList_load_mid rfl 42 _ rfl p 1 rfl A _ HRG.out Tryd.underlying42 rfl HI.out ?_))
  refine HD.out.mono ?_
  rintro e w1 ⟨rfl, h1⟩
  have H1 := hid h1
  clear h1 HD HRG HI HG
  go_wp2
  go_ret
  exact ⟨rfl, H1.out⟩

def N44 : Array Value := (Value.pointer none :: P3 (stOf H0 K0 []) (blOf []) 0).toArray
def Z44 : Array Value := (Value.pointer none :: P3 (List.replicate 8 0) (List.replicate 64 0) 0).toArray
theorem zero44 (w : World) : (zeroValue 44).run Tryd.prog w = .ok (.agg Z44) w := by kernel_rfl
theorem Z44_size : Z44.size = 74 := rfl
theorem fold44 : Array.foldl (fun cs x => cs.setIfInBounds (1 + x.snd) x.fst) Z44 B42.zipIdx 0 73 = N44 := by kernel_rfl

set_option maxRecDepth 20000 in
set_option maxHeartbeats 1000000 in
theorem new_any (w : World) : Calls Tryd.prog 12 #[] w fun e w' => ∃ p, e = .returned (.pointer (some ⟨p, 0, none⟩)) ∧ w.heap.size ≤ p ∧ HashAt w' p [] ∧ Below w.heap.size w w' := by
  go_enter Tryd.func12, Tryd.ntmps12
  go_wp2_with fail
  refine (begin_any _).mono ?_
  rintro e w1 ⟨rfl, hB1⟩
  have HB1 := hid hB1
  clear hB1
  have hz := zero44
  have hs1 := B42_size
  have hs2 := Z44_size
  have hf := fold44
  have hn0 : N44[0]? = some (.pointer none) := rfl
  go_wp2_with fail
  go_ret
  exact ⟨w1.heap.size, rfl, HB1.out.size, ⟨⟨heap_alloc_new w1 _, rfl, rfl⟩, fun x hx => by simp at hx⟩, HB1.out.trans ((below_alloc w1 _).mono HB1.out.size)⟩
end Go.Proofs.YtfefccmefmminaaDoor
