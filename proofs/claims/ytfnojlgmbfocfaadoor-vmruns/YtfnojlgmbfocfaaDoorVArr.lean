/-
  arrange: what puts, takes off or moves numbers as they are.
-/
import Derived.Test.YtfnojlgmbfocfaaDoorVMem
namespace Go.Proofs.YtfnojlgmbfocfaaDoor
open Go.RowKit
set_option linter.unusedVariables false
set_option linter.unusedSimpArgs false

theorem sees_one1 (w : World) (o : Obj) (x : Int) : Sees ((w.alloc o).alloc (.cells #[.int .i64 x] 3)) (.slice (some ⟨w.heap.size + 1, 0, none⟩) 1 1) [x] := by
  have h := sees_one (w.alloc o) x
  simpa using h
theorem below_alloc2 (w : World) (o o' : Obj) : Below w.heap.size w ((w.alloc o).alloc o') := (below_alloc w o).alloc (by simp) o'
theorem Mach.le {w : World} {B p : Nat} {m vc vs vk : Value} {code : List InsL} {s : StL} (h : Mach w B p m vc vs vk code s) : B ≤ w.heap.size := by
  have := h.base; have := h.lt; omega

set_option maxHeartbeats 1000000 in
theorem arr_push (w : World) (B p : Nat) (m vc vs vk : Value) (code : List InsL) (s : StL) (h : Mach w B p m vc vs vk code s) (hl : s.st.length ≤ 64) (a : Int) :
    Calls Tryd.prog 43 #[.pointer (some ⟨p, 0, none⟩), .agg #[.int .i64 1, .int .i64 a]] w fun e w' => e = .returned (.tuple #[]) ∧ ∃ vs', Mach w' B p m vc vs' vk code ⟨s.pc, putL s.st 0 [a], s.ca⟩ ∧ Below B w w' ∧ Fr B p vs vk w vs' vk w' := by
  obtain ⟨W, hW⟩ : ∃ W, W = (w.alloc (.cells #[.int .i64 1, .int .i64 a] 57)).alloc (.cells #[.int .i64 a] 3) := ⟨_, rfl⟩
  have hb : Below w.heap.size w W := by rw [hW]; exact below_alloc2 w _ _
  have hp := put_any W B p m vc vs vk _ code s (h.below hb) 0 (Nat.zero_le _) hl [a] (by rw [hW]; exact sees_one1 w _ a) (by simp)
  have HB := hid (hb.mono h.le)
  have HF : Hid (Fr B p vs vk w vs vk W) := Fr.of hb
  have hsW := hb.size
  clear h hb
  go_enter Tryd.func43, Tryd.ntmps43
  go_wp2_with fail
  rw [← hW]
  refine hp.mono ?_
  rintro e w1 ⟨rfl, vs', h1, h2, h3⟩
  have HM := hid h1
  have HB2 := hid (HB.out.trans h2)
  have HF2 := hid (HF.out.trans hsW h3)
  clear h1 h2 h3 hp hW
  go_wp2
  go_end0
  exact ⟨rfl, _, HM.out, HB2.out, HF2.out⟩

set_option maxHeartbeats 1000000 in
theorem arr_pop (w : World) (B p : Nat) (m vc vs vk : Value) (code : List InsL) (s : StL) (h : Mach w B p m vc vs vk code s) (hl : s.st.length ≤ 64) (h1 : 1 ≤ s.st.length) (a : Int) :
    Calls Tryd.prog 43 #[.pointer (some ⟨p, 0, none⟩), .agg #[.int .i64 2, .int .i64 a]] w fun e w' => e = .returned (.tuple #[]) ∧ ∃ vs', Mach w' B p m vc vs' vk code ⟨s.pc, putL s.st 1 [], s.ca⟩ ∧ Below B w w' ∧ Fr B p vs vk w vs' vk w' := by
  obtain ⟨W, hW⟩ : ∃ W, W = w.alloc (.cells #[.int .i64 2, .int .i64 a] 57) := ⟨_, rfl⟩
  have hb : Below w.heap.size w W := by rw [hW]; exact below_alloc w _
  have hp := put_any W B p m vc vs vk _ code s (h.below hb) 1 h1 hl [] (Sees.nil W) (by simp)
  have HB := hid (hb.mono h.le)
  have HF : Hid (Fr B p vs vk w vs vk W) := Fr.of hb
  have hsW := hb.size
  clear h hb
  go_enter Tryd.func43, Tryd.ntmps43
  go_wp2_with fail
  rw [← hW]
  refine hp.mono ?_
  rintro e w1 ⟨rfl, vs', h1, h2, h3⟩
  have HM := hid h1
  have HB2 := hid (HB.out.trans h2)
  have HF2 := hid (HF.out.trans hsW h3)
  clear h1 h2 h3 hp hW
  go_wp2
  go_end0
  exact ⟨rfl, _, HM.out, HB2.out, HF2.out⟩

set_option maxHeartbeats 1000000 in
theorem arr_dup (w : World) (B p : Nat) (m vc vs vk : Value) (code : List InsL) (s : StL) (h : Mach w B p m vc vs vk code s) (hl : s.st.length ≤ 64) (k : Nat) (hk : k < s.st.length) :
    Calls Tryd.prog 43 #[.pointer (some ⟨p, 0, none⟩), .agg #[.int .i64 3, .int .i64 (k : Int)]] w fun e w' => e = .returned (.tuple #[]) ∧ ∃ vs', Mach w' B p m vc vs' vk code ⟨s.pc, putL s.st 0 [topL s.st k], s.ca⟩ ∧ Below B w w' ∧ Fr B p vs vk w vs' vk w' := by
  obtain ⟨W, hW⟩ : ∃ W, W = w.alloc (.cells #[.int .i64 3, .int .i64 (k : Int)] 57) := ⟨_, rfl⟩
  have hb : Below w.heap.size w W := by rw [hW]; exact below_alloc w _
  have hb0 := hb
  have hla := last_any W B p m vc vs vk code s (h.below hb) k hk hl
  have HM := hid (h.below hb)
  have HB := hid (hb.mono h.le)
  have HF : Hid (Fr B p vs vk w vs vk W) := Fr.of hb
  have hsW := hb.size
  clear h hb
  go_enter Tryd.func43, Tryd.ntmps43
  go_wp2_with fail
  rw [← hW]
  refine hla.mono ?_
  rintro e w1 ⟨rfl, b1⟩
  obtain ⟨W2, hW2⟩ : ∃ W2, W2 = w1.alloc (.cells #[.int .i64 (topL s.st k)] 3) := ⟨_, rfl⟩
  have hb2 : Below w1.heap.size w1 W2 := by rw [hW2]; exact below_alloc w1 _
  have hM1 := HM.out.below b1
  have hp := put_any W2 B p m vc vs vk _ code s (hM1.below hb2) 0 (Nat.zero_le _) hl [topL s.st k] (by rw [hW2]; exact sees_one w1 _) (by simp)
  have HB2 := hid ((HB.out.trans (b1.mono HM.out.le)).trans (hb2.mono hM1.le))
  have HF2 : Hid (Fr B p vs vk w vs vk W2) := Fr.of (((hb0.trans (b1.mono hsW))).trans (hb2.mono (Nat.le_trans hsW b1.size)))
  have hsW2 : w.heap.size ≤ W2.heap.size := Nat.le_trans (Nat.le_trans hsW b1.size) hb2.size
  clear hla b1 hb2 hM1 hW hb0
  go_wp2_with fail
  rw [← hW2]
  refine hp.mono ?_
  rintro e w3 ⟨rfl, vs', h1, h2, h3⟩
  have HM3 := hid h1
  have HB3 := hid (HB2.out.trans h2)
  have HF3 := hid (HF2.out.trans hsW2 h3)
  clear h1 h2 h3 hp hW2
  go_wp2
  go_end0
  exact ⟨rfl, _, HM3.out, HB3.out, HF3.out⟩

set_option maxHeartbeats 1000000 in
theorem arr_swap (w : World) (B p : Nat) (m vc vs vk : Value) (code : List InsL) (s : StL) (h : Mach w B p m vc vs vk code s) (hl : s.st.length ≤ 64) (h2 : 2 ≤ s.st.length) (a : Int) :
    Calls Tryd.prog 43 #[.pointer (some ⟨p, 0, none⟩), .agg #[.int .i64 4, .int .i64 a]] w fun e w' => e = .returned (.tuple #[]) ∧ ∃ vs', Mach w' B p m vc vs' vk code ⟨s.pc, putL s.st 2 [topL s.st 0, topL s.st 1], s.ca⟩ ∧ Below B w w' ∧ Fr B p vs vk w vs' vk w' := by
  obtain ⟨W, hW⟩ : ∃ W, W = w.alloc (.cells #[.int .i64 4, .int .i64 a] 57) := ⟨_, rfl⟩
  have hb : Below w.heap.size w W := by rw [hW]; exact below_alloc w _
  have hla := last_any W B p m vc vs vk code s (h.below hb) 0 (by omega) hl
  have HM := hid (h.below hb)
  have HB0 := hid hb
  have HB := hid (hb.mono h.le)
  have HF : Hid (Fr B p vs vk w vs vk W) := Fr.of hb
  have hsW := hb.size
  have HL := hid (fun w1 (b1 : Below W.heap.size W w1) => last_any w1 B p m vc vs vk code s (HM.out.below b1) 1 (by omega) hl)
  clear h hb
  go_enter Tryd.func43, Tryd.ntmps43
  go_wp2_with fail
  rw [← hW]
  refine hla.mono ?_
  rintro e w1 ⟨rfl, b1⟩
  have hl1 := HL.out w1 b1
  have HM1 := hid (HM.out.below b1)
  have HB1 := hid (HB.out.trans (b1.mono HM.out.le))
  have HB01 := hid (HB0.out.trans (b1.mono hsW))
  have hs1 := HB01.out.size
  clear hla b1 hW HL
  go_wp2_with fail
  refine hl1.mono ?_
  rintro e w2 ⟨rfl, b2⟩
  have HM2 := hid (HM1.out.below b2)
  have HB2 := hid (HB1.out.trans (b2.mono HM1.out.le))
  have HB02 := hid (HB01.out.trans (b2.mono hs1))
  have hs2 := HB02.out.size
  clear hl1 b2
  obtain ⟨W2, hW2⟩ : ∃ W2, W2 = w2.alloc (.cells #[.int .i64 (topL s.st 0), .int .i64 (topL s.st 1)] 3) := ⟨_, rfl⟩
  have hb2 : Below w2.heap.size w2 W2 := by rw [hW2]; exact below_alloc w2 _
  have hp := put_any W2 B p m vc vs vk _ code s (HM2.out.below hb2) 2 h2 hl [topL s.st 0, topL s.st 1] (by rw [hW2]; exact sees_two w2 _ _) (by simp)
  have HB3 := hid (HB2.out.trans (hb2.mono HM2.out.le))
  have HF3 : Hid (Fr B p vs vk w vs vk W2) := Fr.of (HB02.out.trans (hb2.mono hs2))
  have hs3 : w.heap.size ≤ W2.heap.size := Nat.le_trans hs2 hb2.size
  clear hb2
  go_wp2_with fail
  rw [← hW2]
  refine hp.mono ?_
  rintro e w3 ⟨rfl, vs', h1, h2, h3⟩
  have HM3 := hid h1
  have HB4 := hid (HB3.out.trans h2)
  have HF4 := hid (HF3.out.trans hs3 h3)
  clear h1 h2 h3 hp hW2
  go_wp2
  go_end0
  exact ⟨rfl, _, HM3.out, HB4.out, HF4.out⟩
end Go.Proofs.YtfnojlgmbfocfaaDoor
