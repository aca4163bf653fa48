/-
  New and Begin of an event process.
-/
import Derived.Test.YtkaffbchlngfaaaDoorEText
import Derived.Laws.IdiomStrings
namespace Go.Proofs.YtkaffbchlngfaaaDoor
open Go.RowKit
set_option linter.unusedVariables false
set_option linter.unusedSimpArgs false

set_option maxHeartbeats 1000000 in
theorem efreshI_any (v : Value) (l : List InsL) (w : World) (hS : SeesI w v l) (hb : l.length * 16 ≤ 140737488355328) :
    Calls Tryd.prog 27 #[v] w fun e w' => ∃ v', e = .returned v' ∧ OwnsI w' w.heap.size v' l ∧ Below w.heap.size w w' := by
  obtain ⟨v', w', hr, ho, hg⟩ := run_appI w 22 v l hS hb
  have HR := hid hr
  have HO := hid ho
  have HB := hid hg
  clear hr ho hg hS
  go_enter Tryd.func27, Tryd.ntmps27
  go_wp2_with (at_builtin; refine wpList_append_run rfl _ _ 22 22 rfl _ _ rfl rfl HR.out ?_)
  go_ret
  exact ⟨_, rfl, HO.out, HB.out⟩

/-- A text's bytes, made anew, and the text of them. -/
theorem copy_text (x : ByteArray) (w : World) : ∃ C w1, (convert 9 28 (.string x)).run Tryd.prog w = .ok (.slice (some ⟨w.heap.size, 0, none⟩) x.size C) w1 ∧
    (convert 28 9 (.slice (some ⟨w.heap.size, 0, none⟩) x.size C)).run Tryd.prog w1 = .ok (.string x) w1 ∧ Below w.heap.size w w1 := by
  have h1 := run_bytes_of_string (P := Tryd.prog) w 9 28 5 x Tryd.underlying9 Tryd.underlying28 Tryd.underlying5
  refine ⟨_, _, h1, ?_, (Below.drew (Below.refl _ _)).alloc (Nat.le_refl _) _⟩
  obtain ⟨l⟩ := x
  obtain ⟨l⟩ := l
  have hsz : (⟨⟨l⟩⟩ : ByteArray).size = l.length := by simp [ByteArray.size]
  rw [hsz]
  refine run_convert_bytes_back (P := Tryd.prog) _ 28 9 5 ⟨w.heap.size, 0, none⟩ _ l Tryd.underlying28 Tryd.underlying5 Tryd.underlying9 (fun j hj => ?_)
  rw [addr_add, Nat.zero_add]
  have := World.cell?_alloc_mark w.drew (bytesRow ⟨l.toArray⟩ (grownCap w l.length 0 5)) 5 ((bytesRow ⟨l.toArray⟩ (grownCap w l.length 0 5)).size, (bytesRow ⟨l.toArray⟩ (grownCap w l.length 0 5)).size + 1) j
  rw [show w.drew.heap.size = w.heap.size from rfl] at this
  rw [this, bytesRow_at _ _ _ (by simpa using hj)]
  simp

theorem freshText_any (x : ByteArray) (w : World) :
    Calls Tryd.prog 46 #[.string x] w fun e w' => e = .returned (.string x) ∧ Below w.heap.size w w' := by
  obtain ⟨C, w1, k1, k2, kb⟩ := copy_text x w
  have HB := hid kb
  clear kb
  go_enter Tryd.func46, Tryd.ntmps46
  go_wp2
  go_ret
  exact ⟨rfl, HB.out⟩

set_option maxRecDepth 100000 in
set_option maxHeartbeats 1000000 in
theorem stand_any (vc : Value) (q : Nat) (r : Option Nat) (ao : Option Addr) (n cap : Nat) (hv : vc = .slice ao n cap) (w : World) :
    Calls Tryd.prog 26 #[vc, .pointer (some ⟨q, 0, none⟩), ptrV r] w fun e w' => e = .returned (.pointer (some ⟨w.heap.size, 0, none⟩)) ∧ EpAt w' w.heap.size vc q r ∧ Below w.heap.size w w' := by
  subst hv
  cases r with
  | none =>
    rw [show ptrV none = .pointer none from rfl]
    go_enter Tryd.func26, Tryd.ntmps26
    go_wp2
    go_ret
    exact ⟨rfl, heap_alloc_new w _, below_alloc w _⟩
  | some g =>
    rw [show ptrV (some g) = .pointer (some ⟨g, 0, none⟩) from rfl]
    go_enter Tryd.func26, Tryd.ntmps26
    go_wp2
    go_ret
    exact ⟨rfl, heap_alloc_new w _, below_alloc w _⟩

def whyE (l : List InsL) (n : Nat) : Int := if (checkL l).1 = 0 then (if n ≤ 4096 then 0 else 4) else (checkL l).1
set_option maxRecDepth 100000 in
set_option maxHeartbeats 1000000 in
theorem erefused_any (v : Value) (l : List InsL) (w : World) (hS : SeesI w v l) (hT : Tabs w) (hlen : l.length ≤ 140737488355328) (t : ByteArray) (ht : t.size ≤ 140737488355328) :
    Calls Tryd.prog 25 #[v, .string t] w fun e w' => e = .returned (.int .i64 (whyE l t.size)) ∧ Below w.heap.size w w' := by
  have hc := check_any v l w hS hT hlen
  unfold whyE
  generalize (checkL l).1 = E at *
  generalize (checkL l).2 = P at *
  clear hS hT
  by_cases h1 : E = 0
  · subst h1
    by_cases h2 : t.size ≤ 4096
    · have h3 : ¬ ((4096 : Int) < (t.size : Int)) := by omega
      rw [if_pos rfl, if_pos h2]
      go_enter Tryd.func25, Tryd.ntmps25
      go_wp2_with fail
      refine hc.mono ?_
      rintro e w1 ⟨rfl, b1⟩
      have HB := hid b1
      clear hc b1
      go_wp2
      go_ret
      exact ⟨rfl, HB.out⟩
    · have h3 : ((4096 : Int) < (t.size : Int)) := by omega
      rw [if_pos rfl, if_neg h2]
      go_enter Tryd.func25, Tryd.ntmps25
      go_wp2_with fail
      refine hc.mono ?_
      rintro e w1 ⟨rfl, b1⟩
      have HB := hid b1
      clear hc b1
      go_wp2
      go_ret
      exact ⟨rfl, HB.out⟩
  · have h3 : (E != 0) = true := by simpa using h1
    rw [if_neg h1]
    go_enter Tryd.func25, Tryd.ntmps25
    go_wp2_with fail
    refine hc.mono ?_
    rintro e w1 ⟨rfl, b1⟩
    have HB := hid b1
    clear hc b1
    go_wp2
    go_ret
    exact ⟨rfl, HB.out⟩

set_option maxRecDepth 100000 in
set_option maxHeartbeats 1000000 in
theorem new_no (v : Value) (l : List InsL) (w : World) (hS : SeesI w v l) (hT : Tabs w) (hlen : l.length ≤ 140737488355328) (t : ByteArray) (ht : t.size ≤ 140737488355328) (hE : ¬ whyE l t.size = 0) :
    Calls Tryd.prog 8 #[v, .string t] w fun e w' => e = .returned (.tuple #[.pointer none, .int .i64 (whyE l t.size)]) ∧ Below w.heap.size w w' := by
  have hc := erefused_any v l w hS hT hlen t ht
  generalize whyE l t.size = E at *
  have h3 : (E != 0) = true := by simpa using hE
  clear hS hT
  go_enter Tryd.func8, Tryd.ntmps8
  go_wp2_with fail
  refine hc.mono ?_
  rintro e w1 ⟨rfl, b1⟩
  have HB := hid b1
  clear hc b1
  go_wp2
  go_ret2
  exact ⟨rfl, HB.out⟩

/-- What New gives. -/
def NewR (w : World) (l : List InsL) (t : ByteArray) (e : Ending) (w' : World) : Prop :=
  ∃ p vc q, e = .returned (.tuple #[.pointer (some ⟨p, 0, none⟩), .int .i64 0]) ∧ EpAt w' p vc q none ∧ OwnsI w' w.heap.size vc l ∧ MemP w' q ((List.range 16).map fun j => q + 1 + j) (List.replicate 16 false) (imgL t) ∧ w.heap.size ≤ q ∧ q + 17 = p ∧ (∀ j, vc.ownBlock = some j → j < q) ∧ Below w.heap.size w w'
set_option maxRecDepth 100000 in
set_option maxHeartbeats 1000000 in
theorem new_yes (v : Value) (l : List InsL) (w : World) (hS : SeesI w v l) (hT : Tabs w) (hlen : l.length ≤ 1024) (t : ByteArray) (hE : whyE l t.size = 0) (ht : t.size ≤ 4096) :
    Calls Tryd.prog 8 #[v, .string t] w (NewR w l t) := by
  have hc := erefused_any v l w hS hT (by omega) t (by omega)
  rw [hE] at hc
  have HS := hid hS
  unfold NewR
  clear hS hT
  go_enter Tryd.func8, Tryd.ntmps8
  go_wp2_with fail
  refine hc.mono ?_
  rintro e w1 ⟨rfl, b1⟩
  have hf := efreshI_any v l w1 (HS.out.below b1) (by omega)
  have HB1 := hid b1
  clear hc b1
  go_wp2_with fail
  refine hf.mono ?_
  rintro e w2 ⟨vc, rfl, o2, b2⟩
  obtain ⟨ao, cap, hvc⟩ := ownsRow_shape o2
  have HB2 := hid (HB1.out.trans (b2.mono HB1.out.size))
  have HO2 := hid o2
  have hm := memoryOf_any t ht w2
  have hs1 := HB1.out.size
  clear hf b2 o2
  subst hvc
  go_wp2_with fail
  refine hm.mono ?_
  rintro e w3 ⟨rfl, m3⟩
  have hst := stand_any (.slice ao l.length cap) w2.heap.size none ao l.length cap rfl w3
  rw [show ptrV none = .pointer none from rfl] at hst
  have HM3 := hid m3
  clear hm m3
  go_wp2_with fail
  refine hst.mono ?_
  rintro e w4 ⟨rfl, p4, b4⟩
  have HP := hid p4
  have HB4 := hid b4
  clear hst p4 b4
  go_wp2
  go_ret2
  have hm := HM3.out
  have hs3 := hm.size
  have hs2 := HB2.out.size
  refine ⟨_, _, _, rfl, HP.out, ?_, (hm.memP ht).below HB4.out, by omega, by omega, fun j hj => (HO2.out.lt j hj).2, ?_⟩
  · have h1 : OwnsI w3 w1.heap.size (.slice ao l.length cap) l := ownsRow_same HO2.out (fun j hj => hm.bel.block j (HO2.out.lt j hj).2)
    exact ownsRow_le (ownsRow_same h1 (fun j hj => HB4.out.block j (by have := (h1.lt j hj).2; omega))) hs1
  · exact (HB2.out.trans (hm.bel.mono hs2)).trans (HB4.out.mono (by omega))
end Go.Proofs.YtkaffbchlngfaaaDoor
