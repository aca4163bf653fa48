/-
  strconv.Atoi of any text.
-/
import Derived.Test.YtkidcoolcjmcfaaDoorVBase
import Derived.Test.YtkidcoolcjmcfaaDoorShelf
import Derived.Lib.AtoiErrMem
namespace Go.Proofs.YtkidcoolcjmcfaaDoor
open Go.RowKit
set_option linter.unusedVariables false

theorem size_list (l : List UInt8) : (⟨l.toArray⟩ : ByteArray).size = l.length := rfl
/-- The library's two errors stand in their variables. -/
def Errs (w : World) : Prop := (∃ v, w.cell? ⟨5, 0, none⟩ = some v ∧ (v = .nilIface ∨ ∃ te pe, v = .iface te pe)) ∧ ∃ v, w.cell? ⟨6, 0, none⟩ = some v ∧ (v = .nilIface ∨ ∃ te pe, v = .iface te pe)
theorem Errs.below {w w' : World} (h : Errs w) (hb : Below w.heap.size w w') : Errs w' := by
  obtain ⟨⟨v, h1, h2⟩, u, h3, h4⟩ := h
  exact ⟨⟨v, (hb.cell (World.block_lt_of_cell? w _ h1)).trans h1, h2⟩, u, (hb.cell (World.block_lt_of_cell? w _ h3)).trans h3, h4⟩
theorem err_eql (W : World) : (binOp .eql 76 (.iface 100 (.int .i64 2)) (.iface 100 (.int .i64 2))).run Tryd.prog W = .ok (.bool true) W := Lib.run_eql_iface_int W 2 2 Tryd.underlying76 Tryd.laysC172.c167 Tryd.underlying100
set_option maxRecDepth 20000 in
set_option maxHeartbeats 1000000 in
theorem toErr_any (f s : ByteArray) (b c : Int) (ev : Value) (w : World) (hlim : s.size ≤ 281474976710656) (hv : w.cell? ⟨5, 0, none⟩ = some ev) (hev : ev = .nilIface ∨ ∃ te pe, ev = .iface te pe) :
    Calls Tryd.prog 66 #[.string f, .string s, .int .i64 b, .int .i64 c, .iface 100 (.int .i64 2)] w fun e w' => ∃ N, e = .returned (.iface 103 (.pointer (some ⟨N, 0, none⟩))) ∧ Below w.heap.size w w' := by
  have hS := Tryd.strconv_syntaxError f s ev w hlim hv hev
  have heq := err_eql
  clear hv hev
  go_enter Tryd.func66, Tryd.ntmps66
  go_wp2_with fail
  refine hS.mono ?_
  clear hS
  rintro e w2 ⟨N, rfl, h1, h2, h3⟩
  have HB := hid h3
  clear h1 h2 h3
  go_wp2
  go_ret
  exact ⟨N, rfl, HB.out⟩
set_option maxRecDepth 20000 in
set_option maxHeartbeats 1000000 in
theorem atoi_no (l : List UInt8) (ev : Value) (w : World) (hs : l.length ≤ 281474976710656) (hv : w.cell? ⟨5, 0, none⟩ = some ev) (hev : ev = .nilIface ∨ ∃ te pe, ev = .iface te pe)
    (hI : Calls Tryd.prog 65 #[.string ⟨l.toArray⟩] w fun e w' => e = .returned (.tuple #[.int .i64 0, .iface 100 (.int .i64 2)]) ∧ Below w.heap.size w w') :
    Calls Tryd.prog 52 #[.string ⟨l.toArray⟩] w fun e w' => ∃ z N, e = .returned (.tuple #[.int .i64 z, .iface 103 (.pointer (some ⟨N, 0, none⟩))]) ∧ Below w.heap.size w w' := by
  have hsz : (⟨l.toArray⟩ : ByteArray).size = l.length := size_list l
  have HT := hid (fun W (hb : Below w.heap.size w W) => toErr_any ⟨#[65, 116, 111, 105]⟩ ⟨l.toArray⟩ 0 0 ev W (by omega) ((hb.cell (World.block_lt_of_cell? w _ hv)).trans hv) hev)
  clear hv hev hsz
  go_enter Tryd.func52, Tryd.ntmps52
  go_wp2_with fail
  refine hI.mono ?_
  clear hI
  rintro e w1 ⟨rfl, hB1⟩
  have hT := HT.out w1 hB1
  have HB1 := hid hB1
  clear hB1 HT
  go_wp2_with fail
  refine hT.mono ?_
  clear hT
  rintro e w2 ⟨N, rfl, hB2⟩
  have HB2 := hid (HB1.out.trans (hB2.mono HB1.out.size))
  clear hB2
  go_wp2
  go_ret2
  exact ⟨0, N, rfl, HB2.out⟩
theorem atoi_any (l : List UInt8) (w : World) (hE : Errs w) (hs : l.length ≤ 281474976710656) :
    Calls Tryd.prog 52 #[.string ⟨l.toArray⟩] w fun e w' => (∃ v, Lib.atoiAll l = .ok v ∧ e = .returned (.tuple #[.int .i64 v, .nilIface]) ∧ Below w.heap.size w w') ∨ ((∀ v, Lib.atoiAll l ≠ .ok v) ∧ ∃ z N, e = .returned (.tuple #[.int .i64 z, .iface 103 (.pointer (some ⟨N, 0, none⟩))]) ∧ Below w.heap.size w w') := by
  obtain ⟨⟨v1, h1, h2⟩, v2, h3, h4⟩ := hE
  have hsz : (⟨l.toArray⟩ : ByteArray).size = l.length := size_list l
  have hI := Tryd.internal_strconv_Atoi_all ⟨l.toArray⟩ (by omega) w
  rw [show (⟨l.toArray⟩ : ByteArray).data.toList = l from by simp] at hI
  rcases hl : Lib.atoiAll l with v | _ | _
  · refine (Tryd.strconv_Atoi_ok ⟨l.toArray⟩ (by omega) v (by simpa using hl) w).mono ?_
    rintro e w' ⟨rfl, hw⟩
    refine Or.inl ⟨v, rfl, rfl, ?_⟩
    rcases hw with rfl | ⟨t, rfl⟩
    · exact Below.refl _ _
    · exact Lib.bytesWorld_below _ _ _
  · rw [hl] at hI
    refine (atoi_no l v1 w hs h1 h2 (hI.mono ?_)).mono ?_
    · rintro e w' ⟨rfl, hw⟩
      refine ⟨rfl, ?_⟩
      rcases hw with rfl | ⟨t, rfl⟩
      · exact Below.refl _ _
      · exact Lib.bytesWorld_below _ _ _
    · rintro e w' ⟨z, N, rfl, hb⟩
      exact Or.inr ⟨(fun v h => by cases h), z, N, rfl, hb⟩
  · refine (Tryd.strconv_Atoi_range ⟨l.toArray⟩ (by omega) (by simpa using hl) v2 w h3 h4).mono ?_
    rintro e w' ⟨N, rfl, _, _, hb⟩
    exact Or.inr ⟨(fun v h => by cases h), _, N, rfl, hb⟩
end Go.Proofs.YtkidcoolcjmcfaaDoor
