/-
  A parser in memory; New, Left, Broken, Feed.
-/
import Derived.Test.YtllhibdjopfcnaaGreatDoorZPAll
import Derived.Deep.RegionLaw
namespace Go.Proofs.YtllhibdjopfcnaaGreatDoor
open Go.RowKit
set_option linter.unusedVariables false

/-- At p lies a parser: the bytes that wait, the status by which it broke. -/
def PsAt (w : World) (p : Nat) (W : List UInt8) (st : Int) : Prop := w.heap[p]? = some (.cells #[.pointer (some ⟨p, 0, none⟩), .string ⟨W.toArray⟩, .int .i64 st] 57 (0, 0))
theorem PsAt.lt {w : World} {p : Nat} {W : List UInt8} {st : Int} (h : PsAt w p W st) : p < w.heap.size := (Array.getElem?_eq_some_iff.1 h).1
theorem PsAt.same {w w' : World} {p : Nat} {W : List UInt8} {st : Int} (h : PsAt w p W st) (e : w'.heap[p]? = w.heap[p]?) : PsAt w' p W st := by
  unfold PsAt
  rw [e]
  exact h
theorem PsAt.below {w w' : World} {p B : Nat} {W : List UInt8} {st : Int} (h : PsAt w p W st) (hb : Below B w w') (hp : p < B) : PsAt w' p W st := h.same (hb.block p hp)
theorem PsAt.cells {w : World} {p : Nat} {W : List UInt8} {st : Int} (h : PsAt w p W st) :
    w.cell? ⟨p, 0, none⟩ = some (.pointer (some ⟨p, 0, none⟩)) ∧ w.cell? ⟨p, 1, none⟩ = some (.string ⟨W.toArray⟩) ∧ w.cell? ⟨p, 2, none⟩ = some (.int .i64 st) ∧
    w.frozen? ⟨p, 0, none⟩ = false ∧ w.frozen? ⟨p, 1, none⟩ = false ∧ w.frozen? ⟨p, 2, none⟩ = false := by
  unfold PsAt at h
  refine ⟨?_, ?_, ?_, ?_, ?_, ?_⟩ <;> simp [World.cell?, World.frozen?, h]
theorem PsAt.store1 {w : World} {p : Nat} {W : List UInt8} {st : Int} (h : PsAt w p W st) (y : ByteArray) (Y : List UInt8) (hy : y = ⟨Y.toArray⟩) : PsAt (w.setCell ⟨p, 1, none⟩ (.string y)) p Y st := by
  subst hy
  unfold PsAt at *
  simp only [World.setCell, Array.getElem?_modify, h]
  simp
theorem PsAt.store2 {w : World} {p : Nat} {W : List UInt8} {st : Int} (h : PsAt w p W st) (t : Int) : PsAt (w.setCell ⟨p, 2, none⟩ (.int .i64 t)) p W t := by
  unfold PsAt at *
  simp only [World.setCell, Array.getElem?_modify, h]
  simp

theorem Tryz.infoPs : (Tryz.prog.info? 57).map (fun i => i.size) = some 3 := by kernel_rfl
theorem eql_self (a : Addr) (w : World) : (binOp .eql 24 (.pointer (some a)) (.pointer (some a))).run Tryz.prog w = .ok (.bool true) w := by
  obtain ⟨j, hj, _⟩ := Option.map_eq_some_iff.1 Tryz.infoPs
  exact run_eql_ptr_same w a Tryz.underlying24 hj
theorem eql_nil_some (a : Addr) (w : World) : (binOp .eql 24 (.pointer none) (.pointer (some a))).run Tryz.prog w = .ok (.bool false) w := by
  have h : ∀ d : Nat, (Op.equalIn (d + 1) 24 (.pointer none) (.pointer (some a))).run Tryz.prog w = .ok false w := fun d => by
    simp [Op.equalIn, run_underlying Tryz.underlying24]
  simp only [binOp]
  simp [Op.equal, Op.maxDepth, h 9999]
theorem given_any (p : Nat) (W : List UInt8) (st : Int) (w : World) (h : PsAt w p W st) :
    Calls Tryz.prog 23 #[.pointer (some ⟨p, 0, none⟩)] w fun e w' => e = .returned (.bool true) ∧ w = w' := by
  obtain ⟨c0, c1, c2, _, _, _⟩ := h.cells
  have he := eql_self ⟨p, 0, none⟩ w
  clear h
  go_enter Tryz.func23, Tryz.ntmps23
  go_wp2
  go_ret
  exact ⟨rfl, rfl⟩
theorem left_any (p : Nat) (W : List UInt8) (st : Int) (w : World) (h : PsAt w p W st) :
    Calls Tryz.prog 12 #[.pointer (some ⟨p, 0, none⟩)] w fun e w' => e = .returned (.int .i64 (W.length : Int)) ∧ w = w' := by
  obtain ⟨c0, c1, c2, _, _, _⟩ := h.cells
  have hG := given_any p W st w h
  obtain ⟨s, hs⟩ : ∃ s : ByteArray, s = ⟨W.toArray⟩ := ⟨_, rfl⟩
  have hsz : s.size = W.length := by rw [hs, size_list]
  rw [← hs] at c1
  clear h hs
  go_enter Tryz.func12, Tryz.ntmps12
  go_wp2_with fail
  refine hG.mono ?_
  clear hG
  rintro e w1 ⟨rfl, hw1⟩
  subst hw1
  go_wp2
  go_ret
  exact ⟨ret_int (by omega), rfl⟩
theorem broken_any (p : Nat) (W : List UInt8) (st : Int) (w : World) (h : PsAt w p W st) :
    Calls Tryz.prog 13 #[.pointer (some ⟨p, 0, none⟩)] w fun e w' => e = .returned (.int .i64 st) ∧ w = w' := by
  obtain ⟨c0, c1, c2, _, _, _⟩ := h.cells
  have hG := given_any p W st w h
  clear h
  go_enter Tryz.func13, Tryz.ntmps13
  go_wp2_with fail
  refine hG.mono ?_
  clear hG
  rintro e w1 ⟨rfl, hw1⟩
  subst hw1
  go_wp2
  go_ret
  exact ⟨rfl, rfl⟩
theorem lay_any (W : List UInt8) (st : Int) (w : World) :
    Calls Tryz.prog 22 #[.string ⟨W.toArray⟩, .int .i64 st] w fun e w' => e = .returned (.pointer (some ⟨w.heap.size, 0, none⟩)) ∧ PsAt w' w.heap.size W st ∧ Below w.heap.size w w' := by
  have hN : (w.alloc (.cells #[.pointer none, .string ⟨W.toArray⟩, .int .i64 st] 57)).heap[w.heap.size]? = some (.cells #[.pointer none, .string ⟨W.toArray⟩, .int .i64 st] 57 (0, 0)) := heap_alloc_new w _
  obtain ⟨w1, hw1⟩ : ∃ w1, w1 = w.alloc (.cells #[.pointer none, .string ⟨W.toArray⟩, .int .i64 st] 57) := ⟨_, rfl⟩
  rw [← hw1] at hN
  have c0 : w1.cell? ⟨w.heap.size, 0, none⟩ = some (.pointer none) := by simp [World.cell?, hN]
  have f0 : w1.frozen? ⟨w.heap.size, 0, none⟩ = false := by simp [World.frozen?, hN]
  rw [hw1] at c0 f0
  have HP : Hid (PsAt (w.alloc (.cells #[.pointer (some ⟨w.heap.size, 0, none⟩), .string ⟨W.toArray⟩, .int .i64 st] 57)) w.heap.size W st) := hid (heap_alloc_new w _)
  have HB := hid (below_alloc w (.cells #[.pointer (some ⟨w.heap.size, 0, none⟩), .string ⟨W.toArray⟩, .int .i64 st] 57))
  clear hN hw1
  go_enter Tryz.func22, Tryz.ntmps22
  go_wp2
  go_ret
  exact ⟨rfl, HP.out, HB.out⟩
theorem new_any (w : World) :
    Calls Tryz.prog 6 #[] w fun e w' => e = .returned (.pointer (some ⟨w.heap.size, 0, none⟩)) ∧ PsAt w' w.heap.size [] 0 ∧ Below w.heap.size w w' := by
  have hL := lay_any [] 0 w
  rw [show (⟨([] : List UInt8).toArray⟩ : ByteArray) = ⟨#[]⟩ from rfl] at hL
  go_enter Tryz.func6, Tryz.ntmps6
  go_wp2_with fail
  refine hL.mono ?_
  rintro e w1 ⟨rfl, h1, h2⟩
  have H1 := hid h1
  have H2 := hid h2
  clear h1 h2 hL
  go_wp2
  go_ret
  exact ⟨rfl, H1.out, H2.out⟩

/-- What Feed answers, and what it leaves. -/
def fedE (W y : List UInt8) (st : Int) : Int := if st ≠ 0 then 80 else if 65536 < W.length + y.length then 2 else 0
def fedW (W y : List UInt8) (st : Int) : List UInt8 := if st ≠ 0 then W else if 65536 < W.length + y.length then W else W ++ y
theorem fed_bad {W y : List UInt8} {st : Int} (h : st ≠ 0) : fedE W y st = 80 ∧ fedW W y st = W := ⟨if_pos h, if_pos h⟩
theorem fed_full {W y : List UInt8} (h : 65536 < W.length + y.length) : fedE W y 0 = 2 ∧ fedW W y 0 = W := by
  constructor
  · rw [fedE, if_neg (by simp), if_pos h]
  · rw [fedW, if_neg (by simp), if_pos h]
theorem fed_ok {W y : List UInt8} (h : ¬ 65536 < W.length + y.length) : fedE W y 0 = 0 ∧ fedW W y 0 = W ++ y := by
  constructor
  · rw [fedE, if_neg (by simp), if_neg h]
  · rw [fedW, if_neg (by simp), if_neg h]
set_option maxRecDepth 20000 in
set_option maxHeartbeats 4000000 in
theorem feed_any (p : Nat) (W y : List UInt8) (st : Int) (w : World) (h : PsAt w p W st) (hW : W.length ≤ 65536) :
    Calls Tryz.prog 8 #[.pointer (some ⟨p, 0, none⟩), .string ⟨y.toArray⟩] w fun e w' => e = .returned (.int .i64 (fedE W y st)) ∧ PsAt w' p (fedW W y st) st ∧ Kept p w.heap.size w w' := by
  obtain ⟨c0, c1, c2, g0, g1, g2⟩ := h.cells
  have hG := given_any p W st w h
  obtain ⟨s, hs⟩ : ∃ s : ByteArray, s = ⟨W.toArray⟩ := ⟨_, rfl⟩
  have hsz : s.size = W.length := by rw [hs, size_list]
  obtain ⟨t, ht⟩ : ∃ t : ByteArray, t = ⟨y.toArray⟩ := ⟨_, rfl⟩
  have htz : t.size = y.length := by rw [ht, size_list]
  rw [← hs] at c1
  rw [← ht]
  have HP := hid h
  have HS := hid hs
  have HTT := hid ht
  clear h hs ht
  by_cases h0 : st = 0
  · subst h0
    obtain ⟨r, hr⟩ : ∃ r : Nat, r = 65536 - s.size := ⟨_, rfl⟩
    have hsub : (65536 : Int) - (s.size : Int) = (r : Int) := by omega
    by_cases hl : 65536 < W.length + y.length
    · rw [(fed_full hl).1, (fed_full hl).2]
      have f1 : decide (r < t.size) = true := by simp; omega
      clear hl hr hsz htz
      go_enter Tryz.func8, Tryz.ntmps8
      go_wp2_with fail
      refine hG.mono ?_
      clear hG
      rintro e w1 ⟨rfl, hw1⟩
      subst hw1
      go_wp2
      go_ret
      exact ⟨rfl, HP.out, Kept.refl _ _ _⟩
    · rw [(fed_ok hl).1, (fed_ok hl).2]
      have f1 : decide (r < t.size) = false := by simp; omega
      have hF := fun w => freshP_any y w
      rw [← HTT.out] at hF
      have hcat : s ++ t = ⟨(W ++ y).toArray⟩ := by
        rw [HS.out, HTT.out]
        apply ByteArray.ext
        simp [ByteArray.data_append]
      have HCAT := hid hcat
      have hsmall : ¬ 9223372036854775807 < s.size + t.size := by omega
      have hpl := HP.out.lt
      clear hl hr hsz htz hcat
      go_enter Tryz.func8, Tryz.ntmps8
      go_wp2_with fail
      refine hG.mono ?_
      clear hG
      rintro e w1 ⟨rfl, hw1⟩
      subst hw1
      go_wp2_with fail
      have c1d : w.drew.cell? ⟨p, 1, none⟩ = some (.string s) := c1
      have g1d : w.drew.frozen? ⟨p, 1, none⟩ = false := g1
      go_region_law
        (first
          | (go_simp
             refine (hF _).mono ?_
             rintro e' w2 ⟨rfl, hB2⟩
             have hB2' : Below w.heap.size w w2 := (Below.drew (Below.refl w.heap.size w)).trans hB2
             have HP2 := hid (HP.out.below hB2' hpl)
             obtain ⟨k0, k1, k2, q0, q1, q2⟩ := HP2.out.cells
             rw [← HS.out] at k1
             have HB2 := hid hB2'
             clear hB2 hB2' hF))
      all_goals
        go_wp2
        go_ret
        exact ⟨rfl, HP2.out.store1 _ _ HCAT.out, (Kept.of_below HB2.out).trans (Kept.store _ _ _)⟩
  · rw [(fed_bad h0).1, (fed_bad h0).2]
    have f0 : (st != 0) = true := by rw [bne_iff_ne]; exact h0
    clear h0
    go_enter Tryz.func8, Tryz.ntmps8
    go_wp2_with fail
    refine hG.mono ?_
    clear hG
    rintro e w1 ⟨rfl, hw1⟩
    subst hw1
    go_wp2
    go_ret
    exact ⟨rfl, HP.out, Kept.refl _ _ _⟩
end Go.Proofs.YtllhibdjopfcnaaGreatDoor
