/-
  The walk of ParsePlays.
-/
import Derived.Test.YtllhibdjopfcnaaGreatDoorZPlay
import Derived.Deep.RegionHeld3
import Derived.Deep.CutBlock
import Derived.Deep.DeepCutAuto
namespace Go.Proofs.YtllhibdjopfcnaaGreatDoor
open Go.RowKit
set_option linter.unusedVariables false

theorem neqc_nil (w : World) : (binOp .neq 24 (.pointer none) (.pointer none)).run Tryz.prog w = .ok (.bool false) w := by
  have h : ∀ d : Nat, (Op.equalIn (d + 1) 24 (.pointer none) (.pointer none)).run Tryz.prog w = .ok true w := fun d => by
    simp [Op.equalIn, run_underlying Tryz.underlying24]
  simp only [binOp]
  simp [Op.equal, Op.maxDepth, h 9999]
theorem neqc_some (a : Addr) (w : World) : (binOp .neq 24 (.pointer (some a)) (.pointer none)).run Tryz.prog w = .ok (.bool true) w := by
  have h : ∀ d : Nat, (Op.equalIn (d + 1) 24 (.pointer (some a)) (.pointer none)).run Tryz.prog w = .ok false w := fun d => by
    simp [Op.equalIn, run_underlying Tryz.underlying24]
  simp only [binOp]
  simp [Op.equal, Op.maxDepth, h 9999]
theorem DpAt.kept {w w' : World} {p q B : Nat} {s st : Value} (h : DpAt w q s st) (hk : Kept p B w w') (hq : q ≠ p) (hB : q < B) : DpAt w' q s st := by
  unfold DpAt
  rw [hk.block q hB hq]
  exact h
theorem PsAt.keptQ {w w' : World} {p q B : Nat} {W : List UInt8} {st : Int} (h : PsAt w q W st) (hk : Kept p B w w') (hq : q ≠ p) (hB : q < B) : PsAt w' q W st := h.same (hk.block q hB hq)
theorem ReqAt.keptQ {w w' : World} {p q B : Nat} {a b c d e f g i : Value} (h : ReqAt w q a b c d e f g i) (hk : Kept p B w w') (hq : q ≠ p) (hB : q < B) : ReqAt w' q a b c d e f g i := h.same (hk.block q hB hq)
/-- The parser, the document's reader, the copies of both. -/
def PlayAt (w : World) (qb : Nat) (wr : World) (cv : Value) (W : List UInt8) (st : Int) (OW : List UInt8) (ost : Int) : Prop :=
  PsAt wr w.heap.size W st ∧ W.length ≤ 65536 ∧ DpAt wr qb (.string ⟨W.toArray⟩) (.int .i64 st) ∧ DpAt wr (qb + 1) (.string ⟨OW.toArray⟩) (.int .i64 ost) ∧ (cv = .pointer none ∨ ∃ pc, cv = .pointer (some ⟨pc, 0, none⟩) ∧ qb + 1 < pc ∧ PsAt wr pc OW ost) ∧ Below w.heap.size w wr
theorem PlayAt.below {w wr wr' : World} {qb : Nat} {cv : Value} {W OW : List UInt8} {st ost : Int} (h : PlayAt w qb wr cv W st OW ost) (hb : Below wr.heap.size wr wr') : PlayAt w qb wr' cv W st OW ost := by
  obtain ⟨h1, h2, h3, h4, h5, h6⟩ := h
  refine ⟨h1.below hb h1.lt, h2, h3.below hb h3.lt, h4.below hb h4.lt, ?_, h6.trans (hb.mono h6.size)⟩
  rcases h5 with h5 | ⟨pc, e, hl, hp⟩
  · exact .inl h5
  · exact .inr ⟨pc, e, hl, hp.below hb hp.lt⟩
/-- The parser is turned. -/
theorem PlayAt.turn {w wr wr' : World} {qb : Nat} {cv : Value} {W W2 OW : List UInt8} {st st2 ost : Int} (h : PlayAt w qb wr cv W st OW ost) (hq : w.heap.size < qb) (hk : Kept w.heap.size wr.heap.size wr wr') (hp : PsAt wr' w.heap.size W2 st2) (hW : W2.length ≤ 65536) :
    PsAt wr' w.heap.size W2 st2 ∧ W2.length ≤ 65536 ∧ DpAt wr' qb (.string ⟨W.toArray⟩) (.int .i64 st) ∧ DpAt wr' (qb + 1) (.string ⟨OW.toArray⟩) (.int .i64 ost) ∧ (cv = .pointer none ∨ ∃ pc, cv = .pointer (some ⟨pc, 0, none⟩) ∧ qb + 1 < pc ∧ PsAt wr' pc OW ost) ∧ Below w.heap.size w wr' := by
  obtain ⟨h1, h2, h3, h4, h5, h6⟩ := h
  refine ⟨hp, hW, h3.kept hk (by omega) h3.lt, h4.kept hk (by omega) h4.lt, ?_, h6.trans (hk.below h6.size)⟩
  rcases h5 with h5 | ⟨pc, e, hl, hp⟩
  · exact .inl h5
  · exact .inr ⟨pc, e, hl, hp.keptQ hk (by omega) hp.lt⟩
/-- The reader is turned. -/
theorem PlayAt.store {w wr : World} {qb : Nat} {cv : Value} {W W2 OW : List UInt8} {st st2 ost : Int} (hq : w.heap.size < qb) (hp : PsAt wr w.heap.size W2 st2) (hW : W2.length ≤ 65536) (h3 : DpAt wr qb (.string ⟨W.toArray⟩) (.int .i64 st)) (h4 : DpAt wr (qb + 1) (.string ⟨OW.toArray⟩) (.int .i64 ost)) (h5 : cv = .pointer none ∨ ∃ pc, cv = .pointer (some ⟨pc, 0, none⟩) ∧ qb + 1 < pc ∧ PsAt wr pc OW ost) (h6 : Below w.heap.size w wr) :
    PlayAt w qb ((wr.setCell ⟨qb, 0, none⟩ (.string ⟨W2.toArray⟩)).setCell ⟨qb, 1, none⟩ (.int .i64 st2)) cv W2 st2 OW ost := by
  have hk := (Kept.store (p := qb) (B := wr.heap.size) wr 0 (.string ⟨W2.toArray⟩)).trans (Kept.store _ 1 (.int .i64 st2))
  have hl6 := h6.size
  have hl3 := h3.lt
  refine ⟨hp.keptQ hk (by omega) hp.lt, hW, DpAt.store h3, h4.kept hk (by omega) h4.lt, ?_, h6.trans ⟨hk.os, hk.tape, hk.output, hk.size, fun i hi => hk.block i (by omega) (by omega)⟩⟩
  rcases h5 with h5 | ⟨pc, e, hl, hp⟩
  · exact .inl h5
  · exact .inr ⟨pc, e, hl, hp.keptQ hk (by omega) hp.lt⟩

/-- Copies are made of both. -/
theorem PlayAt.copy {w wr wg : World} {qb g : Nat} {cv : Value} {W OW : List UInt8} {st ost : Int} (h : PlayAt w qb wr cv W st OW ost) (hb : Below wr.heap.size wr wg) (hg : wr.heap.size ≤ g) (hp : PsAt wg g W st) (hq : w.heap.size < qb) :
    PlayAt w qb ((wg.setCell ⟨qb + 1, 0, none⟩ (.string ⟨W.toArray⟩)).setCell ⟨qb + 1, 1, none⟩ (.int .i64 st)) (.pointer (some ⟨g, 0, none⟩)) W st W st := by
  obtain ⟨h1, h2, h3, h4, h5, h6⟩ := h.below hb
  have hk := (Kept.store (p := qb + 1) (B := wg.heap.size) wg 0 (.string ⟨W.toArray⟩)).trans (Kept.store _ 1 (.int .i64 st))
  have hl4 := h.2.2.2.1.lt
  have hl3 := h3.lt
  have hl6 := h6.size
  exact ⟨h1.keptQ hk (by omega) h1.lt, h2, h3.kept hk (by omega) h3.lt, DpAt.store h4, .inr ⟨g, rfl, by omega, hp.keptQ hk (by omega) hp.lt⟩, h6.trans ⟨hk.os, hk.tape, hk.output, hk.size, fun i hi => hk.block i (by omega) (by omega)⟩⟩

set_option maxRecDepth 40000 in
set_option maxHeartbeats 16000000 in
theorem plays_walk (vp va : Value) (ps : List (List UInt8)) (xs : List Int) (w : World) (hM : ML w) (hSp : SeesS w vp ps) (hlp : ps.length ≤ 9223372036854775807) (hSa : SeesZ w va xs) (hla : xs.length ≤ 4611686018427387904) :
    Calls Tryz.prog 3 #[vp, va] w fun e w' => e = .returned (.bool true) ∧ Below w.heap.size w w' := by
  obtain ⟨bp, offp, aop, capp, rfl, hcapp, _, haop, hcellp⟩ := hSp
  obtain ⟨ba, offa, aoa, capa, rfl, hcapa, _, haoa, hcella⟩ := hSa
  have HW := hid awakeP_any
  have HM := hid hM
  have hgl := hM.lt
  have HCP := hid hcellp
  have HCA := hid hcella
  have HAP := hid haop
  have HAA := hid haoa
  have he := fun X => eqlc_some_nil ⟨w.heap.size, 0, none⟩ X
  clear hM hcellp hcella haop haoa
  go_enter Tryz.func3, Tryz.ntmps3
  go_wp2_with fail
  refine (new_any w).mono ?_
  rintro e w1 ⟨rfl, hP1, hB1⟩
  have hpl := hP1.lt
  obtain ⟨qb, hqb⟩ : ∃ qb, qb = w1.heap.size := ⟨_, rfl⟩
  have hwq : w.heap.size < qb := by omega
  obtain ⟨w2, hw2⟩ : ∃ w2, w2 = (w1.alloc (.cells #[.string ⟨#[]⟩, .int .i64 0] 27)).alloc (.cells #[.string ⟨#[]⟩, .int .i64 0] 27) := ⟨_, rfl⟩
  have HS : Hid (PlayAt w qb w2 (.pointer none) [] 0 [] 0) := by
    have hb1 := below_alloc w1 (.cells #[.string ⟨#[]⟩, .int .i64 0] 27)
    have hb2 := below_alloc (w1.alloc (.cells #[.string ⟨#[]⟩, .int .i64 0] 27)) (.cells #[.string ⟨#[]⟩, .int .i64 0] 27)
    have hb : Below w1.heap.size w1 w2 := by rw [hw2]; exact hb1.trans (hb2.mono (by simp))
    have hd1 : DpAt w2 qb (.string ⟨#[]⟩) (.int .i64 0) := by rw [hw2, hqb]; exact (DpAt.new w1 _ _).below hb2 (DpAt.new w1 _ _).lt
    have hd2 : DpAt w2 (qb + 1) (.string ⟨#[]⟩) (.int .i64 0) := by
      have h := DpAt.new (w1.alloc (.cells #[.string ⟨#[]⟩, .int .i64 0] 27)) (.string ⟨#[]⟩) (.int .i64 0)
      rw [← hw2] at h
      rw [hqb]
      simpa using h
    exact hid ⟨hP1.below hb hP1.lt, by simp, hd1, hd2, .inl rfl, hB1.trans (hb.mono hB1.size)⟩
  clear hP1 hB1
  go_wp2_with fail
  rw [← hw2, ← hqb]
  clear hw2 hqb he
  go_loopw [7, 9] (fun cv i wr => ∃ (k : Nat) (W : List UInt8) (st : Int) (OW : List UInt8) (ost : Int), i = .int .i64 (k : Int) ∧ Hid (k ≤ ps.length ∧ PlayAt w qb wr cv W st OW ost)) (fun _ i _ => ps.length - (intOf i).toNat)
  case atStart => exact ⟨0, [], 0, [], 0, rfl, hid ⟨Nat.zero_le _, HS.out⟩⟩
  clear HS
  case round =>
    obtain ⟨k, W, st, OW, ost, rfl, HI⟩ := hrel
    obtain ⟨hk, hPl⟩ := HI.out
    have HPl := hid hPl
    clear HI
    by_cases hlt : k < ps.length
    · have hlt' : (k : Int) < (ps.length : Int) := by omega
      obtain rfl := HAP.out (by intro h; rw [h] at hlt; simp at hlt)
      have hcy0 := HCP.out k hlt
      obtain ⟨y, hy⟩ : ∃ y, y = ps[k] := ⟨_, rfl⟩
      rw [← hy] at hcy0
      simp only [strV] at hcy0
      clear hy
      have hbp : bp < w.heap.size := World.block_lt_of_cell? w _ hcy0
      obtain ⟨h1, h2, h3, h4, h5, h6⟩ := hPl
      have hsw := h6.size
      have hcy := (h6.cell (p := ⟨bp, offp + k, none⟩) hbp).trans hcy0
      obtain ⟨x0, x1, _, _⟩ := h3.cells
      have hq3 := h3.lt
      have hbr : bp < wr.heap.size := by omega
      have hFd := fun X => rfeedB_any W y st X h2
      rw [fdT_fed] at hFd
      simp only at hFd
      obtain ⟨X, hX⟩ : ∃ X, X = fedW W y st := ⟨_, rfl⟩
      obtain ⟨E, hE⟩ : ∃ E, E = fedE W y st := ⟨_, rfl⟩
      rw [← hX, ← hE] at hFd
      have HFd := hid hFd
      have hXl : X.length ≤ 65536 := by
        rw [hX]
        unfold fedW
        split
        · exact h2
        · split
          · exact h2
          · rename_i hn; rw [List.length_append]; omega
      have HFc := hid (fun X1 (h : PsAt X1 w.heap.size W st) => feed_any w.heap.size W y st X1 h h2)
      rw [← hX, ← hE] at HFc
      have hEE : (E != E) = false := by simp
      have HK : Hid (∀ X1 X2 : World, Below X1.heap.size X1 X2 → (qb < X1.heap.size ∧ bp < X1.heap.size ∧ X1.cell? ⟨qb, 0, none⟩ = some (.string ⟨W.toArray⟩) ∧ X1.cell? ⟨qb, 1, none⟩ = some (.int .i64 st) ∧ X1.cell? ⟨bp, offp + k, none⟩ = some (.string ⟨y.toArray⟩)) → (qb < X2.heap.size ∧ bp < X2.heap.size ∧ X2.cell? ⟨qb, 0, none⟩ = some (.string ⟨W.toArray⟩) ∧ X2.cell? ⟨qb, 1, none⟩ = some (.int .i64 st) ∧ X2.cell? ⟨bp, offp + k, none⟩ = some (.string ⟨y.toArray⟩))) := hid fun X1 X2 hb hh => by
        have hz := hb.size
        exact ⟨by omega, by omega, (hb.cell (p := ⟨qb, 0, none⟩) hh.1).trans hh.2.2.1, (hb.cell (p := ⟨qb, 1, none⟩) hh.1).trans hh.2.2.2.1, (hb.cell (p := ⟨bp, offp + k, none⟩) hh.2.1).trans hh.2.2.2.2⟩
      have HK8 : Hid (∀ X1 : World, (qb < X1.heap.size ∧ bp < X1.heap.size ∧ X1.cell? ⟨qb, 0, none⟩ = some (.string ⟨W.toArray⟩) ∧ X1.cell? ⟨qb, 1, none⟩ = some (.int .i64 st) ∧ X1.cell? ⟨bp, offp + k, none⟩ = some (.string ⟨y.toArray⟩)) → (qb < ((X1.setCell ⟨wr.heap.size, 0, none⟩ (.string ⟨X.toArray⟩)).setCell ⟨wr.heap.size, 1, none⟩ (.int .i64 st)).heap.size ∧ bp < ((X1.setCell ⟨wr.heap.size, 0, none⟩ (.string ⟨X.toArray⟩)).setCell ⟨wr.heap.size, 1, none⟩ (.int .i64 st)).heap.size ∧ ((X1.setCell ⟨wr.heap.size, 0, none⟩ (.string ⟨X.toArray⟩)).setCell ⟨wr.heap.size, 1, none⟩ (.int .i64 st)).cell? ⟨qb, 0, none⟩ = some (.string ⟨W.toArray⟩) ∧ ((X1.setCell ⟨wr.heap.size, 0, none⟩ (.string ⟨X.toArray⟩)).setCell ⟨wr.heap.size, 1, none⟩ (.int .i64 st)).cell? ⟨qb, 1, none⟩ = some (.int .i64 st) ∧ ((X1.setCell ⟨wr.heap.size, 0, none⟩ (.string ⟨X.toArray⟩)).setCell ⟨wr.heap.size, 1, none⟩ (.int .i64 st)).cell? ⟨bp, offp + k, none⟩ = some (.string ⟨y.toArray⟩))) := hid fun X1 hh => by
        have hk := ((Kept.store (p := wr.heap.size) (B := wr.heap.size) X1 0 (.string ⟨X.toArray⟩)).trans (Kept.store _ 1 (.int .i64 st))).below (Nat.le_refl _)
        have hz := hk.size
        exact ⟨by have := hh.1; omega, by have := hh.2.1; omega, (hk.cell (p := ⟨qb, 0, none⟩) hq3).trans hh.2.2.1, (hk.cell (p := ⟨qb, 1, none⟩) hq3).trans hh.2.2.2.1, (hk.cell (p := ⟨bp, offp + k, none⟩) hbr).trans hh.2.2.2.2⟩
      have BB : Hid (Below wr.heap.size wr (wr.alloc (.cells #[.string ⟨#[]⟩, .int .i64 0] 27)).drew) := hid (Below.drew (below_alloc wr _))
      have BA : Hid (Below wr.heap.size wr wr.drew) := hid (Below.drew (Below.refl _ _))
      have HRB : Hid (DpAt (wr.alloc (.cells #[.string ⟨#[]⟩, .int .i64 0] 27)).drew wr.heap.size (.string ⟨#[]⟩) (.int .i64 0)) := hid (DpAt.new wr _ _)
      have HSA : Hid (qb < wr.drew.heap.size ∧ bp < wr.drew.heap.size ∧ wr.drew.cell? ⟨qb, 0, none⟩ = some (.string ⟨W.toArray⟩) ∧ wr.drew.cell? ⟨qb, 1, none⟩ = some (.int .i64 st) ∧ wr.drew.cell? ⟨bp, offp + k, none⟩ = some (.string ⟨y.toArray⟩)) := hid ⟨hq3, hbr, x0, x1, hcy⟩
      have HSB : Hid (qb < (wr.alloc (.cells #[.string ⟨#[]⟩, .int .i64 0] 27)).drew.heap.size ∧ bp < (wr.alloc (.cells #[.string ⟨#[]⟩, .int .i64 0] 27)).drew.heap.size ∧ (wr.alloc (.cells #[.string ⟨#[]⟩, .int .i64 0] 27)).drew.cell? ⟨qb, 0, none⟩ = some (.string ⟨W.toArray⟩) ∧ (wr.alloc (.cells #[.string ⟨#[]⟩, .int .i64 0] 27)).drew.cell? ⟨qb, 1, none⟩ = some (.int .i64 st) ∧ (wr.alloc (.cells #[.string ⟨#[]⟩, .int .i64 0] 27)).drew.cell? ⟨bp, offp + k, none⟩ = some (.string ⟨y.toArray⟩)) := hid (HK.out wr _ BB.out ⟨hq3, hbr, x0, x1, hcy⟩)
      have HC0 := hid hcy0
      clear h1 h2 h3 h4 h5 h6 hcy0 hcy x0 x1 hFd hX hE
      have hcp : k < capp := by omega
      go_wp2_with fail
      go_cut [10, 11] (fun p10 e11 wx => ∃ b, p10 = .pointer (some ⟨b, 0, none⟩) ∧ e11 = .int .i64 E ∧ Hid (wr.heap.size ≤ b ∧ DpAt wx b (.string ⟨X.toArray⟩) (.int .i64 st) ∧ Below wr.heap.size wr wx))
      case first =>
        go_region_held3 (fun X1 => qb < X1.heap.size ∧ bp < X1.heap.size ∧ X1.cell? ⟨qb, 0, none⟩ = some (.string ⟨W.toArray⟩) ∧ X1.cell? ⟨qb, 1, none⟩ = some (.int .i64 st) ∧ X1.cell? ⟨bp, offp + k, none⟩ = some (.string ⟨y.toArray⟩))
          (first | (with_reducible exact HSA.out) | (with_reducible exact HSB.out) | (with_reducible exact hS6) | (with_reducible exact HK8.out _ hS6) | (with_reducible refine HK.out w6 _ (below_alloc w6 _) ?_; assumption))
          (first
            | (go_at_call 7
               refine (HFd.out _).mono ?_
               rintro e' w6 ⟨rfl, hB6⟩
               have HW6 := hid hB6
               first
                 | (with_reducible have hS6 := HK.out wr.drew w6 hB6 HSA.out
                    have hB7 := BA.out.trans HW6.out
                    have HE6 := hid (And.intro hB7.size <| And.intro (DpAt.new w6 (.string ⟨X.toArray⟩) (.int .i64 st)) (hB7.trans ((below_alloc w6 (.cells #[.string ⟨X.toArray⟩, .int .i64 st] 27)).mono hB7.size)))
                    clear HW6 hB6 hB7)
                 | (with_reducible have hS6 := HK.out _ _ hB6 HSB.out
                    have hR6 := HRB.out.below HW6.out HRB.out.lt
                    have hB7 := BB.out.trans (HW6.out.mono BB.out.size)
                    have HE6 := hid (And.intro (Nat.le_refl wr.heap.size) <| And.intro (DpAt.store (x := (.string ⟨X.toArray⟩)) (y := (.int .i64 st)) hR6) (hB7.trans (((Kept.store (p := wr.heap.size) (B := wr.heap.size) w6 0 (.string ⟨X.toArray⟩)).trans (Kept.store _ 1 (.int .i64 st))).below (Nat.le_refl _))))
                    obtain ⟨i0, i1, j0, j1⟩ := hR6.cells
                    clear hR6 HW6 hB6 hB7)))
        all_goals
          go_wp2
          go_meet
          case rel => exact ⟨_, rfl, rfl, HE6⟩
      case rest =>
        obtain ⟨b, rfl, rfl, HX⟩ := hcut
        obtain ⟨hbw, hDb, hBc⟩ := HX.out
        have hPc := HPl.out.below hBc
        have hcy : wc.cell? ⟨bp, offp + k, none⟩ = some (.string ⟨y.toArray⟩) := (hPc.2.2.2.2.2.cell (p := ⟨bp, offp + k, none⟩) hbp).trans HC0.out
        have hFe := HFc.out wc hPc.1
        have HPc := hid hPc
        have HDb := hid hDb
        have hszc := hBc.size
        clear HX hDb hBc hPc HK HK8 BA BB HRB HSA HSB HFd HFc HPl
        go_wp2_with fail
        refine hFe.mono ?_
        clear hFe hcy
        rintro e w3 ⟨rfl, hP3, hK3⟩
        obtain ⟨t1, t2, t3, t4, t5, t6⟩ := HPc.out.turn hwq hK3 hP3 hXl
        have hD3 := HDb.out.kept hK3 (by omega) HDb.out.lt
        obtain ⟨d0, d1, _, _⟩ := hD3.cells
        obtain ⟨x0, x1, x2, x3⟩ := t3.cells
        have HP4 := hid (PlayAt.store (W2 := X) (st2 := st) hwq t1 t2 t3 t4 t5 t6)
        obtain ⟨w4, hw4⟩ : ∃ w4, w4 = (w3.setCell ⟨qb, 0, none⟩ (.string ⟨X.toArray⟩)).setCell ⟨qb, 1, none⟩ (.int .i64 st) := ⟨_, rfl⟩
        rw [← hw4] at HP4
        have HW4 := hid hw4
        clear t1 t2 t3 t4 t5 t6 hD3 hP3 hK3 HPc HDb hw4
        iterate 35 (first | go_values | go_skip | go_guarded | go_step | go_upon | go_back | go_simp)
        rw [← HW4.out]
        clear HW4 d0 d1 x0 x1 x2 x3
        go_cut [12] (fun n wx => ∃ N : Int, n = .int .i64 N ∧ Hid (wx = w4))
        case first =>
          by_cases hx : k < xs.length
          · have hx' : (k : Int) < (xs.length : Int) := by omega
            obtain rfl := HAA.out (by intro h; rw [h] at hx; simp at hx)
            have hca0 := HCA.out k hx
            obtain ⟨N, hN⟩ : ∃ N, N = xs[k] := ⟨_, rfl⟩
            rw [← hN] at hca0
            have hca : w4.cell? ⟨ba, offa + k, none⟩ = some (.int .i64 N) := by
              exact (HP4.out.2.2.2.2.2.cell (p := ⟨ba, offa + k, none⟩) (World.block_lt_of_cell? w _ hca0)).trans hca0
            have hcpa : k < capa := by omega
            clear hca0 hN
            go_wp2
            go_meet
            case rel => exact ⟨N, rfl, hid rfl⟩
          · have hx' : ¬ (k : Int) < (xs.length : Int) := by omega
            go_wp2
            go_meet
            case rel => exact ⟨1, rfl, hid rfl⟩
        case rest =>
          obtain ⟨N, rfl, HE⟩ := hcut
          have hEw := HE.out
          subst hEw
          clear HE
          go_wp2_with fail
          go_loopw [13] (fun kv w5 => ∃ (k2 : Nat) (W2 : List UInt8) (st2 : Int), kv = .int .i64 (k2 : Int) ∧ Hid (k2 ≤ 9 ∧ PlayAt w qb w5 u7 W2 st2 OW ost)) (fun kv _ => 9 - (intOf kv).toNat)
          case atStart => exact ⟨0, X, st, rfl, hid ⟨by omega, HP4.out⟩⟩
          clear HP4
          case round =>
            obtain ⟨k2, W2, st2, rfl, HI2⟩ := hrel
            obtain ⟨hk9, hP2⟩ := HI2.out
            have HP2 := hid hP2
            clear HI2
            by_cases hgo : (k2 : Int) < N ∧ k2 < 9
            · obtain ⟨hn, h9⟩ := hgo
              have h9' : (k2 : Int) < 9 := by omega
              have hNx := next_any w.heap.size W2 st2 wr (HM.out.below hP2.2.2.2.2.2 hgl) hP2.1 hP2.2.1
              have HRN := hid (fun X1 => rnextB_any W2 st2 X1 hP2.2.1)
              have hnl := nxt_len W2 st2
              have hnf := nxt_few W2 st2
              obtain ⟨NT, hNT⟩ : ∃ NT, NT = nxtT W2 st2 := ⟨_, rfl⟩
              rw [← hNT] at hNx HRN hnl hnf
              obtain ⟨rq, ok, sta, W3, st3⟩ := NT
              simp only at hNx HRN hnl hnf
              have hW3 : W3.length ≤ 65536 := by have := hP2.2.1; omega
              have hq3 := hP2.2.2.1.lt
              have hok : (ok != ok) = false := by simp
              have hss : (sta != sta) = false := by simp
              clear hNT hnl hP2
              go_wp2_with fail
              refine hNx.mono ?_
              clear hNx
              rintro e w6 ⟨v6, rfl, hO6, hP6, hK6⟩
              obtain ⟨e1, he1, rfl, hp1⟩ := hO6.elem
              simp only [RqE.val, reqV, RqE.vf, RqE.vq]
              have HE1 := hid he1
              have HO1 := hid hp1
              have hs6 := hK6.size
              have HT6 := hid (HP2.out.turn hwq hK6 hP6 hW3)
              have hb7 := below_alloc w6 (.cells #[.string ⟨e1.q.head.1.toArray⟩, .string ⟨e1.q.head.2.1.toArray⟩, .int .i64 e1.q.head.2.2.1, .slice e1.af e1.q.head.2.2.2.length e1.cf, .string ⟨e1.q.path.toArray⟩, .slice e1.aq e1.q.query.length e1.cq, .string ⟨e1.q.body.toArray⟩, .bool e1.q.close] 36)
              have hy := (HT6.out.2.2.1.below hb7 HT6.out.2.2.1.lt).cells
              obtain ⟨y0, y1, _, _⟩ := hy
              have hRN := HRN.out (w6.alloc (.cells #[.string ⟨e1.q.head.1.toArray⟩, .string ⟨e1.q.head.2.1.toArray⟩, .int .i64 e1.q.head.2.2.1, .slice e1.af e1.q.head.2.2.2.length e1.cf, .string ⟨e1.q.path.toArray⟩, .slice e1.aq e1.q.query.length e1.cq, .string ⟨e1.q.body.toArray⟩, .bool e1.q.close] 36))
              clear hO6 hp1 he1 hP6 hK6 HRN hb7
              go_wp2_with fail
              refine hRN.mono ?_
              clear hRN y0 y1
              rintro e w7 ⟨v7, rfl, hO7, hB7⟩
              obtain ⟨e2, he2, rfl, hp2⟩ := hO7.elem
              simp only [RqE.val, reqV, RqE.vf, RqE.vq]
              obtain ⟨W8, hW8⟩ : ∃ W8, W8 = (w7.alloc (.cells #[.string ⟨W3.toArray⟩, .int .i64 st3] 27)).alloc (.cells #[.string ⟨e2.q.head.1.toArray⟩, .string ⟨e2.q.head.2.1.toArray⟩, .int .i64 e2.q.head.2.2.1, .slice e2.af e2.q.head.2.2.2.length e2.cf, .string ⟨e2.q.path.toArray⟩, .slice e2.aq e2.q.query.length e2.cq, .string ⟨e2.q.body.toArray⟩, .bool e2.q.close] 36) := ⟨_, rfl⟩
              have hb78 : Below w7.heap.size w7 W8 := by rw [hW8]; exact (below_alloc w7 _).trans ((below_alloc _ _).mono (by simp))
              have hB7' : Below (w6.heap.size + 1) (w6.alloc (.cells #[.string ⟨e1.q.head.1.toArray⟩, .string ⟨e1.q.head.2.1.toArray⟩, .int .i64 e1.q.head.2.2.1, .slice e1.af e1.q.head.2.2.2.length e1.cf, .string ⟨e1.q.path.toArray⟩, .slice e1.aq e1.q.query.length e1.cq, .string ⟨e1.q.body.toArray⟩, .bool e1.q.close] 36)) w7 := by
                have h := hB7
                rw [show (w6.alloc (.cells #[.string ⟨e1.q.head.1.toArray⟩, .string ⟨e1.q.head.2.1.toArray⟩, .int .i64 e1.q.head.2.2.1, .slice e1.af e1.q.head.2.2.2.length e1.cf, .string ⟨e1.q.path.toArray⟩, .slice e1.aq e1.q.query.length e1.cq, .string ⟨e1.q.body.toArray⟩, .bool e1.q.close] 36)).heap.size = w6.heap.size + 1 by simp] at h
                exact h
              have hs7 := hB7'.size
              have hs78 : w6.heap.size + 1 ≤ w7.heap.size := by rw [show (w6.alloc (.cells #[.string ⟨e1.q.head.1.toArray⟩, .string ⟨e1.q.head.2.1.toArray⟩, .int .i64 e1.q.head.2.2.1, .slice e1.af e1.q.head.2.2.2.length e1.cf, .string ⟨e1.q.path.toArray⟩, .slice e1.aq e1.q.query.length e1.cq, .string ⟨e1.q.body.toArray⟩, .bool e1.q.close] 36)).heap.size = w6.heap.size + 1 by simp] at hs7; exact hs7
              have hs8 := hb78.size
              have hb68 : Below w6.heap.size w6 W8 := (below_alloc w6 _).trans ((hB7'.mono (by omega)).trans (hb78.mono (by omega)))
              obtain ⟨t1, t2, t3, t4, t5, t6⟩ := HT6.out
              have d3 := t3.below hb68 t3.lt
              have HP9 := hid (PlayAt.store (W2 := W3) (st2 := st3) hwq (t1.below hb68 t1.lt) t2 d3 (t4.below hb68 t4.lt) (by
                rcases t5 with t5 | ⟨pc, ee, hl, hp⟩
                · exact .inl t5
                · exact .inr ⟨pc, ee, hl, hp.below hb68 hp.lt⟩) (t6.trans (hb68.mono t6.size)))
              obtain ⟨k0, k1, kf0, kf1⟩ := d3.cells
              have hk9' := (Kept.store (p := qb) (B := W8.heap.size) W8 0 (.string ⟨W3.toArray⟩)).trans (Kept.store _ 1 (.int .i64 st3))
              have hq6 : qb < w6.heap.size := by omega
              have hr1 : ReqAt W8 w6.heap.size (.string ⟨e1.q.head.1.toArray⟩) (.string ⟨e1.q.head.2.1.toArray⟩) (.int .i64 e1.q.head.2.2.1) (.slice e1.af e1.q.head.2.2.2.length e1.cf) (.string ⟨e1.q.path.toArray⟩) (.slice e1.aq e1.q.query.length e1.cq) (.string ⟨e1.q.body.toArray⟩) (.bool e1.q.close) := ((ReqAt.new w6 (.string ⟨e1.q.head.1.toArray⟩) (.string ⟨e1.q.head.2.1.toArray⟩) (.int .i64 e1.q.head.2.2.1) (.slice e1.af e1.q.head.2.2.2.length e1.cf) (.string ⟨e1.q.path.toArray⟩) (.slice e1.aq e1.q.query.length e1.cq) (.string ⟨e1.q.body.toArray⟩) (.bool e1.q.close)).below hB7' (by omega)).below hb78 (by omega)
              have hr2 : ReqAt W8 (w7.heap.size + 1) (.string ⟨e2.q.head.1.toArray⟩) (.string ⟨e2.q.head.2.1.toArray⟩) (.int .i64 e2.q.head.2.2.1) (.slice e2.af e2.q.head.2.2.2.length e2.cf) (.string ⟨e2.q.path.toArray⟩) (.slice e2.aq e2.q.query.length e2.cq) (.string ⟨e2.q.body.toArray⟩) (.bool e2.q.close) := by
                have h := ReqAt.new (w7.alloc (.cells #[.string ⟨W3.toArray⟩, .int .i64 st3] 27)) (.string ⟨e2.q.head.1.toArray⟩) (.string ⟨e2.q.head.2.1.toArray⟩) (.int .i64 e2.q.head.2.2.1) (.slice e2.af e2.q.head.2.2.2.length e2.cf) (.string ⟨e2.q.path.toArray⟩) (.slice e2.aq e2.q.query.length e2.cq) (.string ⟨e2.q.body.toArray⟩) (.bool e2.q.close)
                rw [← hW8, show (w7.alloc (.cells #[.string ⟨W3.toArray⟩, .int .i64 st3] 27)).heap.size = w7.heap.size + 1 by simp] at h
                exact h
              have hr1' := hr1.keptQ hk9' (by omega) hr1.lt
              have hr2' := hr2.keptQ hk9' (by omega) hr2.lt
              have hv1 := fun (v : Value) (l : List PairL) (ho : OwnsP w6 wr.heap.size v l) => OwnsP.sees (OwnsP.kept (OwnsP.below ho hb68) hk9' hq3)
              have hv2 := fun (v : Value) (l : List PairL) (ho : OwnsP w7 (w6.alloc (.cells #[.string ⟨e1.q.head.1.toArray⟩, .string ⟨e1.q.head.2.1.toArray⟩, .int .i64 e1.q.head.2.2.1, .slice e1.af e1.q.head.2.2.2.length e1.cf, .string ⟨e1.q.path.toArray⟩, .slice e1.aq e1.q.query.length e1.cq, .string ⟨e1.q.body.toArray⟩, .bool e1.q.close] 36)).heap.size v l) => OwnsP.sees (OwnsP.kept (OwnsP.below ho hb78) hk9' (show qb < (w6.alloc (.cells #[.string ⟨e1.q.head.1.toArray⟩, .string ⟨e1.q.head.2.1.toArray⟩, .int .i64 e1.q.head.2.2.1, .slice e1.af e1.q.head.2.2.2.length e1.cf, .string ⟨e1.q.path.toArray⟩, .slice e1.aq e1.q.query.length e1.cq, .string ⟨e1.q.body.toArray⟩, .bool e1.q.close] 36)).heap.size by simp; omega))
              have hSm := rsame_any e1 e2 _ ⟨hv1 _ _ HO1.out.1, hv1 _ _ HO1.out.2⟩ ⟨hv2 _ _ hp2.1, hv2 _ _ hp2.2⟩ (by rw [HE1.out]; have := hnf.1; omega) (by rw [HE1.out]; have := hnf.2; omega)
              rw [show sameRq e1.q e2.q = true from sameRq_iff.2 (by rw [HE1.out, he2])] at hSm
              obtain ⟨W9, hW9⟩ : ∃ W9, W9 = (W8.setCell ⟨qb, 0, none⟩ (.string ⟨W3.toArray⟩)).setCell ⟨qb, 1, none⟩ (.int .i64 st3) := ⟨_, rfl⟩
              rw [← hW9] at hr1' hr2' hSm HP9
              have HW9 := hid hW9
              have HW8 := hid hW8
              rw [hW8] at k0 k1 kf0 kf1
              have hr1'' := hr1'
              have hr2'' := hr2'
              obtain ⟨a0, a1, a2, a3, a4, a5, a6, a7⟩ := hr1'.cells
              obtain ⟨b0, b1, b2, b3, b4, b5, b6, b7⟩ := hr2'.cells
              rw [hW9, hW8] at a0 a1 a2 a3 a4 a5 a6 a7 b0 b1 b2 b3 b4 b5 b6 b7
              clear hW8 hb78 hB7' hs7 hs78 hs8 hb68 t1 t2 t3 t4 t5 t6 d3 hk9' hr1 hr2 hr1' hr2' hr1'' hr2'' hv1 hv2 hO7 hB7 hp2 he2 HT6 HO1 HE1 hW9 hnf hq6 hs6 HP2
              go_wp2_with fail
              rw [← HW8.out, ← HW9.out]
              refine hSm.mono ?_
              clear hSm a0 a1 a2 a3 a4 a5 a6 a7 b0 b1 b2 b3 b4 b5 b6 b7 k0 k1 kf0 kf1
              rintro e wa ⟨rfl, hBa⟩
              have HPa := hid (HP9.out.below hBa)
              clear hBa HP9
              go_wp2
              go_roundw
              case rel => exact ⟨k2 + 1, W3, st3, by go_num, hid ⟨by omega, HPa.out⟩⟩
              case measure => simp [intOf]; omega
            · by_cases hn : (k2 : Int) < N
              · have h9' : ¬ (k2 : Int) < 9 := by omega
                have HL := hid (fun X1 (h : PsAt X1 w.heap.size W2 st2 ∧ X1.cell? ⟨qb, 0, none⟩ = some (.string ⟨W2.toArray⟩) ∧ X1.cell? ⟨qb, 1, none⟩ = some (.int .i64 st2)) => left_any w.heap.size W2 st2 X1 h.1)
                have HBr := hid (fun X1 (h : PsAt X1 w.heap.size W2 st2 ∧ X1.cell? ⟨qb, 0, none⟩ = some (.string ⟨W2.toArray⟩) ∧ X1.cell? ⟨qb, 1, none⟩ = some (.int .i64 st2)) => broken_any w.heap.size W2 st2 X1 h.1)
                obtain ⟨q0, q1, _, _⟩ := hP2.2.2.1.cells
                have HS0 : Hid (PsAt wr.drew w.heap.size W2 st2 ∧ wr.drew.cell? ⟨qb, 0, none⟩ = some (.string ⟨W2.toArray⟩) ∧ wr.drew.cell? ⟨qb, 1, none⟩ = some (.int .i64 st2)) := hid ⟨hP2.1, q0, q1⟩
                have hPd := hP2.below (Below.drew (Below.refl wr.heap.size wr))
                have HPd := hid hPd
                clear hP2 hgo q0 q1 hPd
                go_wp2_with fail
                go_region_held3 (fun X1 => PsAt X1 w.heap.size W2 st2 ∧ X1.cell? ⟨qb, 0, none⟩ = some (.string ⟨W2.toArray⟩) ∧ X1.cell? ⟨qb, 1, none⟩ = some (.int .i64 st2))
                  (first | (exact HS0.out) | assumption)
                  (first
                    | (go_at_call 12
                       refine (HL.out _ (by assumption)).mono ?_
                       rintro e' wz ⟨rfl, hz⟩
                       subst hz)
                    | (go_at_call 13
                       refine (HBr.out _ (by assumption)).mono ?_
                       rintro e' wz ⟨rfl, hz⟩
                       subst hz))
                all_goals
                  clear HL HBr HS0
                  by_cases hm : k % 4 = 2
                  · have m1 : ((k : Int) % 4 == 2) = true := by rw [beq_iff_eq]; omega
                    have m2 : (Int.tmod (k : Int) 4 == 2) = true := by rw [beq_iff_eq, Int.tmod_eq_emod_of_nonneg (by omega)]; omega
                    have hCp := copyP_any w.heap.size W2 st2 wr.drew HPd.out.1
                    go_wp2_with fail
                    refine hCp.mono ?_
                    clear hCp
                    rintro e wg ⟨g, rfl, hPg, hgl2, hBg⟩
                    have hPg2 := HPd.out.below hBg
                    obtain ⟨q0, q1, _, _⟩ := hPg2.2.2.1.cells
                    obtain ⟨o0, o1, o2, o3⟩ := hPg2.2.2.2.1.cells
                    have HPn := hid (HPd.out.copy hBg hgl2 hPg hwq)
                    clear hPg hgl2 hBg hPg2
                    go_wp2
                    go_roundw
                    case rel => exact ⟨k + 1, W2, st2, W2, st2, by go_num, hid ⟨by omega, HPn.out⟩⟩
                    case measure => simp [intOf]; omega
                  · have m1 : ((k : Int) % 4 == 2) = false := by rw [beq_eq_false_iff_ne]; omega
                    have m2 : (Int.tmod (k : Int) 4 == 2) = false := by rw [beq_eq_false_iff_ne, Int.tmod_eq_emod_of_nonneg (by omega)]; omega
                    go_wp2
                    go_roundw
                    case rel => exact ⟨k + 1, W2, st2, OW, ost, by go_num, hid ⟨by omega, HPd.out⟩⟩
                    case measure => simp [intOf]; omega
              · have HL := hid (fun X1 (h : PsAt X1 w.heap.size W2 st2 ∧ X1.cell? ⟨qb, 0, none⟩ = some (.string ⟨W2.toArray⟩) ∧ X1.cell? ⟨qb, 1, none⟩ = some (.int .i64 st2)) => left_any w.heap.size W2 st2 X1 h.1)
                have HBr := hid (fun X1 (h : PsAt X1 w.heap.size W2 st2 ∧ X1.cell? ⟨qb, 0, none⟩ = some (.string ⟨W2.toArray⟩) ∧ X1.cell? ⟨qb, 1, none⟩ = some (.int .i64 st2)) => broken_any w.heap.size W2 st2 X1 h.1)
                obtain ⟨q0, q1, _, _⟩ := hP2.2.2.1.cells
                have HS0 : Hid (PsAt wr.drew w.heap.size W2 st2 ∧ wr.drew.cell? ⟨qb, 0, none⟩ = some (.string ⟨W2.toArray⟩) ∧ wr.drew.cell? ⟨qb, 1, none⟩ = some (.int .i64 st2)) := hid ⟨hP2.1, q0, q1⟩
                have hPd := hP2.below (Below.drew (Below.refl wr.heap.size wr))
                have HPd := hid hPd
                clear hP2 hgo q0 q1 hPd
                go_wp2_with fail
                go_region_held3 (fun X1 => PsAt X1 w.heap.size W2 st2 ∧ X1.cell? ⟨qb, 0, none⟩ = some (.string ⟨W2.toArray⟩) ∧ X1.cell? ⟨qb, 1, none⟩ = some (.int .i64 st2))
                  (first | (exact HS0.out) | assumption)
                  (first
                    | (go_at_call 12
                       refine (HL.out _ (by assumption)).mono ?_
                       rintro e' wz ⟨rfl, hz⟩
                       subst hz)
                    | (go_at_call 13
                       refine (HBr.out _ (by assumption)).mono ?_
                       rintro e' wz ⟨rfl, hz⟩
                       subst hz))
                all_goals
                  clear HL HBr HS0
                  by_cases hm : k % 4 = 2
                  · have m1 : ((k : Int) % 4 == 2) = true := by rw [beq_iff_eq]; omega
                    have m2 : (Int.tmod (k : Int) 4 == 2) = true := by rw [beq_iff_eq, Int.tmod_eq_emod_of_nonneg (by omega)]; omega
                    have hCp := copyP_any w.heap.size W2 st2 wr.drew HPd.out.1
                    go_wp2_with fail
                    refine hCp.mono ?_
                    clear hCp
                    rintro e wg ⟨g, rfl, hPg, hgl2, hBg⟩
                    have hPg2 := HPd.out.below hBg
                    obtain ⟨q0, q1, _, _⟩ := hPg2.2.2.1.cells
                    obtain ⟨o0, o1, o2, o3⟩ := hPg2.2.2.2.1.cells
                    have HPn := hid (HPd.out.copy hBg hgl2 hPg hwq)
                    clear hPg hgl2 hBg hPg2
                    go_wp2
                    go_roundw
                    case rel => exact ⟨k + 1, W2, st2, W2, st2, by go_num, hid ⟨by omega, HPn.out⟩⟩
                    case measure => simp [intOf]; omega
                  · have m1 : ((k : Int) % 4 == 2) = false := by rw [beq_eq_false_iff_ne]; omega
                    have m2 : (Int.tmod (k : Int) 4 == 2) = false := by rw [beq_eq_false_iff_ne, Int.tmod_eq_emod_of_nonneg (by omega)]; omega
                    go_wp2
                    go_roundw
                    case rel => exact ⟨k + 1, W2, st2, OW, ost, by go_num, hid ⟨by omega, HPd.out⟩⟩
                    case measure => simp [intOf]; omega
    · have hlt' : ¬ (k : Int) < (ps.length : Int) := by omega
      obtain ⟨h1, h2, h3, h4, h5, h6⟩ := hPl
      have HB6 := hid h6
      have hA := fun X (hb : Below w.heap.size w X) => HW.out X (HM.out.below hb hgl)
      have HA := hid hA
      obtain ⟨x0, x1, _, _⟩ := h4.cells
      clear hA HW hk hlt
      rcases h5 with rfl | ⟨pc, rfl, hpc, hPc⟩
      · have hn := neqc_nil
        clear h1 h2 h3 h4 h6 HPl
        go_wp2_with fail
        go_region
        all_goals
          go_wp2_with fail
          refine (HA.out _ (Below.drew HB6.out)).mono ?_
          rintro e w9 ⟨rfl, hB9⟩
          have HB9 := hid ((Below.drew HB6.out).trans (hB9.mono HB6.out.size))
          clear hB9
          go_wp2
          go_ret
          exact ⟨rfl, HB9.out⟩
      · have hn := fun X => neqc_some ⟨pc, 0, none⟩ X
        have HL := hid (fun X (h : PsAt X pc OW ost ∧ X.cell? ⟨qb + 1, 0, none⟩ = some (.string ⟨OW.toArray⟩) ∧ X.cell? ⟨qb + 1, 1, none⟩ = some (.int .i64 ost)) => left_any pc OW ost X h.1)
        have HBr := hid (fun X (h : PsAt X pc OW ost ∧ X.cell? ⟨qb + 1, 0, none⟩ = some (.string ⟨OW.toArray⟩) ∧ X.cell? ⟨qb + 1, 1, none⟩ = some (.int .i64 ost)) => broken_any pc OW ost X h.1)
        have HS0 : Hid (PsAt wr.drew pc OW ost ∧ wr.drew.cell? ⟨qb + 1, 0, none⟩ = some (.string ⟨OW.toArray⟩) ∧ wr.drew.cell? ⟨qb + 1, 1, none⟩ = some (.int .i64 ost)) := hid ⟨hPc, x0, x1⟩
        clear h1 h2 h3 h4 h6 HPl hPc x0 x1
        go_wp2_with fail
        go_region_held3 (fun X => PsAt X pc OW ost ∧ X.cell? ⟨qb + 1, 0, none⟩ = some (.string ⟨OW.toArray⟩) ∧ X.cell? ⟨qb + 1, 1, none⟩ = some (.int .i64 ost))
          (first | (exact HS0.out) | assumption)
          (first
            | (go_at_call 12
               refine (HL.out _ (by assumption)).mono ?_
               rintro e' wz ⟨rfl, hz⟩
               subst hz)
            | (go_at_call 13
               refine (HBr.out _ (by assumption)).mono ?_
               rintro e' wz ⟨rfl, hz⟩
               subst hz))
        all_goals
          go_wp2_with fail
          refine (HA.out _ (Below.drew HB6.out)).mono ?_
          rintro e w9 ⟨rfl, hB9⟩
          have HB9 := hid ((Below.drew HB6.out).trans (hB9.mono HB6.out.size))
          clear hB9
          go_wp2
          go_ret
          exact ⟨rfl, HB9.out⟩
end Go.Proofs.YtllhibdjopfcnaaGreatDoor
