/-
  Reading a row by closures: what a reader, a maker of readers and a taker leave of the row's variable and of old memory.
-/
import Derived.Test.YtkbceaofijngoaaWLeaf
import Derived.Shelf.Abstract
namespace Go.Proofs.Ytkbceaofijngoaa
open Go.RowKit
set_option linter.unusedVariables false

/-- Old memory stays, but for the block R and what g owns; what is owned then is g or new. -/
structure Step (R : Nat) (g : Option Nat) (w : World) (g' : Option Nat) (w' : World) : Prop where
  os : w'.os = w.os
  tape : w'.tape = w.tape
  output : w'.output = w.output
  size : w.heap.size ≤ w'.heap.size
  block : ∀ k, k < w.heap.size → k ≠ R → some k ≠ g → w'.heap[k]? = w.heap[k]?
  own : g' = g ∨ ∀ j, g' = some j → w.heap.size ≤ j
theorem Step.refl (R : Nat) (g : Option Nat) (w : World) : Step R g w g w := ⟨rfl, rfl, rfl, Nat.le_refl _, fun _ _ _ _ => rfl, Or.inl rfl⟩
theorem Step.trans {R : Nat} {g g' g'' : Option Nat} {w w' w'' : World} (h : Step R g w g' w') (k : Step R g' w' g'' w'') : Step R g w g'' w'' := by
  refine ⟨k.os.trans h.os, k.tape.trans h.tape, k.output.trans h.output, Nat.le_trans h.size k.size, fun i hi hR hg => ?_, ?_⟩
  · refine (k.block i (Nat.lt_of_lt_of_le hi h.size) hR (fun e => ?_)).trans (h.block i hi hR hg)
    rcases h.own with ho | ho
    · rw [ho] at e
      exact hg e
    · have := ho i e.symm
      omega
  · rcases k.own with hk | hk
    · rcases h.own with ho | ho
      · exact Or.inl (hk.trans ho)
      · exact Or.inr (by rw [hk]; exact ho)
    · exact Or.inr (fun j hj => Nat.le_trans h.size (hk j hj))
theorem Step.of_below {R : Nat} {g : Option Nat} {w w' : World} (h : Below w.heap.size w w') : Step R g w g w' := ⟨h.os, h.tape, h.output, h.size, fun k hk _ _ => h.block k hk, Or.inl rfl⟩
theorem Step.below {R B : Nat} {g g' : Option Nat} {w w' : World} (h : Step R g w g' w') (hR : B ≤ R) (hg : ∀ j, g = some j → B ≤ j) (hB : B ≤ w.heap.size) : Below B w w' :=
  ⟨h.os, h.tape, h.output, h.size, fun k hk => h.block k (by omega) (by omega) (fun e => by have := hg k e.symm; omega)⟩
theorem Step.drew {R : Nat} {g g' : Option Nat} {w w' : World} (h : Step R g w g' w') : Step R g w g' w'.drew := ⟨h.os, h.tape, h.output, h.size, h.block, h.own⟩
theorem CellAt.step {ty : TypeId} {R : Nat} {g g' : Option Nat} {w w' : World} {p : Nat} {v : Value} (h : CellAt ty w p v) (k : Step R g w g' w') (hR : p ≠ R) (hg : some p ≠ g) : CellAt ty w' p v := by
  unfold CellAt
  rw [k.block p h.lt hR hg]
  exact h

/-- The row's variable holds st; its cells lie in g. -/
structure Stands (w : World) (R : Nat) (g : Option Nat) (st : RowV) (vc vs vi : Value) : Prop where
  row : RowAt w R (.string st.key) vc vs vi (.int .i64 st.who)
  cells : OwnsT w (R + 1) vc st.cells
  own : vc.ownBlock = g
  s : Owns w (R + 1) vs st.s
  i : Owns w (R + 1) vi st.i
  sfar : ∀ j, vs.ownBlock = some j → some j ≠ g
  ifar : ∀ j, vi.ownBlock = some j → some j ≠ g
theorem Stands.glt {w : World} {R : Nat} {g : Option Nat} {st : RowV} {vc vs vi : Value} (h : Stands w R g st vc vs vi) : ∀ j, g = some j → R < j ∧ j < w.heap.size := by
  intro j hj
  rw [← h.own] at hj
  exact ⟨h.cells.block j hj, h.cells.lt j hj⟩
theorem Stands.below {w w' : World} {R : Nat} {g : Option Nat} {st : RowV} {vc vs vi : Value} (h : Stands w R g st vc vs vi) (hb : Below w.heap.size w w') : Stands w' R g st vc vs vi :=
  ⟨h.row.below hb h.row.lt, h.cells.below hb, h.own, h.s.below hb, h.i.below hb, h.sfar, h.ifar⟩

/-- What a reader leaves. -/
def ReadPost (R : Nat) (c : Nat) (f : Rd) (l : List Nat) (st : RowV) (g : Option Nat) (w : World) (e : Ending) (w' : World) : Prop :=
  ∃ g' st' vc vs vi, Step R g w g' w' ∧ Stands w' R g' st' vc vs vi ∧ st'.cells.length ≤ st.cells.length + c ∧
    ((f l st = none ∧ e = .returned (.tuple #[.int .i64 0, .bool false])) ∨ ∃ n, f l st = some (n, st') ∧ n ≤ l.length ∧ e = .returned (.tuple #[.int .i64 (n : Int), .bool true]))
/-- rd is a reader that does f. -/
def Reads (R : Nat) (c : Nat) (g0 : Option Nat) (W0 : World) (rd : Value) (f : Rd) : Prop :=
  ∃ k caps, rd = .func (.func k) #[] caps ∧ Enters Try.prog k ∧ ∀ (s : ByteArray) (st : RowV) (g : Option Nat) (w : World) (vc vs vi : Value), s.size ≤ 4611686018427387904 → Step R g0 W0 g w → Stands w R g st vc vs vi → st.cells.length + c ≤ 1000 →
    Calls Try.prog k (#[.string s] ++ caps) w (ReadPost R c f (bytesOf s) st g w)
theorem Reads.step {R c : Nat} {g0 g1 : Option Nat} {W0 W1 : World} {rd : Value} {f : Rd} (h : Reads R c g0 W0 rd f) (k : Step R g0 W0 g1 W1) : Reads R c g1 W1 rd f := by
  obtain ⟨n, caps, e, hE, hC⟩ := h
  exact ⟨n, caps, e, hE, fun s st g w vc vs vi hs hk => hC s st g w vc vs vi hs (k.trans hk)⟩
/-- v hands on what it is given a number of. -/
def MakePost (R : Nat) (c : Nat) (th : RowV × Rd) (st : RowV) (g : Option Nat) (w : World) (e : Ending) (w' : World) : Prop :=
  ∃ rd g' vc vs vi, e = .returned rd ∧ Step R g w g' w' ∧ Stands w' R g' th.1 vc vs vi ∧ th.1.cells.length = st.cells.length ∧ Reads R c g' w' rd th.2
def Makes (R : Nat) (c : Nat) (lo hi : Nat) (g0 : Option Nat) (W0 : World) (v : Value) (th : Nat → RowV → RowV × Rd) : Prop :=
  ∃ k caps, v = .func (.func k) #[] caps ∧ Enters Try.prog k ∧ ∀ (n : Nat) (st : RowV) (g : Option Nat) (w : World) (vc vs vi : Value), lo ≤ n → n ≤ hi → Step R g0 W0 g w → Stands w R g st vc vs vi →
    Calls Try.prog k (#[.int .i64 (n : Int)] ++ caps) w (MakePost R c (th n st) st g w)
/-- v takes a text. -/
def TakePost (R : Nat) (c : Nat) (st1 : RowV) (st : RowV) (g : Option Nat) (w : World) (e : Ending) (w' : World) : Prop :=
  ∃ g' vc vs vi, e = .returned (.tuple #[]) ∧ Step R g w g' w' ∧ Stands w' R g' st1 vc vs vi ∧ st1.cells.length ≤ st.cells.length + c
def Takes (R : Nat) (c : Nat) (v : Value) (tk : ByteArray → RowV → RowV) : Prop :=
  ∃ k caps, v = .func (.func k) #[] caps ∧ Enters Try.prog k ∧ ∀ (x : ByteArray) (st : RowV) (g : Option Nat) (w : World) (vc vs vi : Value), Stands w R g st vc vs vi → st.cells.length + c ≤ 1000 →
    Calls Try.prog k (#[.string x] ++ caps) w (TakePost R c (tk x st) st g w)

/-! ### Readers one behind the other -/
def csum : List (Rd × Nat) → Nat
  | [] => 0
  | x :: r => x.2 + csum r
def chainC (L : List (Rd × Nat)) : Rd := chainP (L.map Prod.fst)
/-- The slice v holds readers. -/
def SeesF (R : Nat) (g : Option Nat) (w : World) (v : Value) (rds : List Value) : Prop :=
  ∃ b off ao cap, v = .slice ao rds.length cap ∧ rds.length ≤ cap ∧ (rds ≠ [] → ao = some ⟨b, off, none⟩ ∧ b ≠ R ∧ some b ≠ g) ∧ ∀ j, (h : j < rds.length) → w.cell? ⟨b, off + j, none⟩ = some rds[j]

theorem chainP_take {L : List (Rd × Nat)} {j : Nat} (h : j < L.length) (l : List Nat) (st : RowV) : chainC (L.drop j) l st = (match L[j].1 l st with | none => none | some (n, st1) => match chainC (L.drop (j + 1)) (l.drop n) st1 with | none => none | some (m, st2) => some (n + m, st2)) := by
  rw [chainC, List.drop_eq_getElem_cons h, List.map_cons, chainP]
  rfl
theorem csum_drop {L : List (Rd × Nat)} {j : Nat} (h : j < L.length) : csum (L.drop j) = L[j].2 + csum (L.drop (j + 1)) := by
  rw [List.drop_eq_getElem_cons h, csum]

set_option maxRecDepth 20000 in
set_option maxHeartbeats 1000000 in
theorem chain1_any (R p : Nat) (v : Value) (rds : List Value) (L : List (Rd × Nat)) (s : ByteArray) (st : RowV) (g : Option Nat) (w : World) (vc vs vi : Value)
    (hp : CellAt 74 w p v) (hpR : p ≠ R) (hpg : some p ≠ g) (hS : SeesF R g w v rds) (hl : rds.length = L.length) (hn : rds.length ≤ 100)
    (hR : ∀ j, (h1 : j < rds.length) → (h2 : j < L.length) → Reads R L[j].2 g w rds[j] L[j].1)
    (hs : s.size ≤ 4611686018427387904) (hst : Stands w R g st vc vs vi) (hc : st.cells.length + csum L ≤ 1000) :
    Calls Try.prog 54 #[.string s, .pointer (some ⟨p, 0, none⟩)] w (ReadPost R (csum L) (chainC L) (bytesOf s) st g w) := by
  obtain ⟨b, off, ao, cap, rfl, hcap, hao, hcell⟩ := hS
  obtain ⟨q1, _⟩ := hp.cells
  have HC := hid hcell
  have HR := hid hR
  have HST := hid hst
  have HL := hid (bytesOf_len s)
  have hlr := hl
  have HLL := hid hl
  clear hcell hR hst hp hl
  go_enter Try.func54, Try.ntmps54
  go_wp2_with fail
  go_loopw [5, 12] (fun a i wr => ∃ (j at' : Nat) (gr : Option Nat) (str : RowV) (xc xs xi : Value), j ≤ rds.length ∧ a = .int .i64 (at' : Int) ∧ i = .int .i64 (j : Int) ∧ at' ≤ s.size ∧ Step R g w gr wr ∧ Stands wr R gr str xc xs xi ∧ str.cells.length + csum (L.drop j) ≤ st.cells.length + csum L ∧
      chainC L (bytesOf s) st = (match chainC (L.drop j) ((bytesOf s).drop at') str with | none => none | some (m, st2) => some (at' + m, st2))) (fun _ i _ => rds.length - (intOf i).toNat)
  case atStart =>
    refine ⟨0, 0, g, st, vc, vs, vi, Nat.zero_le _, rfl, rfl, Nat.zero_le _, Step.refl _ _ _, HST.out, Nat.le_refl _, ?_⟩
    rw [List.drop_zero, List.drop_zero]
    cases chainC L (bytesOf s) st with
    | none => rfl
    | some q => simp
  case round =>
    obtain ⟨j, at', gr, str, xc, xs, xi, hj, rfl, rfl, hat, hstep, hstr, hcnt, hch⟩ := hrel
    have HCH := hid hch
    have HSTEP := hid hstep
    have HSTR := hid hstr
    clear hch hstep hstr
    by_cases hlt : j < rds.length
    · have hlt' : (j : Int) < (rds.length : Int) := by omega
      have hltL : j < L.length := by omega
      obtain ⟨rfl, hbR, hbg⟩ := hao (by intro h; rw [h] at hlt; simp at hlt)
      have hcj : wr.cell? ⟨b, off + j, none⟩ = some rds[j] := by
        have h0 := HC.out j hlt
        rw [World.cell?_of_block (HSTEP.out.block b (World.block_lt_of_cell? w _ h0) hbR hbg)]
        exact h0
      obtain ⟨k, caps, hrd, hen, hC⟩ := HR.out j hlt hltL
      rw [hrd] at hcj
      have hcd := csum_drop hltL
      have hch := HCH.out
      rw [chainP_take hltL] at hch
      have hex : (s.extract at' s.size).size ≤ 4611686018427387904 := by rw [← bytesOf_len, bytesOf_extract _ _ hat, List.length_drop, bytesOf_len]; omega
      have hcall := hC (s.extract at' s.size) str gr wr xc xs xi hex HSTEP.out HSTR.out (by omega)
      rw [bytesOf_extract _ _ hat] at hcall
      unfold ReadPost at hcall
      obtain ⟨f, hf⟩ : ∃ f, f = L[j].1 := ⟨_, rfl⟩
      obtain ⟨cc, hcc⟩ : ∃ cc, cc = L[j].2 := ⟨_, rfl⟩
      rw [← hf, ← hcc] at hcall
      rw [← hf] at hch
      rw [← hcc] at hcd
      obtain ⟨D, hD⟩ : ∃ D, D = (bytesOf s).drop at' := ⟨_, rfl⟩
      have hDl : D.length = s.size - at' := by rw [hD, List.length_drop, bytesOf_len]
      rw [← hD] at hcall hch
      have HD := hid hD
      have HCH2 := hid hch
      have hen' : ∀ (args : Array Value) (w : World), (callFunc k args).run Try.prog w = .ok (.enter k args) w := hen
      have hat' : (at' : Int) ≤ (s.size : Int) := by omega
      clear hC hrd hf hcc hD hch HCH hex hen
      go_wp2_with fail
      refine hcall.mono ?_
      clear hcall
      rintro e w2 ⟨g2, st2, yc, ys, yi, hstep2, hst2, hcn2, hres⟩
      have HS2 := hid (HSTEP.out.trans hstep2)
      have HST2 := hid hst2
      clear hstep2 hst2 HSTEP HSTR hcj
      rcases hres with ⟨hf, rfl⟩ | ⟨n, hf, hn, rfl⟩
      · have HF : Hid (chainC L (bytesOf s) st = none) := by unfold Hid; rw [HCH2.out, hf]
        clear hf HCH2
        go_wp2
        go_ret2
        unfold ReadPost
        exact ⟨g2, st2, yc, ys, yi, HS2.out, HST2.out, by omega, Or.inl ⟨HF.out, rfl⟩⟩
      · have hcl := HCH2.out
        rw [hf] at hcl
        simp only at hcl
        have HCL := hid hcl
        have hnn : n ≤ s.size - at' := by omega
        clear hf HCH2 hcl
        go_wp2
        go_roundw
        case rel =>
          refine ⟨j + 1, at' + n, g2, st2, yc, ys, yi, by omega, by go_num, by go_num, by omega, HS2.out, HST2.out, by omega, ?_⟩
          rw [HCL.out, HD.out, List.drop_drop]
          cases chainC (L.drop (j + 1)) ((bytesOf s).drop (at' + n)) st2 with
          | none => rfl
          | some q =>
            simp only
            rw [Nat.add_assoc]
        case measure => simp [intOf]; omega
    · have hlt' : ¬ (j : Int) < (rds.length : Int) := by omega
      have hd : L.drop j = [] := List.drop_eq_nil_of_le (by omega)
      have hch := HCH.out
      rw [hd] at hch hcnt
      have HF : Hid (chainC L (bytesOf s) st = some (at', str)) := by
        unfold Hid
        rw [hch]
        simp [chainC, chainP]
      clear hch HCH hd
      simp only [csum] at hcnt
      go_wp2
      go_ret2
      unfold ReadPost
      exact ⟨gr, str, xc, xs, xi, HSTEP.out, HSTR.out, by omega, Or.inr ⟨at', HF.out, by rw [HL.out]; exact hat, rfl⟩⟩
end Go.Proofs.Ytkbceaofijngoaa
