/-
  The law PortPlays: its calls, of what the law keeps.
-/
import Derived.Test.YtahibklmcooanaaOPlayA
import Derived.Test.YtahibklmcooanaaOFrame
import Derived.Test.YtahibklmcooanaaOCopy
namespace Go.Proofs.Ytahibklmcooanaa
open Go.RowKit
set_option linter.unusedVariables false
set_option linter.unusedSimpArgs false

theorem neqP_some (a : Addr) (w : World) : (binOp .neq 23 (.pointer (some a)) (.pointer none)).run Try.prog w = .ok (.bool true) w := by
  have h : ∀ d : Nat, (Op.equalIn (d + 1) 23 (.pointer (some a)) (.pointer none)).run Try.prog w = .ok false w := fun d => by
    simp [Op.equalIn, run_underlying Try.underlying23]
  simp only [binOp]
  simp [Op.equal, Op.maxDepth, h 9999]

/-- How many messages wait. -/
def lenV (n : Nat) (m : Nat → List Msg) (c : Int) : Int := if usr n c = true then ((m c.toNat).length : Int) else 0
theorem len_all {w : World} {p bx : Nat} {room : Int} {ql : List (Nat × Nat)} {v : Nat → Rg} {m : Nat → List Msg} (h : PoAt w p bx room ql v m) (c : Int) :
    Calls Try.prog 13 #[.pointer (some ⟨p, 0, none⟩), .int .i64 c] w fun e w' => e = .returned (.int .i64 (lenV ql.length m c)) ∧ w' = w := by
  obtain ⟨c0, c1⟩ := h.cells
  by_cases hu : usr ql.length c = true
  · obtain ⟨i, hi, rfl⟩ := usr_iff.1 hu
    unfold lenV
    rw [if_pos hu, Int.toNat_natCast]
    exact len_yes p bx room ql v m i hi w h
  · have hf : usr ql.length c = false := by simpa using hu
    unfold lenV
    rw [if_neg hu]
    refine len_no _ c w ?_
    have := isUser_yes p ql.length _ _ c w c0 c1
    rw [hf] at this
    exact this
theorem rlen_all {w : World} {room : Int} {v : Value} {n : Nat} {F : Nat → Prop} {d : Nat → List Msg} (h : LSees F w v n d) (c : Int) :
    Calls Try.prog 14 #[.agg #[.int .i64 room, v], .int .i64 c] w fun e w' => e = .returned (.int .i64 (lenV n d c)) ∧ Below w.heap.size w w' := by
  by_cases hu : usr n c = true
  · obtain ⟨i, hi, rfl⟩ := usr_iff.1 hu
    unfold lenV
    rw [if_pos hu, Int.toNat_natCast]
    exact rlen_yes room v n i hi F d w h
  · have hf : usr n c = false := by simpa using hu
    unfold lenV
    rw [if_neg hu]
    exact rlen_no room v n c F d w h hf
theorem lsees_shape {w : World} {v : Value} {n : Nat} {F : Nat → Prop} {d : Nat → List Msg} (h : LSees F w v n d) : ∃ b o c, v = .slice (some ⟨b, o, none⟩) n c := by
  obtain ⟨b, o, c, hv, _⟩ := h
  exact ⟨b, o, c, hv⟩

/-- A call of the script on both sides. -/
theorem does_PE {G : Nat → Prop} {w0 X : World} {p n b9 b12 : Nat} {room : Int} {cv : Value} {bx : Nat} {ql : List (Nat × Nat)} {v : Nat → Rg} {m : Nat → List Msg} {vL vB : Value} (h : PE G w0 X p n b9 b12 room cv bx ql v m vL vB) (o : OpL) (hsu : o.su w0) :
    Calls Try.prog 11 #[.pointer (some ⟨p, 0, none⟩), .agg #[.int .i64 room, vL], .agg #[.int .i64 o.kind, .int .i64 o.to, .int .i64 o.who, o.vs, o.vi, o.vo, .string o.text, .bool o.op]] X fun e w' => ∃ vb vf vc, e = .returned (.tuple #[.agg #[.int .i64 room, .slice (some ⟨vb, vf, none⟩) n vc], .bool true]) ∧ (∃ v' m', PE G w0 w' p n b9 b12 room cv bx ql v' m' (.slice (some ⟨vb, vf, none⟩) n vc) vB) ∧ X.heap.size ≤ w'.heap.size ∧ ∀ (k : Nat) (c : Array Value) (mk : Nat × Nat), X.heap[k]? = some (.cells c 29 mk) → w'.heap[k]? = X.heap[k]? := by
  have hs : ∀ Y, Gr (mine ql v) X Y → o.su Y := fun Y hG => by
    have hb : Below w0.heap.size w0 Y := h.bel.trans (hG.below (fun k hk => h.new k (Or.inr (Or.inr (Or.inr hk)))) h.bel.size)
    exact SuAt.below hsu hb
  have hls := h.ls
  rw [← h.len] at hls
  refine (does_any G p bx room ql v m vL o X h.po hls (fun k hk => (h.gt k hk).1) hs).mono ?_
  rintro e w' ⟨vL', rfl, hD⟩
  have hD' := hD
  obtain ⟨v', m', hE⟩ := h.does hD
  obtain ⟨vb, vf, vc, rfl⟩ := lsees_shape hE.ls
  obtain ⟨v2, m2, _, _, hG, _⟩ := hD'
  exact ⟨vb, vf, vc, rfl, ⟨v', m', hE⟩, hG.size, fun k c mk hk => hG.block k (Array.getElem?_eq_some_iff.1 hk).1 (fun hm => h.po.its_not hk (Or.inr (Or.inr (Or.inr hm))))⟩

/-- What the law keeps from round to round. -/
def PSt (w0 w : World) (p n b9 b12 : Nat) (room : Int) (cv : Value) : Prop :=
  ∃ bx ql v m vb vf vc, PE (fun k => k = b9 ∨ k = b12) w0 w p n b9 b12 room cv bx ql v m (.slice (some ⟨vb, vf, none⟩) n vc) (.slice (some ⟨vb, vf, none⟩) n vc)
theorem PE.cells {G : Nat → Prop} {w0 w : World} {p n b9 b12 : Nat} {room : Int} {cv : Value} {bx : Nat} {ql : List (Nat × Nat)} {v : Nat → Rg} {m : Nat → List Msg} {vL vB : Value} (h : PE G w0 w p n b9 b12 room cv bx ql v m vL vB) : w.cell? ⟨b9, 0, none⟩ = some (.int .i64 room) ∧ w.cell? ⟨b9, 1, none⟩ = some vB ∧ w.frozen? ⟨b9, 0, none⟩ = false ∧ w.frozen? ⟨b9, 1, none⟩ = false := by
  have := h.box
  refine ⟨?_, ?_, ?_, ?_⟩ <;> simp [World.cell?, World.frozen?, this]
/-- The cells of a call of the script. -/
def OpC (X : World) (b off : Nat) (o : OpL) : Prop :=
  X.cell? ⟨b, off, none⟩ = some (.int .i64 o.kind) ∧ X.cell? ⟨b, off + 1, none⟩ = some (.int .i64 o.to) ∧ X.cell? ⟨b, off + 2, none⟩ = some (.int .i64 o.who) ∧ X.cell? ⟨b, off + 3, none⟩ = some o.vs ∧ X.cell? ⟨b, off + 4, none⟩ = some o.vi ∧ X.cell? ⟨b, off + 5, none⟩ = some o.vo ∧ X.cell? ⟨b, off + 6, none⟩ = some (.string o.text) ∧ X.cell? ⟨b, off + 7, none⟩ = some (.bool o.op)
theorem OpC.of {w : World} {b off : Nat} {l : List OpL} (h : ∀ j, (h : j < l.length) → ∀ q, q < 8 → w.cell? ⟨b, off + j * 8 + q, none⟩ = l[j].row[q]?) (k : Nat) (hk : k < l.length) : OpC w b (off + k * 8) l[k] := by
  have h' := h k hk
  refine ⟨h' 0 (by omega), h' 1 (by omega), h' 2 (by omega), h' 3 (by omega), h' 4 (by omega), h' 5 (by omega), h' 6 (by omega), h' 7 (by omega)⟩
theorem OpC.bel {w0 X : World} {b off : Nat} {o : OpL} (h : OpC w0 b off o) (hb : Below w0.heap.size w0 X) : OpC X b off o := by
  have hl : b < w0.heap.size := World.block_lt_of_cell? w0 _ h.1
  obtain ⟨h0, h1, h2, h3, h4, h5, h6, h7⟩ := h
  exact ⟨(hb.cell (p := ⟨b, _, none⟩) hl).trans h0, (hb.cell (p := ⟨b, _, none⟩) hl).trans h1, (hb.cell (p := ⟨b, _, none⟩) hl).trans h2, (hb.cell (p := ⟨b, _, none⟩) hl).trans h3, (hb.cell (p := ⟨b, _, none⟩) hl).trans h4, (hb.cell (p := ⟨b, _, none⟩) hl).trans h5, (hb.cell (p := ⟨b, _, none⟩) hl).trans h6, (hb.cell (p := ⟨b, _, none⟩) hl).trans h7⟩
theorem PSt.below {w0 w X : World} {p n b9 b12 : Nat} {room : Int} {cv : Value} (h : PSt w0 w p n b9 b12 room cv) (hb : Below w.heap.size w X) : PSt w0 X p n b9 b12 room cv := by
  obtain ⟨bx, ql, v, m, vb, vf, vc, h⟩ := h
  exact ⟨bx, ql, v, m, vb, vf, vc, h.below hb⟩
end Go.Proofs.Ytahibklmcooanaa
