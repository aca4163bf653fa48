/-
  The law PortPlays: where no mailboxes are made; what the law keeps.
-/
import Derived.Test.YtahibklmcooanaaODoesA
import Derived.Test.YtahibklmcooanaaONob
namespace Go.Proofs.Ytahibklmcooanaa
open Go.RowKit
set_option linter.unusedVariables false
set_option linter.unusedSimpArgs false

set_option maxRecDepth 20000 in
set_option maxHeartbeats 4000000 in
theorem plays_bad (users room : Int) (vo : Value) (w : World) (h : users < 1 ∨ 16 < users ∨ room < 1 ∨ 64 < room) :
    Calls Try.prog 3 #[.int .i64 users, .int .i64 room, vo] w fun e w' => e = .returned (.bool true) ∧ Below w.heap.size w w' := by
  have hN := hid (new_bad users room w h)
  have hR := hid (rnew_bad users room w h)
  unfold poV at hR
  have hPN := neqP_nil
  have hPE : ∀ w : World, (binOp .eql 23 (.pointer none) (.pointer none)).run Try.prog w = .ok (.bool true) w := fun w => by
    have h : ∀ d : Nat, (Op.equalIn (d + 1) 23 (.pointer none) (.pointer none)).run Try.prog w = .ok true w := fun d => by
      simp [Op.equalIn, run_underlying Try.underlying23]
    simp only [binOp]
    simp [Op.equal, Op.maxDepth, h 9999]
  clear h
  go_enter Try.func3, Try.ntmps3
  go_wp2_with fail
  refine hN.out.mono ?_
  clear hN
  rintro e w1 ⟨rfl, hw1⟩
  subst hw1
  go_wp2_with fail
  refine hR.out.mono ?_
  clear hR
  rintro e w2 ⟨rfl, hB2⟩
  have hb := below_alloc w2 (.cells #[.int .i64 0, .slice none 0 0] 29)
  have HB := hid (hB2.trans (hb.mono hB2.size))
  clear hB2 hb
  go_wp2_with fail
  refine (awake_any _).mono ?_
  rintro e w3 ⟨rfl, hB3⟩
  have HB3 := hid (HB.out.trans (hB3.mono HB.out.size))
  clear hB3
  go_wp2
  go_ret
  exact ⟨rfl, HB3.out⟩

/-- A block of the law's own boxes is none of the mailboxes'. -/
theorem PoAt.its_not {w : World} {p bx : Nat} {room : Int} {ql : List (Nat × Nat)} {v : Nat → Rg} {m : Nat → List Msg} (h : PoAt w p bx room ql v m) {k : Nat} {c : Array Value} {mk : Nat × Nat} (hk : w.heap[k]? = some (.cells c 29 mk)) : ¬ its p bx ql v k := by
  intro hi
  rcases hi with rfl | rfl | ⟨i, hi, rfl⟩ | hm
  · have := h.lies
    rw [hk] at this
    simp at this
  · obtain ⟨cur, hc⟩ := ownsRow_ty h.row rfl
    rw [hk] at hc
    simp at hc
  · have := h.lab i hi
    rw [hk] at this
    simp at this
  · obtain ⟨c', t', ht, h3⟩ := h.mine_ty hm
    rw [hk] at ht
    simp at ht
    rcases h3 with h3 | h3 <;> rw [h3] at ht <;> exact absurd ht.2.1 (by decide)

/-- The copy, and the document's value that goes with it. -/
def CpAt (G : Nat → Prop) (w : World) (ql : List (Nat × Nat)) (v : Nat → Rg) (room : Int) (n b12 : Nat) (cv : Value) : Prop :=
  (cv = .pointer none ∧ ∃ r0 vO, w.heap[b12]? = some (.cells #[.int .i64 r0, vO] 29 (0, 0))) ∨
  ∃ pc bc qc vc mc vO, cv = .pointer (some ⟨pc, 0, none⟩) ∧ qc.length = n ∧ PoAt w pc bc room qc vc mc ∧ (∀ k, its pc bc qc vc k → ¬ mine ql v k) ∧ w.heap[b12]? = some (.cells #[.int .i64 room, vO] 29 (0, 0)) ∧ LSees (fun k => mine ql v k ∨ G k) w vO n mc
theorem CpAt.box {G : Nat → Prop} {w : World} {ql : List (Nat × Nat)} {v : Nat → Rg} {room : Int} {n b12 : Nat} {cv : Value} (h : CpAt G w ql v room n b12 cv) : ∃ r0 vO, w.heap[b12]? = some (.cells #[.int .i64 r0, vO] 29 (0, 0)) := by
  rcases h with ⟨_, h⟩ | ⟨pc, bc, qc, vc, mc, vO, _, _, _, _, hb, _⟩
  · exact h
  · exact ⟨_, _, hb⟩
/-- A call on the mailboxes keeps the copy. -/
theorem CpAt.turn {G : Nat → Prop} {w w' : World} {p bx : Nat} {room : Int} {ql : List (Nat × Nat)} {v v' : Nat → Rg} {m : Nat → List Msg} {n b12 : Nat} {cv : Value} (h : CpAt G w ql v room n b12 cv) (hP : PoAt w p bx room ql v m) (hG : Gr (mine ql v) w w') (hM : ∀ k, mine ql v' k → mine ql v k ∨ w.heap.size ≤ k) : CpAt G w' ql v' room n b12 cv := by
  have typed : ∀ (k : Nat) (c : Array Value) (mk : Nat × Nat), w.heap[k]? = some (.cells c 29 mk) → w'.heap[k]? = w.heap[k]? := fun k c mk hk =>
    hG.block k (Array.getElem?_eq_some_iff.1 hk).1 (fun hm => hP.its_not hk (Or.inr (Or.inr (Or.inr hm))))
  rcases h with ⟨rfl, r0, vO, hb⟩ | ⟨pc, bc, qc, vc, mc, vO, rfl, hn, hc, ha, hb, hL⟩
  · exact Or.inl ⟨rfl, r0, vO, (typed _ _ _ hb).trans hb⟩
  · refine Or.inr ⟨pc, bc, qc, vc, mc, vO, rfl, hn, hc.gr fun k hk => hG.block k (hc.lt k hk) (ha k hk), fun k hk hm => ?_, (typed _ _ _ hb).trans hb, LSees.turn (p := p) (bx := bx) (room := room) hL hG hM⟩
    rcases hM k hm with h | h
    · exact ha k hk h
    · have := hc.lt k hk
      omega
/-- Old memory stays but for the law's own boxes. -/
theorem CpAt.keep {G G' : Nat → Prop} {w w' : World} {room : Int} {ql : List (Nat × Nat)} {v : Nat → Rg} {n b12 : Nat} {cv : Value} (h : CpAt G w ql v room n b12 cv) (hk : ∀ k, k < w.heap.size → ¬ G k → w'.heap[k]? = w.heap[k]?) (h12 : w'.heap[b12]? = w.heap[b12]?) (hT : ∀ k, G k → k < w.heap.size → ∃ c mk, w.heap[k]? = some (.cells c 29 mk)) (hGG : ∀ k, k < w.heap.size → G' k → G k) : CpAt G' w' ql v room n b12 cv := by
  rcases h with ⟨rfl, r0, vO, hb⟩ | ⟨pc, bc, qc, vc, mc, vO, rfl, hn, hc, ha, hb, hL⟩
  · exact Or.inl ⟨rfl, r0, vO, h12.trans hb⟩
  · refine Or.inr ⟨pc, bc, qc, vc, mc, vO, rfl, hn, hc.gr fun k hi => hk k (hc.lt k hi) (fun hg => ?_), ha, h12.trans hb, hL.keep fun k hl hf => ⟨hk k hl (fun hg => hf (Or.inr hg)), fun hg => hf (hg.elim Or.inl (fun hg => Or.inr (hGG k hl hg)))⟩⟩
    obtain ⟨c, mk, hc'⟩ := hT k hg (hc.lt k hi)
    exact hc.its_not hc' hi

/-- What the law keeps; vB is what its first box holds. -/
structure PE (G : Nat → Prop) (w0 w : World) (p n b9 b12 : Nat) (room : Int) (cv : Value) (bx : Nat) (ql : List (Nat × Nat)) (v : Nat → Rg) (m : Nat → List Msg) (vL vB : Value) : Prop where
  len : ql.length = n
  po : PoAt w p bx room ql v m
  bel : Below w0.heap.size w0 w
  new : ∀ k, its p bx ql v k → w0.heap.size ≤ k
  box : w.heap[b9]? = some (.cells #[.int .i64 room, vB] 29 (0, 0))
  ls : LSees (fun k => mine ql v k ∨ G k) w vL n m
  cp : CpAt G w ql v room n b12 cv
  g9 : G b9
  g12 : G b12
  gt : ∀ k, G k → k < w.heap.size ∧ w0.heap.size ≤ k ∧ ∃ c mk, w.heap[k]? = some (.cells c 29 mk)
  ne : b9 ≠ b12
section
variable {G G' : Nat → Prop} {w0 w w' : World} {p n b9 b12 : Nat} {room : Int} {cv : Value} {bx : Nat} {ql : List (Nat × Nat)} {v : Nat → Rg} {m : Nat → List Msg} {vL vB vL' : Value}
theorem PE.below (h : PE G w0 w p n b9 b12 room cv bx ql v m vL vB) (hb : Below w.heap.size w w') : PE G w0 w' p n b9 b12 room cv bx ql v m vL vB := by
  have l9 := (Array.getElem?_eq_some_iff.1 h.box).1
  refine ⟨h.len, h.po.below hb, h.bel.trans (hb.mono h.bel.size), h.new, (hb.block b9 l9).trans h.box, h.ls.below hb, ?_, h.g9, h.g12, fun k hk => ?_, h.ne⟩
  · exact h.cp.keep (fun k hk _ => hb.block k hk) (hb.block _ (h.gt _ h.g12).1) (fun k hk _ => (h.gt k hk).2.2) (fun k _ hk => hk)
  · obtain ⟨a, b, c, mk, hc⟩ := h.gt k hk
    exact ⟨by have := hb.size; omega, b, c, mk, (hb.block k a).trans hc⟩
/-- One more box. -/
theorem PE.wide (h : PE G w0 w p n b9 b12 room cv bx ql v m vL vB) {c : Array Value} : PE (fun k => G k ∨ k = w.heap.size) w0 (w.alloc (.cells c 29)) p n b9 b12 room cv bx ql v m vL vB := by
  have hb := below_alloc w (.cells c 29)
  have h' := h.below hb
  have hz := h.bel.size
  refine ⟨h'.len, h'.po, h'.bel, h'.new, h'.box, h.ls.keep fun k hk hf => ⟨hb.block k hk, fun hg => ?_⟩, h.cp.keep (fun k hk _ => hb.block k hk) (hb.block _ (h.gt _ h.g12).1) (fun k hk _ => (h.gt k hk).2.2) (fun k hk hg => ?_), Or.inl h'.g9, Or.inl h'.g12, fun k hk => ?_, h.ne⟩
  · rcases hg with hg | hg | hg
    · exact hf (Or.inl hg)
    · exact hf (Or.inr hg)
    · omega
  · rcases hg with hg | hg
    · exact hg
    · omega
  · rcases hk with hk | rfl
    · exact h'.gt k hk
    · exact ⟨by simp, hz, _, _, heap_alloc_new w _⟩
/-- Fewer boxes. -/
theorem PE.less (h : PE G w0 w p n b9 b12 room cv bx ql v m vL vB) (hs : ∀ k, G' k → G k) (h9 : G' b9) (h12 : G' b12) : PE G' w0 w p n b9 b12 room cv bx ql v m vL vB :=
  ⟨h.len, h.po, h.bel, h.new, h.box, h.ls.keep fun k hk hf => ⟨rfl, fun hg => hf (hg.elim Or.inl (fun hg => Or.inr (hs k hg)))⟩, h.cp.keep (fun _ _ _ => rfl) rfl (fun k hk _ => (h.gt k hk).2.2) (fun k _ hg => hs k hg), h9, h12, fun k hk => h.gt k (hs k hk), h.ne⟩
/-- A call on both sides. -/
theorem PE.does (h : PE G w0 w p n b9 b12 room cv bx ql v m vL vB) (hD : DoesR G w w' p bx room ql v vL') : ∃ v' m', PE G w0 w' p n b9 b12 room cv bx ql v' m' vL' vB := by
  obtain ⟨v', m', h1, h2, h3, h4⟩ := hD
  have hbw : Below w0.heap.size w w' := h3.below (fun k hk => h.new k (Or.inr (Or.inr (Or.inr hk)))) h.bel.size
  have typed : ∀ (k : Nat) (c : Array Value) (mk : Nat × Nat), w.heap[k]? = some (.cells c 29 mk) → w'.heap[k]? = w.heap[k]? := fun k c mk hk =>
    h3.block k (Array.getElem?_eq_some_iff.1 hk).1 (fun hm => h.po.its_not hk (Or.inr (Or.inr (Or.inr hm))))
  refine ⟨v', m', h.len, h1, h.bel.trans hbw, its_turn h.new h.bel.size h4, (typed _ _ _ h.box).trans h.box, by rw [← h.len]; exact h2, CpAt.turn h.cp h.po h3 h4, h.g9, h.g12, fun k hk => ?_, h.ne⟩
  obtain ⟨a, b, c, mk, hc⟩ := h.gt k hk
  exact ⟨by have := h3.size; omega, b, c, mk, (typed _ _ _ hc).trans hc⟩
/-- A store into one of the boxes but the copy's. -/
theorem PE.put (h : PE G w0 w p n b9 b12 room cv bx ql v m vL vB) (g : Nat) (hg : G g) (hg12 : g ≠ b12) {r0 vO : Value} (hc : w.heap[g]? = some (.cells #[r0, vO] 29 (0, 0))) (x y : Value) (vB' : Value) (hB : (g = b9 ∧ x = .int .i64 room ∧ vB' = y) ∨ (g ≠ b9 ∧ vB' = vB)) :
    PE G w0 ((w.setCell ⟨g, 0, none⟩ x).setCell ⟨g, 1, none⟩ y) p n b9 b12 room cv bx ql v m vL vB' ∧ ((w.setCell ⟨g, 0, none⟩ x).setCell ⟨g, 1, none⟩ y).heap[g]? = some (.cells #[x, y] 29 (0, 0)) := by
  obtain ⟨W, hW⟩ : ∃ W, W = (w.setCell ⟨g, 0, none⟩ x).setCell ⟨g, 1, none⟩ y := ⟨_, rfl⟩
  have hk : ∀ k, k ≠ g → W.heap[k]? = w.heap[k]? := fun k h => by
    rw [hW, heap_setCell_other _ ⟨g, 1, none⟩ k _ (by simpa using h), heap_setCell_other _ ⟨g, 0, none⟩ k _ (by simpa using h)]
  have hgg : W.heap[g]? = some (.cells #[x, y] 29 (0, 0)) := by
    rw [hW]
    have e1 := heap_setCell_same w g 0 _ _ x hc
    have e2 := heap_setCell_same (w.setCell ⟨g, 0, none⟩ x) g 1 _ _ y e1
    simpa using e2
  have hsz : W.heap.size = w.heap.size := by rw [hW]; simp
  have hni : ¬ its p bx ql v g := h.po.its_not hc
  rw [← hW]
  have l0 := (h.gt g hg).2.1
  refine ⟨⟨h.len, h.po.gr fun k hi => hk k (fun e => hni (e ▸ hi)), ⟨?_, ?_, ?_, ?_, fun k hl => ?_⟩, h.new, ?_, h.ls.keep fun k _ hf => ⟨hk k (fun e => hf (Or.inr (e ▸ hg))), hf⟩, h.cp.keep (fun k _ hn => hk k (fun e => hn (e ▸ hg))) (hk _ hg12.symm) (fun k hk _ => (h.gt k hk).2.2) (fun k _ hg => hg), h.g9, h.g12, fun k hk' => ?_, h.ne⟩, hgg⟩
  · rw [hW]; exact h.bel.os
  · rw [hW]; exact h.bel.tape
  · rw [hW]; exact h.bel.output
  · rw [hsz]; exact h.bel.size
  · rw [hk k (by omega)]; exact h.bel.block k hl
  · rcases hB with ⟨rfl, rfl, rfl⟩ | ⟨h9, rfl⟩
    · exact hgg
    · rw [hk _ (fun e => h9 e.symm)]; exact h.box
  · obtain ⟨a, b, c, mk, hc'⟩ := h.gt k hk'
    refine ⟨by omega, b, ?_⟩
    by_cases e : k = g
    · subst e; exact ⟨_, _, hgg⟩
    · exact ⟨c, mk, (hk k e).trans hc'⟩
/-- A copy of both. -/
theorem PE.copy (h : PE G w0 w p n b9 b12 room cv bx ql v m vL vB) {pc : Nat} {mc : Nat → List Msg} (hN : PoNew w w' pc room n mc) (hm : ∀ i, i < n → mc i = m i) :
    PE G w0 ((w'.setCell ⟨b12, 0, none⟩ (.int .i64 room)).setCell ⟨b12, 1, none⟩ vL) p n b9 b12 room (.pointer (some ⟨pc, 0, none⟩)) bx ql v m vL vB := by
  obtain ⟨bc, qc, vc, hlc, hPc, hb, hnw⟩ := hN
  have h' := h.below hb
  obtain ⟨r0, vO, hc⟩ := h'.cp.box
  obtain ⟨W, hW⟩ : ∃ W, W = (w'.setCell ⟨b12, 0, none⟩ (.int .i64 room)).setCell ⟨b12, 1, none⟩ vL := ⟨_, rfl⟩
  have hk : ∀ k, k ≠ b12 → W.heap[k]? = w'.heap[k]? := fun k h => by
    rw [hW, heap_setCell_other _ ⟨b12, 1, none⟩ k _ (by simpa using h), heap_setCell_other _ ⟨b12, 0, none⟩ k _ (by simpa using h)]
  have hgg : W.heap[b12]? = some (.cells #[.int .i64 room, vL] 29 (0, 0)) := by
    rw [hW]
    have e1 := heap_setCell_same w' b12 0 _ _ (.int .i64 room) hc
    have e2 := heap_setCell_same (w'.setCell ⟨b12, 0, none⟩ (.int .i64 room)) b12 1 _ _ vL e1
    simpa using e2
  have hsz : W.heap.size = w'.heap.size := by rw [hW]; simp
  have hni : ¬ its p bx ql v b12 := h'.po.its_not hc
  have hnc : ¬ its pc bc qc vc b12 := hPc.its_not hc
  rw [← hW]
  have l0 := (h'.gt b12 h'.g12).2.1
  have hls : LSees (fun k => mine ql v k ∨ G k) W vL n m := h'.ls.keep fun k _ hf => ⟨hk k (fun e => hf (Or.inr (e ▸ h'.g12))), hf⟩
  refine ⟨h.len, h'.po.gr fun k hi => hk k (fun e => hni (e ▸ hi)), ⟨?_, ?_, ?_, ?_, fun k hl => ?_⟩, h.new, ?_, hls, Or.inr ⟨pc, bc, qc, vc, mc, vL, rfl, hlc, hPc.gr fun k hi => hk k (fun e => hnc (e ▸ hi)), fun k hi hm => ?_, hgg, hls.ext fun i hi => (hm i hi).symm⟩, h.g9, h.g12, fun k hk' => ?_, h.ne⟩
  · rw [hW]; exact h'.bel.os
  · rw [hW]; exact h'.bel.tape
  · rw [hW]; exact h'.bel.output
  · rw [hsz]; exact h'.bel.size
  · rw [hk k (by omega)]; exact h'.bel.block k hl
  · rw [hk _ h.ne]; exact h'.box
  · have := hnw k hi
    have := h.po.lt k (Or.inr (Or.inr (Or.inr hm)))
    omega
  · obtain ⟨a, b, c, mk, hc'⟩ := h'.gt k hk'
    refine ⟨by omega, b, ?_⟩
    by_cases e : k = b12
    · subst e; exact ⟨_, _, hgg⟩
    · exact ⟨c, mk, (hk k e).trans hc'⟩
end
end Go.Proofs.Ytahibklmcooanaa
