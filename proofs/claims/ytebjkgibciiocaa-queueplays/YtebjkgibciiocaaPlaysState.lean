/-
  QueuePlays: what stands between two calls of the script: the queue, the list beside it, the copy and the list that stood when it was made; nothing of them is shared.
-/
import Derived.Test.YtebjkgibciiocaaAwake
namespace Go.Proofs.Ytebjkgibciiocaa
open Go.RowKit
set_option linter.unusedVariables false

/-- The slice v reads xs, in another block than p and ob. -/
def SeesA (w : World) (p : Nat) (ob : Option Nat) (v : Value) (xs : List Int) : Prop :=
  ∃ b off ao cap, v = .slice ao xs.length cap ∧ xs.length ≤ cap ∧ (ao = none → cap = 0) ∧ (xs ≠ [] → ao = some ⟨b, off, none⟩ ∧ b ≠ p ∧ some b ≠ ob) ∧ ∀ j, j < xs.length → w.cell? ⟨b, off + j, none⟩ = some (.int .i64 (xs.getD j 0))

theorem SeesA.sees {w : World} {p : Nat} {ob : Option Nat} {v : Value} {xs : List Int} (h : SeesA w p ob v xs) : Sees w v xs := by
  obtain ⟨b, off, ao, cap, hv, hc, hn, ha, hcell⟩ := h
  exact ⟨b, off, ao, cap, hv, hc, hn, fun h => (ha h).1, hcell⟩

theorem SeesA.below {w w' : World} {p : Nat} {ob : Option Nat} {v : Value} {xs : List Int} (h : SeesA w p ob v xs) (hb : Below w.heap.size w w') : SeesA w' p ob v xs := by
  obtain ⟨b, off, ao, cap, hv, hc, hn, ha, hcell⟩ := h
  exact ⟨b, off, ao, cap, hv, hc, hn, ha, fun j hj => (hb.cell (World.block_lt_of_cell? w _ (hcell j hj))).trans (hcell j hj)⟩

theorem SeesA.turn {w w' : World} {p : Nat} {ob ob' : Option Nat} {v : Value} {xs : List Int} (h : SeesA w p ob v xs) (hT : Turned w w' p ob) (hF : ob' = ob ∨ ∀ j, ob' = some j → w.heap.size ≤ j) : SeesA w' p ob' v xs := by
  obtain ⟨b, off, ao, cap, hv, hc, hn, ha, hcell⟩ := h
  refine ⟨b, off, ao, cap, hv, hc, hn, fun hne => ?_, fun j hj => ?_⟩
  · obtain ⟨h1, h2, h3⟩ := ha hne
    refine ⟨h1, h2, fun e => ?_⟩
    rcases hF with e' | e'
    · exact h3 (e.trans e')
    · have hl : 0 < xs.length := List.length_pos_iff.2 hne
      have h4 := World.block_lt_of_cell? w _ (hcell 0 hl)
      have h5 := e' b e.symm
      simp at h4
      omega
  · have hne : xs ≠ [] := by intro e; rw [e] at hj; simp at hj
    obtain ⟨h1, h2, h3⟩ := ha hne
    have h4 := World.block_lt_of_cell? w _ (hcell j hj)
    rw [World.cell?_of_block (w := w) (hT.block b h4 h2 h3)]
    exact hcell j hj

theorem SeesA.new {w w' : World} {p : Nat} {ob : Option Nat} {v : Value} {xs : List Int} (h : Owns w' w.heap.size v xs) (hp : p < w.heap.size) (ho : ∀ j, ob = some j → j < w.heap.size) : SeesA w' p ob v xs := by
  by_cases hl : 0 < xs.length
  · obtain ⟨g, c, rfl, hg, _, _, hc⟩ := owns_block h hl
    obtain ⟨b2, off2, ao2, cap2, hv2, hc2, _⟩ := h.sees
    cases hv2
    exact ⟨g, 0, _, _, rfl, hc2, (fun h => by cases h), fun _ => ⟨rfl, by omega, fun e => by have := ho g e.symm; omega⟩, fun j hj => by rw [Nat.zero_add]; exact hc j hj⟩
  · obtain ⟨b2, off2, ao2, cap2, hv2, hc2, hn2, _⟩ := h.sees
    have he : xs = [] := List.eq_nil_of_length_eq_zero (by omega)
    exact ⟨b2, off2, ao2, cap2, hv2, hc2, hn2, fun h => absurd he h, fun j hj => absurd hj (by omega)⟩

theorem keep_q {w w' : World} {p pc : Nat} {ob : Option Nat} {room drops : Int} {rv : Value} {f : Nat} {rs xs : List Int} (hQ : QAt w pc room drops rv f rs xs) (hT : Turned w w' p ob) (h1 : pc ≠ p) (h2 : some pc ≠ ob) (h3 : ∀ g, rv.ownBlock = some g → g ≠ p ∧ some g ≠ ob) : QAt w' pc room drops rv f rs xs := by
  refine ⟨?_, ?_, hQ.ring, hQ.rle, hQ.r1, hQ.r2⟩
  · unfold Lies
    rw [hT.block pc hQ.lies.lt h1 h2]
    exact hQ.lies
  · refine ⟨hQ.own.1, ?_⟩
    rcases hQ.own.2 with hn | ⟨g, cap, cur, rfl, hb, hg, rest⟩
    · exact Or.inl hn
    · obtain ⟨h4, h5⟩ := h3 g rfl
      refine Or.inr ⟨g, cap, cur, rfl, hb, ?_, rest⟩
      rw [hT.block g (Array.getElem?_eq_some_iff.1 hg).1 h4 h5]
      exact hg

/-- What stands beside the queue: no copy, or one, with the list and the count that stood then. -/
def CopyA (w : World) (p : Nat) (ob : Option Nat) (room : Int) (c old : Value) (was : Int) : Prop :=
  c = .pointer none ∨ ∃ pc rvc ys, c = .pointer (some ⟨pc, 0, none⟩) ∧ pc ≠ p ∧ some pc ≠ ob ∧ QAt w pc room was rvc 0 ys ys ∧ (∀ g, rvc.ownBlock = some g → g ≠ p ∧ some g ≠ ob) ∧ SeesA w p ob old ys

theorem CopyA.below {w w' : World} {p : Nat} {ob : Option Nat} {room : Int} {c old : Value} {was : Int} (h : CopyA w p ob room c old was) (hb : Below w.heap.size w w') : CopyA w' p ob room c old was := by
  rcases h with e | ⟨pc, rvc, ys, e, h1, h2, h3, h4, h5⟩
  · exact Or.inl e
  · exact Or.inr ⟨pc, rvc, ys, e, h1, h2, h3.below hb, h4, h5.below hb⟩

theorem CopyA.turn {w w' : World} {p : Nat} {ob ob' : Option Nat} {room : Int} {c old : Value} {was : Int} (h : CopyA w p ob room c old was) (hT : Turned w w' p ob) (hF : ob' = ob ∨ ∀ j, ob' = some j → w.heap.size ≤ j) : CopyA w' p ob' room c old was := by
  rcases h with e | ⟨pc, rvc, ys, e, h1, h2, h3, h4, h5⟩
  · exact Or.inl e
  · have hnew : ∀ k, k < w.heap.size → some k ≠ ob → some k ≠ ob' := fun k hk hk2 e' => by
      rcases hF with q | q
      · exact hk2 (e'.trans q)
      · have := q k e'.symm
        omega
    refine Or.inr ⟨pc, rvc, ys, e, h1, hnew pc h3.lies.lt h2, keep_q h3 hT h1 h2 h4, fun g hg => ?_, h5.turn hT hF⟩
    obtain ⟨q1, q2⟩ := h4 g hg
    exact ⟨q1, hnew g (h3.own.lt g hg).2 q2⟩

/-- All of it: the queue holds ys, the list l reads xs. -/
def PlayQ (w0 : World) (p : Nat) (room : Int) (l old c : Value) (drops was : Int) (xs ys : List Int) (w : World) : Prop :=
  ∃ rv f rs, QAt w p room drops rv f rs ys ∧ SeesA w p rv.ownBlock l xs ∧ CopyA w p rv.ownBlock room c old was ∧ Below w0.heap.size w0 w ∧ w0.heap.size ≤ p ∧ ∀ j, rv.ownBlock = some j → w0.heap.size ≤ j

theorem PlayQ.below {w0 w w' : World} {p : Nat} {room : Int} {l old c : Value} {drops was : Int} {xs ys : List Int} (h : PlayQ w0 p room l old c drops was xs ys w) (hb : Below w.heap.size w w') : PlayQ w0 p room l old c drops was xs ys w' := by
  obtain ⟨rv, f, rs, h1, h2, h3, h4, h5, h6⟩ := h
  exact ⟨rv, f, rs, h1.below hb, h2.below hb, h3.below hb, h4.trans (hb.mono h4.size), h5, h6⟩

theorem PlayQ.bel {w0 w : World} {p : Nat} {room : Int} {l old c : Value} {drops was : Int} {xs ys : List Int} (h : PlayQ w0 p room l old c drops was xs ys w) : Below w0.heap.size w0 w := by
  obtain ⟨rv, f, rs, h1, h2, h3, h4, h5, h6⟩ := h
  exact h4

theorem PlayQ.len {w0 w : World} {p : Nat} {room : Int} {l old c : Value} {drops was : Int} {xs ys : List Int} (h : PlayQ w0 p room l old c drops was xs ys w) : (ys.length : Int) ≤ room ∧ room ≤ 65536 := by
  obtain ⟨rv, f, rs, h1, h2, h3, h4, h5, h6⟩ := h
  have q1 := h1.ring.le
  have q2 := h1.rle
  exact ⟨by omega, h1.r2⟩

theorem PlayQ.sees {w0 w : World} {p : Nat} {room : Int} {l old c : Value} {drops was : Int} {xs ys : List Int} (h : PlayQ w0 p room l old c drops was xs ys w) : Sees w l xs := by
  obtain ⟨rv, f, rs, h1, h2, h3, h4, h5, h6⟩ := h
  exact h2.sees

theorem PlayQ.turn {w0 w w' : World} {p : Nat} {room : Int} {l old c : Value} {drops' was : Int} {rv rv' : Value} {f' : Nat} {rs' xs zs : List Int}
    (h2 : SeesA w p rv.ownBlock l xs) (h3 : CopyA w p rv.ownBlock room c old was) (h4 : Below w0.heap.size w0 w) (h5 : w0.heap.size ≤ p) (h6 : ∀ j, rv.ownBlock = some j → w0.heap.size ≤ j)
    (hQ : QAt w' p room drops' rv' f' rs' zs) (hT : Turned w w' p rv.ownBlock) (hF : rv'.ownBlock = rv.ownBlock ∨ ∀ j, rv'.ownBlock = some j → w.heap.size ≤ j) : PlayQ w0 p room l old c drops' was xs zs w' := by
  refine ⟨rv', f', rs', hQ, h2.turn hT hF, h3.turn hT hF, turned_below h4 hT h5 h6, h5, fun j hj => ?_⟩
  rcases hF with e | e
  · exact h6 j (by rw [← e]; exact hj)
  · exact Nat.le_trans h4.size (e j hj)

theorem PlayQ.list {w0 w w' : World} {p : Nat} {room : Int} {l l' old c : Value} {drops was : Int} {xs ys zs : List Int} (h : PlayQ w0 p room l old c drops was xs ys w) (hO : Owns w' w.heap.size l' zs) (hb : Below w.heap.size w w') : PlayQ w0 p room l' old c drops was zs ys w' := by
  obtain ⟨rv, f, rs, h1, h2, h3, h4, h5, h6⟩ := h
  exact ⟨rv, f, rs, h1.below hb, SeesA.new hO h1.lies.lt (fun j hj => (h1.own.lt j hj).2), h3.below hb, h4.trans (hb.mono h4.size), h5, h6⟩

theorem PlayQ.tail {w0 w : World} {p : Nat} {room : Int} {l l' old c : Value} {drops was x : Int} {xs ys : List Int} (h : PlayQ w0 p room l old c drops was (x :: xs) ys w)
    (hl : ∀ b off n cap, l = .slice (some ⟨b, off, none⟩) n cap → xs ≠ [] → l' = .slice (some ⟨b, off + 1, none⟩) (n - 1) (cap - 1)) (hs : ∃ ao cap, l' = .slice ao xs.length cap ∧ xs.length ≤ cap ∧ (ao = none → cap = 0)) : PlayQ w0 p room l' old c drops was xs ys w := by
  obtain ⟨rv, f, rs, h1, h2, h3, h4, h5, h6⟩ := h
  refine ⟨rv, f, rs, h1, ?_, h3, h4, h5, h6⟩
  obtain ⟨b, off, ao, cap, hv, hc, hn, ha, hcell⟩ := h2
  obtain ⟨ha1, ha2, ha3⟩ := ha (by simp)
  subst ha1
  obtain ⟨ao', cap', hs1, hs2, hs3⟩ := hs
  refine ⟨b, off + 1, ao', cap', hs1, hs2, hs3, fun hne => ⟨?_, ha2, ha3⟩, fun j hj => ?_⟩
  · have := hl b off _ cap hv hne
    rw [hs1] at this
    cases this
    rfl
  · have := hcell (j + 1) (by simpa using hj)
    rw [show off + 1 + j = off + (j + 1) by omega, this]
    simp [List.getD]

theorem push_P (w0 : World) (p : Nat) (room : Int) (l old c : Value) (drops was x : Int) (xs ys : List Int) (w : World) (h : PlayQ w0 p room l old c drops was xs ys w) (hlt : (ys.length : Int) < room) :
    Calls Try.prog 11 #[.pointer (some ⟨p, 0, none⟩), .int .i64 x] w fun e w' => e = .returned (.bool true) ∧ PlayQ w0 p room l old c drops was xs (ys ++ [x]) w' := by
  obtain ⟨rv, f, rs, h1, h2, h3, h4, h5, h6⟩ := h
  refine (push_put p room drops x rv f rs ys w h1 hlt).mono ?_
  rintro e w' ⟨rfl, rv', f', rs', hQ', hT, hF⟩
  exact ⟨rfl, PlayQ.turn h2 h3 h4 h5 h6 hQ' hT hF⟩

theorem full_P (w0 : World) (p : Nat) (room : Int) (l old c : Value) (drops was x : Int) (xs ys : List Int) (w : World) (h : PlayQ w0 p room l old c drops was xs ys w) (hfull : room ≤ (ys.length : Int)) (q0 : 0 ≤ drops) (q1 : drops < 4611686018427387904) :
    Calls Try.prog 11 #[.pointer (some ⟨p, 0, none⟩), .int .i64 x] w fun e w' => e = .returned (.bool false) ∧ PlayQ w0 p room l old c (drops + 1) was xs ys w' := by
  obtain ⟨rv, f, rs, h1, h2, h3, h4, h5, h6⟩ := h
  refine (push_full p room drops x rv f rs ys w h1 hfull q0 q1).mono ?_
  rintro e w' ⟨rfl, hQ', hT⟩
  exact ⟨rfl, PlayQ.turn h2 h3 h4 h5 h6 hQ' hT (Or.inl rfl)⟩

theorem pop_P (w0 : World) (p : Nat) (room : Int) (l old c : Value) (drops was x : Int) (xs ys : List Int) (w : World) (h : PlayQ w0 p room l old c drops was xs (x :: ys) w) :
    Calls Try.prog 10 #[.pointer (some ⟨p, 0, none⟩)] w fun e w' => e = .returned (.tuple #[.int .i64 x, .bool true]) ∧ PlayQ w0 p room l old c drops was xs ys w' := by
  obtain ⟨rv, f, rs, h1, h2, h3, h4, h5, h6⟩ := h
  refine (pop_some p room drops x rv f rs ys w h1).mono ?_
  rintro e w' ⟨rfl, rv', f', rs', hQ', hT, hF⟩
  exact ⟨rfl, PlayQ.turn h2 h3 h4 h5 h6 hQ' hT hF⟩

theorem popno_P (w0 : World) (p : Nat) (room : Int) (l old c : Value) (drops was : Int) (xs : List Int) (w : World) (h : PlayQ w0 p room l old c drops was xs [] w) :
    Calls Try.prog 10 #[.pointer (some ⟨p, 0, none⟩)] w fun e w' => e = .returned (.tuple #[.int .i64 0, .bool false]) ∧ w' = w := by
  obtain ⟨rv, f, rs, h1, h2, h3, h4, h5, h6⟩ := h
  exact pop_none p room drops rv f rs w h1

theorem len_P (w0 : World) (p : Nat) (room : Int) (l old c : Value) (drops was : Int) (xs ys : List Int) (w : World) (h : PlayQ w0 p room l old c drops was xs ys w) :
    Calls Try.prog 13 #[.pointer (some ⟨p, 0, none⟩)] w fun e w' => e = .returned (.int .i64 ys.length) ∧ w' = w := by
  obtain ⟨rv, f, rs, h1, h2, h3, h4, h5, h6⟩ := h
  exact len_any p room drops rv f rs ys w h1

theorem drops_P (w0 : World) (p : Nat) (room : Int) (l old c : Value) (drops was : Int) (xs ys : List Int) (w : World) (h : PlayQ w0 p room l old c drops was xs ys w) :
    Calls Try.prog 14 #[.pointer (some ⟨p, 0, none⟩)] w fun e w' => e = .returned (.int .i64 drops) ∧ w' = w := by
  obtain ⟨rv, f, rs, h1, h2, h3, h4, h5, h6⟩ := h
  exact drops_any p room drops rv f rs ys w h1

theorem items_P (w0 : World) (p : Nat) (room : Int) (l old c : Value) (drops was : Int) (xs ys : List Int) (w : World) (h : PlayQ w0 p room l old c drops was xs ys w) :
    Calls Try.prog 15 #[.pointer (some ⟨p, 0, none⟩)] w fun e w' => ∃ v', e = .returned v' ∧ Owns w' w.heap.size v' ys ∧ Below w.heap.size w w' := by
  obtain ⟨rv, f, rs, h1, h2, h3, h4, h5, h6⟩ := h
  exact items_any p room drops rv f rs ys w h1

theorem copy_P (w0 : World) (p : Nat) (room : Int) (l old c : Value) (drops was : Int) (ys : List Int) (w : World) (h : PlayQ w0 p room l old c drops was ys ys w) :
    Calls Try.prog 12 #[.pointer (some ⟨p, 0, none⟩)] w fun e w' => ∃ pc, e = .returned (.pointer (some ⟨pc, 0, none⟩)) ∧ PlayQ w0 p room l l (.pointer (some ⟨pc, 0, none⟩)) drops drops ys ys w' := by
  obtain ⟨rv, f, rs, h1, h2, h3, h4, h5, h6⟩ := h
  refine (copy_any p room drops rv f rs ys w h1).mono ?_
  rintro e w' ⟨pc, rvc, rfl, hpc, hQ', hN, hb⟩
  have hpl := h1.lies.lt
  have hol : ∀ j, rv.ownBlock = some j → j < w.heap.size := fun j hj => (h1.own.lt j hj).2
  refine ⟨pc, rfl, rv, f, rs, h1.below hb, h2.below hb, Or.inr ⟨pc, rvc, ys, rfl, by omega, fun e => by have := hol pc e.symm; omega, hQ', fun g hg => ?_, h2.below hb⟩, h4.trans (hb.mono h4.size), h5, h6⟩
  have := hN g hg
  exact ⟨by omega, fun e => by have := hol g e.symm; omega⟩

end Go.Proofs.Ytebjkgibciiocaa
