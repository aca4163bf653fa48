/-
  Put.
-/
import Derived.Test.YtkjmilcocnjjoaaTTreeI
import Derived.Deep.CutBlock
import Derived.Deep.DeepCutAuto
namespace Go.Proofs.Ytkjmilcocnjjoaa.I
open Go.RowKit Tm
set_option linter.unusedVariables false

theorem tree_set2 {w : World} {q t : Nat} {a b c e : Value} (u : Value) (h : w.heap[q]? = some (.cells #[a, b, c, e] t (0, 0))) : (w.setCell ⟨q, 2, none⟩ u).heap[q]? = some (.cells #[a, b, u, e] t (0, 0)) := by
  rw [setCell_eq_setRow w q 2 _ t (0, 0) u h, setRow_heap w q _ _ t _ h]; simp
theorem tree_set3 {w : World} {q t : Nat} {a b c e : Value} (u : Value) (h : w.heap[q]? = some (.cells #[a, b, c, e] t (0, 0))) : (w.setCell ⟨q, 3, none⟩ u).heap[q]? = some (.cells #[a, b, c, u] t (0, 0)) := by
  rw [setCell_eq_setRow w q 3 _ t (0, 0) u h, setRow_heap w q _ _ t _ h]; simp
theorem tree_cells {w : World} {q t : Nat} {a b c e : Value} (h : w.heap[q]? = some (.cells #[a, b, c, e] t (0, 0))) :
    w.cell? ⟨q, 0, none⟩ = some a ∧ w.cell? ⟨q, 1, none⟩ = some b ∧ w.cell? ⟨q, 2, none⟩ = some c ∧ w.cell? ⟨q, 3, none⟩ = some e ∧ ∀ j, w.frozen? ⟨q, j, none⟩ = false := by
  refine ⟨?_, ?_, ?_, ?_, fun j => ?_⟩ <;> simp [World.cell?, World.frozen?, h]

/-- A whole tree is turned. -/
structure TT (w w' : World) (q d d' : Nat) (t : LT d) (t' : LT d') : Prop where
  gr : Gr (fun b => 0 < cT q d t b) w w'
  old : ∀ b, b < w.heap.size → cT q d' t' b ≤ cT q d t b
theorem TT.trans {a b c : World} {q d e f : Nat} {t : LT d} {u : LT e} {v : LT f} (h : TT a b q d e t u) (k : TT b c q e f u v) : TT a c q d f t v :=
  ⟨h.gr.trans k.gr (fun x hx hp => by have := h.old x hx; omega), fun x hx => Nat.le_trans (k.old x (Nat.lt_of_lt_of_le hx h.gr.size)) (h.old x hx)⟩

theorem root_grow {w : World} {d : Nat} {t : LT d} (h : At w d t) (h1 : ∀ b, cnt b d t ≤ 1) (W : World) (hW : W = (w.alloc (.cells #[ptr (pT d t)] 59)).alloc (.cells #[.slice none 0 0, .slice (some ⟨w.heap.size, 0, none⟩) 1 1] 69)) :
    At W (d + 1) (nd (w.heap.size + 1) (.slice none 0 0) (.slice (some ⟨w.heap.size, 0, none⟩) 1 1) [] [t]) ∧ (∀ b, cnt b (d + 1) (nd (w.heap.size + 1) (.slice none 0 0) (.slice (some ⟨w.heap.size, 0, none⟩) 1 1) [] [t]) ≤ 1) ∧
    (∀ b, b < w.heap.size → cnt b (d + 1) (nd (w.heap.size + 1) (.slice none 0 0) (.slice (some ⟨w.heap.size, 0, none⟩) 1 1) [] [t]) = cnt b d t) ∧ Below w.heap.size w W := by
  have hb1 : Below w.heap.size w (w.alloc (.cells #[ptr (pT d t)] 59)) := (Below.refl _ w).alloc (Nat.le_refl _) _
  have hs1 : (w.alloc (.cells #[ptr (pT d t)] 59)).heap.size = w.heap.size + 1 := by simp
  have hb2 : Below w.heap.size w W := by rw [hW]; exact hb1.alloc hb1.size _
  have hc : ∀ b, cnt b (d + 1) (nd (w.heap.size + 1) (.slice none 0 0) (.slice (some ⟨w.heap.size, 0, none⟩) 1 1) [] [t]) = eqN (w.heap.size + 1) b + eqN w.heap.size b + cnt b d t := fun b => by
    rw [cnt_nd, rc_nil, rc_at]
    simp [eqN]
  refine ⟨at_nd.2 ⟨?_, World.ownsRow_nil _ _ _ _, ?_, fun k hk => ?_⟩, fun b => ?_, fun b hb => ?_, hb2⟩
  · rw [hW, ← hs1]; exact heap_alloc_new _ _
  · have := World.ownsRow_lit (e := 59) (size := 1) (base := 0) w #[ptr (pT d t)] 1 (Nat.zero_le _) (by decide) rfl
    rw [hW]
    exact this.alloc _
  · obtain rfl := List.mem_singleton.1 hk
    exact at_gr (F := fun _ => False) (Gr.of_below hb2 _) h (fun _ _ => id)
  · rw [hc]
    have := h1 b
    rcases Nat.lt_or_ge b w.heap.size with hb | hb
    · unfold eqN; rw [if_neg (by omega), if_neg (by omega)]; omega
    · rw [cnt_lt hb h]; unfold eqN; split <;> split <;> omega
  · rw [hc]; unfold eqN; rw [if_neg (by omega), if_neg (by omega)]; omega

set_option maxHeartbeats 4000000 in
set_option maxRecDepth 100000 in
theorem put_tree {w : World} {q o d : Nat} {t : LT d} {L : List It} (h : TrA w q o d t L) (ho : 2 ≤ o) (ho2 : o ≤ 64) (hL : L.length < 4611686018427387904) (k : ByteArray) (v : Int) :
    Calls Try.prog 17 #[ptr q, .string k, encI v] w fun e w' => e = .returned (.bool (!hasL keyLt k L)) ∧
      ∃ d' t', TrA w' q o d' t' (putL keyLt k v L) ∧ TT w w' q d d' t t' := by
  obtain ⟨c0, c1, c2, c3, cf⟩ := h.cells
  have hcnt1 : ∀ b, cnt b d t ≤ 1 := fun b => by have := h.one b; simp only [cT] at this; omega
  have hput := fun W (hW : Below w.heap.size w W) => put_any o ho ho2 k v d t W (min d 1) (h.below hW).lies hcnt1 h.ok (by rw [h.holds]; exact h.srt)
  rw [h.holds] at hput
  have HP := hid hput
  have HH := hid h
  have hq := heap_lt h.blk
  clear hput h
  -- the first statement: given, and put into the topmost node
  unfold ptr at *
  simp only [encI] at *
  go_enter Try.func17, Try.ntmps17
  go_wp2_with fail
  have HC3 := hid c3
  go_cut [23] (fun s wx => s = .bool (hasL keyLt k L) ∧ ∃ t', Hid (Turn w wx d d t t' ∧ pT d t' = pT d t ∧ flat d (er d t') = putL keyLt k v L ∧ okT (o - 1) (2 * o - 1) (min d 1) (2 * o) d (er d t') ∧ (hasL keyLt k L = true → (isT d t').length ≤ 2 * o - 1)))
  case first =>
    have hg := given_yes q w.drew c0
    have hp := HP.out w.drew (Below.drew (Below.refl _ w))
    have hqn : ¬ 0 < cnt q d t := fun e => by have := HH.out.one q; have := eqN_self q; simp only [cT] at *; omega
    have HQ : Hid (∀ wz, Gr (fun b => 0 < cnt b d t) w wz → wz.cell? ⟨q, 1, none⟩ = some (.int .i64 o) ∧ wz.cell? ⟨q, 3, none⟩ = some (.pointer (some ⟨pT d t, 0, none⟩))) := hid (fun wz hg => by
      have e := hg.block q hq hqn
      exact ⟨(World.cell?_of_block (a := ⟨q, 1, none⟩) e).trans c1, (World.cell?_of_block (a := ⟨q, 3, none⟩) e).trans c3⟩)
    clear hcnt1 cf c2 hqn
    go_region_held3 (fun W => W.cell? ⟨q, 1, none⟩ = some (.int .i64 o) ∧ W.cell? ⟨q, 3, none⟩ = some (.pointer (some ⟨pT d t, 0, none⟩)))
      (first | (exact ⟨c1, c3⟩) | (exact ⟨by assumption, by assumption⟩))
      (first
        | (go_at_call 30
           refine hg.mono ?_
           rintro e wz ⟨rfl, hz⟩
           subst hz
           clear hg)
        | (go_at_call 34
           refine hp.mono ?_
           rintro e wz ⟨t', rfl, hT, hpt, hfl, hok, hle⟩
           have HT : Hid (Turn w wz d d t t' ∧ pT d t' = pT d t ∧ flat d (er d t') = putL keyLt k v L ∧ okT (o - 1) (2 * o - 1) (min d 1) (2 * o) d (er d t') ∧ (hasL keyLt k L = true → (isT d t').length ≤ 2 * o - 1)) :=
             hid ⟨⟨⟨hT.gr.os, hT.gr.tape, hT.gr.output, hT.gr.size, hT.gr.block⟩, hT.one, hT.old, hT.lies⟩, hpt, hfl, hok, hle⟩
           obtain ⟨k1, k3⟩ := HQ.out wz HT.out.1.gr
           clear hp hT hpt hfl hok hle))
    all_goals
      go_wp2
      go_meet
      case rel => exact ⟨by simp, _, HT⟩
  case rest =>
    obtain ⟨rfl, t', hT⟩ := hcut
    have hqn : ¬ 0 < cnt q d t := fun e => by have := HH.out.one q; have := eqN_self q; simp only [cT] at *; omega
    have hblk : wc.heap[q]? = some (.cells #[.pointer (some ⟨q, 0, none⟩), .int .i64 o, .int .i64 (L.length : Nat), .pointer (some ⟨pT d t, 0, none⟩)] 61 (0, 0)) := by
      rw [hT.out.1.gr.block q hq hqn]; exact HH.out.blk
    have hqn' : ¬ 0 < cnt q d t' := fun e => by have := hT.out.1.old q hq; omega
    have HTT : Hid (TT w wc q d d t t') := hid ⟨hT.out.1.gr.mono (fun b _ hb => by simp only [cT]; omega), fun b hb => by have := hT.out.1.old b hb; simp only [cT]; omega⟩
    have hone : ∀ b, cT q d t' b ≤ 1 := fun b => by
      have e1 := hT.out.1.one b
      by_cases hb : q = b
      · subst hb; have := eqN_one q q; simp only [cT]; omega
      · have : eqN q b = 0 := by unfold eqN; rw [if_neg hb]
        simp only [cT]; omega
    obtain ⟨b0, b1, b2, b3, bf⟩ := tree_cells hblk
    have HB := hid hblk
    have HONE := hid hone
    have HQN := hid hqn'
    have hsrt : srt keyLt (putL keyLt k v L) := put_srt totB k v L HH.out.srt
    have HS := hid hsrt
    have hplen := put_len (lt := keyLt) k v L
    have HPL := hid hplen
    rename_i K2 hK2
    refine hK2 _ _ ?_
    clear c0 c1 c2 c3 cf hcnt1 HP HC3 hqn hblk hqn' hone hsrt hplen
    cases hb : hasL keyLt k L with
    | true =>
      rw [hb] at HPL hT
      go_wp2
      go_ret
      obtain ⟨q1, q2, q3, q4, q5⟩ := hT.out
      refine ⟨rfl, d, t', ⟨?_, q1.lies, HONE.out, ok_mono q4 (ok_its q4).1 (by rw [er_its]; exact q5 (by trivial)), HS.out, q3⟩, HTT.out⟩
      have e := HPL.out
      simp only [if_true, Nat.add_zero] at e
      rw [e, q2]
      exact HB.out
    | false =>
      rw [hb] at HPL
      have hadd : IntKind.i64.wrap ((L.length : Int) + 1) = (L.length : Int) + 1 := by rw [IntKind.wrap_i64]; omega
      have bf2 := bf 2
      go_wp2_with fail
      obtain ⟨w3, hw3⟩ : ∃ w3, w3 = wc.setCell ⟨q, 2, none⟩ (.int .i64 ((L.length : Int) + 1)) := ⟨_, rfl⟩
      rw [← hw3]
      have hlen2 : ((putL keyLt k v L).length : Int) = (L.length : Int) + 1 := by have := HPL.out; simp at this; omega
      have hG3 : Gr (fun b => b = q) wc w3 := by rw [hw3]; exact Gr.setCell (F := fun b => b = q) wc rfl _
      have hblk3 : w3.heap[q]? = some (.cells #[.pointer (some ⟨q, 0, none⟩), .int .i64 o, .int .i64 ((L.length : Int) + 1), .pointer (some ⟨pT d t, 0, none⟩)] 61 (0, 0)) := by rw [hw3]; exact tree_set2 _ HB.out
      have hl3 : At w3 d t' := at_gr hG3 hT.out.1.lies (fun b hb e => by subst e; exact HQN.out hb)
      have HTT3 : Hid (TT w w3 q d d t t') := hid (HTT.out.trans ⟨hG3.mono (fun b _ e => by subst e; have := eqN_self b; simp only [cT]; omega), fun _ _ => Nat.le_refl _⟩)
      have hq3 := heap_lt hblk3
      obtain ⟨s0, s1, s2, s3, sf⟩ := tree_cells hblk3
      have hr3 := at_blk hl3
      have hi3 := at_row hl3
      obtain ⟨aor, capr, hvr, hx1, hx2⟩ := ownsRow_shape hi3
      clear hx1 hx2
      have hc0 := node_cell0 hr3
      rw [hT.out.2.1, hvr] at hc0
      have HL3 := hid hl3
      have HB3 := hid hblk3
      have HLEN := hid hlen2
      clear hvr hr3 hi3 b0 b1 b2 b3 bf bf2 hw3 hG3 hblk3 hl3 hlen2
      by_cases hover : 2 * o ≤ (isT d t').length
      · have hov := over_yes (pT d t) (isT d t').length capr o aor w3.drew ho ho2 hover hc0
        unfold ptr at hov
        go_cut [39] (fun s wx => s = .bool true ∧ wx = w3.drew)
        case first =>
          go_region_held3 (fun W => W.cell? ⟨q, 1, none⟩ = some (.int .i64 o) ∧ W.cell? ⟨q, 3, none⟩ = some (.pointer (some ⟨pT d t, 0, none⟩)))
            (first | (exact ⟨s1, s3⟩) | (exact ⟨by assumption, by assumption⟩))
            (first
              | (go_at_call 35
                 refine hov.mono ?_
                 rintro e wz ⟨rfl, hz⟩
                 subst hz))
          all_goals
            go_wp2
            go_meet
            case rel => exact ⟨rfl, rfl⟩
        case rest =>
          obtain ⟨rfl, hwc⟩ := hcut
          rename_i K3 hK3
          refine hK3 _ _ ?_
          obtain ⟨w4, hw4⟩ : ∃ w4, w4 = w3.setCell ⟨q, 3, none⟩ (.pointer (some ⟨w3.heap.size + 1, 0, none⟩)) := ⟨_, rfl⟩
          have hs4 : w4.heap.size = w3.heap.size := by rw [hw4]; simp
          have hG4 : Gr (fun b => b = q) w3 w4 := by rw [hw4]; exact Gr.setCell (F := fun b => b = q) w3 rfl _
          have hl4 : At w4 d t' := at_gr hG4 HL3.out (fun b hb e => by subst e; exact HQN.out hb)
          have hb4 : w4.heap[q]? = some (.cells #[.pointer (some ⟨q, 0, none⟩), .int .i64 o, .int .i64 ((L.length : Int) + 1), .pointer (some ⟨w3.heap.size + 1, 0, none⟩)] 61 (0, 0)) := by rw [hw4]; exact tree_set3 _ HB3.out
          obtain ⟨W, hW⟩ : ∃ W, W = (w4.alloc (.cells #[ptr (pT d t')] 59)).alloc (.cells #[.slice none 0 0, .slice (some ⟨w4.heap.size, 0, none⟩) 1 1] 69) := ⟨_, rfl⟩
          obtain ⟨g1, g2, g3, g4⟩ := root_grow (w := w4) (t := t') hl4 hT.out.1.one W hW
          rw [hs4] at g1 g4
          simp only [hs4] at g2 g3
          have hbW : W.heap[q]? = some (.cells #[.pointer (some ⟨q, 0, none⟩), .int .i64 o, .int .i64 ((L.length : Int) + 1), .pointer (some ⟨w3.heap.size + 1, 0, none⟩)] 61 (0, 0)) := by
            rw [g4.block q hq3]; exact hb4
          have hqW : cnt q (d + 1) (nd (w3.heap.size + 1) (.slice none 0 0) (.slice (some ⟨w3.heap.size, 0, none⟩) 1 1) [] [t']) = 0 := by rw [g3 q hq3]; have := HQN.out; omega
          -- the tree with the new topmost node
          have HTW : Hid (TT w W q d (d + 1) t (nd (w3.heap.size + 1) (.slice none 0 0) (.slice (some ⟨w3.heap.size, 0, none⟩) 1 1) [] [t'])) := hid (HTT3.out.trans ⟨
            (hG4.mono (fun b _ e => by subst e; have := eqN_self b; simp only [cT]; omega)).trans (Gr.of_below (by rw [hs4]; exact g4) (fun _ => False)) (fun _ _ e => e.elim),
            fun b hb => by simp only [cT]; rw [g3 b hb]; exact Nat.le_refl _⟩)
          obtain ⟨v0, v1, v2, v3, vf⟩ := tree_cells hbW
          have hpart := part_any (w3.heap.size + 1) 0 o (.slice none 0 0) (.slice (some ⟨w3.heap.size, 0, none⟩) 1 1) [] [] [] t' W.drew.drew (at_gr (F := fun _ => False) ((Gr.drew _ _).trans (Gr.drew (fun _ => False) _) (fun _ _ => id)) g1 (fun _ _ => id)) g2 hT.out.2.2.2.1 rfl rfl (by simp) (by omega) (by have := (ok_its hT.out.2.2.2.1).2; rw [er_its] at this; omega)
          have HPART := hid hpart
          have HBW := hid hbW
          have HQW := hid hqW
          have HG2 := hid g2
          have HG1 := hid g1
          have e3 : pT d t' = pT d t := hT.out.2.1
          rw [e3, hs4] at hW
          unfold ptr at hW
          have HW := hid hW
          have HW4 := hid hw4
          have sf3 := sf 3
          subst hwc
          clear g1 g2 g3 g4 hbW hqW hW e3 hov hc0 hpart hb4 hl4 hG4 hw4
          go_wp2_with fail
          rw [← HW4.out, ← HW.out]
          unfold ptr at HPART
          have hpart := HPART.out
          go_cut [] (fun wx => ∃ vi' vk' cl cr, Hid (Turn W wx (d + 1) (d + 1) (nd (w3.heap.size + 1) (.slice none 0 0) (.slice (some ⟨w3.heap.size, 0, none⟩) 1 1) [] [t']) (nd (w3.heap.size + 1) vi' vk' [(isT d t')[o]'(by omega)] [cl, cr]) ∧ er d cl = partL o d (er d t') ∧ er d cr = partR o d (er d t')))
          case first =>
            go_region_held3 (fun X => X.cell? ⟨q, 1, none⟩ = some (.int .i64 o) ∧ X.cell? ⟨q, 3, none⟩ = some (.pointer (some ⟨w3.heap.size + 1, 0, none⟩)))
              (first | (exact ⟨v1, v3⟩) | (exact ⟨by assumption, by assumption⟩))
              (first
                | (go_at_call 36
                   refine hpart.mono ?_
                   rintro e wz ⟨rfl, vi', vk', cl, cr, hTz, hcl, hcr⟩
                   have k0 : wz.heap[q]? = W.heap[q]? := hTz.gr.block q (heap_lt HBW.out) (by change ¬ 0 < cnt q (d + 1) (nd (w3.heap.size + 1) (.slice none 0 0) (.slice (some ⟨w3.heap.size, 0, none⟩) 1 1) [] [t']); rw [HQW.out]; omega)
                   have k1 : wz.cell? ⟨q, 1, none⟩ = some (.int .i64 o) := (World.cell?_of_block (a := ⟨q, 1, none⟩) k0).trans v1
                   have k3 : wz.cell? ⟨q, 3, none⟩ = some (.pointer (some ⟨w3.heap.size + 1, 0, none⟩)) := (World.cell?_of_block (a := ⟨q, 3, none⟩) k0).trans v3
                   have HTZ : Hid (Turn W wz (d + 1) (d + 1) (nd (w3.heap.size + 1) (.slice none 0 0) (.slice (some ⟨w3.heap.size, 0, none⟩) 1 1) [] [t']) (nd (w3.heap.size + 1) vi' vk' [(isT d t')[o]'(by omega)] [cl, cr]) ∧ er d cl = partL o d (er d t') ∧ er d cr = partR o d (er d t')) :=
                     hid ⟨⟨⟨hTz.gr.os, hTz.gr.tape, hTz.gr.output, hTz.gr.size, hTz.gr.block⟩, hTz.one, hTz.old, hTz.lies⟩, hcl, hcr⟩
                   clear hpart hTz hcl hcr k0))
            all_goals
              go_wp2
              go_meet
              case rel => exact ⟨_, _, _, _, HTZ⟩
          case rest =>
            obtain ⟨vi', vk', cl, cr, hz⟩ := hcut
            obtain ⟨z1, z2, z3⟩ := hz.out
            have HZ1 := hid z1
            have HZ2 := hid z2
            have HZ3 := hid z3
            clear z1 z2 z3 hz hpart
            go_wp2
            go_ret
            have hzq : cnt q (d + 1) (nd (w3.heap.size + 1) vi' vk' [(isT d t')[o]'(by omega)] [cl, cr]) = 0 := by
              have := HZ1.out.old q (heap_lt HBW.out); rw [HQW.out] at this; omega
            have hlo : o < (itsT d (er d t')).length := by rw [er_its]; omega
            have hpf := part_flat o (er d t') hT.out.2.2.2.1 hlo
            have hcl2 : (isT d t').length ≤ 2 * o := by have := (ok_its hT.out.2.2.2.1).2; rw [er_its] at this; exact this
            have hpo := part_ok o (er d t') hT.out.2.2.2.1 hlo (a := o - 1) (b := 2 * o - 1) (c := o - 1) (e := 2 * o - 1) (by omega) (by omega) (by rw [er_its]; omega) (by rw [er_its]; omega)
            have hie : (itsT d (er d t'))[o] = (isT d t')[o]'(by omega) := by simp only [er_its]
            rw [hie] at hpf
            refine ⟨(by first | rfl | (rw [hb]; rfl) | simp [hb]), d + 1, nd (w3.heap.size + 1) vi' vk' [(isT d t')[o]'(by omega)] [cl, cr], ⟨?_, HZ1.out.lies, fun b => ?_, ?_, HS.out, ?_⟩, HTW.out.trans ⟨HZ1.out.gr.mono (fun b _ hb => by simp only [cT]; omega), fun b hb => ?_⟩⟩
            · rw [HZ1.out.gr.block q (heap_lt HBW.out) (by rw [HQW.out]; omega), HBW.out, HLEN.out]; rfl
            · have e1 := HZ1.out.one b
              by_cases hbq : q = b
              · subst hbq; have := eqN_one q q; simp only [cT]; omega
              · have : eqN q b = 0 := by unfold eqN; rw [if_neg hbq]
                simp only [cT]; omega
            · rw [er_nd]
              refine (ok_node _ _).2 ⟨by simp, by simp; omega, by simp, fun x hx => ?_⟩
              simp only [List.map_cons, List.map_nil, List.mem_cons, List.mem_nil_iff, or_false] at hx
              rcases hx with rfl | rfl
              · rw [HZ2.out]; exact hpo.1
              · rw [HZ3.out]; exact hpo.2
            · rw [er_nd, ← hT.out.2.2.1, hpf, List.map_cons, List.map_cons, List.map_nil, HZ2.out, HZ3.out]
              simp [flat_node, weave, post]
            · have := HZ1.out.old b hb; simp only [cT]; omega
      · have hov := over_no (pT d t) (isT d t').length capr o aor w3.drew ho ho2 (by omega) hc0
        unfold ptr at hov
        go_region_held3 (fun W => W.cell? ⟨q, 1, none⟩ = some (.int .i64 o) ∧ W.cell? ⟨q, 3, none⟩ = some (.pointer (some ⟨pT d t, 0, none⟩)))
          (first | (exact ⟨s1, s3⟩) | (exact ⟨by assumption, by assumption⟩))
          (first
            | (go_at_call 35
               refine hov.mono ?_
               rintro e wz ⟨rfl, hz⟩
               subst hz))
        all_goals
          go_wp2
          go_ret
          refine ⟨(by first | rfl | (rw [hb]; rfl) | simp [hb]), d, t', ⟨?_, at_gr (F := fun _ => False) (Gr.drew _ _) HL3.out (fun _ _ => id), HONE.out, ok_mono hT.out.2.2.2.1 (ok_its hT.out.2.2.2.1).1 (by rw [er_its]; omega), HS.out, hT.out.2.2.1⟩, HTT3.out.trans ⟨Gr.drew _ _, fun _ _ => Nat.le_refl _⟩⟩
          rw [HLEN.out, hT.out.2.1]
          exact HB3.out

end Go.Proofs.Ytkjmilcocnjjoaa.I
