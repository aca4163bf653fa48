/-
  Run of an event process: a run that ends by a trap.
-/
import Derived.Test.YtkaffbchlngfaaaDoorERun
import Derived.Deep.CutBlock
import Derived.Deep.DeepCutAuto
namespace Go.Proofs.YtkaffbchlngfaaaDoor
open Go.RowKit
set_option linter.unusedVariables false
set_option linter.unusedSimpArgs false

theorem newA {w' : World} {k : Nat} {a b c : Value} {t : TypeId} (e : w'.heap[k]? = some (.cells #[a, b, c] t (0, 0))) : w'.cell? ⟨k, 0, none⟩ = some a ∧ w'.cell? ⟨k, 1, none⟩ = some b ∧ w'.cell? ⟨k, 2, none⟩ = some c ∧ w'.frozen? ⟨k, 0, none⟩ = false ∧ w'.frozen? ⟨k, 1, none⟩ = false ∧ w'.frozen? ⟨k, 2, none⟩ = false ∧ k < w'.heap.size :=
  ⟨by simp [World.cell?, e], by simp [World.cell?, e], by simp [World.cell?, e], by simp [World.frozen?, e], by simp [World.frozen?, e], by simp [World.frozen?, e], (Array.getElem?_eq_some_iff.1 e).1⟩

theorem midq_state {W : World} {p : Nat} {vc : Value} {q g : Nat} {x : ByteArray} {n pc : Int} {vs vk : Value} {s' : StL} {tr : Int} {used a b : Nat} {us uk : Value} {wc : World} (hE : EpAt wc p vc q (some g)) (hR : ReqAt wc g x n pc vs vk false) (hM : MidR W s' tr used a b us uk wc) (hpg : p ≠ g) (hg : g < W.heap.size) :
    MidQ W p vc q g x n s' tr used b us uk (((wc.setCell ⟨g, 2, none⟩ (.int .i64 s'.pc)).setCell ⟨g, 3, none⟩ us).setCell ⟨g, 4, none⟩ uk).drew := by
  obtain ⟨_, mB, o1, o2, _, _, hb, bx⟩ := hM
  have hf : ∀ j, j ≠ g → (((wc.setCell ⟨g, 2, none⟩ (.int .i64 s'.pc)).setCell ⟨g, 3, none⟩ us).setCell ⟨g, 4, none⟩ uk).drew.heap[j]? = wc.heap[j]? := fun j hj => by
    show (((wc.setCell ⟨g, 2, none⟩ (.int .i64 s'.pc)).setCell ⟨g, 3, none⟩ us).setCell ⟨g, 4, none⟩ uk).heap[j]? = _
    rw [far_set hj, far_set hj, far_set hj]
  refine ⟨(hf p hpg).trans hE, ?_, (hf b (by omega)).trans mB, o1.same fun j hj => hf j (by have := (o1.lt j hj).1; omega), o2.same fun j hj => hf j (by have := (o2.lt j hj).1; omega), ?_⟩
  · unfold ReqAt
    have h9 : wc.heap[g]? = _ := hR
    show (((wc.setCell ⟨g, 2, none⟩ (.int .i64 s'.pc)).setCell ⟨g, 3, none⟩ us).setCell ⟨g, 4, none⟩ uk).heap[g]? = _
    simp only [World.setCell, Array.getElem?_modify, h9]
    simp
  · exact ((((Ke.of bx).trans (Ke.set _)).trans (Ke.set _)).trans (Ke.set _)).trans (Ke.of (Below.drew (Below.refl _ _)))
theorem midq_fuel {W : World} {p : Nat} {vc : Value} {q g : Nat} {x : ByteArray} {n n' : Int} {s' : StL} {tr : Int} {used b : Nat} {us uk : Value} {wc : World} (h : MidQ W p vc q g x n s' tr used b us uk wc) (hpg : p ≠ g) (hg : g < W.heap.size) (hb : W.heap.size ≤ b) :
    MidQ W p vc q g x n' s' tr used b us uk (wc.setCell ⟨g, 1, none⟩ (.int .i64 n')).drew := by
  obtain ⟨hE, hR, mB, o1, o2, k⟩ := h
  have hf : ∀ j, j ≠ g → (wc.setCell ⟨g, 1, none⟩ (.int .i64 n')).drew.heap[j]? = wc.heap[j]? := fun j hj => by
    show (wc.setCell ⟨g, 1, none⟩ (.int .i64 n')).heap[j]? = _
    rw [far_set hj]
  refine ⟨(hf p hpg).trans hE, ?_, (hf b (by omega)).trans mB, o1.same fun j hj => hf j (by have := (o1.lt j hj).1; omega), o2.same fun j hj => hf j (by have := (o2.lt j hj).1; omega), ?_⟩
  · unfold ReqAt
    have h9 : wc.heap[g]? = _ := hR
    show (wc.setCell ⟨g, 1, none⟩ (.int .i64 n')).heap[g]? = _
    simp only [World.setCell, Array.getElem?_modify, h9]
    simp
  · exact (k.trans (Ke.set _)).trans (Ke.of (Below.drew (Below.refl _ _)))
theorem midq_end {w W : World} {p : Nat} {vc : Value} {q g : Nat} {x : ByteArray} {n : Int} {s' : StL} {tr : Int} {used b : Nat} {us uk : Value} {wc w7 : World} (hsW : W.heap.size = w.heap.size + 1) (hb0 : Below w.heap.size w W) (h : MidQ W p vc q g x n s' tr used b us uk wc) (e7 : EpAt w7 p vc q (some g)) (r7 : ReqAt w7 g x n s'.pc us uk true) (k7 : Ke wc.heap.size g wc w7) (hpl : p < w.heap.size) (hgl : g < w.heap.size) (u v z : Value) :
    EpAt (fill3 w7 w.heap.size u v z) p vc q (some g) ∧ ReqAt (fill3 w7 w.heap.size u v z) g x n s'.pc us uk true ∧ OwnC (fill3 w7 w.heap.size u v z) w.heap.size us s'.st ∧ OwnC (fill3 w7 w.heap.size u v z) w.heap.size uk s'.ca ∧ Ke w.heap.size g w (fill3 w7 w.heap.size u v z) := by
  obtain ⟨_, _, _, o1, o2, k⟩ := h
  have hs := k.size
  refine ⟨(fill3_far _ _ _ (by omega)).trans e7, (fill3_far _ _ _ (by omega)).trans r7, (o1.same fun j hj => ?_).le (by omega), (o2.same fun j hj => ?_).le (by omega), ?_⟩
  · have := o1.lt j hj; rw [fill3_far _ _ _ (by omega)]; exact k7.block j (by omega) (by omega)
  · have := o2.lt j hj; rw [fill3_far _ _ _ (by omega)]; exact k7.block j (by omega) (by omega)
  · exact (((Ke.of hb0).trans (k.mono (by omega))).trans (k7.mono (by omega))).trans (Ke.of (fill3_below (Below.refl _ _) (Nat.le_refl _) _ _ _))

theorem lt_one (W : World) (o : Obj) : W.heap.size < (W.alloc o).drew.heap.size := by simp
theorem lt_two (W : World) (o o' : Obj) : W.heap.size < ((W.alloc o).alloc o').drew.heap.size := by simp; omega
theorem lt_two' (W : World) (o o' : Obj) : W.heap.size + 1 < ((W.alloc o).alloc o').drew.heap.size := by simp
theorem mid_beforeX {W : World} {Y : Nat} {s' : StL} {tr : Int} {used a b : Nat} {us uk : Value} {w5 : World} (h : MidO W Y s' us uk w5) (ha : W.heap.size ≤ a) (ha2 : a < Y) (hb : W.heap.size ≤ b) (hb2 : b < Y) (hab : a ≠ b) {a0 b0 c0 a1 b1 c1 : Value}
    (hA : w5.heap[a]? = some (.cells #[a0, b0, c0] 34 (0, 0))) (hB : w5.heap[b]? = some (.cells #[a1, b1, c1] 52 (0, 0))) :
    MidR W s' tr used a b us uk ((((((w5.setCell ⟨a, 0, none⟩ (.int .i64 s'.pc)).setCell ⟨a, 1, none⟩ us).setCell ⟨a, 2, none⟩ uk).setCell ⟨b, 0, none⟩ (.int .i64 2)).setCell ⟨b, 1, none⟩ (.int .i64 tr)).setCell ⟨b, 2, none⟩ (.int .i64 (used : Int))) :=
  mid_before h ha ha2 hb hb2 hab hA hB
theorem mid_firstX {W : World} {Y : Nat} {s' : StL} {tr : Int} {used a : Nat} {us uk : Value} {w5 : World} (h : MidO W Y s' us uk w5) (ha : W.heap.size ≤ a) (ha2 : a < Y) {a0 b0 c0 : Value}
    (hA : w5.heap[a]? = some (.cells #[a0, b0, c0] 34 (0, 0))) :
    MidR W s' tr used a w5.heap.size us uk ((((w5.setCell ⟨a, 0, none⟩ (.int .i64 s'.pc)).setCell ⟨a, 1, none⟩ us).setCell ⟨a, 2, none⟩ uk).alloc (.cells #[.int .i64 2, .int .i64 tr, .int .i64 (used : Int)] 52)) := mid_first h ha ha2 hA
theorem mid_lastX {W : World} {Y : Nat} {s' : StL} {tr : Int} {used b : Nat} {us uk : Value} {w5 : World} (h : MidO W Y s' us uk w5) (hb : W.heap.size ≤ b) (hb2 : b < Y) {a0 b0 c0 : Value}
    (hB : w5.heap[b]? = some (.cells #[a0, b0, c0] 52 (0, 0))) :
    MidR W s' tr used w5.heap.size b us uk ((((w5.setCell ⟨b, 0, none⟩ (.int .i64 2)).setCell ⟨b, 1, none⟩ (.int .i64 tr)).setCell ⟨b, 2, none⟩ (.int .i64 (used : Int))).alloc (.cells #[.int .i64 s'.pc, us, uk] 34)) := mid_last h hb hb2 hB

def TrapR (w : World) (p : Nat) (vc : Value) (q g : Nat) (x : ByteArray) (n : Int) (s' : StL) (tr : Int) (used : Nat) (e : Ending) (w' : World) : Prop :=
  e = .returned (.tuple #[.agg #[.int .i64 2, .int .i64 tr, .int .i64 (used : Int)], .int .i64 0]) ∧ EpAt w' p vc q (some g) ∧ ∃ us uk, ReqAt w' g x (n - (used : Int)) s'.pc us uk true ∧ OwnC w' w.heap.size us s'.st ∧ OwnC w' w.heap.size uk s'.ca ∧ Ke w.heap.size g w w'

set_option maxRecDepth 100000 in
set_option maxHeartbeats 8000000 in
theorem run_trap (w : World) (p : Nat) (vc : Value) (q g : Nat) (h : EpAt w p vc q (some g)) (x : ByteArray) (n : Nat) (s : StL) (vs vk : Value) (hr : ReqAt w g x (n : Int) s.pc vs vk false) (hS : SeesS w (.agg #[.int .i64 s.pc, vs, vk]) s vs vk) (hpg : p ≠ g)
    (l : List InsL) (hV : SeesI w vc l) (hT : Tabs w) (hno : ∀ i ∈ l, i.1 ≠ 18 ∧ i.1 ≠ 19) (hlen : l.length ≤ 140737488355328) (ticks : Nat) (h1 : 1 ≤ ticks) (h2 : ticks ≤ 1048576) (h3 : ticks ≤ n) (h4 : n ≤ 1048576) (hE : refL l s true (ticks : Int) = 0) (hq : q < w.heap.size) (hq2 : 2 ≤ q)
    (s' : StL) (tr : Int) (used : Nat) (bR : List Nat) (hR : runL l ticks 0 s [] = ((2, tr, used), s', bR)) (hu : used ≤ n) :
    Calls Tryd.prog 19 #[.pointer (some ⟨p, 0, none⟩), .int .i64 (ticks : Int)] w (TrapR w p vc q g x n s' tr used) := by
  obtain ⟨W, hW⟩ : ∃ W, W = w.alloc (.cells #[.int .i64 0, .int .i64 0, .int .i64 0] 52) := ⟨_, rfl⟩
  have hb : Below w.heap.size w W := by rw [hW]; exact below_alloc w _
  have hz : W.heap[w.heap.size]? = some (.cells #[.int .i64 0, .int .i64 0, .int .i64 0] 52 (0, 0)) := by rw [hW]; exact heap_alloc_new w _
  have hsW : W.heap.size = w.heap.size + 1 := by rw [hW]; simp
  have eW := h.below hb
  have rW := hr.below hb
  have vW := hV.below hb
  have sW := hS.below hb
  have tW := hT.below hb
  have hpl := (Array.getElem?_eq_some_iff.1 h).1
  have hgl := (Array.getElem?_eq_some_iff.1 hr).1
  have hg := given_yes W p vc q (some g) eW
  have hf := isFuel_any (ticks : Int) W
  rw [decide_eq_true (⟨by omega, by omega⟩ : (1 : Int) ≤ (ticks : Int) ∧ (ticks : Int) ≤ 1048576)] at hf
  have HSX : Hid (∀ X, Below W.heap.size W X → (Below W.heap.size W X ∧ X.cell? ⟨p, 1, none⟩ = some vc ∧ X.cell? ⟨p, 2, none⟩ = some (.pointer (some ⟨q, 0, none⟩)) ∧ X.cell? ⟨p, 3, none⟩ = some (.pointer (some ⟨g, 0, none⟩)) ∧ X.cell? ⟨g, 1, none⟩ = some (.int .i64 (n : Int)) ∧ X.cell? ⟨g, 2, none⟩ = some (.int .i64 s.pc) ∧ X.cell? ⟨g, 3, none⟩ = some vs ∧ X.cell? ⟨g, 4, none⟩ = some vk)) := fun X hX => by
    obtain ⟨_, a1, a2, a3, _⟩ := (eW.below hX).cells
    obtain ⟨_, b1, b2, b3, b4, _⟩ := (rW.below hX).cells
    exact ⟨hX, a1, a2, a3, b1, b2, b3, b4⟩
  have HRX : Hid (∀ X, (Below W.heap.size W X ∧ X.cell? ⟨p, 1, none⟩ = some vc ∧ X.cell? ⟨p, 2, none⟩ = some (.pointer (some ⟨q, 0, none⟩)) ∧ X.cell? ⟨p, 3, none⟩ = some (.pointer (some ⟨g, 0, none⟩)) ∧ X.cell? ⟨g, 1, none⟩ = some (.int .i64 (n : Int)) ∧ X.cell? ⟨g, 2, none⟩ = some (.int .i64 s.pc) ∧ X.cell? ⟨g, 3, none⟩ = some vs ∧ X.cell? ⟨g, 4, none⟩ = some vk) →
      Calls Tryd.prog 47 #[vc, .agg #[.int .i64 s.pc, vs, vk], .iface 57 (.pointer (some ⟨q, 0, none⟩)), .int .i64 (ticks : Int)] X fun e w5 => ∃ ao ak LU LK, e = .returned (.tuple #[.agg #[.int .i64 s'.pc, .slice ao LU LU, .slice ak LK LK], .agg #[.int .i64 2, .int .i64 tr, .int .i64 (used : Int)], .int .i64 0]) ∧ Hid (MidO W X.heap.size s' (.slice ao LU LU) (.slice ak LK LK) w5) ∧ Below X.heap.size X w5) := fun X hX => by
    have hs := hX.1.size
    refine (run_good vc l _ s vs vk (.slice none 0 0) ticks q q [] 0 0 X (vW.below hX.1) (tW.below hX.1) hno (sW.below hX.1) hlen hE ⟨by omega⟩ (by omega) hq2 hq2 (by simp) (by omega)).mono ?_
    rw [hR]
    rintro e w5 ⟨us, uk, he, o1, o2, od, ld', st', m5, a5, k5⟩
    obtain ⟨ao, hus⟩ := o1.shape
    obtain ⟨ak, huk⟩ := o2.shape
    subst hus
    subst huk
    have b5 := k5.all
    refine ⟨ao, ak, _, _, he, ⟨o1, o2, od, hs, b5.size, hX.1.trans (b5.mono hs)⟩, b5⟩
  obtain ⟨_, c1, c2, c3, _⟩ := eW.cells
  rw [show ptrV (some g) = .pointer (some ⟨g, 0, none⟩) from rfl] at c3
  obtain ⟨_, d1, d2, d3, d4, d5, _⟩ := rW.cells
  have HE := hid eW
  have HRq := hid rW
  have HZ := hid hz
  have HB := hid hb
  have HSW := hid hsW
  have HPL := hid hpl
  have HGL := hid hgl
  have hk0 := HSX.out W (Below.refl _ _)
  have hk0d := HSX.out W.drew (Below.drew (Below.refl _ _))
  have HDW : Hid (Below W.heap.size W W.drew) := Below.drew (Below.refl _ _)
  have HBW : Hid (Below W.heap.size W W) := Below.refl _ _
  unfold TrapR
  obtain ⟨N, hN⟩ : ∃ N : Int, N = (n : Int) := ⟨_, rfl⟩
  obtain ⟨K, hK⟩ : ∃ K : Int, K = (ticks : Int) := ⟨_, rfl⟩
  have hmin : ¬ (N < K) := by omega
  rw [← hN, ← hK] at HRX
  rw [← hN] at HSX HRq d1 hk0 hk0d
  rw [← hK] at hf ⊢
  rw [← hN]
  have HRY : Hid (∀ X, (Below W.heap.size W X ∧ X.cell? ⟨p, 1, none⟩ = some vc ∧ X.cell? ⟨p, 2, none⟩ = some (.pointer (some ⟨q, 0, none⟩)) ∧ X.cell? ⟨p, 3, none⟩ = some (.pointer (some ⟨g, 0, none⟩)) ∧ X.cell? ⟨g, 1, none⟩ = some (.int .i64 N) ∧ X.cell? ⟨g, 2, none⟩ = some (.int .i64 s.pc) ∧ X.cell? ⟨g, 3, none⟩ = some vs ∧ X.cell? ⟨g, 4, none⟩ = some vk) →
      Calls Tryd.prog 47 #[vc, .agg #[.int .i64 s.pc, vs, vk], .iface 57 (.pointer (some ⟨q, 0, none⟩)), .int .i64 (if N < K then N else K)] X fun e w5 => ∃ ao ak LU LK, e = .returned (.tuple #[.agg #[.int .i64 s'.pc, .slice ao LU LU, .slice ak LK LK], .agg #[.int .i64 2, .int .i64 tr, .int .i64 (used : Int)], .int .i64 0]) ∧ Hid (MidO W X.heap.size s' (.slice ao LU LU) (.slice ak LK LK) w5) ∧ Below X.heap.size X w5) := fun X hX => by
    rw [if_neg hmin]
    exact HRX.out X hX
  have HN := hid hN
  have HKK := hid hK
  clear hN hK HRX
  clear h hr hS hV hT hno hlen hb hz eW rW vW sW tW hR hE hsW hpl hgl
  go_enter Tryd.func19, Tryd.ntmps19
  go_wp2_with fail
  rw [← hW]
  clear hW
  refine hg.mono ?_
  rintro e w1 ⟨rfl, hw1⟩
  subst w1
  clear hg
  go_wp2_with fail
  refine hf.mono ?_
  rintro e w1 ⟨rfl, hw1⟩
  subst w1
  clear hf
  go_wp2_with fail
  go_cut [6, 7, 8] (fun x6 x7 x8 wx => ∃ a b ao ak LU LK, x6 = .pointer (some ⟨a, 0, none⟩) ∧ x7 = .pointer (some ⟨b, 0, none⟩) ∧ x8 = .int .i64 0 ∧ Hid (MidR W s' tr used a b (.slice ao LU LU) (.slice ak LK LK) wx))
  case first =>
    go_region_held3 (fun X => Below W.heap.size W X ∧ X.cell? ⟨p, 1, none⟩ = some vc ∧ X.cell? ⟨p, 2, none⟩ = some (.pointer (some ⟨q, 0, none⟩)) ∧ X.cell? ⟨p, 3, none⟩ = some (.pointer (some ⟨g, 0, none⟩)) ∧ X.cell? ⟨g, 1, none⟩ = some (.int .i64 N) ∧ X.cell? ⟨g, 2, none⟩ = some (.int .i64 s.pc) ∧ X.cell? ⟨g, 3, none⟩ = some vs ∧ X.cell? ⟨g, 4, none⟩ = some vk)
      (first | (with_reducible exact hk0d) | (with_reducible exact hk0) | (with_reducible assumption) | (refine HSX.out _ ?_; (repeat' (first | (with_reducible exact H5.out) | (with_reducible exact HDW.out) | (with_reducible exact HBW.out) | (with_reducible refine Below.drew ?_) | (with_reducible refine Below.setCell ?_ ?_ _) | (with_reducible refine Below.alloc ?_ ?_ _))); all_goals go_size))
      (first
        | (go_at_call 47
           refine (HRY.out _ (by assumption)).mono ?_
           rintro e w5 ⟨ao, ak, LU, LK, rfl, HM5, b5⟩
           have H5 : Hid (Below W.heap.size W w5) := hid HM5.out.2.2.2.2.2
           have b5 := undrew b5
           have s5 := H5.out.size
           (first
             | (have hh := blk2 b5
                obtain ⟨z1, z2⟩ := hh
                have HZ1 := hid z1
                have HZ2 := hid z2
                have hh := newA z1
                obtain ⟨t0, t1, t2, v0, v1, v2, tl⟩ := hh
                have hh := newA z2
                obtain ⟨t3, t4, t5, v3, v4, v5, tm⟩ := hh
                clear z1 z2)
             | (have hh := blk1 b5
                have HZ1 := hid hh
                have hz1 := newA hh
                obtain ⟨t0, t1, t2, v0, v1, v2, tl⟩ := hz1
                clear hh)
             | skip)
           (try have n1 : ¬ W.heap.size = w5.heap.size := by omega)
           (try have n2 : ¬ w5.heap.size = W.heap.size := by omega)
           clear b5))
    all_goals
      go_wp2
      go_meet
      case rel =>
        refine ⟨_, _, ao, ak, LU, LK, rfl, rfl, rfl, hid ?_⟩
        first
          | (with_reducible exact mid_after HM5.out)
          | (with_reducible exact mid_after2 HM5.out)
          | (with_reducible refine mid_firstX HM5.out (Nat.le_refl _) ?_ HZ1.out
             exact lt_one _ _)
          | (with_reducible refine mid_lastX HM5.out (Nat.le_refl _) ?_ HZ1.out
             exact lt_one _ _)
          | (with_reducible refine mid_beforeX HM5.out (Nat.le_refl _) ?_ (Nat.le_succ _) ?_ (Nat.ne_of_lt (Nat.lt_succ_self _)) HZ1.out HZ2.out
             · exact lt_two _ _ _
             · exact lt_two' _ _ _)
          | (with_reducible refine mid_beforeX HM5.out (Nat.le_succ _) ?_ (Nat.le_refl _) ?_ (Nat.ne_of_gt (Nat.lt_succ_self _)) HZ2.out HZ1.out
             · exact lt_two' _ _ _
             · exact lt_two _ _ _)
  case rest =>
    obtain ⟨a, b, ao, ak, LU, LK, rfl, rfl, rfl, HM⟩ := hcut
    have hm := HM.out
    have eC := HE.out.below hm.2.2.2.2.2.2.2
    have rC := HRq.out.below hm.2.2.2.2.2.2.2
    obtain ⟨_, _, _, y3, _⟩ := eC.cells
    rw [show ptrV (some g) = .pointer (some ⟨g, 0, none⟩) from rfl] at y3
    obtain ⟨_, _, r2, r3, r4, _, _, f2, f3, f4, _⟩ := rC.cells
    obtain ⟨q0, q1, q2, _, _, _⟩ := cel3 hm.1
    have hgl := HGL.out
    have hsW := HSW.out
    have ha := hm.2.2.2.2.2.1
    have hb := hm.2.2.2.2.2.2.1
    have hga : g ≠ a := by omega
    have HQ := hid (midq_state eC rC hm hpg (by omega))
    have hd : wc.drew.cell? ⟨p, 3, none⟩ = some (.pointer (some ⟨g, 0, none⟩)) ∧ wc.drew.cell? ⟨a, 0, none⟩ = some (.int .i64 s'.pc) ∧ wc.drew.cell? ⟨a, 1, none⟩ = some (.slice ao LU LU) ∧ wc.drew.cell? ⟨a, 2, none⟩ = some (.slice ak LK LK) := ⟨y3, q0, q1, q2⟩
    have HK : Hid (∀ u v z : Value, (((wc.setCell ⟨g, 2, none⟩ u).setCell ⟨g, 3, none⟩ v).setCell ⟨g, 4, none⟩ z).drew.cell? ⟨p, 3, none⟩ = some (.pointer (some ⟨g, 0, none⟩)) ∧ (((wc.setCell ⟨g, 2, none⟩ u).setCell ⟨g, 3, none⟩ v).setCell ⟨g, 4, none⟩ z).drew.cell? ⟨a, 0, none⟩ = some (.int .i64 s'.pc) ∧ (((wc.setCell ⟨g, 2, none⟩ u).setCell ⟨g, 3, none⟩ v).setCell ⟨g, 4, none⟩ z).drew.cell? ⟨a, 1, none⟩ = some (.slice ao LU LU) ∧ (((wc.setCell ⟨g, 2, none⟩ u).setCell ⟨g, 3, none⟩ v).setCell ⟨g, 4, none⟩ z).drew.cell? ⟨a, 2, none⟩ = some (.slice ak LK LK)) := fun u v z => by
      have e1 : (((wc.setCell ⟨g, 2, none⟩ u).setCell ⟨g, 3, none⟩ v).setCell ⟨g, 4, none⟩ z).drew.heap[p]? = wc.heap[p]? := by show (((wc.setCell ⟨g, 2, none⟩ u).setCell ⟨g, 3, none⟩ v).setCell ⟨g, 4, none⟩ z).heap[p]? = _; rw [far_set hpg, far_set hpg, far_set hpg]
      have e2 : (((wc.setCell ⟨g, 2, none⟩ u).setCell ⟨g, 3, none⟩ v).setCell ⟨g, 4, none⟩ z).drew.heap[a]? = wc.heap[a]? := by show (((wc.setCell ⟨g, 2, none⟩ u).setCell ⟨g, 3, none⟩ v).setCell ⟨g, 4, none⟩ z).heap[a]? = _; rw [far_set hga.symm, far_set hga.symm, far_set hga.symm]
      exact ⟨(World.cell?_of_block (a := ⟨p, 3, none⟩) e1).trans y3, (World.cell?_of_block (a := ⟨a, 0, none⟩) e2).trans q0, (World.cell?_of_block (a := ⟨a, 1, none⟩) e2).trans q1, (World.cell?_of_block (a := ⟨a, 2, none⟩) e2).trans q2⟩
    have HBB := hid hb
    clear hm eC rC ha hb hsW hgl HRY HSX hk0 hk0d c1 c2 c3 d1 d2 d3 d4 d5
    go_wp2_with fail
    go_cut [] (fun wx => Hid (MidQ W p vc q g x N s' tr used b (.slice ao LU LU) (.slice ak LK LK) wx))
    case first =>
      go_region_held3 (fun Y => Y.cell? ⟨p, 3, none⟩ = some (.pointer (some ⟨g, 0, none⟩)) ∧ Y.cell? ⟨a, 0, none⟩ = some (.int .i64 s'.pc) ∧ Y.cell? ⟨a, 1, none⟩ = some (.slice ao LU LU) ∧ Y.cell? ⟨a, 2, none⟩ = some (.slice ak LK LK))
        (first | (with_reducible exact hd) | (with_reducible exact HK.out _ _ _))
        (fail)
      all_goals
        go_wp2
        go_meet
        case rel => exact HQ
    case rest =>
      have hm := hcut.out
      clear HQ HK hd y3 r2 r3 r4 f2 f3 f4 q0 q1 q2
      have hgl := HGL.out
      have hsW := HSW.out
      have hb := HBB.out
      have hgb : g ≠ b := by omega
      obtain ⟨_, _, _, y3, _⟩ := hm.1.cells
      rw [show ptrV (some g) = .pointer (some ⟨g, 0, none⟩) from rfl] at y3
      obtain ⟨_, r1, _, _, _, _, f1, _⟩ := hm.2.1.cells
      obtain ⟨_, _, q2, _, _, _⟩ := cel3 hm.2.2.1
      obtain ⟨M, hM⟩ : ∃ M : Int, M = N - (used : Int) := ⟨_, rfl⟩
      have hwr : IntKind.i64.wrap (N - (used : Int)) = M := by
        have hn := HN.out
        rw [hM, hn, show (n : Int) - (used : Int) = ((n - used : Nat) : Int) by omega]
        exact wrap_i64_nat _ (by omega)
      have HQ := hid (midq_fuel (n' := M) hm hpg (by omega) hb)
      have HQ2 : Hid (MidQ W p vc q g x M s' tr used b (.slice ao LU LU) (.slice ak LK LK) (wc.setCell ⟨g, 1, none⟩ (.int .i64 (IntKind.i64.wrap (N - (used : Int))))).drew) := by rw [hwr]; exact HQ
      have hd : wc.drew.cell? ⟨p, 3, none⟩ = some (.pointer (some ⟨g, 0, none⟩)) ∧ wc.drew.cell? ⟨b, 2, none⟩ = some (.int .i64 (used : Int)) := ⟨y3, q2⟩
      have HK : Hid (∀ u : Value, (wc.setCell ⟨g, 1, none⟩ u).drew.cell? ⟨p, 3, none⟩ = some (.pointer (some ⟨g, 0, none⟩)) ∧ (wc.setCell ⟨g, 1, none⟩ u).drew.cell? ⟨b, 2, none⟩ = some (.int .i64 (used : Int))) := fun u => by
        have e1 : (wc.setCell ⟨g, 1, none⟩ u).drew.heap[p]? = wc.heap[p]? := by show (wc.setCell ⟨g, 1, none⟩ u).heap[p]? = _; rw [far_set hpg]
        have e2 : (wc.setCell ⟨g, 1, none⟩ u).drew.heap[b]? = wc.heap[b]? := by show (wc.setCell ⟨g, 1, none⟩ u).heap[b]? = _; rw [far_set hgb.symm]
        exact ⟨(World.cell?_of_block (a := ⟨p, 3, none⟩) e1).trans y3, (World.cell?_of_block (a := ⟨b, 2, none⟩) e2).trans q2⟩
      have HM1 := hid hM
      have HMM := hid hm
      clear hm hM hgl hsW hb
      go_wp2_with fail
      go_cut [] (fun wx => Hid (MidQ W p vc q g x M s' tr used b (.slice ao LU LU) (.slice ak LK LK) wx))
      case first =>
        refine wp_region_noPanic ?_
        refine wp_region_held_drew (S := fun Y => Y.cell? ⟨p, 3, none⟩ = some (.pointer (some ⟨g, 0, none⟩)) ∧ Y.cell? ⟨b, 2, none⟩ = some (.int .i64 (used : Int))) (by kernel_rfl) ?_ (fun hHeld => ?_)
        · first | (with_reducible exact hd) | (with_reducible exact HK.out _)
        refine wpAnyH_take (i := 0) (oi := { dst := some 72, op := Op.move (Operand.tmp 0), type := 24, pos := "ep.go:66", after := #[], guard := none }) (v := (.pointer (some ⟨p, 0, none⟩))) rfl (by kernel_rfl) (by kernel_rfl) (by kernel_rfl) (fun _ _ _ h => h) (Or.inl ⟨by rfl, ?_⟩) (by assumption) ?_
        · intro w hSw
          try dsimp only at hSw
          go_simp
        try simp only [Act.put, List.setIfInBounds_toArray, List.set_cons_zero, List.set_cons_succ]
        refine wpAnyH_take (i := 1) (oi := { dst := some 73, op := Op.nilCheck (Operand.tmp 72), type := 0, pos := "ep.go:66", after := #[{ on := 0, ground := Ground.data }], guard := none }) (v := (.pointer (some ⟨p, 0, none⟩))) rfl (by kernel_rfl) (by kernel_rfl) (by kernel_rfl) (fun _ _ _ h => h) (Or.inl ⟨by rfl, ?_⟩) (by assumption) ?_
        · intro w hSw
          try dsimp only at hSw
          go_simp
        try simp only [Act.put, List.setIfInBounds_toArray, List.set_cons_zero, List.set_cons_succ]
        refine wpAnyH_take (i := 2) (oi := { dst := some 74, op := Op.fieldAddr 60 (Operand.tmp 73) 3, type := 0, pos := "ep.go:66", after := #[{ on := 1, ground := Ground.data }], guard := none }) (v := (.pointer (some ⟨p, 3, none⟩))) rfl (by kernel_rfl) (by kernel_rfl) (by kernel_rfl) (fun _ _ _ h => h) (Or.inl ⟨by rfl, ?_⟩) (by assumption) ?_
        · intro w hSw
          try dsimp only at hSw
          go_simp
        try simp only [Act.put, List.setIfInBounds_toArray, List.set_cons_zero, List.set_cons_succ]
        refine wpAnyH_take (i := 3) (oi := { dst := some 75, op := Op.load 58 (Operand.tmp 74), type := 58, pos := "ep.go:66", after := #[{ on := 2, ground := Ground.data }], guard := none }) (v := (.pointer (some ⟨g, 0, none⟩))) rfl (by kernel_rfl) (by kernel_rfl) (by kernel_rfl) (fun _ _ _ h => h) (Or.inl ⟨by rfl, ?_⟩) (by assumption) ?_
        · intro w hSw
          try dsimp only at hSw
          obtain ⟨hs1, hs2⟩ := hSw
          go_simp
        try simp only [Act.put, List.setIfInBounds_toArray, List.set_cons_zero, List.set_cons_succ]
        refine wpAnyH_take (i := 4) (oi := { dst := some 76, op := Op.nilCheck (Operand.tmp 75), type := 0, pos := "ep.go:66", after := #[{ on := 3, ground := Ground.data }], guard := none }) (v := (.pointer (some ⟨g, 0, none⟩))) rfl (by kernel_rfl) (by kernel_rfl) (by kernel_rfl) (fun _ _ _ h => h) (Or.inl ⟨by rfl, ?_⟩) (by assumption) ?_
        · intro w hSw
          try dsimp only at hSw
          go_simp
        try simp only [Act.put, List.setIfInBounds_toArray, List.set_cons_zero, List.set_cons_succ]
        refine wpAnyH_take (i := 5) (oi := { dst := some 77, op := Op.fieldAddr 94 (Operand.tmp 76) 1, type := 0, pos := "ep.go:66", after := #[{ on := 4, ground := Ground.data }], guard := none }) (v := (.pointer (some ⟨g, 1, none⟩))) rfl (by kernel_rfl) (by kernel_rfl) (by kernel_rfl) (fun _ _ _ h => h) (Or.inl ⟨by rfl, ?_⟩) (by assumption) ?_
        · intro w hSw
          try dsimp only at hSw
          go_simp
        try simp only [Act.put, List.setIfInBounds_toArray, List.set_cons_zero, List.set_cons_succ]
        refine wpAnyH_take (i := 7) (oi := { dst := some 79, op := Op.fieldAddr 52 (Operand.tmp 7) 2, type := 0, pos := "ep.go:66", after := #[], guard := none }) (v := (.pointer (some ⟨b, 2, none⟩))) rfl (by kernel_rfl) (by kernel_rfl) (by kernel_rfl) (fun _ _ _ h => h) (Or.inl ⟨by rfl, ?_⟩) (by assumption) ?_
        · intro w hSw
          try dsimp only at hSw
          go_simp
        try simp only [Act.put, List.setIfInBounds_toArray, List.set_cons_zero, List.set_cons_succ]
        refine wpAnyH_take (i := 8) (oi := { dst := some 80, op := Op.load 3 (Operand.tmp 79), type := 3, pos := "ep.go:66", after := #[{ on := 7, ground := Ground.data }], guard := none }) (v := (.int .i64 (used : Int))) rfl (by kernel_rfl) (by kernel_rfl) (by kernel_rfl) (fun _ _ _ h => h) (Or.inl ⟨by rfl, ?_⟩) (by assumption) ?_
        · intro w hSw
          try dsimp only at hSw
          obtain ⟨hs1, hs2⟩ := hSw
          go_simp
        try simp only [Act.put, List.setIfInBounds_toArray, List.set_cons_zero, List.set_cons_succ]
        refine wpAnyH_ready (rs := [6]) (by kernel_rfl) (by simp) ?_
        refine AllReadyH.cons (o := { dst := some 78, op := Op.load 3 (Operand.tmp 77), type := 3, pos := "ep.go:66", after := #[{ on := 5, ground := Ground.data }], guard := none }) rfl (fun K hK => ?_) AllReadyH.nil
        go_simp
        try go_wp2_with fail
        refine hK.out _ _ ?_ (fun hHeld => ?_)
        · first | (with_reducible exact hd) | (with_reducible exact HK.out _)
        clear hK K
        try simp only [Act.put, List.setIfInBounds_toArray, List.set_cons_zero, List.set_cons_succ]
        refine wpAnyH_take (i := 9) (oi := { dst := some 81, op := Op.binOp BinOp.sub 3 (Operand.tmp 78) (Operand.tmp 80) 3, type := 3, pos := "ep.go:66", after := #[{ on := 6, ground := Ground.data }, { on := 8, ground := Ground.data }], guard := none }) (v := (.int .i64 M)) rfl (by kernel_rfl) (by kernel_rfl) (by kernel_rfl) (fun _ _ _ h => h) (Or.inl ⟨by rfl, ?_⟩) (by assumption) ?_
        · intro w hSw
          try dsimp only at hSw
          go_simp
        try simp only [Act.put, List.setIfInBounds_toArray, List.set_cons_zero, List.set_cons_succ]
        refine wpAnyH_take (i := 10) (oi := { dst := some 82, op := Op.nilCheck (Operand.tmp 75), type := 0, pos := "ep.go:66", after := #[{ on := 3, ground := Ground.data }, { on := 0, ground := Ground.phase }, { on := 1, ground := Ground.phase }, { on := 2, ground := Ground.phase }, { on := 3, ground := Ground.phase }, { on := 4, ground := Ground.phase }, { on := 5, ground := Ground.phase }, { on := 6, ground := Ground.phase }, { on := 7, ground := Ground.phase }, { on := 8, ground := Ground.phase }, { on := 9, ground := Ground.phase }], guard := none }) (v := (.pointer (some ⟨g, 0, none⟩))) rfl (by kernel_rfl) (by kernel_rfl) (by kernel_rfl) (fun _ _ _ h => h) (Or.inl ⟨by rfl, ?_⟩) (by assumption) ?_
        · intro w hSw
          try dsimp only at hSw
          go_simp
        try simp only [Act.put, List.setIfInBounds_toArray, List.set_cons_zero, List.set_cons_succ]
        refine wpAnyH_take (i := 11) (oi := { dst := some 83, op := Op.fieldAddr 94 (Operand.tmp 82) 1, type := 0, pos := "ep.go:66", after := #[{ on := 10, ground := Ground.data }, { on := 0, ground := Ground.phase }, { on := 1, ground := Ground.phase }, { on := 2, ground := Ground.phase }, { on := 3, ground := Ground.phase }, { on := 4, ground := Ground.phase }, { on := 5, ground := Ground.phase }, { on := 6, ground := Ground.phase }, { on := 7, ground := Ground.phase }, { on := 8, ground := Ground.phase }, { on := 9, ground := Ground.phase }], guard := none }) (v := (.pointer (some ⟨g, 1, none⟩))) rfl (by kernel_rfl) (by kernel_rfl) (by kernel_rfl) (fun _ _ _ h => h) (Or.inl ⟨by rfl, ?_⟩) (by assumption) ?_
        · intro w hSw
          try dsimp only at hSw
          go_simp
        try simp only [Act.put, List.setIfInBounds_toArray, List.set_cons_zero, List.set_cons_succ]
        refine wpAnyH_ready (rs := [12]) (by kernel_rfl) (by simp) ?_
        refine AllReadyH.cons (o := { dst := none, op := Op.store 3 (Operand.tmp 83) (Operand.tmp 81), type := 0, pos := "ep.go:66", after := #[{ on := 11, ground := Ground.data }, { on := 9, ground := Ground.data }, { on := 0, ground := Ground.phase }, { on := 1, ground := Ground.phase }, { on := 2, ground := Ground.phase }, { on := 3, ground := Ground.phase }, { on := 4, ground := Ground.phase }, { on := 5, ground := Ground.phase }, { on := 6, ground := Ground.phase }, { on := 7, ground := Ground.phase }, { on := 8, ground := Ground.phase }, { on := 9, ground := Ground.phase }], guard := none }) rfl (fun K hK => ?_) AllReadyH.nil
        go_simp
        try go_wp2_with fail
        refine hK.out _ _ ?_ (fun hHeld => ?_)
        · first | (with_reducible exact hd) | (with_reducible exact HK.out _)
        clear hK K
        try simp only [Act.put, List.setIfInBounds_toArray, List.set_cons_zero, List.set_cons_succ]
        refine wpAnyH_done (by kernel_rfl) ?_ _
        refine NoPanic.normal ?_
        all_goals
          go_wp2
          go_meet
          case rel => first | (with_reducible exact HQ) | (with_reducible exact HQ2)
      case rest =>
        have hm := hcut.out
        clear HQ HQ2 hd y3 r1 f1 q2 HMM
        have hgl := HGL.out
        have hsW := HSW.out
        have hb := HBB.out
        obtain ⟨q0, q1, q2, _, _, _⟩ := cel3 hm.2.2.1
        have hfo := follow_trap wc p vc q g hm.1 x M s'.pc (.slice ao LU LU) (.slice ak LK LK) false hm.2.1 hpg
        have HMM := hid hm
        clear hm hgl hsW hb hwr
        go_wp2_with fail
        refine hfo.mono ?_
        rintro e w7 ⟨rfl, e7, r7, k7⟩
        have hbl := (Array.getElem?_eq_some_iff.1 HMM.out.2.2.1).1
        have x7 : w7.heap[b]? = some (.cells #[.int .i64 2, .int .i64 tr, .int .i64 (used : Int)] 52 (0, 0)) := (k7.block b hbl (fun h => hgb h.symm)).trans HMM.out.2.2.1
        obtain ⟨p0, p1, p2, _, _, _⟩ := cel3 x7
        have hkW := HMM.out.2.2.2.2.2
        have hsW := HSW.out
        have hgl := HGL.out
        have z7 : w7.heap[w.heap.size]? = some (.cells #[.int .i64 0, .int .i64 0, .int .i64 0] 52 (0, 0)) := by
          have hs := hkW.size
          rw [k7.block _ (by omega) (by omega), hkW.block _ (by omega) (by omega)]
          exact HZ.out
        obtain ⟨z0, z1, z2, g0, g1, g2⟩ := cel3 z7
        have hne : b ≠ w.heap.size := by have := HBB.out; omega
        have HEND := hid (midq_end HSW.out HB.out HMM.out e7 r7 k7 HPL.out HGL.out (.int .i64 2) (.int .i64 tr) (.int .i64 (used : Int)))
        have HZ7 := hid z7
        clear hfo e7 r7 k7 x7 z7 hkW hsW hgl hbl q0 q1 q2
        go_wp2
        refine bodyPost_ret (results_ct (fn := Tryd.f19) (p := 4) (u := 5) rfl _ _ w.heap.size 52 #[.int .i64 2, .int .i64 tr, .int .i64 (used : Int)] (0, 0) _ (.int .i64 0) rfl rfl (heap_fill3 HZ7.out) Tryd.underlying52 rfl) rfl ?_
        have hE := HEND.out
        rw [HM1.out] at hE
        exact ⟨rfl, hE.1, _, _, hE.2.1, hE.2.2.1, hE.2.2.2.1, hE.2.2.2.2⟩
end Go.Proofs.YtkaffbchlngfaaaDoor
