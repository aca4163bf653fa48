/-
  VmStacks: the walk of the law.
-/
import Derived.Test.YtfnojlgmbfocfaaDoorVTakeS
import Derived.Test.YtfnojlgmbfocfaaDoorVAwake
namespace Go.Proofs.YtfnojlgmbfocfaaDoor
open Go.RowKit
set_option linter.unusedVariables false
set_option linter.unusedSimpArgs false

def pushP (s : StL) (n : Int) : Int × StL := if 64 ≤ s.st.length then (2, s0) else (0, ⟨s.pc, s.st ++ [n], s.ca⟩)
def takeP (s : StL) (n : Int) : Int × StL × List Int := if n < 0 then (1, s0, []) else if (s.st.length : Int) < n then (3, s0, []) else (0, ⟨s.pc, s.st.take (s.st.length - n.toNat), s.ca⟩, s.st.drop (s.st.length - n.toNat))
def PushR (w : World) (r : Int × StL) (e : Ending) (w' : World) : Prop := ∃ us uk, e = .returned (.tuple #[.agg #[.int .i64 r.2.pc, us, uk], .int .i64 r.1]) ∧ SeesS w' (.agg #[.int .i64 r.2.pc, us, uk]) r.2 us uk ∧ Below w.heap.size w w'
def TakeR (w : World) (r : Int × StL × List Int) (e : Ending) (w' : World) : Prop := ∃ us uk ul, e = .returned (.tuple #[.agg #[.int .i64 r.2.1.pc, us, uk], ul, .int .i64 r.1]) ∧ SeesS w' (.agg #[.int .i64 r.2.1.pc, us, uk]) r.2.1 us uk ∧ Sees w' ul r.2.2 ∧ Below w.heap.size w w'
theorem OwnS.sees {w : World} {B : Nat} {us uk : Value} {st ca : List Int} (h : OwnS w B us uk st ca) (pc : Int) (h1 : st.length ≤ 140737488355328) (h2 : ca.length ≤ 140737488355328) : SeesS w (.agg #[.int .i64 pc, us, uk]) ⟨pc, st, ca⟩ us uk := ⟨rfl, h.1.sees, h.2.1.sees, h1, h2⟩
theorem push_all (sv : Value) (s : StL) (vs vk : Value) (n : Int) (w : World) (hS : SeesS w sv s vs vk) (hc : s.ca.length * 8 ≤ 140737488355328) : Calls Tryd.prog 18 #[sv, .int .i64 n] w (PushR w (pushP s n)) := by
  by_cases h : 64 ≤ s.st.length
  · refine (push_full sv s vs vk n w hS h hS.sl).mono ?_
    rintro e w' ⟨rfl, b⟩
    rw [pushP, if_pos h]
    exact ⟨_, _, rfl, sees0 w', b⟩
  · refine (push_any sv s vs vk n w hS (by omega) hc).mono ?_
    rintro e w' ⟨us, uk, rfl, o, b⟩
    rw [pushP, if_neg h]
    exact ⟨us, uk, rfl, o.sees s.pc (by simp; omega) hS.cl, b⟩
theorem rpush_all (sv : Value) (s : StL) (vs vk : Value) (n : Int) (w : World) (hS : SeesS w sv s vs vk) (hc : s.ca.length * 8 ≤ 140737488355328) : Calls Tryd.prog 19 #[sv, .int .i64 n] w (PushR w (pushP s n)) := by
  by_cases h : 64 ≤ s.st.length
  · refine (rpush_full sv s vs vk n w hS h hS.sl).mono ?_
    rintro e w' ⟨rfl, b⟩
    rw [pushP, if_pos h]
    exact ⟨_, _, rfl, sees0 w', b⟩
  · refine (rpush_any sv s vs vk n w hS (by omega) hc).mono ?_
    rintro e w' ⟨us, uk, rfl, o, b⟩
    rw [pushP, if_neg h]
    exact ⟨us, uk, rfl, o.sees s.pc (by simp; omega) hS.cl, b⟩
theorem take_all (sv : Value) (s : StL) (vs vk : Value) (n : Int) (w : World) (hS : SeesS w sv s vs vk) (hd : s.st.length * 8 ≤ 140737488355328) (hc : s.ca.length * 8 ≤ 140737488355328) : Calls Tryd.prog 20 #[sv, .int .i64 n] w (TakeR w (takeP s n)) := by
  by_cases h : n < 0
  · refine (take_bad sv s vs vk n 1 w hS (Or.inl ⟨h, rfl⟩)).mono ?_
    rintro e w' ⟨rfl, b⟩
    rw [takeP, if_pos h]
    exact ⟨_, _, _, rfl, sees0 w', Sees.nil w', b⟩
  · by_cases h2 : (s.st.length : Int) < n
    · refine (take_bad sv s vs vk n 3 w hS (Or.inr ⟨by omega, h2, rfl⟩)).mono ?_
      rintro e w' ⟨rfl, b⟩
      rw [takeP, if_neg h, if_pos h2]
      exact ⟨_, _, _, rfl, sees0 w', Sees.nil w', b⟩
    · have hn : n = (n.toNat : Int) := by omega
      have hx := take_any sv s vs vk (s.st.length - n.toNat) n.toNat w hS (by omega) hd hc
      rw [← hn] at hx
      refine hx.mono ?_
      rintro e w' ⟨us, uk, ul, rfl, o, l, b⟩
      rw [takeP, if_neg h, if_neg h2]
      exact ⟨us, uk, ul, rfl, o.sees s.pc (by simp; have := hS.sl; omega) hS.cl, l.sees, b⟩
theorem rtake_all (sv : Value) (s : StL) (vs vk : Value) (n : Int) (w : World) (hS : SeesS w sv s vs vk) (hd : s.st.length * 8 ≤ 140737488355328) (hc : s.ca.length * 8 ≤ 140737488355328) : Calls Tryd.prog 21 #[sv, .int .i64 n] w (TakeR w (takeP s n)) := by
  by_cases h : n < 0
  · refine (rtake_bad sv s vs vk n 1 w hS (Or.inl ⟨h, rfl⟩)).mono ?_
    rintro e w' ⟨rfl, b⟩
    rw [takeP, if_pos h]
    exact ⟨_, _, _, rfl, sees0 w', Sees.nil w', b⟩
  · by_cases h2 : (s.st.length : Int) < n
    · refine (rtake_bad sv s vs vk n 3 w hS (Or.inr ⟨by omega, h2, rfl⟩)).mono ?_
      rintro e w' ⟨rfl, b⟩
      rw [takeP, if_neg h, if_pos h2]
      exact ⟨_, _, _, rfl, sees0 w', Sees.nil w', b⟩
    · have hn : n = (n.toNat : Int) := by omega
      have hx := rtake_any sv s vs vk (s.st.length - n.toNat) n.toNat w hS (by omega) hd hc
      rw [← hn] at hx
      refine hx.mono ?_
      rintro e w' ⟨us, uk, ul, rfl, o, l, b⟩
      rw [takeP, if_neg h, if_neg h2]
      exact ⟨us, uk, ul, rfl, o.sees s.pc (by simp; have := hS.sl; omega) hS.cl, l.sees, b⟩
theorem keepb {w w' : World} {g : Nat} {o : Obj} (h : w.heap[g]? = some o) (b : Below w.heap.size w w') : w'.heap[g]? = some o := (b.block g (Array.getElem?_eq_some_iff.1 h).1).trans h
theorem take_len {s : StL} {n : Int} : (takeP s n).2.2.length ≤ s.st.length := by
  unfold takeP
  split
  · simp
  · split
    · simp
    · simp
theorem pushP_take {s : StL} {n : Int} (h : ¬ 64 ≤ s.st.length) : takeP (pushP s n).2 1 = (0, s, [n]) := by
  rw [pushP, if_neg h]
  unfold takeP
  rw [if_neg (by omega), if_neg (by simp; omega)]
  have e1 : (s.st ++ [n]).length - (1 : Int).toNat = s.st.length := by simp
  simp only [e1]
  rw [List.take_left, List.drop_left]

set_option maxRecDepth 20000 in
set_option maxHeartbeats 8000000 in
theorem stacks_walk (v : Value) (s : StL) (vs vk : Value) (n k : Int) (w : World) (hS : SeesS w v s vs vk) (hd : s.st.length * 8 ≤ 140737488351232) (hc : s.ca.length * 8 ≤ 140737488351232) (hT : Tabs w) :
    Calls Tryd.prog 6 #[v, .int .i64 n, .int .i64 k] w fun e w' => e = .returned (.bool true) ∧ Below w.heap.size w w' := by
  have hv := hS.val
  subst hv
  obtain ⟨_, _, a1, n1, rfl, _⟩ := hS.st
  obtain ⟨_, _, a2, n2, rfl, _⟩ := hS.ca
  obtain ⟨E, hE⟩ : ∃ E, E = (pushP s n).1 := ⟨_, rfl⟩
  obtain ⟨A, hA⟩ : ∃ A, A = (pushP s n).2 := ⟨_, rfl⟩
  obtain ⟨G, hG⟩ : ∃ G, G = (takeP s k).1 := ⟨_, rfl⟩
  obtain ⟨C, hC⟩ : ∃ C, C = (takeP s k).2.1 := ⟨_, rfl⟩
  obtain ⟨L, hL⟩ : ∃ L, L = (takeP s k).2.2 := ⟨_, rfl⟩
  have HLL : Hid (L.length ≤ 140737488355328) := by unfold Hid; rw [hL]; have := take_len (s := s) (n := k); omega
  have HS := hid hS
  have HT := hid hT
  have HC : Hid (s.ca.length * 8 ≤ 140737488355328) := by unfold Hid; omega
  have HD : Hid (s.st.length * 8 ≤ 140737488355328) := by unfold Hid; omega
  have HPU : Hid (∀ sv us uk w, SeesS w sv s us uk → Calls Tryd.prog 18 #[sv, .int .i64 n] w fun e w' => ∃ us uk, e = .returned (.tuple #[.agg #[.int .i64 A.pc, us, uk], .int .i64 E]) ∧ SeesS w' (.agg #[.int .i64 A.pc, us, uk]) A us uk ∧ Below w.heap.size w w') := fun sv us uk w h => by
    rw [hA, hE]; exact push_all sv s us uk n w h HC.out
  have HPR : Hid (∀ sv us uk w, SeesS w sv s us uk → Calls Tryd.prog 19 #[sv, .int .i64 n] w fun e w' => ∃ us uk, e = .returned (.tuple #[.agg #[.int .i64 A.pc, us, uk], .int .i64 E]) ∧ SeesS w' (.agg #[.int .i64 A.pc, us, uk]) A us uk ∧ Below w.heap.size w w') := fun sv us uk w h => by
    rw [hA, hE]; exact rpush_all sv s us uk n w h HC.out
  have HTU : Hid (∀ sv us uk w, SeesS w sv s us uk → Calls Tryd.prog 20 #[sv, .int .i64 k] w fun e w' => ∃ us uk ul, e = .returned (.tuple #[.agg #[.int .i64 C.pc, us, uk], ul, .int .i64 G]) ∧ SeesS w' (.agg #[.int .i64 C.pc, us, uk]) C us uk ∧ Sees w' ul L ∧ Below w.heap.size w w') := fun sv us uk w h => by
    rw [hC, hG, hL]; exact take_all sv s us uk k w h HD.out HC.out
  have HTR : Hid (∀ sv us uk w, SeesS w sv s us uk → Calls Tryd.prog 21 #[sv, .int .i64 k] w fun e w' => ∃ us uk ul, e = .returned (.tuple #[.agg #[.int .i64 C.pc, us, uk], ul, .int .i64 G]) ∧ SeesS w' (.agg #[.int .i64 C.pc, us, uk]) C us uk ∧ Sees w' ul L ∧ Below w.heap.size w w') := fun sv us uk w h => by
    rw [hC, hG, hL]; exact rtake_all sv s us uk k w h HD.out HC.out
  have HAE : Hid ((E = 2) ∨ (E = 0 ∧ ∀ sv us uk w, SeesS w sv A us uk → Calls Tryd.prog 20 #[sv, .int .i64 1] w fun e w' => ∃ us uk ul, e = .returned (.tuple #[.agg #[.int .i64 s.pc, us, uk], ul, .int .i64 0]) ∧ SeesS w' (.agg #[.int .i64 s.pc, us, uk]) s us uk ∧ Sees w' ul [n] ∧ Below w.heap.size w w')) := by
    by_cases h : 64 ≤ s.st.length
    · exact Or.inl (by rw [hE, pushP, if_pos h])
    · refine Or.inr ⟨by rw [hE, pushP, if_neg h], fun sv us uk w h1 => ?_⟩
      have hx := take_all sv A us uk 1 w h1 (by rw [hA, pushP, if_neg h]; simp; omega) (by rw [hA, pushP, if_neg h]; exact HC.out)
      rw [hA, pushP_take h] at hx
      exact hx
  have HSS : Hid (∀ (t : StL) (v1 v2 a1 k1 a2 k2 : Value) (w : World), SeesS w v1 t a1 k1 → SeesS w v2 t a2 k2 → Calls Tryd.prog 15 #[v1, v2] w fun e w' => e = .returned (.bool true) ∧ Below w.heap.size w w') := fun t v1 v2 a1 k1 a2 k2 w h1 h2 => by
    have hx := sameS_any v1 v2 t t a1 k1 a2 k2 w h1 h2
    rw [eqS_self] at hx
    exact hx
  have HSI : Hid (∀ (t : List Int) (v1 v2 : Value) (w : World), t.length ≤ 140737488355328 → Sees w v1 t → Sees w v2 t → Calls Tryd.prog 22 #[v1, v2] w fun e w' => e = .returned (.bool true) ∧ Below w.heap.size w w') := fun t v1 v2 w hl h1 h2 => by
    have hx := same_any v1 v2 t t w h1 h2 (by omega) (by omega)
    rw [decide_eq_true rfl] at hx
    exact hx
  clear hE hA hG hC hL hd hc
  obtain ⟨X0, hX0⟩ : ∃ X, X = w.alloc (.cells #[.int .i64 s.pc, .slice a1 s.st.length n1, .slice a2 s.ca.length n2] 25) := ⟨_, rfl⟩
  have b0 : Below w.heap.size w X0 := by rw [hX0]; exact below_alloc w _
  have z0_0 : X0.heap[w.heap.size]? = some (.cells #[.int .i64 s.pc, .slice a1 s.st.length n1, .slice a2 s.ca.length n2] 25 (0, 0)) := by rw [hX0]; exact heap_alloc_new w _
  have B_X0 := hid b0
  have Zs_X0 := hid z0_0
  have Ss_X0 := hid (hS.below b0)
  have hcp := rcopy_any _ s _ _ X0 (hS.below b0) HD.out HC.out
  obtain ⟨c00, c01, c02, _, _, _⟩ := cel3 z0_0
  clear b0 z0_0 hS hT
  go_enter Tryd.func6, Tryd.ntmps6
  iterate 7 (first | go_values | go_skip | go_guarded | go_step | go_upon | go_back | go_simp)
  rw [← hX0]
  clear hX0
  go_wp2_with fail
  refine hcp.mono ?_
  rintro e w1 ⟨us1, uk1, rfl, os1, ok1, _, b1⟩
  have S1 : SeesS w1 (.agg #[.int .i64 s.pc, us1, uk1]) s us1 uk1 := ⟨rfl, os1.sees, ok1.sees, by have := HD.out; omega, by have := HC.out; omega⟩
  clear hcp os1 ok1
  have S1' := S1
  obtain ⟨_, _, a1b, m1b, hu1b, hrest⟩ := S1'.st
  clear hrest
  obtain ⟨_, _, d1b, q1b, hk1b, hrest⟩ := S1'.ca
  clear hrest
  subst hu1b
  subst hk1b
  clear S1'
  have B_w1 := hid (B_X0.out.trans (b1.mono B_X0.out.size))
  have Zs_w1 := hid (keepb Zs_X0.out b1)
  have Ss_w1 := hid (Ss_X0.out.below b1)
  clear B_X0 Zs_X0 Ss_X0
  have So_w1 := hid S1
  clear S1 b1
  obtain ⟨X1, hX1⟩ : ∃ X, X = w1.alloc (.cells #[.int .i64 s.pc, .slice a1b s.st.length m1b, .slice d1b s.ca.length q1b] 25) := ⟨_, rfl⟩
  have bx : Below w1.heap.size w1 X1 := by rw [hX1]; exact below_alloc w1 _
  have zx : X1.heap[w1.heap.size]? = some (.cells #[.int .i64 s.pc, .slice a1b s.st.length m1b, .slice d1b s.ca.length q1b] 25 (0, 0)) := by rw [hX1]; exact heap_alloc_new w1 _
  have B_X1 := hid (B_w1.out.trans (bx.mono B_w1.out.size))
  have Zs_X1 := hid (keepb Zs_w1.out bx)
  have Ss_X1 := hid (Ss_w1.out.below bx)
  have So_X1 := hid (So_w1.out.below bx)
  clear B_w1 Zs_w1 Ss_w1 So_w1
  have Zo_X1 := hid zx
  clear bx zx
  clear c00 c01 c02
  obtain ⟨cZs_X1_0, cZs_X1_1, cZs_X1_2, _, _, _⟩ := cel3 Zs_X1.out
  rw [hX1] at cZs_X1_0 cZs_X1_1 cZs_X1_2
  obtain ⟨cZo_X1_0, cZo_X1_1, cZo_X1_2, _, _, _⟩ := cel3 Zo_X1.out
  rw [hX1] at cZo_X1_0 cZo_X1_1 cZo_X1_2
  go_wp2_with fail
  rw [← hX1]
  clear hX1
  refine (HPU.out _ _ _ _ So_X1.out).mono ?_
  rintro e w2 ⟨us2, uk2, rfl, S2, b2⟩
  have S2' := S2
  obtain ⟨_, _, a2, m2, hu2, hrest⟩ := S2'.st
  clear hrest
  obtain ⟨_, _, d2, q2, hk2, hrest⟩ := S2'.ca
  clear hrest
  subst hu2
  subst hk2
  clear S2'
  have B_w2 := hid (B_X1.out.trans (b2.mono B_X1.out.size))
  have Zs_w2 := hid (keepb Zs_X1.out b2)
  have Ss_w2 := hid (Ss_X1.out.below b2)
  have So_w2 := hid (So_X1.out.below b2)
  have Zo_w2 := hid (keepb Zo_X1.out b2)
  clear B_X1 Zs_X1 Ss_X1 So_X1 Zo_X1
  have Sa_w2 := hid S2
  clear S2 b2
  obtain ⟨X2, hX2⟩ : ∃ X, X = w2.alloc (.cells #[.int .i64 A.pc, .slice a2 A.st.length m2, .slice d2 A.ca.length q2] 25) := ⟨_, rfl⟩
  have bx : Below w2.heap.size w2 X2 := by rw [hX2]; exact below_alloc w2 _
  have zx : X2.heap[w2.heap.size]? = some (.cells #[.int .i64 A.pc, .slice a2 A.st.length m2, .slice d2 A.ca.length q2] 25 (0, 0)) := by rw [hX2]; exact heap_alloc_new w2 _
  have B_X2 := hid (B_w2.out.trans (bx.mono B_w2.out.size))
  have Zs_X2 := hid (keepb Zs_w2.out bx)
  have Ss_X2 := hid (Ss_w2.out.below bx)
  have So_X2 := hid (So_w2.out.below bx)
  have Zo_X2 := hid (keepb Zo_w2.out bx)
  have Sa_X2 := hid (Sa_w2.out.below bx)
  clear B_w2 Zs_w2 Ss_w2 So_w2 Zo_w2 Sa_w2
  have Za_X2 := hid zx
  clear bx zx
  clear cZs_X1_0 cZs_X1_1 cZs_X1_2 cZo_X1_0 cZo_X1_1 cZo_X1_2
  obtain ⟨cZs_X2_0, cZs_X2_1, cZs_X2_2, _, _, _⟩ := cel3 Zs_X2.out
  rw [hX2] at cZs_X2_0 cZs_X2_1 cZs_X2_2
  obtain ⟨cZo_X2_0, cZo_X2_1, cZo_X2_2, _, _, _⟩ := cel3 Zo_X2.out
  rw [hX2] at cZo_X2_0 cZo_X2_1 cZo_X2_2
  obtain ⟨cZa_X2_0, cZa_X2_1, cZa_X2_2, _, _, _⟩ := cel3 Za_X2.out
  rw [hX2] at cZa_X2_0 cZa_X2_1 cZa_X2_2
  go_wp2_with fail
  rw [← hX2]
  clear hX2
  refine (HPR.out _ _ _ _ Ss_X2.out).mono ?_
  rintro e w3 ⟨us3, uk3, rfl, S3, b3⟩
  have S3' := S3
  obtain ⟨_, _, a3, m3, hu3, hrest⟩ := S3'.st
  clear hrest
  obtain ⟨_, _, d3, q3, hk3, hrest⟩ := S3'.ca
  clear hrest
  subst hu3
  subst hk3
  clear S3'
  have B_w3 := hid (B_X2.out.trans (b3.mono B_X2.out.size))
  have Zs_w3 := hid (keepb Zs_X2.out b3)
  have Ss_w3 := hid (Ss_X2.out.below b3)
  have So_w3 := hid (So_X2.out.below b3)
  have Zo_w3 := hid (keepb Zo_X2.out b3)
  have Sa_w3 := hid (Sa_X2.out.below b3)
  have Za_w3 := hid (keepb Za_X2.out b3)
  clear B_X2 Zs_X2 Ss_X2 So_X2 Zo_X2 Sa_X2 Za_X2
  have Sb_w3 := hid S3
  clear S3 b3
  obtain ⟨X3, hX3⟩ : ∃ X, X = w3.alloc (.cells #[.int .i64 A.pc, .slice a3 A.st.length m3, .slice d3 A.ca.length q3] 25) := ⟨_, rfl⟩
  have bx : Below w3.heap.size w3 X3 := by rw [hX3]; exact below_alloc w3 _
  have zx : X3.heap[w3.heap.size]? = some (.cells #[.int .i64 A.pc, .slice a3 A.st.length m3, .slice d3 A.ca.length q3] 25 (0, 0)) := by rw [hX3]; exact heap_alloc_new w3 _
  have B_X3 := hid (B_w3.out.trans (bx.mono B_w3.out.size))
  have Zs_X3 := hid (keepb Zs_w3.out bx)
  have Ss_X3 := hid (Ss_w3.out.below bx)
  have So_X3 := hid (So_w3.out.below bx)
  have Zo_X3 := hid (keepb Zo_w3.out bx)
  have Sa_X3 := hid (Sa_w3.out.below bx)
  have Za_X3 := hid (keepb Za_w3.out bx)
  have Sb_X3 := hid (Sb_w3.out.below bx)
  clear B_w3 Zs_w3 Ss_w3 So_w3 Zo_w3 Sa_w3 Za_w3 Sb_w3
  have Zb_X3 := hid zx
  clear bx zx
  clear cZs_X2_0 cZs_X2_1 cZs_X2_2 cZo_X2_0 cZo_X2_1 cZo_X2_2 cZa_X2_0 cZa_X2_1 cZa_X2_2
  obtain ⟨cZs_X3_0, cZs_X3_1, cZs_X3_2, _, _, _⟩ := cel3 Zs_X3.out
  rw [hX3] at cZs_X3_0 cZs_X3_1 cZs_X3_2
  obtain ⟨cZo_X3_0, cZo_X3_1, cZo_X3_2, _, _, _⟩ := cel3 Zo_X3.out
  rw [hX3] at cZo_X3_0 cZo_X3_1 cZo_X3_2
  go_wp2_with fail
  rw [← hX3]
  clear hX3
  refine (HTU.out _ _ _ _ So_X3.out).mono ?_
  rintro e w4 ⟨us4, uk4, ul4, rfl, S4, I4, b4⟩
  have S4' := S4
  obtain ⟨_, _, a4, m4, hu4, hrest⟩ := S4'.st
  clear hrest
  obtain ⟨_, _, d4, q4, hk4, hrest⟩ := S4'.ca
  clear hrest
  subst hu4
  subst hk4
  clear S4'
  have I4' := I4
  obtain ⟨_, _, a4l, m4l, hu4l, hrest⟩ := I4'
  clear hrest
  subst hu4l
  have B_w4 := hid (B_X3.out.trans (b4.mono B_X3.out.size))
  have Zs_w4 := hid (keepb Zs_X3.out b4)
  have Ss_w4 := hid (Ss_X3.out.below b4)
  have So_w4 := hid (So_X3.out.below b4)
  have Zo_w4 := hid (keepb Zo_X3.out b4)
  have Sa_w4 := hid (Sa_X3.out.below b4)
  have Za_w4 := hid (keepb Za_X3.out b4)
  have Sb_w4 := hid (Sb_X3.out.below b4)
  have Zb_w4 := hid (keepb Zb_X3.out b4)
  clear B_X3 Zs_X3 Ss_X3 So_X3 Zo_X3 Sa_X3 Za_X3 Sb_X3 Zb_X3
  have Sc_w4 := hid S4
  have Ic_w4 := hid I4
  clear S4 I4 b4
  obtain ⟨X4, hX4⟩ : ∃ X, X = w4.alloc (.cells #[.int .i64 C.pc, .slice a4 C.st.length m4, .slice d4 C.ca.length q4] 25) := ⟨_, rfl⟩
  have bx : Below w4.heap.size w4 X4 := by rw [hX4]; exact below_alloc w4 _
  have zx : X4.heap[w4.heap.size]? = some (.cells #[.int .i64 C.pc, .slice a4 C.st.length m4, .slice d4 C.ca.length q4] 25 (0, 0)) := by rw [hX4]; exact heap_alloc_new w4 _
  have B_X4 := hid (B_w4.out.trans (bx.mono B_w4.out.size))
  have Zs_X4 := hid (keepb Zs_w4.out bx)
  have Ss_X4 := hid (Ss_w4.out.below bx)
  have So_X4 := hid (So_w4.out.below bx)
  have Zo_X4 := hid (keepb Zo_w4.out bx)
  have Sa_X4 := hid (Sa_w4.out.below bx)
  have Za_X4 := hid (keepb Za_w4.out bx)
  have Sb_X4 := hid (Sb_w4.out.below bx)
  have Zb_X4 := hid (keepb Zb_w4.out bx)
  have Sc_X4 := hid (Sc_w4.out.below bx)
  have Ic_X4 := hid (Ic_w4.out.below bx)
  clear B_w4 Zs_w4 Ss_w4 So_w4 Zo_w4 Sa_w4 Za_w4 Sb_w4 Zb_w4 Sc_w4 Ic_w4
  have Zc_X4 := hid zx
  clear bx zx
  clear cZs_X3_0 cZs_X3_1 cZs_X3_2 cZo_X3_0 cZo_X3_1 cZo_X3_2
  obtain ⟨cZs_X4_0, cZs_X4_1, cZs_X4_2, _, _, _⟩ := cel3 Zs_X4.out
  rw [hX4] at cZs_X4_0 cZs_X4_1 cZs_X4_2
  go_wp2_with fail
  rw [← hX4]
  clear hX4
  refine (HTR.out _ _ _ _ Ss_X4.out).mono ?_
  rintro e w5 ⟨us5, uk5, ul5, rfl, S5, I5, b5⟩
  have S5' := S5
  obtain ⟨_, _, a5, m5, hu5, hrest⟩ := S5'.st
  clear hrest
  obtain ⟨_, _, d5, q5, hk5, hrest⟩ := S5'.ca
  clear hrest
  subst hu5
  subst hk5
  clear S5'
  have I5' := I5
  obtain ⟨_, _, a5l, m5l, hu5l, hrest⟩ := I5'
  clear hrest
  subst hu5l
  have B_w5 := hid (B_X4.out.trans (b5.mono B_X4.out.size))
  have Zs_w5 := hid (keepb Zs_X4.out b5)
  have Ss_w5 := hid (Ss_X4.out.below b5)
  have So_w5 := hid (So_X4.out.below b5)
  have Zo_w5 := hid (keepb Zo_X4.out b5)
  have Sa_w5 := hid (Sa_X4.out.below b5)
  have Za_w5 := hid (keepb Za_X4.out b5)
  have Sb_w5 := hid (Sb_X4.out.below b5)
  have Zb_w5 := hid (keepb Zb_X4.out b5)
  have Sc_w5 := hid (Sc_X4.out.below b5)
  have Ic_w5 := hid (Ic_X4.out.below b5)
  have Zc_w5 := hid (keepb Zc_X4.out b5)
  clear B_X4 Zs_X4 Ss_X4 So_X4 Zo_X4 Sa_X4 Za_X4 Sb_X4 Zb_X4 Sc_X4 Ic_X4 Zc_X4
  have Sd_w5 := hid S5
  have Id_w5 := hid I5
  clear S5 I5 b5
  obtain ⟨X5, hX5⟩ : ∃ X, X = w5.alloc (.cells #[.int .i64 C.pc, .slice a5 C.st.length m5, .slice d5 C.ca.length q5] 25) := ⟨_, rfl⟩
  have bx : Below w5.heap.size w5 X5 := by rw [hX5]; exact below_alloc w5 _
  have zx : X5.heap[w5.heap.size]? = some (.cells #[.int .i64 C.pc, .slice a5 C.st.length m5, .slice d5 C.ca.length q5] 25 (0, 0)) := by rw [hX5]; exact heap_alloc_new w5 _
  have B_X5 := hid (B_w5.out.trans (bx.mono B_w5.out.size))
  have Zs_X5 := hid (keepb Zs_w5.out bx)
  have Ss_X5 := hid (Ss_w5.out.below bx)
  have So_X5 := hid (So_w5.out.below bx)
  have Zo_X5 := hid (keepb Zo_w5.out bx)
  have Sa_X5 := hid (Sa_w5.out.below bx)
  have Za_X5 := hid (keepb Za_w5.out bx)
  have Sb_X5 := hid (Sb_w5.out.below bx)
  have Zb_X5 := hid (keepb Zb_w5.out bx)
  have Sc_X5 := hid (Sc_w5.out.below bx)
  have Ic_X5 := hid (Ic_w5.out.below bx)
  have Zc_X5 := hid (keepb Zc_w5.out bx)
  have Sd_X5 := hid (Sd_w5.out.below bx)
  have Id_X5 := hid (Id_w5.out.below bx)
  clear B_w5 Zs_w5 Ss_w5 So_w5 Zo_w5 Sa_w5 Za_w5 Sb_w5 Zb_w5 Sc_w5 Ic_w5 Zc_w5 Sd_w5 Id_w5
  have Zd_X5 := hid zx
  clear bx zx
  clear cZs_X4_0 cZs_X4_1 cZs_X4_2
  obtain ⟨cZa_X5_0, cZa_X5_1, cZa_X5_2, _, _, _⟩ := cel3 Za_X5.out
  rw [hX5] at cZa_X5_0 cZa_X5_1 cZa_X5_2
  obtain ⟨cZb_X5_0, cZb_X5_1, cZb_X5_2, _, _, _⟩ := cel3 Zb_X5.out
  rw [hX5] at cZb_X5_0 cZb_X5_1 cZb_X5_2
  go_wp2_with fail
  rw [← hX5]
  clear hX5
  refine (HSS.out A _ _ _ _ _ _ _ Sa_X5.out Sb_X5.out).mono ?_
  rintro e w6 ⟨rfl, b6⟩
  have B_w6 := hid (B_X5.out.trans (b6.mono B_X5.out.size))
  have Zs_w6 := hid (keepb Zs_X5.out b6)
  have Ss_w6 := hid (Ss_X5.out.below b6)
  have So_w6 := hid (So_X5.out.below b6)
  have Zo_w6 := hid (keepb Zo_X5.out b6)
  have Sa_w6 := hid (Sa_X5.out.below b6)
  have Za_w6 := hid (keepb Za_X5.out b6)
  have Sb_w6 := hid (Sb_X5.out.below b6)
  have Zb_w6 := hid (keepb Zb_X5.out b6)
  have Sc_w6 := hid (Sc_X5.out.below b6)
  have Ic_w6 := hid (Ic_X5.out.below b6)
  have Zc_w6 := hid (keepb Zc_X5.out b6)
  have Sd_w6 := hid (Sd_X5.out.below b6)
  have Id_w6 := hid (Id_X5.out.below b6)
  have Zd_w6 := hid (keepb Zd_X5.out b6)
  clear B_X5 Zs_X5 Ss_X5 So_X5 Zo_X5 Sa_X5 Za_X5 Sb_X5 Zb_X5 Sc_X5 Ic_X5 Zc_X5 Sd_X5 Id_X5 Zd_X5
  clear cZa_X5_0 cZa_X5_1 cZa_X5_2 cZb_X5_0 cZb_X5_1 cZb_X5_2
  obtain ⟨cZc_w6_0, cZc_w6_1, cZc_w6_2, _, _, _⟩ := cel3 Zc_w6.out
  obtain ⟨cZd_w6_0, cZd_w6_1, cZd_w6_2, _, _, _⟩ := cel3 Zd_w6.out
  clear b6
  go_wp2_with fail
  refine (HSS.out C _ _ _ _ _ _ _ Sc_w6.out Sd_w6.out).mono ?_
  rintro e w7 ⟨rfl, b7⟩
  have B_w7 := hid (B_w6.out.trans (b7.mono B_w6.out.size))
  have Zs_w7 := hid (keepb Zs_w6.out b7)
  have Ss_w7 := hid (Ss_w6.out.below b7)
  have So_w7 := hid (So_w6.out.below b7)
  have Zo_w7 := hid (keepb Zo_w6.out b7)
  have Sa_w7 := hid (Sa_w6.out.below b7)
  have Za_w7 := hid (keepb Za_w6.out b7)
  have Sb_w7 := hid (Sb_w6.out.below b7)
  have Zb_w7 := hid (keepb Zb_w6.out b7)
  have Sc_w7 := hid (Sc_w6.out.below b7)
  have Ic_w7 := hid (Ic_w6.out.below b7)
  have Zc_w7 := hid (keepb Zc_w6.out b7)
  have Sd_w7 := hid (Sd_w6.out.below b7)
  have Id_w7 := hid (Id_w6.out.below b7)
  have Zd_w7 := hid (keepb Zd_w6.out b7)
  clear B_w6 Zs_w6 Ss_w6 So_w6 Zo_w6 Sa_w6 Za_w6 Sb_w6 Zb_w6 Sc_w6 Ic_w6 Zc_w6 Sd_w6 Id_w6 Zd_w6
  clear cZc_w6_0 cZc_w6_1 cZc_w6_2 cZd_w6_0 cZd_w6_1 cZd_w6_2
  clear b7
  go_wp2_with fail
  refine (HSI.out L _ _ _ HLL.out Ic_w7.out Id_w7.out).mono ?_
  rintro e w8 ⟨rfl, b8⟩
  have B_w8 := hid (B_w7.out.trans (b8.mono B_w7.out.size))
  have Zs_w8 := hid (keepb Zs_w7.out b8)
  have Ss_w8 := hid (Ss_w7.out.below b8)
  have So_w8 := hid (So_w7.out.below b8)
  have Zo_w8 := hid (keepb Zo_w7.out b8)
  have Sa_w8 := hid (Sa_w7.out.below b8)
  have Za_w8 := hid (keepb Za_w7.out b8)
  have Sb_w8 := hid (Sb_w7.out.below b8)
  have Zb_w8 := hid (keepb Zb_w7.out b8)
  have Sc_w8 := hid (Sc_w7.out.below b8)
  have Ic_w8 := hid (Ic_w7.out.below b8)
  have Zc_w8 := hid (keepb Zc_w7.out b8)
  have Sd_w8 := hid (Sd_w7.out.below b8)
  have Id_w8 := hid (Id_w7.out.below b8)
  have Zd_w8 := hid (keepb Zd_w7.out b8)
  clear B_w7 Zs_w7 Ss_w7 So_w7 Zo_w7 Sa_w7 Za_w7 Sb_w7 Zb_w7 Sc_w7 Ic_w7 Zc_w7 Sd_w7 Id_w7 Zd_w7
  obtain ⟨cZo_w8_0, cZo_w8_1, cZo_w8_2, _, _, _⟩ := cel3 Zo_w8.out
  obtain ⟨cZs_w8_0, cZs_w8_1, cZs_w8_2, _, _, _⟩ := cel3 Zs_w8.out
  clear b8
  go_wp2_with fail
  refine (HSS.out s _ _ _ _ _ _ _ So_w8.out Ss_w8.out).mono ?_
  rintro e w9 ⟨rfl, b9⟩
  have B_w9 := hid (B_w8.out.trans (b9.mono B_w8.out.size))
  have Zs_w9 := hid (keepb Zs_w8.out b9)
  have Ss_w9 := hid (Ss_w8.out.below b9)
  have So_w9 := hid (So_w8.out.below b9)
  have Zo_w9 := hid (keepb Zo_w8.out b9)
  have Sa_w9 := hid (Sa_w8.out.below b9)
  have Za_w9 := hid (keepb Za_w8.out b9)
  have Sb_w9 := hid (Sb_w8.out.below b9)
  have Zb_w9 := hid (keepb Zb_w8.out b9)
  have Sc_w9 := hid (Sc_w8.out.below b9)
  have Ic_w9 := hid (Ic_w8.out.below b9)
  have Zc_w9 := hid (keepb Zc_w8.out b9)
  have Sd_w9 := hid (Sd_w8.out.below b9)
  have Id_w9 := hid (Id_w8.out.below b9)
  have Zd_w9 := hid (keepb Zd_w8.out b9)
  clear B_w8 Zs_w8 Ss_w8 So_w8 Zo_w8 Sa_w8 Za_w8 Sb_w8 Zb_w8 Sc_w8 Ic_w8 Zc_w8 Sd_w8 Id_w8 Zd_w8
  clear cZo_w8_0 cZo_w8_1 cZo_w8_2 cZs_w8_0 cZs_w8_1 cZs_w8_2
  obtain ⟨cZa_w9_0, cZa_w9_1, cZa_w9_2, _, _, _⟩ := cel3 Za_w9.out
  clear b9
  rcases HAE.out with hE | ⟨hE, hTk⟩
  · subst hE
    go_wp2_with fail
    refine (awake_any w9 (HT.out.below B_w9.out)).mono ?_
    rintro e w10 ⟨rfl, b10⟩
    go_wp2
    go_ret
    exact ⟨rfl, B_w9.out.trans (b10.mono B_w9.out.size)⟩
  · subst hE
    have HTK := hid hTk
    clear hTk
    go_wp2_with fail
    refine (HTK.out _ _ _ _ Sa_w9.out).mono ?_
    rintro e w10 ⟨us10, uk10, ul10, rfl, S10, I10, b10⟩
    have S10' := S10
    obtain ⟨_, _, a10, m10, hu10, hrest⟩ := S10'.st
    clear hrest
    obtain ⟨_, _, d10, q10, hk10, hrest⟩ := S10'.ca
    clear hrest
    subst hu10
    subst hk10
    clear S10'
    have I10' := I10
    obtain ⟨_, _, a10l, m10l, hu10l, hrest⟩ := I10'
    clear hrest
    subst hu10l
    have B_w10 := hid (B_w9.out.trans (b10.mono B_w9.out.size))
    have Zs_w10 := hid (keepb Zs_w9.out b10)
    have Ss_w10 := hid (Ss_w9.out.below b10)
    have So_w10 := hid (So_w9.out.below b10)
    have Zo_w10 := hid (keepb Zo_w9.out b10)
    have Sa_w10 := hid (Sa_w9.out.below b10)
    have Za_w10 := hid (keepb Za_w9.out b10)
    have Sb_w10 := hid (Sb_w9.out.below b10)
    have Zb_w10 := hid (keepb Zb_w9.out b10)
    have Sc_w10 := hid (Sc_w9.out.below b10)
    have Ic_w10 := hid (Ic_w9.out.below b10)
    have Zc_w10 := hid (keepb Zc_w9.out b10)
    have Sd_w10 := hid (Sd_w9.out.below b10)
    have Id_w10 := hid (Id_w9.out.below b10)
    have Zd_w10 := hid (keepb Zd_w9.out b10)
    clear B_w9 Zs_w9 Ss_w9 So_w9 Zo_w9 Sa_w9 Za_w9 Sb_w9 Zb_w9 Sc_w9 Ic_w9 Zc_w9 Sd_w9 Id_w9 Zd_w9
    have Sk_w10 := hid S10
    have Ik_w10 := hid I10
    clear S10 I10 b10
    obtain ⟨X10, hX10⟩ : ∃ X, X = w10.alloc (.cells #[.int .i64 s.pc, .slice a10 s.st.length m10, .slice d10 s.ca.length q10] 25) := ⟨_, rfl⟩
    have bx : Below w10.heap.size w10 X10 := by rw [hX10]; exact below_alloc w10 _
    have zx : X10.heap[w10.heap.size]? = some (.cells #[.int .i64 s.pc, .slice a10 s.st.length m10, .slice d10 s.ca.length q10] 25 (0, 0)) := by rw [hX10]; exact heap_alloc_new w10 _
    have B_X10 := hid (B_w10.out.trans (bx.mono B_w10.out.size))
    have Zs_X10 := hid (keepb Zs_w10.out bx)
    have Ss_X10 := hid (Ss_w10.out.below bx)
    have So_X10 := hid (So_w10.out.below bx)
    have Zo_X10 := hid (keepb Zo_w10.out bx)
    have Sa_X10 := hid (Sa_w10.out.below bx)
    have Za_X10 := hid (keepb Za_w10.out bx)
    have Sb_X10 := hid (Sb_w10.out.below bx)
    have Zb_X10 := hid (keepb Zb_w10.out bx)
    have Sc_X10 := hid (Sc_w10.out.below bx)
    have Ic_X10 := hid (Ic_w10.out.below bx)
    have Zc_X10 := hid (keepb Zc_w10.out bx)
    have Sd_X10 := hid (Sd_w10.out.below bx)
    have Id_X10 := hid (Id_w10.out.below bx)
    have Zd_X10 := hid (keepb Zd_w10.out bx)
    have Sk_X10 := hid (Sk_w10.out.below bx)
    have Ik_X10 := hid (Ik_w10.out.below bx)
    clear B_w10 Zs_w10 Ss_w10 So_w10 Zo_w10 Sa_w10 Za_w10 Sb_w10 Zb_w10 Sc_w10 Ic_w10 Zc_w10 Sd_w10 Id_w10 Zd_w10 Sk_w10 Ik_w10
    have Zk_X10 := hid zx
    clear bx zx
    clear cZa_w9_0 cZa_w9_1 cZa_w9_2
    obtain ⟨Y10, hY10⟩ : ∃ Y, Y = X10.alloc (.cells #[.int .i64 n] 3) := ⟨_, rfl⟩
    have by10 : Below X10.heap.size X10 Y10 := by rw [hY10]; exact below_alloc X10 _
    have sx10 : X10.heap.size = w10.heap.size + 1 := by rw [hX10]; simp
    have sy10 : Sees Y10 (.slice (some ⟨w10.heap.size + 1, 0, none⟩) 1 1) [n] := by rw [hY10, ← sx10]; exact sees_one X10 n
    clear sx10
    rw [hX10] at hY10
    have B_Y10 := hid (B_X10.out.trans (by10.mono B_X10.out.size))
    have Zs_Y10 := hid (keepb Zs_X10.out by10)
    have Ss_Y10 := hid (Ss_X10.out.below by10)
    have So_Y10 := hid (So_X10.out.below by10)
    have Zo_Y10 := hid (keepb Zo_X10.out by10)
    have Sa_Y10 := hid (Sa_X10.out.below by10)
    have Za_Y10 := hid (keepb Za_X10.out by10)
    have Sb_Y10 := hid (Sb_X10.out.below by10)
    have Zb_Y10 := hid (keepb Zb_X10.out by10)
    have Sc_Y10 := hid (Sc_X10.out.below by10)
    have Ic_Y10 := hid (Ic_X10.out.below by10)
    have Zc_Y10 := hid (keepb Zc_X10.out by10)
    have Sd_Y10 := hid (Sd_X10.out.below by10)
    have Id_Y10 := hid (Id_X10.out.below by10)
    have Zd_Y10 := hid (keepb Zd_X10.out by10)
    have Sk_Y10 := hid (Sk_X10.out.below by10)
    have Ik_Y10 := hid (Ik_X10.out.below by10)
    have Zk_Y10 := hid (keepb Zk_X10.out by10)
    clear B_X10 Zs_X10 Ss_X10 So_X10 Zo_X10 Sa_X10 Za_X10 Sb_X10 Zb_X10 Sc_X10 Ic_X10 Zc_X10 Sd_X10 Id_X10 Zd_X10 Sk_X10 Ik_X10 Zk_X10
    clear by10 hX10
    have SY := hid sy10
    clear sy10
    go_wp2_with fail
    rw [← hY10]
    clear hY10
    refine (HSI.out [n] _ _ Y10 (by simp) Ik_Y10.out SY.out).mono ?_
    rintro e w11 ⟨rfl, b11⟩
    have B_w11 := hid (B_Y10.out.trans (b11.mono B_Y10.out.size))
    have Zs_w11 := hid (keepb Zs_Y10.out b11)
    have Ss_w11 := hid (Ss_Y10.out.below b11)
    have So_w11 := hid (So_Y10.out.below b11)
    have Zo_w11 := hid (keepb Zo_Y10.out b11)
    have Sa_w11 := hid (Sa_Y10.out.below b11)
    have Za_w11 := hid (keepb Za_Y10.out b11)
    have Sb_w11 := hid (Sb_Y10.out.below b11)
    have Zb_w11 := hid (keepb Zb_Y10.out b11)
    have Sc_w11 := hid (Sc_Y10.out.below b11)
    have Ic_w11 := hid (Ic_Y10.out.below b11)
    have Zc_w11 := hid (keepb Zc_Y10.out b11)
    have Sd_w11 := hid (Sd_Y10.out.below b11)
    have Id_w11 := hid (Id_Y10.out.below b11)
    have Zd_w11 := hid (keepb Zd_Y10.out b11)
    have Sk_w11 := hid (Sk_Y10.out.below b11)
    have Ik_w11 := hid (Ik_Y10.out.below b11)
    have Zk_w11 := hid (keepb Zk_Y10.out b11)
    clear B_Y10 Zs_Y10 Ss_Y10 So_Y10 Zo_Y10 Sa_Y10 Za_Y10 Sb_Y10 Zb_Y10 Sc_Y10 Ic_Y10 Zc_Y10 Sd_Y10 Id_Y10 Zd_Y10 Sk_Y10 Ik_Y10 Zk_Y10
    clear b11 SY
    obtain ⟨cZk_w11_0, cZk_w11_1, cZk_w11_2, _, _, _⟩ := cel3 Zk_w11.out
    obtain ⟨cZs_w11_0, cZs_w11_1, cZs_w11_2, _, _, _⟩ := cel3 Zs_w11.out
    go_wp2_with fail
    refine (HSS.out s _ _ _ _ _ _ _ Sk_w11.out Ss_w11.out).mono ?_
    rintro e w12 ⟨rfl, b12⟩
    have B_w12 := hid (B_w11.out.trans (b12.mono B_w11.out.size))
    have Zs_w12 := hid (keepb Zs_w11.out b12)
    have Ss_w12 := hid (Ss_w11.out.below b12)
    have So_w12 := hid (So_w11.out.below b12)
    have Zo_w12 := hid (keepb Zo_w11.out b12)
    have Sa_w12 := hid (Sa_w11.out.below b12)
    have Za_w12 := hid (keepb Za_w11.out b12)
    have Sb_w12 := hid (Sb_w11.out.below b12)
    have Zb_w12 := hid (keepb Zb_w11.out b12)
    have Sc_w12 := hid (Sc_w11.out.below b12)
    have Ic_w12 := hid (Ic_w11.out.below b12)
    have Zc_w12 := hid (keepb Zc_w11.out b12)
    have Sd_w12 := hid (Sd_w11.out.below b12)
    have Id_w12 := hid (Id_w11.out.below b12)
    have Zd_w12 := hid (keepb Zd_w11.out b12)
    have Sk_w12 := hid (Sk_w11.out.below b12)
    have Ik_w12 := hid (Ik_w11.out.below b12)
    have Zk_w12 := hid (keepb Zk_w11.out b12)
    clear B_w11 Zs_w11 Ss_w11 So_w11 Zo_w11 Sa_w11 Za_w11 Sb_w11 Zb_w11 Sc_w11 Ic_w11 Zc_w11 Sd_w11 Id_w11 Zd_w11 Sk_w11 Ik_w11 Zk_w11
    clear cZk_w11_0 cZk_w11_1 cZk_w11_2 cZs_w11_0 cZs_w11_1 cZs_w11_2
    clear b12
    go_wp2_with fail
    refine (awake_any w12 (HT.out.below B_w12.out)).mono ?_
    rintro e w13 ⟨rfl, b13⟩
    go_wp2
    go_ret
    exact ⟨rfl, B_w12.out.trans (b13.mono B_w12.out.size)⟩
end Go.Proofs.YtfnojlgmbfocfaaDoor
