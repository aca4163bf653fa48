/-
  The body that a head asks for, as the code tells it.
-/
import Derived.Test.YtllhibdjopfcnaaGreatDoorHVals
namespace Go.Proofs.YtllhibdjopfcnaaGreatDoor
open Go.RowKit
set_option linter.unusedVariables false

def outB (r : Int × Int × Int) : Value := .tuple #[.int .i64 r.1, .int .i64 r.2.1, .int .i64 r.2.2]
theorem codL_bad {c : List (List UInt8)} {m : Int} (h : ¬ (c.length = 1 ∧ small (c.headD []) = chS ∧ m = 1)) : codL c m = (0, 0, 400) := if_neg h
set_option maxRecDepth 20000 in
set_option maxHeartbeats 1000000 in
theorem codings_any (v : Value) (l : List (List UInt8)) (m : Int) (w : World) (hS : SeesS w v l) (hb : ∀ x ∈ l, x.length ≤ 140737488355328) :
    Calls Tryz.prog 81 #[v, .int .i64 m] w fun e w' => e = .returned (outB (codL l m)) ∧ Below w.heap.size w w' := by
  obtain ⟨bb, off, ao, cap, rfl, hcap, _, hao, hcell⟩ := hS
  by_cases h1 : l.length = 1
  · obtain ⟨x, rfl⟩ : ∃ x, l = [x] := List.length_eq_one_iff.1 h1
    obtain rfl := hao (by simp)
    have c0 := hcell 0 (by simp)
    simp only [List.getElem_cons_zero, strV, Nat.add_zero] at c0
    have hSm := small_any x w (hb x (by simp))
    have hk : codL [x] m = if small x = chS ∧ m = 1 then (2, 0, 0) else (0, 0, 400) := by simp [codL]
    obtain ⟨y, hy⟩ : ∃ y, y = small x := ⟨_, rfl⟩
    rw [← hy] at hSm hk
    clear hcell hao hb hy h1
    simp only [List.length_cons, List.length_nil] at hcap ⊢
    obtain ⟨B, hbs⟩ : ∃ B, (y == [99, 104, 117, 110, 107, 101, 100]) = B := ⟨_, rfl⟩
    by_cases hc : y = chS
    · have hB : B = true := by rw [← hbs, beq_iff_eq]; exact hc
      rw [hB] at hbs
      by_cases hm : m = 1
      · rw [if_pos ⟨hc, hm⟩] at hk
        rw [hk]
        clear hk hc
        subst hm
        go_enter Tryz.func81, Tryz.ntmps81
        go_wp2_with fail
        refine hSm.mono ?_
        clear hSm
        rintro e w1 ⟨rfl, hB1⟩
        have HB1 := hid hB1
        clear hB1
        go_wp2
        refine bodyPost_ret (v := outB (2, 0, 0)) (by simp [results, Tryz.results81, go_sem, outB]) rfl ?_
        exact ⟨rfl, HB1.out⟩
      · rw [if_neg (fun h => hm h.2)] at hk
        rw [hk]
        have hm' : (m != 1) = true := by rw [bne_iff_ne]; exact hm
        clear hk hc hm
        go_enter Tryz.func81, Tryz.ntmps81
        go_wp2_with fail
        refine hSm.mono ?_
        clear hSm
        rintro e w1 ⟨rfl, hB1⟩
        have HB1 := hid hB1
        clear hB1
        go_wp2
        refine bodyPost_ret (v := outB (0, 0, 400)) (by simp [results, Tryz.results81, go_sem, outB]) rfl ?_
        exact ⟨rfl, HB1.out⟩
    · rw [if_neg (fun h => hc h.1)] at hk
      rw [hk]
      have hB : B = false := by rw [← hbs, beq_eq_false_iff_ne]; exact hc
      rw [hB] at hbs
      clear hk hc
      go_enter Tryz.func81, Tryz.ntmps81
      go_wp2_with fail
      refine hSm.mono ?_
      clear hSm
      rintro e w1 ⟨rfl, hB1⟩
      have HB1 := hid hB1
      clear hB1
      go_wp2
      refine bodyPost_ret (v := outB (0, 0, 400)) (by simp [results, Tryz.results81, go_sem, outB]) rfl ?_
      exact ⟨rfl, HB1.out⟩
  · rw [codL_bad (fun h => h1 h.1)]
    have h1' : ((l.length : Int) != 1) = true := by rw [bne_iff_ne]; omega
    clear hcell hao hb h1
    go_enter Tryz.func81, Tryz.ntmps81
    go_wp2
    refine bodyPost_ret (v := outB (0, 0, 400)) (by simp [results, Tryz.results81, go_sem, outB]) rfl ?_
    exact ⟨rfl, Below.refl _ _⟩

theorem madeL_all {l : List UInt8} (h : madeL isDg l = true) : l.all isDg = true ∧ l ≠ [] := by
  unfold madeL at h
  simpa [and_comm] using h
theorem numL_take {l : List UInt8} {k : Nat} (h : k < l.length) : numL (l.take (k + 1)) = 10 * numL (l.take k) + (l[k].toNat - 48) := by
  unfold numL
  rw [List.take_succ_eq_append_getElem h, List.foldl_append]
  rfl
theorem numL_small : ∀ {k : Nat} {l : List UInt8}, l.all isDg = true → k ≤ l.length → numL (l.take k) < 10 ^ k
  | 0, l, h, hk => by simp [numL]
  | k + 1, l, h, hk => by
    have ih := numL_small (k := k) h (by omega)
    rw [numL_take (by omega)]
    have := List.all_eq_true.1 h l[k] (List.getElem_mem _)
    simp only [isDg, decide_eq_true_eq] at this
    rw [Nat.pow_succ]
    omega
theorem u8_digit {b : UInt8} (h : isDg b = true) : ((b.toNat : Int) - 48) % 256 = ((b.toNat - 48 : Nat) : Int) := by
  simp only [isDg, decide_eq_true_eq] at h
  omega
theorem all_same_take {l : List (List UInt8)} {x : List UInt8} {k : Nat} (h : k < l.length) (ha : (l.take k).all (· == x) = true) (hx : (l[k] == x) = true) : (l.take (k + 1)).all (· == x) = true := by
  rw [List.take_succ_eq_append_getElem h, List.all_append, ha]
  simp [hx]
theorem all_same_bad {l : List (List UInt8)} {x : List UInt8} {k : Nat} (h : k < l.length) (hx : (l[k] == x) = false) : l.all (· == x) = false := by
  rw [List.all_eq_false]
  exact ⟨l[k], List.getElem_mem _, by simp [hx]⟩
end Go.Proofs.YtllhibdjopfcnaaGreatDoor
