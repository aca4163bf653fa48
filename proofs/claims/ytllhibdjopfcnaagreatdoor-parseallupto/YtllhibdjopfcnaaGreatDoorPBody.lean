/-
  The body that a head asks for: the code's.
-/
import Derived.Test.YtllhibdjopfcnaaGreatDoorPChunks
import Derived.Test.YtllhibdjopfcnaaGreatDoorHBodyC
namespace Go.Proofs.YtllhibdjopfcnaaGreatDoor
open Go.RowKit
set_option linter.unusedVariables false

theorem numL_big (l : List UInt8) : 0 ≤ (numL l : Int) := Int.natCast_nonneg _
theorem body_range (h : HeadL) : 0 ≤ (bodyL h).2.1 ∧ (bodyL h).2.1 ≤ 16384 := by
  unfold bodyL lenL codL
  repeat' split
  all_goals first
    | exact ⟨by decide, by decide⟩
    | (rename_i hn; exact ⟨Int.natCast_nonneg _, by simp only; omega⟩)
/-- What bodyOf answers: the body, where it ends, the status. -/
def bodT : Tell (List UInt8) → List UInt8 × Nat × Int
  | (.error none) => ([], 0, 0)
  | (.error (some s)) => ([], 0, s)
  | (.ok (b, n)) => (b, n, 0)
def bodV (q : List UInt8 × Nat × Int) : Value := .tuple #[.string ⟨q.1.toArray⟩, .int .i64 (q.2.1 : Int), .int .i64 q.2.2]
theorem bod_chk (k : Nat) (T : Tell (List UInt8)) : bodT (putT k T) = ((chkT k T).1, (chkT k T).2.1, (chkT k T).2.2.2) := by
  rcases T with (_ | s) | ⟨b, n⟩ <;> rfl

set_option maxRecDepth 20000 in
set_option maxHeartbeats 4000000 in
theorem bodyOf_any (h : HeadL) (a b v : Value) (L : List UInt8) (k : Nat) (w : World) (hS : SeesP w v h.2.2.2) (hl : h.2.2.2.length ≤ 1048576) (hb : ∀ p ∈ h.2.2.2, p.2.length ≤ 1048576) (hs : L.length ≤ 65536) (hk : k ≤ L.length) :
    Calls Tryz.prog 37 #[.agg #[a, b, .int .i64 h.2.2.1, v], .string ⟨L.toArray⟩, .int .i64 (k : Int)] w fun e w' => e = .returned (bodV (bodT (bodyAt h L k))) ∧ Below w.heap.size w w' := by
  obtain ⟨m, hm⟩ : ∃ m, m = h.2.2.1 := ⟨_, rfl⟩
  have hB := body_any h a b v (w.alloc (.cells #[a, b, .int .i64 m, v] 34)) (hS.below (below_alloc w _)) hl hb
  rw [← hm] at hB
  rw [← hm]
  have HB0 := hid (below_alloc w (.cells #[a, b, .int .i64 m, v] 34))
  have HA := hid (HeadAt.new w a b (.int .i64 m) v)
  obtain ⟨z0, z1, z2, z3, _, _, _, _⟩ := (HeadAt.new w a b (.int .i64 m) v).cells
  obtain ⟨w1, hw1⟩ : ∃ w1, w1 = w.alloc (.cells #[a, b, .int .i64 m, v] 34) := ⟨_, rfl⟩
  have HW1 := hid hw1
  have hsz1 : w.heap.size ≤ w1.heap.size := by rw [hw1]; simp
  rw [← hw1] at hB HB0 z0 z1 z2 z3
  have hr := body_range h
  have hst := body_stat h
  obtain ⟨s, hse⟩ : ∃ s : ByteArray, s = ⟨L.toArray⟩ := ⟨_, rfl⟩
  have hsz : s.size = L.length := by rw [hse, size_list]
  have hC := fun w => chunksN_any L k w (by omega) hk
  have hF := fun (y : List UInt8) w => freshP_any y w
  rw [← hse] at hC ⊢
  have HX : Hid (∀ e, s.extract k e = ⟨((L.drop k).take (e - k)).toArray⟩) := hid (fun e => by rw [hse, extract_list])
  obtain ⟨T, hT⟩ : ∃ T, T = bodyAt h L k := ⟨_, rfl⟩
  rw [← hT]
  unfold bodyAt at hT
  obtain ⟨kd, hkd⟩ : ∃ x, x = (bodyL h).1 := ⟨_, rfl⟩
  obtain ⟨st, hstt⟩ : ∃ x, x = (bodyL h).2.2 := ⟨_, rfl⟩
  obtain ⟨n, hn⟩ : ∃ x : Nat, (x : Int) = (bodyL h).2.1 := ⟨(bodyL h).2.1.toNat, by omega⟩
  have e1 : bodyL h = (kd, (n : Int), st) := by rw [hkd, hstt, hn]
  rw [e1] at hB hT hst
  simp only [outB, Int.toNat_natCast] at hB hT hst
  have hn16 : n ≤ 16384 := by omega
  clear hkd hstt hn e1 hr hw1 hse hS hm
  by_cases h0 : st = 0
  · subst h0
    rw [if_neg (by simp)] at hT
    by_cases h2 : kd = 2
    · subst h2
      rw [if_pos rfl] at hT
      have hbc := bod_chk k (chunksL (L.length + 1) [] (L.drop k))
      rw [← hT] at hbc
      obtain ⟨C, hCe⟩ : ∃ C, C = chkT k (chunksL (L.length + 1) [] (L.drop k)) := ⟨_, rfl⟩
      rw [← hCe] at hbc hC
      obtain ⟨c1, c2, c3, c4⟩ := C
      simp only [chkV] at hC
      have HBC := hid hbc
      clear hT hbc hCe hst
      go_enter Tryz.func37, Tryz.ntmps37
      go_wp2_with fail
      rw [← HW1.out]
      refine hB.mono ?_
      clear hB
      rintro e w2 ⟨rfl, hB2⟩
      have HB2 := hid (HB0.out.trans (hB2.mono hsz1))
      clear hB2
      go_wp2_with fail
      refine (hC _).mono ?_
      clear hC
      rintro e w3 ⟨rfl, hB3⟩
      have HB3 := hid (HB2.out.trans (hB3.mono HB2.out.size))
      clear hB3
      go_wp2
      (try simp only [Exit.inBlock, Exit.then])
      go_ret3
      rw [HBC.out]
      exact ⟨rfl, HB3.out⟩
    · have f2 : (kd == 2) = false := by rw [beq_eq_false_iff_ne]; exact h2
      rw [if_neg h2] at hT
      clear h2
      obtain ⟨r, hr⟩ : ∃ r : Nat, r = s.size - k := ⟨_, rfl⟩
      have hsub : (s.size : Int) - (k : Int) = (r : Int) := by omega
      by_cases hlong : L.length < k + n
      · rw [if_pos hlong] at hT
        have f3 : decide (r < n) = true := by simp; omega
        have f4 : r < n := by omega
        have f5 : (s.size : Int) - (k : Int) < (n : Int) := by omega
        have HT := hid hT
        clear hT hC hst hr hlong hsub f3 f4
        go_enter Tryz.func37, Tryz.ntmps37
        go_wp2_with fail
        rw [← HW1.out]
        refine hB.mono ?_
        clear hB
        rintro e w2 ⟨rfl, hB2⟩
        have HB2 := hid (HB0.out.trans (hB2.mono hsz1))
        clear hB2
        go_wp2
        (try simp only [Exit.inBlock, Exit.then])
        go_ret3
        rw [HT.out]
        exact ⟨rfl, HB2.out⟩
      · rw [if_neg hlong] at hT
        have f3 : decide (r < n) = false := by simp; omega
        have HT := hid hT
        obtain ⟨q, hq⟩ : ∃ q, q = k + n := ⟨_, rfl⟩
        have hadd : (k : Int) + (n : Int) = (q : Int) := by omega
        have g1 : (k : Int) ≤ (q : Int) := by omega
        have g2 : (q : Int) ≤ (s.size : Int) := by omega
        have hqk : q - k = n := by omega
        have hx := HX.out q
        rw [hqk] at hx
        have HX2 := hid hx
        have hF2 := hF ((L.drop k).take n)
        rw [← hx] at hF2
        have HQ := hid hq
        clear hT hC hst hr hlong hx hF hq hqk HX
        go_enter Tryz.func37, Tryz.ntmps37
        go_wp2_with fail
        rw [← HW1.out]
        refine hB.mono ?_
        clear hB
        rintro e w2 ⟨rfl, hB2⟩
        have HB2 := hid (HB0.out.trans (hB2.mono hsz1))
        clear hB2
        go_wp2_with fail
        refine (hF2 _).mono ?_
        clear hF2
        rintro e w3 ⟨rfl, hB3⟩
        have HB3 := hid (HB2.out.trans (hB3.mono HB2.out.size))
        clear hB3
        go_wp2
        (try simp only [Exit.inBlock, Exit.then])
        go_ret3
        rw [HT.out]
        refine ⟨?_, HB3.out⟩
        rw [HX2.out, bodT, ← HQ.out]
        rfl
  · rw [if_pos h0] at hT
    have f0 : (st != 0) = true := by rw [bne_iff_ne]; exact h0
    have HT := hid hT
    clear hT hC hst h0
    go_enter Tryz.func37, Tryz.ntmps37
    go_wp2_with fail
    rw [← HW1.out]
    refine hB.mono ?_
    clear hB
    rintro e w2 ⟨rfl, hB2⟩
    have HB2 := hid (HB0.out.trans (hB2.mono hsz1))
    clear hB2
    go_wp2
    (try simp only [Exit.inBlock, Exit.then])
    go_ret3
    rw [HT.out]
    exact ⟨rfl, HB2.out⟩
end Go.Proofs.YtllhibdjopfcnaaGreatDoor
