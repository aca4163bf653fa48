/-
  The body of a head, from a place on: the document's reader.
-/
import Derived.Test.YtllhibdjopfcnaaGreatDoorDHead
import Derived.Test.YtllhibdjopfcnaaGreatDoorRBody
import Derived.Test.YtllhibdjopfcnaaGreatDoorPBody
namespace Go.Proofs.YtllhibdjopfcnaaGreatDoor
open Go.RowKit
set_option linter.unusedVariables false

theorem body_kind (h : HeadL) : ((bodyL h).1 = 0 ∧ (bodyL h).2.1 = 0) ∨ (bodyL h).1 = 1 ∨ (bodyL h).1 = 2 := by
  unfold bodyL lenL codL
  repeat' split
  all_goals first
    | exact .inl ⟨rfl, rfl⟩
    | exact .inr (.inl rfl)
    | exact .inr (.inr rfl)
/-- What the document's 'body' tells: the body, where it ends (-1: more is wanted), a status. -/
def bdT : Tell (List UInt8) → List UInt8 × Int × Int
  | (.error none) => ([], -1, 0)
  | (.error (some s)) => ([], 0, s)
  | (.ok (b, n)) => (b, (n : Int), 0)
def bdV (q : List UInt8 × Int × Int) : Value := .tuple #[.string ⟨q.1.toArray⟩, .int .i64 q.2.1, .int .i64 q.2.2]
set_option maxRecDepth 20000 in
set_option maxHeartbeats 4000000 in
theorem rdbody_any (h : HeadL) (a b v : Value) (L : List UInt8) (k : Nat) (w : World) (hS : SeesP w v h.2.2.2) (hl : h.2.2.2.length ≤ 1048576) (hb : ∀ p ∈ h.2.2.2, p.2.length ≤ 1048576) (hs : L.length ≤ 65536) (hk : k ≤ L.length) :
    Calls Tryz.prog 28 #[.string ⟨L.toArray⟩, .int .i64 (k : Int), .agg #[a, b, .int .i64 h.2.2.1, v]] w fun e w' => e = .returned (bdV (bdT (bodyAt h L k))) ∧ Below w.heap.size w w' := by
  obtain ⟨m, hm⟩ : ∃ m, m = h.2.2.1 := ⟨_, rfl⟩
  have hB := rbody_any h a b v (w.alloc (.cells #[a, b, .int .i64 m, v] 34)) (hS.below (below_alloc w _)) hl hb
  rw [← hm] at hB
  rw [← hm]
  have HB0 := hid (below_alloc w (.cells #[a, b, .int .i64 m, v] 34))
  obtain ⟨z0, z1, z2, z3, _, _, _, _⟩ := (HeadAt.new w a b (.int .i64 m) v).cells
  obtain ⟨w1, hw1⟩ : ∃ w1, w1 = w.alloc (.cells #[a, b, .int .i64 m, v] 34) := ⟨_, rfl⟩
  have HW1 := hid hw1
  have hsz1 : w.heap.size ≤ w1.heap.size := by rw [hw1]; simp
  rw [← hw1] at hB HB0 z0 z1 z2 z3
  have hr := body_range h
  have hkn := body_kind h
  obtain ⟨s, hse⟩ : ∃ s : ByteArray, s = ⟨L.toArray⟩ := ⟨_, rfl⟩
  have hsz : s.size = L.length := by rw [hse, size_list]
  have hC := fun w => rchunksN_any L k w (by omega) hk
  rw [← hse] at hC ⊢
  have HX : Hid (∀ e, s.extract k e = ⟨((L.drop k).take (e - k)).toArray⟩) := hid (fun e => by rw [hse, extract_list])
  obtain ⟨T, hT⟩ : ∃ T, T = bodyAt h L k := ⟨_, rfl⟩
  rw [← hT]
  unfold bodyAt at hT
  obtain ⟨kd, hkd⟩ : ∃ x, x = (bodyL h).1 := ⟨_, rfl⟩
  obtain ⟨st, hstt⟩ : ∃ x, x = (bodyL h).2.2 := ⟨_, rfl⟩
  obtain ⟨n, hn⟩ : ∃ x : Nat, (x : Int) = (bodyL h).2.1 := ⟨(bodyL h).2.1.toNat, by omega⟩
  have e1 : bodyL h = (kd, (n : Int), st) := by rw [hkd, hstt, hn]
  rw [e1] at hB hT hkn
  simp only [outB, Int.toNat_natCast] at hB hT hkn
  have hn16 : n ≤ 16384 := by omega
  clear hkd hstt hn e1 hr hw1 hse hS hm
  by_cases h0 : st = 0
  · subst h0
    rw [if_neg (by simp)] at hT
    rcases hkn with ⟨rfl, hn0⟩ | rfl | rfl
    · obtain rfl : n = 0 := by omega
      rw [if_neg (by decide), if_neg (by omega)] at hT
      have HT := hid hT
      clear hT hC hn0
      go_enter Tryz.func28, Tryz.ntmps28
      go_wp2_with fail
      rw [← HW1.out]
      refine hB.mono ?_
      clear hB
      rintro e w2 ⟨rfl, hB2⟩
      have HB2 := hid (HB0.out.trans (hB2.mono hsz1))
      clear hB2
      go_wp2
      (try simp only [Exit.inBlock, Exit.then])
      go_ret3
      rw [HT.out]
      exact ⟨by simp [bdV, bdT], HB2.out⟩
    · rw [if_neg (by decide)] at hT
      by_cases hlong : L.length < k + n
      · rw [if_pos hlong] at hT
        have f5 : (s.size : Int) - (k : Int) < (n : Int) := by omega
        have hks : k ≤ s.size := by omega
        have hss : s.size ≤ 65536 := by omega
        have HT := hid hT
        clear hT hC hlong hsz
        go_enter Tryz.func28, Tryz.ntmps28
        go_wp2_with fail
        rw [← HW1.out]
        refine hB.mono ?_
        clear hB
        rintro e w2 ⟨rfl, hB2⟩
        have HB2 := hid (HB0.out.trans (hB2.mono hsz1))
        clear hB2
        go_wp2
        (try simp only [Exit.inBlock, Exit.then])
        go_ret3
        rw [HT.out]
        exact ⟨rfl, HB2.out⟩
      · rw [if_neg hlong] at hT
        have f5 : ¬ (s.size : Int) - (k : Int) < (n : Int) := by omega
        have hks : k + n ≤ s.size := by omega
        have hss : s.size ≤ 65536 := by omega
        have hx := HX.out (k + n)
        rw [show k + n - k = n by omega] at hx
        have HT := hid hT
        have HXN := hid hx
        clear hT hC hlong hsz hx
        go_enter Tryz.func28, Tryz.ntmps28
        go_wp2_with fail
        rw [← HW1.out]
        refine hB.mono ?_
        clear hB
        rintro e w2 ⟨rfl, hB2⟩
        have HB2 := hid (HB0.out.trans (hB2.mono hsz1))
        clear hB2
        go_wp2
        (try simp only [Exit.inBlock, Exit.then])
        go_ret3
        rw [HT.out]
        refine ⟨?_, HB2.out⟩
        simp only [bdV, bdT]
        rw [← HXN.out]
        simp
    · rw [if_pos rfl] at hT
      obtain ⟨C, hCe⟩ : ∃ C, C = chunksL (L.length + 1) [] (L.drop k) := ⟨_, rfl⟩
      rw [← hCe] at hT hC
      clear hCe
      rcases C with (_ | t) | ⟨y, j⟩
      all_goals
        simp only [chkV, chkT, putT] at hC hT
        have HT := hid hT
        clear hT
        go_enter Tryz.func28, Tryz.ntmps28
        go_wp2_with fail
        rw [← HW1.out]
        refine hB.mono ?_
        clear hB
        rintro e w2 ⟨rfl, hB2⟩
        have HB2 := hid (HB0.out.trans (hB2.mono hsz1))
        clear hB2
        go_wp2_with fail
        refine (hC _).mono ?_
        clear hC
        rintro e w3 ⟨rfl, hw3⟩
        subst hw3
        go_wp2
        (try simp only [Exit.inBlock, Exit.then])
        go_ret3
        rw [HT.out]
        exact ⟨rfl, HB2.out⟩
  · have f0 : (st != 0) = true := by rw [bne_iff_ne]; exact h0
    rw [if_pos h0] at hT
    have HT := hid hT
    clear hT hC h0 hkn
    go_enter Tryz.func28, Tryz.ntmps28
    go_wp2_with fail
    rw [← HW1.out]
    refine hB.mono ?_
    clear hB
    rintro e w2 ⟨rfl, hB2⟩
    have HB2 := hid (HB0.out.trans (hB2.mono hsz1))
    clear hB2
    go_wp2
    (try simp only [Exit.inBlock, Exit.then])
    go_ret3
    rw [HT.out]
    exact ⟨rfl, HB2.out⟩
end Go.Proofs.YtllhibdjopfcnaaGreatDoor
