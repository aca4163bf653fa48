/-
  digest: the digest of a text so far.
-/
import Derived.Test.YtplljpodejpbgaaGreatDoorXDigA
namespace Go.Proofs.YtplljpodejpbgaaGreatDoor
open Go.RowKit
set_option linter.unusedVariables false
set_option maxRecDepth 100000

theorem flat_take {st : List Nat} {k : Nat} (h : k < st.length) : (st.take (k + 1)).flatMap be4 = (st.take k).flatMap be4 ++ be4 (st.getD k 0) := by
  rw [List.take_succ_eq_append_getElem h, List.flatMap_append]
  simp [List.getD, h]
theorem be4_len (x : Nat) : (be4 x).length = 4 := rfl
theorem flat_len (st : List Nat) : (st.flatMap be4).length = 4 * st.length := by
  induction st with
  | nil => rfl
  | cons a t ih => rw [List.flatMap_cons, List.length_append, ih, be4_len, List.length_cons]; omega
theorem cells8 (a b c d e f g h : Nat) : cellsN .u32 [a, b, c, d, e, f, g, h] = [.int .u32 (a : Int), .int .u32 (b : Int), .int .u32 (c : Int), .int .u32 (d : Int), .int .u32 (e : Int), .int .u32 (f : Int), .int .u32 (g : Int), .int .u32 (h : Int)] := rfl

set_option maxRecDepth 100000 in
set_option maxHeartbeats 1000000 in
theorem digest_any (m : List Nat) (w : World) (hR : Rounds w) (hm : ∀ x ∈ m, x < 256) (hlen : m.length ≤ 576460752303423488) :
    Calls Tryz.prog 89 #[.agg (P3 (stOf H0 K0 m) (blOf m) m.length).toArray] w fun e w' => e = .returned (.string (strOf (digest H0 K0 m))) ∧ Below w.heap.size w w' := by
  obtain ⟨A, hA⟩ : ∃ A, A = (P3 (stOf H0 K0 m) (blOf m) m.length).toArray := ⟨_, rfl⟩
  rw [← hA]
  obtain ⟨L, hL⟩ : ∃ L, L = m.length := ⟨_, rfl⟩
  have h72 : A[72]? = some (.int .i64 (L : Int)) := by
    rw [hA, hL, List.getElem?_toArray]
    exact P3_taken (stOf_words H0_words).len (blOf_len m)
  obtain ⟨nn, hnn⟩ : ∃ n, n = noughts m.length := ⟨_, rfl⟩
  have hn1 : (119 - (L : Int) % 64) % 64 = (nn : Int) := by rw [hnn, hL]; unfold noughts; omega
  have hn2 : nn < 64 := by rw [hnn]; exact Nat.mod_lt _ (by decide)
  obtain ⟨W2, hmk, hO2, hP2, hB2, hs2⟩ : ∃ W2, (Instr.makeSlice 111 (.int .i64 (1 + (nn : Int))) (.int .i64 (1 + (nn : Int) + 8))).run Tryz.prog (w.alloc (.cells A 142)) = .ok (.slice (some ⟨w.heap.size + 1, 0, none⟩) (nn + 1) (nn + 9)) W2 ∧
      OwnsN .u8 5 W2 (w.heap.size + 1) (.slice (some ⟨w.heap.size + 1, 0, none⟩) (nn + 1) (nn + 9)) (List.replicate (nn + 1) 0) ∧ PM W2 w.heap.size [] 142 m ∧ Below w.heap.size w W2 ∧ W2.heap.size = w.heap.size + 2 := by
    have hr := made_run (w.alloc (.cells A 142)) (1 + (nn : Int)) (1 + (nn : Int) + 8) (by omega) (by omega) (by omega)
    have hz : (w.alloc (.cells A 142)).heap.size = w.heap.size + 1 := by simp
    have ho := owns_made (w.alloc (.cells A 142)) (w.heap.size + 1) (nn + 1) (nn + 9) (by omega) (by omega) (by omega)
    rw [show (1 + (nn : Int)).toNat = nn + 1 by omega, show (1 + (nn : Int) + 8).toNat = nn + 9 by omega, hz] at hr
    rw [hz] at ho
    refine ⟨_, hr, ho, ⟨⟨?_, (stOf_words H0_words).len, blOf_len m⟩, hm⟩, (below_alloc w _).trans ((below_alloc _ _).mono (by simp)), by simp⟩
    rw [heap_alloc_old _ _ (by simp), hA]
    exact heap_alloc_new w _
  have c0 := hO2.sees
  have HO2 := hid hO2
  have HP2 := hid hP2
  have HB2 := hid hB2
  have HS2 := hid hs2
  have HL := hid hL
  have HNN := hid hnn
  have HR := hid hR
  have hLb : L ≤ 576460752303423488 := by omega
  have g0 : W2.cell? ⟨w.heap.size + 1, 0, none⟩ = some (.int .u8 0) := by
    have h := hO2.cells (g := w.heap.size + 1) rfl 0 (.int .u8 0) (by simp [cellsN, List.replicate_succ])
    rw [xaddr_add] at h
    exact h
  have f0 : W2.frozen? ⟨w.heap.size + 1, 0, none⟩ = false := by
    rcases hO2.2 with ⟨h, _⟩ | ⟨g, cap, cur, h, hb, hg, _⟩
    · cases h
    · simp at h
      obtain ⟨rfl, _⟩ := h
      simp [World.frozen?, hg]
  have c72 := hP2.1.taken
  rw [← hL] at c72
  simp only [List.length_nil, Nat.zero_add] at c72
  clear hO2 hP2 hB2 hL hnn hR hA hm c0
  go_enter Tryz.func89, Tryz.ntmps89
  go_wp2_with fail
  obtain ⟨W3, hW3⟩ : ∃ W3, W3 = W2.setCell ⟨w.heap.size + 1, 0, none⟩ (.int .u8 128) := ⟨_, rfl⟩
  rw [← hW3]
  have hst := ownsN_store (j := 0) 128 HO2.out (by simp)
  have hO3 : OwnsN .u8 5 W3 (w.heap.size + 1) (.slice (some ⟨w.heap.size + 1, 0, none⟩) (nn + 1) (nn + 9)) (128 :: List.replicate nn 0) := by rw [hW3]; exact hst.1
  have hs3 : W3.heap.size = w.heap.size + 2 := by rw [hW3, ← HS2.out]; simp
  have hB3 : Below (w.heap.size + 1) W2 W3 := by rw [hW3]; exact below_set (Below.refl _ _) (Nat.le_refl _) _ _
  obtain ⟨X, hX⟩ : ∃ X, X = 8 * m.length := ⟨_, rfl⟩
  have e8 : (8 * (L : Int)) = (X : Int) := by have := HL.out; omega
  rw [e8]
  refine (first64 _ _ X (w.heap.size + 1) W3 (by omega) hO3 (by omega) (by simp; omega)).mono ?_
  rintro e W4 ⟨v4, rfl, hO4, hB4⟩
  have hpad : 128 :: List.replicate nn 0 ++ beTo X 8 = padOf m.length := by rw [hX, HNN.out]; rfl
  rw [hpad] at hO4
  obtain ⟨ao4, cap4, rfl⟩ := hO4.shape
  have hcv := conv_own hO4
  have hs4 := hB4.size
  have hP4 : PM W4 w.heap.size [] 142 m := ⟨(HP2.out.1.below hB3 (by omega)).below hB4 (by omega), HP2.out.2⟩
  have hB24 : Below w.heap.size w W4 := (HB2.out.trans (hB3.mono (by omega))).trans (hB4.mono (by omega))
  have hR4 := HR.out.below hB24 HR.out.pos
  have htk := take_any w.heap.size [] 142 m (strOf (padOf m.length)) W4 hP4 hR4 (by have := HR.out.pos; omega) (by rw [strOf_size]; have := padOf_len m.length; simp only [padOf, List.length_cons, List.length_append, List.length_replicate, beTo_len, noughts]; omega)
  rw [bytesOf_strOf (padOf_lt _), List.length_nil] at htk
  have HTK := hid htk
  have HB24 := hid hB24
  have HW4 := hid (show w.heap.size < W4.heap.size by omega)
  clear htk hP4 hR4 hO4 hB24 hB4 hB3 hst hO3 hpad e8 hW3 hs3 g0 f0 c72 hmk h72 hs4 hs2
  clear HO2 HP2 HB2 HS2
  go_wp2_with fail
  refine HTK.out.mono ?_
  clear HTK
  rintro e W5 ⟨rfl, hP5, hG5⟩
  have hd : (stOf H0 K0 (m ++ padOf m.length)).flatMap be4 = digest H0 K0 m := rfl
  have h8 := (stOf_words (m := m ++ padOf m.length) (K := K0) H0_words)
  obtain ⟨a, b, c, d, e, f, g, h, hst⟩ := list8 h8.len
  rw [hst] at h8 hd
  have hrg := hP5.1.stateRange
  rw [hst, cells8, List.length_nil] at hrg
  have hsz : (Tryz.prog.info? 139).map (·.size) = some [Value.int .u32 (a : Int), .int .u32 (b : Int), .int .u32 (c : Int), .int .u32 (d : Int), .int .u32 (e : Int), .int .u32 (f : Int), .int .u32 (g : Int), .int .u32 (h : Int)].length := Tryz.size139
  have HRG := hid hrg
  have HSZ := hid hsz
  have HD := hid hd
  have H8 := hid h8
  have hB5 : Below w.heap.size w W5 := below_grownBy HB24.out hG5 (fun j hj => by simp at hj; omega) (by have := HW4.out; omega)
  have HB5 := hid hB5
  clear hP5 hG5 hd h8 hst hrg hsz hB5 hcv
  go_wp2_with (first | (refine wpList_load_mid rfl 139 _ rfl w.heap.size 0 rfl [.int .u32 (a : Int), .int .u32 (b : Int), .int .u32 (c : Int), .int .u32 (d : Int), .int .u32 (e : Int), .int .u32 (f : Int), .int .u32 (g : Int), .int .u32 (h : Int)] _ HRG.out Tryz.underlying139 rfl HSZ.out ?_))
  go_loopw [5, 31] (fun u i wr => ∃ k : Nat, k ≤ 8 ∧ i = .int .i64 k ∧ OwnsN .u8 5 wr W5.heap.size u (([a, b, c, d, e, f, g, h].take k).flatMap be4) ∧ Below W5.heap.size W5 wr) (fun _ i _ => 8 - (intOf i).toNat)
  case atStart => exact ⟨0, by decide, rfl, OwnsN.nil _ _ _ _, Below.refl _ _⟩
  case round =>
    obtain ⟨k, hk, rfl, hO, hB⟩ := hrel
    obtain ⟨ao, cap, rfl⟩ := hO.shape
    by_cases hlt : k < 8
    · have hix := index8 a b c d e f g h k hlt
      obtain ⟨x, hx⟩ : ∃ x, x = [a, b, c, d, e, f, g, h].getD k 0 := ⟨_, rfl⟩
      have hfl := flat_take (st := [a, b, c, d, e, f, g, h]) (k := k) hlt
      rw [← hx] at hix hfl
      have lx : x < 4294967296 := by rw [hx]; exact H8.out.lt k
      have hsB := hB.size
      have hf := first32 _ _ x W5.heap.size wr lx hO hsB (by rw [flat_len, List.length_take]; omega)
      rw [← hfl] at hf
      obtain ⟨N, hN⟩ : ∃ N, N = (([a, b, c, d, e, f, g, h].take k).flatMap be4).length := ⟨_, rfl⟩
      rw [← hN] at hf ⊢
      have HF := hid hf
      have HB := hid hB
      clear hx hfl hf hO hB hN
      go_wp2_with fail
      refine HF.out.mono ?_
      rintro e' W6 ⟨v6, rfl, hO6, hB6⟩
      obtain ⟨ao6, cap6, rfl⟩ := hO6.shape
      obtain ⟨N6, hN6⟩ : ∃ N, N = (([a, b, c, d, e, f, g, h].take (k + 1)).flatMap be4).length := ⟨_, rfl⟩
      rw [← hN6] at hO6 ⊢
      clear hN6
      have HO6 := hid hO6
      have HB6 := hid (HB.out.trans hB6)
      clear hO6 hB6 HF HB
      go_wp2
      go_roundw
      case rel => exact ⟨k + 1, by omega, by go_num, HO6.out, HB6.out⟩
      case measure => simp [intOf]; omega
    · have hk8 : k = 8 := by omega
      subst hk8
      have hcv := conv_own hO
      have hee : ([a, b, c, d, e, f, g, h].take 8).flatMap be4 = digest H0 K0 m := HD.out
      obtain ⟨N, hN⟩ : ∃ N, N = (([a, b, c, d, e, f, g, h].take 8).flatMap be4).length := ⟨_, rfl⟩
      rw [← hN] at hcv ⊢
      rw [hee] at hcv
      have HBe := hid (HB5.out.trans (hB.mono HB5.out.size))
      clear hee hN hO hB
      go_wp2
      go_ret
      exact ⟨rfl, HBe.out⟩
end Go.Proofs.YtplljpodejpbgaaGreatDoor
