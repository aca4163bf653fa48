/-
  Salted: the code's, and the document's.
-/
import Derived.Test.YtplljpodejpbgaaGreatDoorXRefD
import Derived.Test.YtplljpodejpbgaaGreatDoorXRefE
namespace Go.Proofs.YtplljpodejpbgaaGreatDoor
open Go.RowKit
set_option linter.unusedVariables false
set_option maxRecDepth 100000

theorem be4_lt (x : Nat) : ∀ y ∈ be4 x, y < 256 := by
  intro y hy
  simp only [be4, List.mem_cons, List.not_mem_nil, or_false] at hy
  rcases hy with rfl | rfl | rfl | rfl <;> exact Nat.mod_lt _ (by decide)
theorem digest_lt (H K m : List Nat) : ∀ y ∈ digest H K m, y < 256 := by
  intro y hy
  obtain ⟨x, _, hx⟩ := List.mem_flatMap.1 hy
  exact be4_lt x y hx
theorem digest_len {H K m : List Nat} (hH : Words 8 H) : (digest H K m).length = 32 := by
  unfold digest
  rw [flat_len, (stOf_words hH).len]

theorem bytes_salt (salt word : ByteArray) (h : salt.size ≤ 32) : bytesOf (strOf [salt.size] ++ salt ++ word) = salt.size :: (bytesOf salt ++ bytesOf word) := by
  rw [bytesOf_append, bytesOf_append, bytesOf_strOf (by intro x hx; simp at hx; omega), List.append_assoc]
  rfl

theorem owns_b1 (w : World) (y : Int) (n : Nat) (h : y = (n : Int)) : OwnsN .u8 5 (w.alloc (.cells #[.int .u8 y] 5)) w.heap.size (.slice (some ⟨w.heap.size, 0, none⟩) 1 1) [n] := by
  subst h
  exact ⟨rfl, Or.inr ⟨w.heap.size, 1, _, rfl, Nat.le_refl _, heap_alloc_new w _, Nat.le_refl _, by decide, rfl, rfl⟩⟩

/-- The text of a salt's length. -/
theorem conv_b1 (w : World) (n : Nat) : (convert 111 9 (.slice (some ⟨w.heap.size, 0, none⟩) 1 1)).run Tryz.prog (w.alloc (.cells #[.int .u8 (n : Int)] 5)) = .ok (.string (strOf [n])) (w.alloc (.cells #[.int .u8 (n : Int)] 5)) :=
  conv_own (owns_b1 w n n rfl)

def saltOf (salt word : ByteArray) : List Nat := hexOf (digest H0 K0 (salt.size :: (bytesOf salt ++ bytesOf word)))

set_option maxHeartbeats 400000 in
theorem salted_no (salt word : ByteArray) (w : World) (h : 32 < salt.size) (hm : salt.size ≤ 140737488351232) : Calls Tryz.prog 71 #[.string salt, .string word] w fun e w' => e = .returned (.tuple #[.string { data := #[] }, .int .i64 1]) ∧ w = w' := by
  go_enter Tryz.func71, Tryz.ntmps71
  go_wp2
  go_ret2
  exact ⟨rfl, rfl⟩
set_option maxHeartbeats 400000 in
theorem rsalted_no (salt word : ByteArray) (w : World) (h : 32 < salt.size) (hm : salt.size ≤ 140737488351232) : Calls Tryz.prog 17 #[.string salt, .string word] w fun e w' => e = .returned (.tuple #[.string { data := #[] }, .int .i64 1]) ∧ w = w' := by
  go_enter Tryz.func17, Tryz.ntmps17
  go_wp2
  go_ret2
  exact ⟨rfl, rfl⟩

set_option maxRecDepth 100000 in
set_option maxHeartbeats 1000000 in
theorem salted_any (salt word : ByteArray) (w : World) (hR : Rounds w) (h : salt.size ≤ 32) (hm : word.size ≤ 140737488351232) :
    Calls Tryz.prog 71 #[.string salt, .string word] w fun e w' => e = .returned (.tuple #[.string (strOf (saltOf salt word)), .int .i64 0]) ∧ Below w.heap.size w w' := by
  have hz := zero42
  have HR := hid hR
  have hpos := hR.pos
  clear hR
  go_enter Tryz.func71, Tryz.ntmps71
  go_wp2_with fail
  refine (begin_any _).mono ?_
  rintro e w1 ⟨rfl, hB1⟩
  have HB1 := hid hB1
  have hs1 := hB1.size
  clear hB1
  go_wp2_with (first | (refine wpList_store_row rfl 142 _ _ rfl w1.heap.size B42 rfl rfl 142 Z42 (heap_alloc_new w1 _) B42_info (by rw [Z42_size, B42_size]) B42_one ?_; generalize hw2 : (World.setRow _ w1.heap.size B42) = w2; have HF2 := hid (new_row hw2); clear hw2; have hcv := conv_b1 w2 salt.size))
  obtain ⟨w3, hw3⟩ : ∃ w3, w3 = w2.alloc (.cells #[.int .u8 (salt.size : Int)] 5) := ⟨_, rfl⟩
  rw [← hw3]
  have hz2 := HF2.out.2.2
  have hB3 : Below w.heap.size w w3 := by
    rw [hw3]
    exact (HB1.out.trans (HF2.out.2.1.mono hs1)).alloc (by omega) _
  have hP3 : PM w3 w1.heap.size [] 142 [] := begin_PM (by
    rw [hw3, heap_alloc_old _ _ (by omega)]
    exact HF2.out.1)
  have hs3 : w1.heap.size < w3.heap.size := hP3.1.lt
  have HB3 := hid hB3
  have ht := take_any w1.heap.size [] 142 [] (strOf [salt.size]) w3 hP3 (HR.out.below hB3 hpos) (by omega) (by rw [strOf_size]; simp)
  rw [List.length_nil, List.nil_append, bytesOf_strOf (by intro x hx; simp at hx; omega)] at ht
  refine ht.mono ?_
  clear ht hP3 hcv hw3 hB3 HF2 hz2
  rintro e w4 ⟨rfl, hP4, hG4⟩
  have hB4 : Below w.heap.size w w4 := below_grownBy HB3.out hG4 (fun j hj => by simp at hj; omega) HB3.out.size
  have HB4 := hid hB4
  have ht := take_any w1.heap.size [] 142 [salt.size] salt w4 hP4 (HR.out.below hB4 hpos) (by omega) (by simp; omega)
  rw [List.length_nil] at ht
  have HT := hid ht
  clear ht hP4 hG4 hB4 HB3
  go_wp2_with fail
  refine HT.out.mono ?_
  clear HT
  rintro e w5 ⟨rfl, hP5, hG5⟩
  have hB5 : Below w.heap.size w w5 := below_grownBy HB4.out hG5 (fun j hj => by simp at hj; omega) HB4.out.size
  have HB5 := hid hB5
  have ht := take_any w1.heap.size [] 142 ([salt.size] ++ bytesOf salt) word w5 hP5 (HR.out.below hB5 hpos) (by omega) (by simp [bytesOf_len]; omega)
  rw [List.length_nil] at ht
  have HT := hid ht
  clear ht hP5 hG5 hB5 HB4
  go_wp2_with fail
  refine HT.out.mono ?_
  clear HT
  rintro e w6 ⟨rfl, hP6, hG6⟩
  have hB6 : Below w.heap.size w w6 := below_grownBy HB5.out hG6 (fun j hj => by simp at hj; omega) HB5.out.size
  obtain ⟨m, hm'⟩ : ∃ m, m = [salt.size] ++ bytesOf salt ++ bytesOf word := ⟨_, rfl⟩
  rw [← hm'] at hP6
  obtain ⟨A, hA⟩ : ∃ A, A = (P3 (stOf H0 K0 m) (blOf m) m.length).toArray := ⟨_, rfl⟩
  have hrow : w6.heap[w1.heap.size]? = some (.cells A 142 (0, 0)) := by rw [hA]; exact hP6.1.1
  have hinf : (Tryz.prog.info? 142).map (·.size) = some A.size := by rw [hA]; exact P3_info hP6.1.2.1 hP6.1.2.2
  have hdg := digest_any m w6 (HR.out.below hB6 hpos) hP6.2 (by rw [hm']; simp [bytesOf_len]; omega)
  rw [← hA] at hdg
  have HRow := hid hrow
  have HI := hid hinf
  have HD := hid hdg
  have HB6 := hid hB6
  have HM := hid (show hexOf (digest H0 K0 m) = saltOf salt word by rw [hm']; rfl)
  clear hP6 hG6 hB6 hA hrow hinf hdg hm' HB5 hz
  go_wp2_with (first | (refine wpList_load_row rfl 142 _ rfl w1.heap.size rfl 142 A _ _ HRow.out Tryz.underlying142 rfl HI.out ?_))
  refine HD.out.mono ?_
  clear HD HRow HI
  rintro e w7 ⟨rfl, hB7⟩
  have HB7 := hid (HB6.out.trans (hB7.mono HB6.out.size))
  have hx := hex_any (strOf (digest H0 K0 m)) w7 (by rw [strOf_size, digest_len H0_words]; decide)
  rw [bytesOf_strOf (digest_lt _ _ _), HM.out] at hx
  have HX := hid hx
  clear hx hB7
  go_wp2_with fail
  refine HX.out.mono ?_
  rintro e w8 ⟨rfl, hB8⟩
  have HB8 := hid (HB7.out.trans (hB8.mono HB7.out.size))
  clear hB8 HX
  go_wp2
  go_ret2
  exact ⟨rfl, HB8.out⟩

set_option maxRecDepth 100000 in
set_option maxHeartbeats 1000000 in
theorem rsalted_any (salt word : ByteArray) (w : World) (h : salt.size ≤ 32) (hm : word.size ≤ 140737488351232) :
    Calls Tryz.prog 17 #[.string salt, .string word] w fun e w' => e = .returned (.tuple #[.string (strOf (saltOf salt word)), .int .i64 0]) ∧ Below w.heap.size w w' := by
  have hcv := conv_b1 w salt.size
  have hsz : (strOf [salt.size]).size = 1 := strOf_size _
  go_enter Tryz.func17, Tryz.ntmps17
  go_wp2_with fail
  have hr := rsum_any (strOf [salt.size] ++ salt ++ word) (w.alloc (.cells #[.int .u8 (salt.size : Int)] 5)) (by rw [ByteArray.size_append', ByteArray.size_append', hsz]; omega)
  rw [bytes_salt salt word h] at hr
  refine hr.mono ?_
  clear hr hcv hsz
  rintro e w1 ⟨rfl, hB1⟩
  have HB1 := hid ((below_alloc w _).trans (hB1.mono (by simp)))
  have hx := rhex_any (strOf (digest H0 K0 (salt.size :: (bytesOf salt ++ bytesOf word)))) w1 (by rw [strOf_size, digest_len H0_words]; decide)
  rw [bytesOf_strOf (digest_lt _ _ _)] at hx
  have HX := hid hx
  clear hx hB1
  go_wp2_with fail
  refine HX.out.mono ?_
  rintro e w2 ⟨rfl, hB2⟩
  have HB2 := hid (HB1.out.trans (hB2.mono HB1.out.size))
  clear hB2 HX
  go_wp2
  go_ret2
  exact ⟨rfl, HB2.out⟩

theorem saltOf_len (salt word : ByteArray) : (strOf (saltOf salt word)).size = 64 := by
  rw [strOf_size]
  unfold saltOf
  rw [hexOf_len, digest_len H0_words]

end Go.Proofs.YtplljpodejpbgaaGreatDoor
