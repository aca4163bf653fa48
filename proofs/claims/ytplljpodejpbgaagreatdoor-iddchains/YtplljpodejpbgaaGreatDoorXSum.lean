/-
  begin, Sum: the digest of a text.
-/
import Derived.Test.YtplljpodejpbgaaGreatDoorXDig
namespace Go.Proofs.YtplljpodejpbgaaGreatDoor
open Go.RowKit
set_option linter.unusedVariables false
set_option maxRecDepth 100000
def Z42 : Array Value := (P3 (List.replicate 8 0) (List.replicate 64 0) 0).toArray
def B42 : Array Value := (P3 (stOf H0 K0 []) (blOf []) 0).toArray
theorem zero42 (w : World) : (zeroValue 142).run Tryz.prog w = .ok (.agg Z42) w := by kernel_rfl
theorem B42_size : B42.size = 73 := by rfl
theorem Z42_size : Z42.size = 73 := by rfl
theorem B42_one : B42.all (·.oneCell') = true := by
  refine all_oneCell_toArray (cs := P3 (stOf H0 K0 []) (blOf []) 0) fun v hv => ?_
  unfold P3 at hv
  rcases List.mem_append.1 hv with h | h
  · exact cellsN_one _ _ v h
  · rcases List.mem_append.1 h with h | h
    · exact cellsN_one _ _ v h
    · simp at h; subst h; rfl
theorem B42_info : (Tryz.prog.info? 142).map (·.size) = some B42.size := by rw [B42_size]; exact Tryz.size142
theorem B42_build : (((((((Z42.setIfInBounds 0 (Value.int IntKind.u32 1779033703)).setIfInBounds 1 (Value.int IntKind.u32 3144134277)).setIfInBounds 2 (Value.int IntKind.u32 1013904242)).setIfInBounds 3 (Value.int IntKind.u32 2773480762)).setIfInBounds 4 (Value.int IntKind.u32 1359893119)).setIfInBounds 5 (Value.int IntKind.u32 2600822924)).setIfInBounds 6 (Value.int IntKind.u32 528734635)).setIfInBounds 7 (Value.int IntKind.u32 1541459225) = B42 := by rfl
theorem begin_PM {w : World} {g : Nat} (h : w.heap[g]? = some (.cells B42 142 (0, 0))) : PM w g [] 142 [] := ⟨⟨h, rfl, rfl⟩, fun x hx => by simp at hx⟩
theorem P3_info {st bl : List Nat} {n : Nat} (h1 : st.length = 8) (h2 : bl.length = 64) : (Tryz.prog.info? 142).map (·.size) = some (P3 st bl n).toArray.size := by rw [List.size_toArray, P3_len h1 h2]; exact Tryz.size142

set_option maxRecDepth 100000 in
set_option maxHeartbeats 1000000 in
theorem begin_any (w : World) : Calls Tryz.prog 87 #[] w fun e w' => e = .returned (.agg B42) ∧ Below w.heap.size w w' := by
  have hz := zero42
  have hs := Z42_size
  have hb := B42_build
  go_enter Tryz.func87, Tryz.ntmps87
  go_wp2_with (first | (refine wpList_store_row rfl 142 _ _ rfl w.heap.size B42 rfl rfl 142 Z42 (heap_alloc_new w _) B42_info (by rw [Z42_size, B42_size]) B42_one ?_; generalize hw2 : (World.setRow _ w.heap.size B42) = w2; have HF2 := hid (new_row hw2); clear hw2))
  refine bodyPost_ret (v := .agg B42) (results_cell_row (fn := Tryz.f87) (p := 0) (ty := 142) rfl _ _ w.heap.size 142 B42 (0, 0) _ rfl HF2.out.1 Tryz.underlying142 rfl B42_info) rfl ?_
  exact ⟨rfl, HF2.out.2.1⟩

set_option maxRecDepth 100000 in
set_option maxHeartbeats 1000000 in
theorem sum_any (s : ByteArray) (w : World) (hR : Rounds w) (hl : s.size ≤ 140737488355328) : Calls Tryz.prog 76 #[.string s] w fun e w' => e = .returned (.string (strOf (digest H0 K0 (bytesOf s)))) ∧ Below w.heap.size w w' := by
  have hz := zero42
  have HR := hid hR
  clear hR
  go_enter Tryz.func76, Tryz.ntmps76
  go_wp2_with fail
  refine (begin_any _).mono ?_
  rintro e w1 ⟨rfl, hB1⟩
  have HB1 := hid hB1
  clear hB1
  go_wp2_with (first | (refine wpList_store_row rfl 142 _ _ rfl w1.heap.size B42 rfl rfl 142 Z42 (heap_alloc_new w1 _) B42_info (by rw [Z42_size, B42_size]) B42_one ?_; generalize hw2 : (World.setRow _ w1.heap.size B42) = w2; have HF2 := hid (new_row hw2); clear hw2))
  have hB2 : Below w.heap.size w w2 := HB1.out.trans (HF2.out.2.1.mono HB1.out.size)
  have hs1 := HB1.out.size
  have htk := take_any w1.heap.size [] 142 [] s w2 (begin_PM HF2.out.1) (HR.out.below hB2 HR.out.pos) (by have := HR.out.pos; omega) (by simp; omega)
  rw [List.length_nil, List.nil_append] at htk
  refine htk.mono ?_
  rintro e w3 ⟨rfl, hP3, hG3⟩
  obtain ⟨A, hA⟩ : ∃ A, A = (P3 (stOf H0 K0 (bytesOf s)) (blOf (bytesOf s)) (bytesOf s).length).toArray := ⟨_, rfl⟩
  have hrow : w3.heap[w1.heap.size]? = some (.cells A 142 (0, 0)) := by rw [hA]; exact hP3.1.1
  have hinf : (Tryz.prog.info? 142).map (·.size) = some A.size := by rw [hA]; exact P3_info hP3.1.2.1 hP3.1.2.2
  have hB3 : Below w.heap.size w w3 := below_grownBy hB2 hG3 (fun j hj => by simp at hj; omega) (by have := HF2.out.2.2; omega)
  have hdg := digest_any (bytesOf s) w3 (HR.out.below hB3 HR.out.pos) (bytesOf_lt s) (by rw [bytesOf_len]; omega)
  rw [← hA] at hdg
  have HRow := hid hrow
  have HI := hid hinf
  have HD := hid hdg
  have HB3 := hid hB3
  clear htk hP3 hG3 hA hrow hinf hB3 hdg hB2 hs1 hz
  go_wp2_with (first | (refine wpList_load_row rfl 142 _ rfl w1.heap.size rfl 142 A _ _ HRow.out Tryz.underlying142 rfl HI.out ?_))
  refine HD.out.mono ?_
  rintro e w4 ⟨rfl, hB4⟩
  have HB4 := hid (HB3.out.trans (hB4.mono HB3.out.size))
  clear hB4
  go_wp2
  go_ret
  exact ⟨rfl, HB4.out⟩
end Go.Proofs.YtplljpodejpbgaaGreatDoor
