/-
  The document's mailboxes: lists of lists of messages that keep off some blocks; its New, Len, Lacks, with.
-/
import Derived.Test.YtahibklmcooanaaOAwakeB
import Derived.Test.YtahibklmcooanaaOFrame
import Derived.Deep.AppendLies
import Derived.Deep.RegionHeld3
namespace Go.Proofs.Ytahibklmcooanaa
open Go.RowKit
set_option linter.unusedVariables false
set_option linter.unusedSimpArgs false

/-- The slice v reads the messages xs, in no block of F. -/
def MSees (F : Nat → Prop) (w : World) (v : Value) (xs : List Msg) : Prop :=
  ∃ b off ao cap, v = .slice ao xs.length cap ∧ xs.length ≤ cap ∧ (ao = none → cap = 0) ∧ (xs ≠ [] → ao = some ⟨b, off, none⟩ ∧ ¬ F b) ∧ ∀ j, j < xs.length → w.cell? ⟨b, off + j * 2, none⟩ = some (.int .i64 (xs.getD j Mq.z0).1) ∧ w.cell? ⟨b, off + j * 2 + 1, none⟩ = some (.string (xs.getD j Mq.z0).2)
/-- The slice v reads n such lists. -/
def LSees (F : Nat → Prop) (w : World) (v : Value) (n : Nat) (d : Nat → List Msg) : Prop :=
  ∃ b off cap, v = .slice (some ⟨b, off, none⟩) n cap ∧ n ≤ cap ∧ 1 ≤ n ∧ ¬ F b ∧ ∀ i, i < n → ∃ u, w.cell? ⟨b, off + i, none⟩ = some u ∧ MSees F w u (d i)
theorem MSees.keep {F F' : Nat → Prop} {w w' : World} {v : Value} {xs : List Msg} (h : MSees F w v xs) (hk : ∀ k, k < w.heap.size → ¬ F k → w'.heap[k]? = w.heap[k]? ∧ ¬ F' k) : MSees F' w' v xs := by
  obtain ⟨b, off, ao, cap, hv, hc, hn, ha, hcell⟩ := h
  refine ⟨b, off, ao, cap, hv, hc, hn, fun hne => ⟨(ha hne).1, ?_⟩, fun j hj => ?_⟩
  · have hp : 0 < xs.length := List.length_pos_iff.2 hne
    exact (hk b (World.block_lt_of_cell? w _ (hcell 0 hp).1) (ha hne).2).2
  · have hne : xs ≠ [] := by intro h; rw [h] at hj; simp at hj
    obtain ⟨h1, h2⟩ := hcell j hj
    have e := (hk b (World.block_lt_of_cell? w _ h1) (ha hne).2).1
    exact ⟨(Mq.World.cell?_of_block e _).trans h1, (Mq.World.cell?_of_block e _).trans h2⟩
theorem LSees.keep {F F' : Nat → Prop} {w w' : World} {v : Value} {n : Nat} {d : Nat → List Msg} (h : LSees F w v n d) (hk : ∀ k, k < w.heap.size → ¬ F k → w'.heap[k]? = w.heap[k]? ∧ ¬ F' k) : LSees F' w' v n d := by
  obtain ⟨b, off, cap, hv, hc, hn, hf, hcell⟩ := h
  obtain ⟨u0, hu0, _⟩ := hcell 0 (by omega)
  have e := hk b (World.block_lt_of_cell? w _ hu0) hf
  refine ⟨b, off, cap, hv, hc, hn, e.2, fun i hi => ?_⟩
  obtain ⟨u, hu, hm⟩ := hcell i hi
  exact ⟨u, (Mq.World.cell?_of_block e.1 _).trans hu, hm.keep hk⟩
theorem MSees.below {F : Nat → Prop} {w w' : World} {v : Value} {xs : List Msg} (h : MSees F w v xs) (hb : Below w.heap.size w w') : MSees F w' v xs := h.keep fun k hk hf => ⟨hb.block k hk, hf⟩
theorem LSees.below {F : Nat → Prop} {w w' : World} {v : Value} {n : Nat} {d : Nat → List Msg} (h : LSees F w v n d) (hb : Below w.heap.size w w') : LSees F w' v n d := h.keep fun k hk hf => ⟨hb.block k hk, hf⟩
theorem MSees.sees {F : Nat → Prop} {w : World} {v : Value} {xs : List Msg} (h : MSees F w v xs) : Mq.Sees w v xs := by
  obtain ⟨b, off, ao, cap, hv, hc, hn, ha, hcell⟩ := h
  exact ⟨b, off, ao, cap, hv, hc, hn, fun hne => (ha hne).1, hcell⟩
theorem MSees.shape {F : Nat → Prop} {w : World} {v : Value} {xs : List Msg} (h : MSees F w v xs) : ∃ ao cap, v = .slice ao xs.length cap := by
  obtain ⟨b, off, ao, cap, hv, _⟩ := h
  exact ⟨ao, cap, hv⟩
theorem MSees.nil (F : Nat → Prop) (w : World) : MSees F w (.slice none 0 0) [] := ⟨0, 0, none, 0, rfl, Nat.le_refl _, fun _ => rfl, fun h => absurd rfl h, fun j hj => by simp at hj⟩
theorem LSees.ext {F : Nat → Prop} {w : World} {v : Value} {n : Nat} {d d' : Nat → List Msg} (h : LSees F w v n d) (he : ∀ i, i < n → d i = d' i) : LSees F w v n d' := by
  obtain ⟨b, off, cap, hv, hc, hn, hf, hcell⟩ := h
  exact ⟨b, off, cap, hv, hc, hn, hf, fun i hi => by rw [← he i hi]; exact hcell i hi⟩
/-- A row of messages that a call made, in no block of F. -/
theorem Mq.Owns.msees {F : Nat → Prop} {w : World} {base : Nat} {v : Value} {xs : List Msg} (h : Mq.Owns w base v xs) (hF : ∀ k, base ≤ k → ¬ F k) : MSees F w v xs := by
  obtain ⟨b, off, ao, cap, hv, hc, hn, ha, hcell⟩ := h.sees
  refine ⟨b, off, ao, cap, hv, hc, hn, fun hne => ⟨ha hne, hF b ?_⟩, hcell⟩
  have := h.lt b (by rw [hv, ha hne]; rfl)
  exact this.1
/-- Cells of lists of lists. -/
theorem LSees.of_row {F : Nat → Prop} {w : World} {base : Nat} {v : Value} {n : Nat} {us : List Value} {d : Nat → List Msg} (h : w.ownsRow base 79 1 v n us) (hn : 1 ≤ n) (hF : ∀ k, base ≤ k → ¬ F k) (hs : ∀ i, i < n → ∃ u, us[i]? = some u ∧ MSees F w u (d i)) : LSees F w v n d := by
  rcases h.2 with ⟨_, h0⟩ | ⟨g, cap, cur, rfl, hbase, hg, hcap, rest⟩
  · omega
  · refine ⟨g, 0, cap, rfl, hcap, hn, hF g hbase, fun i hi => ?_⟩
    obtain ⟨u, hu, hm⟩ := hs i hi
    have := h.cells (g := g) rfl i u hu
    rw [addr_add] at this
    exact ⟨u, this, hm⟩

theorem Try.infoL : (Try.prog.info? 79).map (fun i => (i.zero, i.size, i.bytes)) = some (some (.slice none 0 0), 1, 24) := by kernel_rfl
def poV (room : Int) (v : Value) : Value := .agg #[.int .i64 room, v]

set_option maxHeartbeats 1000000 in
theorem rnew_bad (users room : Int) (w : World) (h : users < 1 ∨ 16 < users ∨ room < 1 ∨ 64 < room) :
    Calls Try.prog 9 #[.int .i64 users, .int .i64 room] w fun e w' => e = .returned (.tuple #[poV 0 (.slice none 0 0), .int .i64 1]) ∧ Below w.heap.size w w' := by
  have fin : ∀ (V : World), V = w.alloc (.cells #[.int .i64 0, .slice none 0 0] 29) → V.cell? ⟨w.heap.size, 0, none⟩ = some (.int .i64 0) ∧ V.cell? ⟨w.heap.size, 1, none⟩ = some (.slice none 0 0) ∧ Below w.heap.size w V := by
    rintro V rfl
    exact ⟨by simp, by simp, below_alloc w _⟩
  obtain ⟨f0, f1, f2⟩ := fin _ rfl
  have HB := hid f2
  clear fin f2
  unfold poV
  by_cases h1 : users < 1
  · go_enter Try.func9, Try.ntmps9
    go_wp2
    refine bodyPost_ret (v := .tuple #[.agg #[.int .i64 0, .slice none 0 0], .int .i64 1]) (by simp [results, Try.results9, go_sem]) rfl ?_
    exact ⟨rfl, HB.out⟩
  by_cases h2 : 16 < users
  · go_enter Try.func9, Try.ntmps9
    go_wp2
    refine bodyPost_ret (v := .tuple #[.agg #[.int .i64 0, .slice none 0 0], .int .i64 1]) (by simp [results, Try.results9, go_sem]) rfl ?_
    exact ⟨rfl, HB.out⟩
  by_cases h3 : room < 1
  · go_enter Try.func9, Try.ntmps9
    go_wp2
    refine bodyPost_ret (v := .tuple #[.agg #[.int .i64 0, .slice none 0 0], .int .i64 1]) (by simp [results, Try.results9, go_sem]) rfl ?_
    exact ⟨rfl, HB.out⟩
  by_cases h4 : 64 < room
  · go_enter Try.func9, Try.ntmps9
    go_wp2
    refine bodyPost_ret (v := .tuple #[.agg #[.int .i64 0, .slice none 0 0], .int .i64 1]) (by simp [results, Try.results9, go_sem]) rfl ?_
    exact ⟨rfl, HB.out⟩
  omega
set_option maxHeartbeats 1000000 in
theorem rnew_any (n : Nat) (room : Int) (F : Nat → Prop) (w : World) (n1 : 1 ≤ n) (n2 : n ≤ 16) (h1 : 1 ≤ room) (h2 : room ≤ 64) (hF : ∀ k, w.heap.size ≤ k → ¬ F k) :
    Calls Try.prog 9 #[.int .i64 n, .int .i64 room] w fun e w' => ∃ v, e = .returned (.tuple #[poV room v, .int .i64 0]) ∧ LSees F w' v n (fun _ => []) ∧ Below w.heap.size w w' := by
  obtain ⟨i0, hi, hz0, hz1, hz2⟩ := info_parts Try.infoL
  have a1 : ¬ (n : Int) < 1 := by omega
  have a2 : ¬ (16 : Int) < n := by omega
  have a3 : ¬ room < 1 := by omega
  have a4 : ¬ 64 < room := by omega
  have hb2 : i0.bytes * n ≤ 281474976710656 := by rw [hz2]; omega
  have hb3 : n ≤ maxLen := by simp only [maxLen]; omega
  obtain ⟨W, hW⟩ : ∃ W, W = w.alloc (.cells #[.int .i64 0, .slice none 0 0] 29) := ⟨_, rfl⟩
  have hbW : Below w.heap.size w W := by rw [hW]; exact below_alloc w _
  have hlW : w.heap.size < W.heap.size := by rw [hW]; simp
  have x0 : W.cell? ⟨w.heap.size, 0, none⟩ = some (.int .i64 0) := by rw [hW]; simp
  have x1 : W.cell? ⟨w.heap.size, 1, none⟩ = some (.slice none 0 0) := by rw [hW]; simp
  have f0 : W.frozen? ⟨w.heap.size, 0, none⟩ = false := by rw [hW]; simp
  have f1 : W.frozen? ⟨w.heap.size, 1, none⟩ = false := by rw [hW]; simp
  have HW := hid hW
  have HB := hid hbW
  clear hW hbW
  unfold poV
  go_enter Try.func9, Try.ntmps9
  go_wp2_with (at_make; rw [← HW.out]; refine wpList_make_full _ rfl _ _ 27 rfl W.heap.size 79 i0 (.slice none 0 0) 1 Try.underlying27 hi hz0 hz1 .i64 .i64 _ _ n rfl rfl rfl rfl hb2 hb3 (Nat.le_refl _) ?_; intro w0 hown0 hgrow0; have hB0 : Below W.heap.size W w0 := (Below.refl _ _).grown hgrow0 (Nat.le_refl _) (fun k hk => by cases hk); have y0 := (hB0.cell (p := ⟨w.heap.size, 0, none⟩) (by exact hlW)).trans x0; have y1 := (hB0.cell (p := ⟨w.heap.size, 1, none⟩) (by exact hlW)).trans x1; have g0 := (Mq.World.frozen?_of_block (j := 0) (hB0.block w.heap.size hlW)).trans f0; have g1 := (Mq.World.frozen?_of_block (j := 1) (hB0.block w.heap.size hlW)).trans f1)
  obtain ⟨u0, u1⟩ := Mq.set2 (u := .int .i64 room) (v := .slice (some ⟨W.heap.size, 0, none⟩) n n) y0 y1
  refine bodyPost_ret (v := .tuple #[.agg #[.int .i64 room, .slice (some ⟨W.heap.size, 0, none⟩) n n], .int .i64 0]) (by simp [results, Try.results9, go_sem, u0, u1]) rfl ?_
  have hset : ∀ k, k ≠ w.heap.size → ((w0.setCell ⟨w.heap.size, 0, none⟩ (.int .i64 room)).setCell ⟨w.heap.size, 1, none⟩ (.slice (some ⟨W.heap.size, 0, none⟩) n n)).heap[k]? = w0.heap[k]? := fun k hk => by
    rw [heap_setCell_other _ ⟨w.heap.size, 1, none⟩ k _ (by simpa using hk), heap_setCell_other _ ⟨w.heap.size, 0, none⟩ k _ (by simpa using hk)]
  refine ⟨_, rfl, ?_, ?_⟩
  · have hrow := hown0
    rw [Nat.mul_one, show (Value.slice none 0 0).cells = #[Value.slice none 0 0] from rfl, toList_madeCells_one] at hrow
    have hrow2 := ownsRow_same (w' := (w0.setCell ⟨w.heap.size, 0, none⟩ (.int .i64 room)).setCell ⟨w.heap.size, 1, none⟩ (.slice (some ⟨W.heap.size, 0, none⟩) n n)) hrow (fun j hj => hset j (fun e => by have := (hrow.lt j hj).1; omega))
    refine LSees.of_row hrow2 n1 (fun k hk => hF k (by omega)) (fun i hi => ⟨.slice none 0 0, by simp [hi], MSees.nil _ _⟩)
  · have hb := HB.out.trans (hB0.mono HB.out.size)
    exact (hb.setCell (by simp) _).setCell (by simp) _

theorem rlen_no (room : Int) (v : Value) (n : Nat) (who : Int) (F : Nat → Prop) (d : Nat → List Msg) (w : World) (hD : LSees F w v n d) (h : usr n who = false) :
    Calls Try.prog 14 #[poV room v, .int .i64 who] w fun e w' => e = .returned (.int .i64 0) ∧ Below w.heap.size w w' := by
  obtain ⟨b, off, cap, rfl, hc, hn, hf, hcell⟩ := hD
  have HB := hid (below_alloc w (.cells #[.int .i64 room, .slice (some ⟨b, off, none⟩) n cap] 29))
  unfold poV
  unfold usr at h
  by_cases h0 : 0 ≤ who
  · have h1 : ¬ who < (n : Int) := by simpa [h0] using h
    have h0' : ¬ who < 0 := by omega
    clear h
    go_enter Try.func14, Try.ntmps14
    go_wp2
    go_ret
    exact ⟨rfl, HB.out⟩
  · have h0' : who < 0 := by omega
    clear h
    go_enter Try.func14, Try.ntmps14
    go_wp2
    go_ret
    exact ⟨rfl, HB.out⟩
theorem rlen_yes (room : Int) (v : Value) (n i : Nat) (hi : i < n) (F : Nat → Prop) (d : Nat → List Msg) (w : World) (hD : LSees F w v n d) :
    Calls Try.prog 14 #[poV room v, .int .i64 i] w fun e w' => e = .returned (.int .i64 (d i).length) ∧ Below w.heap.size w w' := by
  obtain ⟨b, off, cap, rfl, hc, hn, hf, hcell⟩ := hD
  obtain ⟨u, hu, hm⟩ := hcell i hi
  obtain ⟨ao, c, hv⟩ := hm.shape
  subst hv
  have HB := hid (below_alloc w (.cells #[.int .i64 room, .slice (some ⟨b, off, none⟩) n cap] 29))
  have hu2 := (HB.out.cell (World.block_lt_of_cell? w _ hu)).trans hu
  have hlt : (i : Int) < n := by omega
  have hbl := World.block_lt_of_cell? w _ hu
  simp only at hbl
  clear hcell hm
  unfold poV
  go_enter Try.func14, Try.ntmps14
  go_wp2
  go_ret
  exact ⟨rfl, HB.out⟩
end Go.Proofs.Ytahibklmcooanaa
