/-
  ParsePlays: a parser's copy; the document's Feed and Next as the code's tell them.
-/
import Derived.Test.YtllhibdjopfcnaaGreatDoorZDAllU
import Derived.Test.YtllhibdjopfcnaaGreatDoorZPNext
namespace Go.Proofs.YtllhibdjopfcnaaGreatDoor
open Go.RowKit
set_option linter.unusedVariables false

def SeesZ (w : World) (v : Value) (xs : List Int) : Prop :=
  ∃ b off ao cap, v = .slice ao xs.length cap ∧ xs.length ≤ cap ∧ (ao = none → cap = 0) ∧ (xs ≠ [] → ao = some ⟨b, off, none⟩) ∧ ∀ j, (h : j < xs.length) → w.cell? ⟨b, off + j, none⟩ = some (.int .i64 xs[j])
theorem eqlc_some_nil (a : Addr) (w : World) : (binOp .eql 24 (.pointer (some a)) (.pointer none)).run Tryz.prog w = .ok (.bool false) w := by
  have h : ∀ d : Nat, (Op.equalIn (d + 1) 24 (.pointer (some a)) (.pointer none)).run Tryz.prog w = .ok false w := fun d => by
    simp [Op.equalIn, run_underlying Tryz.underlying24]
  simp only [binOp]
  simp [Op.equal, Op.maxDepth, h 9999]
set_option maxRecDepth 20000 in
set_option maxHeartbeats 4000000 in
theorem rfeedB_any (P L : List UInt8) (st : Int) (w : World) (hP : P.length ≤ 65536) :
    Calls Tryz.prog 7 #[.agg #[.string ⟨P.toArray⟩, .int .i64 st], .string ⟨L.toArray⟩] w fun e w' => e = .returned (.tuple #[.agg #[.string ⟨(fdT P st L).1.toArray⟩, .int .i64 st], .int .i64 (fdT P st L).2]) ∧ Below w.heap.size w w' := by
  have hj := str_join P L
  obtain ⟨s, hse⟩ : ∃ s : ByteArray, s = ⟨P.toArray⟩ := ⟨_, rfl⟩
  obtain ⟨u, hue⟩ : ∃ u : ByteArray, u = ⟨L.toArray⟩ := ⟨_, rfl⟩
  have hsz : s.size = P.length := by rw [hse, size_list]
  have huz : u.size = L.length := by rw [hue, size_list]
  have HSE := hid hse
  have HUE := hid hue
  have HJ := hid hj
  rw [← hse, ← hue]
  have hsl : s.size ≤ 65536 := by omega
  have HB : Hid (Below w.heap.size w ((w.alloc (.cells #[.string s, .int .i64 st] 27)).alloc (.cells #[.string ⟨#[]⟩, .int .i64 0] 27))) := hid ((below_alloc w _).alloc (by simp) _)
  clear hse hue hj
  by_cases h0 : st = 0
  · subst h0
    by_cases hf : 65536 < P.length + L.length
    · have f1 : (65536 : Int) - (s.size : Int) < (u.size : Int) := by omega
      have HT : Hid (fdT P 0 L = (P, 2)) := hid (by unfold fdT; rw [if_neg (by simp), if_pos hf])
      clear hf hsz huz
      go_enter Tryz.func7, Tryz.ntmps7
      go_wp2
      refine bodyPost_ret (v := .tuple #[.agg #[.string s, .int .i64 0], .int .i64 2]) (by simp [results, Tryz.results7, go_sem]) rfl ?_
      rw [HT.out]
      exact ⟨by simp only []; rw [HSE.out], (below_alloc w _).alloc (by simp) _⟩
    · have f1 : ¬ (65536 : Int) - (s.size : Int) < (u.size : Int) := by omega
      have hul : u.size ≤ 65536 := by omega
      have HT : Hid (fdT P 0 L = (P ++ L, 0)) := hid (by unfold fdT; rw [if_neg (by simp), if_neg hf])
      clear hf hsz huz
      go_enter Tryz.func7, Tryz.ntmps7
      go_wp2
      refine bodyPost_ret (v := .tuple #[.agg #[.string (s ++ u), .int .i64 0], .int .i64 0]) (by simp [results, Tryz.results7, go_sem]) rfl ?_
      rw [HT.out]
      exact ⟨by simp only []; rw [HSE.out, HUE.out, HJ.out], (below_alloc w _).alloc (by simp) _⟩
  · have f0 : (st != 0) = true := by rw [bne_iff_ne]; exact h0
    have HT : Hid (fdT P st L = (P, 80)) := hid (by unfold fdT; rw [if_pos h0])
    clear h0 hsz huz
    go_enter Tryz.func7, Tryz.ntmps7
    go_wp2
    refine bodyPost_ret (v := .tuple #[.agg #[.string s, .int .i64 st], .int .i64 80]) (by simp [results, Tryz.results7, go_sem]) rfl ?_
    rw [HT.out]
    exact ⟨by simp only []; rw [HSE.out], (below_alloc w _).alloc (by simp) _⟩

theorem fdT_fed (P L : List UInt8) (st : Int) : fdT P st L = (fedW P L st, fedE P L st) := by
  unfold fdT fedW fedE
  split
  · rfl
  · split <;> rfl
theorem nxD_nxt (P : List UInt8) : nxD P (firstL P) = ((nxtT P 0).2.2.2.1, (nxtT P 0).2.2.2.2, (nxtT P 0).1, (nxtT P 0).2.1, (nxtT P 0).2.2.1) := by
  match h : firstL P with
  | .error none => rw [nxt_more h]; rfl
  | .error (some t) => rw [nxt_wrong h]; rfl
  | .ok (q, n) => rw [nxt_got h]; rfl
theorem rnextB_any (L : List UInt8) (st : Int) (w : World) (hs : L.length ≤ 65536) :
    Calls Tryz.prog 10 #[.agg #[.string ⟨L.toArray⟩, .int .i64 st]] w fun e w' => ∃ v, e = .returned (.tuple #[.agg #[.string ⟨(nxtT L st).2.2.2.1.toArray⟩, .int .i64 (nxtT L st).2.2.2.2], v, .bool (nxtT L st).2.1, .int .i64 (nxtT L st).2.2.1]) ∧ OwnsR w' w.heap.size v (nxtT L st).1 ∧ Below w.heap.size w w' := by
  by_cases h : st = 0
  · subst h
    have h1 := rnext_any L w hs
    rw [nxD_nxt] at h1
    exact h1
  · rw [nxt_bad h]
    exact rnext_bad L st w h
theorem nxt_len (L : List UInt8) (st : Int) : (nxtT L st).2.2.2.1.length ≤ L.length := by
  unfold nxtT
  split
  · exact Nat.le_refl _
  · split
    · exact Nat.le_refl _
    · simp
    · simp only [List.length_drop]; omega
theorem nxt_few (L : List UInt8) (st : Int) : (nxtT L st).1.head.2.2.2.length ≤ 32 ∧ (nxtT L st).1.query.length ≤ 32 := by
  unfold nxtT
  split
  · simp [rz, hz]
  · split
    · simp [rz, hz]
    · simp [rz, hz]
    · rename_i q n h
      exact first_few h
set_option maxRecDepth 20000 in
set_option maxHeartbeats 4000000 in
theorem copyP_any (p : Nat) (W : List UInt8) (st : Int) (w : World) (h : PsAt w p W st) :
    Calls Tryz.prog 14 #[.pointer (some ⟨p, 0, none⟩)] w fun e w' => ∃ g, e = .returned (.pointer (some ⟨g, 0, none⟩)) ∧ PsAt w' g W st ∧ w.heap.size ≤ g ∧ Below w.heap.size w w' := by
  have hG := given_any p W st w h
  have HF := hid (fun W1 => freshP_any W W1)
  have HL := hid (fun W1 => lay_any W st W1)
  have hlt := h.lt
  have HP := hid h
  obtain ⟨c0, c1, c2, _, _, _⟩ := h.cells
  have HK : Hid (∀ X X' : World, Below X.heap.size X X' → (p < X.heap.size ∧ Below w.heap.size w X ∧ X.cell? ⟨p, 1, none⟩ = some (.string ⟨W.toArray⟩) ∧ X.cell? ⟨p, 2, none⟩ = some (.int .i64 st)) → (p < X'.heap.size ∧ Below w.heap.size w X' ∧ X'.cell? ⟨p, 1, none⟩ = some (.string ⟨W.toArray⟩) ∧ X'.cell? ⟨p, 2, none⟩ = some (.int .i64 st))) := hid fun X X' hb hh => by
    have hz := hb.size
    exact ⟨by omega, hh.2.1.trans (hb.mono hh.2.1.size), (hb.cell (p := ⟨p, 1, none⟩) hh.1).trans hh.2.2.1, (hb.cell (p := ⟨p, 2, none⟩) hh.1).trans hh.2.2.2⟩
  have HS0 : Hid (p < w.drew.heap.size ∧ Below w.heap.size w w.drew ∧ w.drew.cell? ⟨p, 1, none⟩ = some (.string ⟨W.toArray⟩) ∧ w.drew.cell? ⟨p, 2, none⟩ = some (.int .i64 st)) := hid ⟨hlt, Below.drew (Below.refl _ _), c1, c2⟩
  clear h c0 c1 c2
  go_enter Tryz.func14, Tryz.ntmps14
  go_wp2_with fail
  refine hG.mono ?_
  clear hG
  rintro e w1 ⟨rfl, hw1⟩
  subst hw1
  go_wp2_with fail
  go_region_held3 (fun X => p < X.heap.size ∧ Below w.heap.size w X ∧ X.cell? ⟨p, 1, none⟩ = some (.string ⟨W.toArray⟩) ∧ X.cell? ⟨p, 2, none⟩ = some (.int .i64 st))
    (first | (with_reducible exact HS0.out) | (exact HK.out _ _ (by assumption) (by assumption)))
    (first
      | (go_at_call 24
         refine (HF.out _).mono ?_
         rintro e' wa ⟨rfl, hBa⟩)
      | (go_at_call 22
         refine (HL.out _).mono ?_
         rintro e' wb ⟨rfl, hPb, hBb⟩))
  all_goals
    have HE : Hid (PsAt wb wa.heap.size W st ∧ w.heap.size ≤ wa.heap.size ∧ Below w.heap.size w wb) := hid ⟨hPb, by have := (Below.drew (Below.refl w.heap.size w)).trans hBa |>.size; omega, ((Below.drew (Below.refl w.heap.size w)).trans hBa).trans (hBb.mono (by have := hBa.size; simpa using this))⟩
    clear hPb hBa hBb
    go_wp2
    go_ret
    exact ⟨_, rfl, HE.out.1, HE.out.2.1, HE.out.2.2⟩
end Go.Proofs.YtllhibdjopfcnaaGreatDoor
