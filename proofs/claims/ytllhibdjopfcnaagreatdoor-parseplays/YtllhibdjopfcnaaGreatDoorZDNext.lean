/-
  Next of the document's reader.
-/
import Derived.Test.YtllhibdjopfcnaaGreatDoorZRBody
import Derived.Test.YtllhibdjopfcnaaGreatDoorZRCloses
import Derived.Test.YtllhibdjopfcnaaGreatDoorZRTarg
import Derived.Test.YtllhibdjopfcnaaGreatDoorZRParse
import Derived.Deep.RegionHeld3
import Derived.Deep.CutBlock
import Derived.Deep.DeepCutAuto
namespace Go.Proofs.YtllhibdjopfcnaaGreatDoor
open Go.RowKit
set_option linter.unusedVariables false

/-- What Next of the document's reader tells: what is left, the status it keeps, the request, whether there is one, the status. -/
def nxD (P : List UInt8) : Tell ReqL → List UInt8 × Int × ReqL × Bool × Int
  | (.error none) => (P, 0, rz, false, 0)
  | (.error (some t)) => ([], t, rz, false, t)
  | (.ok (q, n)) => (P.drop n, 0, q, true, 0)

theorem DpAt.far {w : World} {p q i : Nat} {s st x : Value} (h : DpAt w p s st) (hq : p ≠ q) : DpAt (w.setCell ⟨q, i, none⟩ x) p s st := by
  unfold DpAt at h ⊢
  rw [Below.heap_setCell w ⟨q, i, none⟩ x p hq]
  exact h
theorem DpAt.far8 {w : World} {p q : Nat} {s st : Value} (h : DpAt w p s st) (hq : p ≠ q) (a b c d e f g i : Value) : DpAt (set8 w q a b c d e f g i) p s st := by
  unfold set8
  exact ((((((((h.far hq).far hq).far hq).far hq).far hq).far hq).far hq).far hq)
theorem ReqAt.far {w : World} {p q i : Nat} {a b c d e f g h x : Value} (y : ReqAt w p a b c d e f g h) (hq : p ≠ q) : ReqAt (w.setCell ⟨q, i, none⟩ x) p a b c d e f g h := by
  unfold ReqAt at y ⊢
  rw [Below.heap_setCell w ⟨q, i, none⟩ x p hq]
  exact y

set_option maxRecDepth 20000 in
set_option maxHeartbeats 4000000 in
theorem rnext_bad (P : List UInt8) (st : Int) (w : World) (hst : st ≠ 0) :
    Calls Tryz.prog 10 #[.agg #[.string ⟨P.toArray⟩, .int .i64 st]] w fun e w' => ∃ v, e = .returned (.tuple #[.agg #[.string ⟨P.toArray⟩, .int .i64 st], v, .bool false, .int .i64 st]) ∧ OwnsR w' w.heap.size v rz ∧ Below w.heap.size w w' := by
  have f0 : (st != 0) = true := by rw [bne_iff_ne]; exact hst
  go_enter Tryz.func10, Tryz.ntmps10
  go_wp2
  go_region
  all_goals
    go_wp2
    refine bodyPost_ret (v := .tuple #[.agg #[.string ⟨P.toArray⟩, .int .i64 st], .agg #[.string ⟨#[]⟩, .string ⟨#[]⟩, .int .i64 0, .slice none 0 0, .string ⟨#[]⟩, .slice none 0 0, .string ⟨#[]⟩, .bool false], .bool false, .int .i64 st]) (by simp [results, Tryz.results10, go_sem]) rfl ?_
    exact ⟨_, rfl, OwnsR.zero _ _, Below.drew ((((below_alloc w _).alloc (by simp) _).alloc (by simp; omega) _).alloc (by simp; omega) _)⟩

/-- The four blocks that Next lays first. -/
theorem nx_blocks (w : World) (s : ByteArray) (W : World) (hW : W = (((w.alloc (.cells #[.string s, .int .i64 0] 27)).alloc (.cells #[.string ⟨#[]⟩, .int .i64 0] 27)).alloc (.cells #[.string ⟨#[]⟩, .string ⟨#[]⟩, .int .i64 0, .slice none 0 0, .string ⟨#[]⟩, .slice none 0 0, .string ⟨#[]⟩, .bool false] 36)).alloc (.cells #[.string ⟨#[]⟩, .string ⟨#[]⟩, .int .i64 0, .slice none 0 0, .string ⟨#[]⟩, .slice none 0 0, .string ⟨#[]⟩, .bool false] 36)) : DpAt W w.heap.size (.string s) (.int .i64 0) ∧ DpAt W (w.heap.size + 1) (.string ⟨#[]⟩) (.int .i64 0) ∧ ReqAt W (w.heap.size + 1 + 1) (.string ⟨#[]⟩) (.string ⟨#[]⟩) (.int .i64 0) (.slice none 0 0) (.string ⟨#[]⟩) (.slice none 0 0) (.string ⟨#[]⟩) (.bool false) ∧ ReqAt W (w.heap.size + 1 + 1 + 1) (.string ⟨#[]⟩) (.string ⟨#[]⟩) (.int .i64 0) (.slice none 0 0) (.string ⟨#[]⟩) (.slice none 0 0) (.string ⟨#[]⟩) (.bool false) ∧ Below w.heap.size w W ∧ W.heap.size = w.heap.size + 4 := by
  obtain ⟨w1, h1⟩ : ∃ w1, w1 = w.alloc (.cells #[.string s, .int .i64 0] 27) := ⟨_, rfl⟩
  have a1 := DpAt.new w (.string s) (.int .i64 0)
  have b1 := below_alloc w (.cells #[.string s, .int .i64 0] 27)
  have s1 : w1.heap.size = w.heap.size + 1 := by rw [h1]; simp
  rw [← h1] at a1 b1 hW
  obtain ⟨w2, h2⟩ : ∃ w2, w2 = w1.alloc (.cells #[.string ⟨#[]⟩, .int .i64 0] 27) := ⟨_, rfl⟩
  have a2 := DpAt.new w1 (.string ⟨#[]⟩) (.int .i64 0)
  have b2 := below_alloc w1 (.cells #[.string ⟨#[]⟩, .int .i64 0] 27)
  have s2 : w2.heap.size = w1.heap.size + 1 := by rw [h2]; simp
  rw [← h2] at a2 b2 hW
  obtain ⟨w3, h3⟩ : ∃ w3, w3 = w2.alloc (.cells #[.string ⟨#[]⟩, .string ⟨#[]⟩, .int .i64 0, .slice none 0 0, .string ⟨#[]⟩, .slice none 0 0, .string ⟨#[]⟩, .bool false] 36) := ⟨_, rfl⟩
  have a3 := ReqAt.new w2 (.string ⟨#[]⟩) (.string ⟨#[]⟩) (.int .i64 0) (.slice none 0 0) (.string ⟨#[]⟩) (.slice none 0 0) (.string ⟨#[]⟩) (.bool false)
  have b3 := below_alloc w2 (.cells #[.string ⟨#[]⟩, .string ⟨#[]⟩, .int .i64 0, .slice none 0 0, .string ⟨#[]⟩, .slice none 0 0, .string ⟨#[]⟩, .bool false] 36)
  have s3 : w3.heap.size = w2.heap.size + 1 := by rw [h3]; simp
  rw [← h3] at a3 b3 hW
  have a4 := ReqAt.new w3 (.string ⟨#[]⟩) (.string ⟨#[]⟩) (.int .i64 0) (.slice none 0 0) (.string ⟨#[]⟩) (.slice none 0 0) (.string ⟨#[]⟩) (.bool false)
  have b4 := below_alloc w3 (.cells #[.string ⟨#[]⟩, .string ⟨#[]⟩, .int .i64 0, .slice none 0 0, .string ⟨#[]⟩, .slice none 0 0, .string ⟨#[]⟩, .bool false] 36)
  have s4 : W.heap.size = w3.heap.size + 1 := by rw [hW]; simp
  rw [← hW] at a4 b4
  rw [s1] at a2 s2
  rw [s2] at a3 s3
  rw [s3] at a4 s4
  exact ⟨((a1.below b2 (by omega)).below b3 (by omega)).below b4 (by omega), (a2.below b3 (by omega)).below b4 (by omega), a3.below b4 (by omega), a4, ((b1.trans (b2.mono (by omega))).trans (b3.mono (by omega))).trans (b4.mono (by omega)), by omega⟩

/-- What Next lays last: the reader, the request. -/
theorem nx_end {W : World} {p : Nat} {s st x y : Value} {a b c d e f g h : Value} (d1 : DpAt W p x y) (q2 : ReqAt W (p + 1) a b c d e f g h) (a' b' c' d' e' f' g' h' : Value) :
    DpAt (set8 ((W.setCell ⟨p, 0, none⟩ s).setCell ⟨p, 1, none⟩ st) (p + 1) a' b' c' d' e' f' g' h') p s st ∧ ReqAt (set8 ((W.setCell ⟨p, 0, none⟩ s).setCell ⟨p, 1, none⟩ st) (p + 1) a' b' c' d' e' f' g' h') (p + 1) a' b' c' d' e' f' g' h' ∧ Below p W (set8 ((W.setCell ⟨p, 0, none⟩ s).setCell ⟨p, 1, none⟩ st) (p + 1) a' b' c' d' e' f' g' h') := by
  have h1 := DpAt.store (x := s) (y := st) d1
  have h2 : ReqAt ((W.setCell ⟨p, 0, none⟩ s).setCell ⟨p, 1, none⟩ st) (p + 1) a b c d e f g h := (q2.far (by omega)).far (by omega)
  refine ⟨h1.far8 (by omega) _ _ _ _ _ _ _ _, h2.set8 _ _ _ _ _ _ _ _, ?_⟩
  have k1 : Below p W ((W.setCell ⟨p, 0, none⟩ s).setCell ⟨p, 1, none⟩ st) := ((Kept.store (p := p) (B := p) W 0 s).trans (Kept.store _ 1 st)).below (Nat.le_refl _)
  have k2 := (Kept.set8 (p + 1) (p + 1) ((W.setCell ⟨p, 0, none⟩ s).setCell ⟨p, 1, none⟩ st) a' b' c' d' e' f' g' h').below (Nat.le_refl _)
  exact k1.trans (k2.mono (by omega))

theorem own_end {W : World} {p base : Nat} {v s st : Value} {l : List PairL} (h : OwnsP W base v l) (hp : p + 1 < base) (a b c d e f g i : Value) : OwnsP (set8 ((W.setCell ⟨p, 0, none⟩ s).setCell ⟨p, 1, none⟩ st) (p + 1) a b c d e f g i).drew base v l := by
  have h1 := OwnsP.kept h (Kept.store (p := p) (B := W.heap.size) W 0 s) (by omega)
  have h2 := OwnsP.kept h1 (Kept.store (p := p) _ 1 st) (by omega)
  have h3 := OwnsP.kept h2 (Kept.set8 (p + 1) _ _ a b c d e f g i) (by omega)
  exact OwnsP.below h3 (Below.drew (Below.refl _ _))

set_option maxRecDepth 20000 in
set_option maxHeartbeats 8000000 in
theorem rnext_any (L : List UInt8) (w : World) (hs : L.length ≤ 65536) :
    Calls Tryz.prog 10 #[.agg #[.string ⟨L.toArray⟩, .int .i64 0]] w fun e w' => ∃ v, e = .returned (.tuple #[.agg #[.string ⟨(nxD L (firstL L)).1.toArray⟩, .int .i64 (nxD L (firstL L)).2.1], v, .bool (nxD L (firstL L)).2.2.2.1, .int .i64 (nxD L (firstL L)).2.2.2.2]) ∧ OwnsR w' w.heap.size v (nxD L (firstL L)).2.2.1 ∧ Below w.heap.size w w' := by
  obtain ⟨T, hT⟩ : ∃ T, T = firstL L := ⟨_, rfl⟩
  rw [← hT]
  have HFL := hid hT
  unfold firstL at hT
  obtain ⟨s, hse⟩ : ∃ s : ByteArray, s = ⟨L.toArray⟩ := ⟨_, rfl⟩
  have hsz : s.size = L.length := by rw [hse, size_list]
  have hH := fun w => rhead_any L w (by omega)
  have HSE := hid hse
  rw [← hse] at hH ⊢
  cases he : endH L with
  | none =>
    rw [he] at hH hT
    simp only [hdV] at hH hT
    by_cases hl : 4096 < L.length
    · rw [if_pos hl] at hT
      have f1 : (4096 : Int) < (s.size : Int) := by omega
      have HT := hid hT
      clear hl hsz hT he hse
      go_enter Tryz.func10, Tryz.ntmps10
      go_wp2_with fail
      refine (hH _).mono ?_
      clear hH
      rintro e w9 ⟨rfl, hw9⟩
      subst hw9
      go_wp2
      go_region
      all_goals
        go_wp2
        refine bodyPost_ret (v := .tuple #[.agg #[.string ⟨#[]⟩, .int .i64 431], .agg #[.string ⟨#[]⟩, .string ⟨#[]⟩, .int .i64 0, .slice none 0 0, .string ⟨#[]⟩, .slice none 0 0, .string ⟨#[]⟩, .bool false], .bool false, .int .i64 431]) (by simp [results, Tryz.results10, go_sem]) rfl ?_
        rw [HT.out]
        exact ⟨_, rfl, OwnsR.zero _ _, Below.drew ((((below_alloc w _).alloc (by simp) _).alloc (by simp; omega) _).alloc (by simp; omega) _)⟩
    · rw [if_neg hl] at hT
      have f1 : ¬ (4096 : Int) < (s.size : Int) := by omega
      have HT := hid hT
      clear hl hsz hT he hse
      go_enter Tryz.func10, Tryz.ntmps10
      go_wp2_with fail
      refine (hH _).mono ?_
      clear hH
      rintro e w9 ⟨rfl, hw9⟩
      subst hw9
      go_wp2
      go_region
      all_goals
        go_wp2
        refine bodyPost_ret (v := .tuple #[.agg #[.string s, .int .i64 0], .agg #[.string ⟨#[]⟩, .string ⟨#[]⟩, .int .i64 0, .slice none 0 0, .string ⟨#[]⟩, .slice none 0 0, .string ⟨#[]⟩, .bool false], .bool false, .int .i64 0]) (by simp [results, Tryz.results10, go_sem]) rfl ?_
        rw [HT.out, HSE.out]
        exact ⟨_, rfl, OwnsR.zero _ _, Below.drew ((((below_alloc w _).alloc (by simp) _).alloc (by simp; omega) _).alloc (by simp; omega) _)⟩
  | some k =>
    have hk := endH_le he
    rw [he] at hH hT
    simp only [hdV] at hH hT
    have hx : s.extract 0 k = ⟨(L.take k).toArray⟩ := by rw [hse, extract_list]; simp
    have hP := fun w => rparse_any (L.take k) w (by rw [List.length_take]; omega)
    have HBo := hid (fun (h : HeadL) (a b v : Value) (w : World) (q1 : SeesP w v h.2.2.2) (q2 : h.2.2.2.length ≤ 1048576) (q3 : ∀ p ∈ h.2.2.2, p.2.length ≤ 1048576) => rdbody_any h a b v L k w q1 q2 q3 hs hk.2)
    rw [← hse] at HBo
    rw [← hx] at hP
    obtain ⟨PT, hPT⟩ : ∃ PT, PT = parseL (L.take k) := ⟨_, rfl⟩
    rw [← hPT] at hT hP
    have HPT := hid hPT
    obtain ⟨hd, pst, ppl⟩ := PT
    simp only at hT hP
    have hks : (k : Int) ≤ (s.size : Int) := by omega
    have hk0 : ¬ (k : Int) < 0 := by omega
    have hss : s.size ≤ 65536 := by omega
    clear hPT hx he hse
    go_enter Tryz.func10, Tryz.ntmps10
    go_wp2_with fail
    refine (hH _).mono ?_
    clear hH
    rintro e w9 ⟨rfl, hw9⟩
    subst hw9
    obtain ⟨W, hW⟩ : ∃ W, W = (((w.alloc (.cells #[.string s, .int .i64 0] 27)).alloc (.cells #[.string ⟨#[]⟩, .int .i64 0] 27)).alloc (.cells #[.string ⟨#[]⟩, .string ⟨#[]⟩, .int .i64 0, .slice none 0 0, .string ⟨#[]⟩, .slice none 0 0, .string ⟨#[]⟩, .bool false] 36)).alloc (.cells #[.string ⟨#[]⟩, .string ⟨#[]⟩, .int .i64 0, .slice none 0 0, .string ⟨#[]⟩, .slice none 0 0, .string ⟨#[]⟩, .bool false] 36) := ⟨_, rfl⟩
    have hbl := nx_blocks w s W hW
    rw [← hW]
    clear hW
    obtain ⟨d0, d1, q2, q3, hB0, hWs⟩ := hbl
    obtain ⟨yy0, yy1, _, _⟩ := d0.cells
    have D0 := hid d0
    have D1 := hid d1
    have Q2 := hid q2
    have Q3 := hid q3
    have HB0 := hid hB0
    clear d0 d1 q2 q3 hB0
    go_wp2_with fail
    refine (hP _).mono ?_
    clear hP yy0 yy1
    rintro e w2 ⟨v, rfl, hO2, hB2⟩
    obtain ⟨h1, h2, m, fs⟩ := hd
    simp only [strV] at hO2 hT ⊢
    obtain ⟨ao, cap, rfl⟩ := hO2.shape
    have hsz2 := hB2.size
    have hB23 := below_alloc w2 (.cells #[.string ⟨h1.toArray⟩, .string ⟨h2.toArray⟩, .int .i64 m, .slice ao fs.length cap] 34)
    have HH3 := hid (HeadAt.new w2 (.string ⟨h1.toArray⟩) (.string ⟨h2.toArray⟩) (.int .i64 m) (.slice ao fs.length cap))
    obtain ⟨w3, hw3⟩ : ∃ w3, w3 = w2.alloc (.cells #[.string ⟨h1.toArray⟩, .string ⟨h2.toArray⟩, .int .i64 m, .slice ao fs.length cap] 34) := ⟨_, rfl⟩
    rw [← hw3] at HH3 hB23
    have HW3 := hid hw3
    have hsz3 : w3.heap.size = w2.heap.size + 1 := by rw [hw3]; simp
    have hBW3 := hB2.trans (hB23.mono hsz2)
    have D0 := hid (D0.out.below hBW3 D0.out.lt)
    have D1 := hid (D1.out.below hBW3 D1.out.lt)
    have Q2 := hid (Q2.out.below hBW3 Q2.out.lt)
    have Q3 := hid (Q3.out.below hBW3 Q3.out.lt)
    have HB3 := hid (HB0.out.trans (hBW3.mono (by omega)))
    have HO3 := hid (OwnsP.below hO2 hB23)
    obtain ⟨x0, x1, x2, x3⟩ := D1.out.cells
    obtain ⟨y0, y1, _, _⟩ := D0.out.cells
    obtain ⟨n0, n1, n2, n3, n4, n5, n6, n7⟩ := Q3.out.cells
    obtain ⟨r0, r1, r2, r3, r4, r5, r6, r7⟩ := Q2.out.cells
    have g0 := Q2.out.warm 0
    have g1 := Q2.out.warm 1
    have g2 := Q2.out.warm 2
    have g3 := Q2.out.warm 3
    have g4 := Q2.out.warm 4
    have g5 := Q2.out.warm 5
    have g6 := Q2.out.warm 6
    have g7 := Q2.out.warm 7
    obtain ⟨z0, z1, z2, z3, _, _, _, _⟩ := HH3.out.cells
    clear hw3 hB2 hB23 hBW3 hO2
    by_cases hp0 : pst = 0
    · subst hp0
      rw [if_neg (by simp)] at hT
      have hsm := parse_small HPT.out.symm
      simp only at hsm
      have hB4 := HBo.out (h1, h2, m, fs) (.string ⟨h1.toArray⟩) (.string ⟨h2.toArray⟩) (.slice ao fs.length cap) w3 (OwnsP.sees HO3.out) (by simp only; omega) (fun p hp => by have := hsm.2.1 p hp; omega)
      simp only [bdV] at hB4
      have hTg := fun w => rtarget_any h2 w (by omega)
      obtain ⟨BT, hBT⟩ : ∃ BT, BT = bodyAt (h1, h2, m, fs) L k := ⟨_, rfl⟩
      rw [← hBT] at hT hB4
      have y0' : (w2.alloc (.cells #[.string ⟨h1.toArray⟩, .string ⟨h2.toArray⟩, .int .i64 m, .slice ao fs.length cap] 34)).cell? ⟨w.heap.size, 0, none⟩ = some (.string s) := by rw [← HW3.out]; exact y0
      go_wp2_with fail
      rw [← HW3.out]
      clear y0'
      refine hB4.mono ?_
      clear hB4
      rintro e w4 ⟨rfl, hB4⟩
      have hsz4 := hB4.size
      have D0 := hid (D0.out.below hB4 D0.out.lt)
      have D1 := hid (D1.out.below hB4 D1.out.lt)
      have Q2 := hid (Q2.out.below hB4 Q2.out.lt)
      have Q3 := hid (Q3.out.below hB4 Q3.out.lt)
      have HH4 := hid (HH3.out.below hB4 HH3.out.lt)
      have HB3 := hid (HB3.out.trans (hB4.mono HB3.out.size))
      have HO3 := hid (OwnsP.below HO3.out hB4)
      clear x0 x1 x2 x3 y0 y1 n0 n1 n2 n3 n4 n5 n6 n7 r0 r1 r2 r3 r4 r5 r6 r7 g0 g1 g2 g3 g4 g5 g6 g7 z0 z1 z2 z3 hB4 HH3 HBo
      obtain ⟨x0, x1, x2, x3⟩ := D1.out.cells
      obtain ⟨y0, y1, _, _⟩ := D0.out.cells
      obtain ⟨n0, n1, n2, n3, n4, n5, n6, n7⟩ := Q3.out.cells
      obtain ⟨r0, r1, r2, r3, r4, r5, r6, r7⟩ := Q2.out.cells
      have g0 := Q2.out.warm 0
      have g1 := Q2.out.warm 1
      have g2 := Q2.out.warm 2
      have g3 := Q2.out.warm 3
      have g4 := Q2.out.warm 4
      have g5 := Q2.out.warm 5
      have g6 := Q2.out.warm 6
      have g7 := Q2.out.warm 7
      match hbt : BT with
      | .error none =>
        (try rw [hbt] at hT)
        simp only at hT
        have HT := hid hT
        simp only [bdT]
        clear hT hbt hBT hTg hsm HPT HO3 HH4
        go_wp2
        go_region
        all_goals
          go_wp2
          obtain ⟨e1, e2, e3⟩ := nx_end (s := (.string s)) (st := (.int .i64 0)) D1.out Q2.out (.string ⟨#[]⟩) (.string ⟨#[]⟩) (.int .i64 0) (.slice none 0 0) (.string ⟨#[]⟩) (.slice none 0 0) (.string ⟨#[]⟩) (.bool false)
          unfold set8 at e1 e2 e3
          have HE3 := hid (HB3.out.trans (e3.mono (by omega)))
          obtain ⟨c0, c1, _, _⟩ := e1.cells
          obtain ⟨u0, u1, u2, u3, u4, u5, u6, u7⟩ := e2.cells
          clear e1 e2 e3
          refine bodyPost_ret (v := .tuple #[.agg #[.string s, .int .i64 0], .agg #[.string ⟨#[]⟩, .string ⟨#[]⟩, .int .i64 0, .slice none 0 0, .string ⟨#[]⟩, .slice none 0 0, .string ⟨#[]⟩, .bool false], .bool false, .int .i64 0]) (by simp [results, Tryz.results10, go_sem, c0, c1, u0, u1, u2, u3, u4, u5, u6, u7]) rfl ?_
          rw [HT.out]
          refine ⟨_, ?_, OwnsR.zero _ _, Below.drew HE3.out⟩
          rw [HSE.out]
          rfl
      | .error (some t) =>
        (try rw [hbt] at hT)
        simp only at hT
        have HT := hid hT
        simp only [bdT]
        have ft : (t != 0) = true := by
          rw [bne_iff_ne]
          have : firstL L = (.error (some t)) := by rw [← HFL.out, hT]
          exact stat4_ne (first_stat this)
        clear hT hbt hBT hTg hsm HPT HO3 HH4
        go_wp2
        go_region
        all_goals
          go_wp2
          obtain ⟨e1, e2, e3⟩ := nx_end (s := (.string ⟨#[]⟩)) (st := (.int .i64 t)) D1.out Q2.out (.string ⟨#[]⟩) (.string ⟨#[]⟩) (.int .i64 0) (.slice none 0 0) (.string ⟨#[]⟩) (.slice none 0 0) (.string ⟨#[]⟩) (.bool false)
          unfold set8 at e1 e2 e3
          have HE3 := hid (HB3.out.trans (e3.mono (by omega)))
          obtain ⟨c0, c1, _, _⟩ := e1.cells
          obtain ⟨u0, u1, u2, u3, u4, u5, u6, u7⟩ := e2.cells
          clear e1 e2 e3
          refine bodyPost_ret (v := .tuple #[.agg #[.string ⟨#[]⟩, .int .i64 t], .agg #[.string ⟨#[]⟩, .string ⟨#[]⟩, .int .i64 0, .slice none 0 0, .string ⟨#[]⟩, .slice none 0 0, .string ⟨#[]⟩, .bool false], .bool false, .int .i64 t]) (by simp [results, Tryz.results10, go_sem, c0, c1, u0, u1, u2, u3, u4, u5, u6, u7]) rfl ?_
          rw [HT.out]
          exact ⟨_, rfl, OwnsR.zero _ _, Below.drew HE3.out⟩
      | .ok (bd, n) =>
        (try rw [hbt] at hT)
        simp only at hT
        have HT := hid hT
        simp only [bdT]
        have hng := firstL_got (show firstL L = (.ok (_, n)) by rw [← HFL.out, hT])
        have fn : ¬ ((n : Int) < 0) := by omega
        have hns : (n : Int) ≤ (s.size : Int) := by omega
        obtain ⟨z0, z1, z2, z3, _, _, _, _⟩ := HH4.out.cells
        have HSM := hid hsm
        have HXN : Hid (s.extract n s.size = ⟨(L.drop n).toArray⟩) := hid (by rw [hsz, HSE.out, extract_list, List.take_of_length_le (by simp)])
        have hn0 : (0 : Int) ≤ (n : Int) := by omega
        have hns2 : n ≤ s.size := by omega
        clear hT hbt hBT hsm HPT hng hsz
        go_wp2_with fail
        refine (hTg _).mono ?_
        clear hTg
        rintro e w5 ⟨vq, rfl, hO5, hB5⟩
        simp only
        obtain ⟨aq, cq, hvq⟩ := hO5.shape
        subst hvq
        have hsz5 := hB5.size
        have D0 := hid (D0.out.below hB5 D0.out.lt)
        have D1 := hid (D1.out.below hB5 D1.out.lt)
        have Q2 := hid (Q2.out.below hB5 Q2.out.lt)
        have HH5 := hid (HH4.out.below hB5 HH4.out.lt)
        have HB3 := hid (HB3.out.trans (hB5.mono HB3.out.size))
        have HF5 := hid (OwnsP.below HO3.out hB5)
        have HQ5 := hid (OwnsP.low hO5 (show W.heap.size ≤ w4.heap.size by omega))
        clear x0 x1 x2 x3 y0 y1 n0 n1 n2 n3 n4 n5 n6 n7 r0 r1 r2 r3 r4 r5 r6 r7 g0 g1 g2 g3 g4 g5 g6 g7 z0 z1 z2 z3 hB5 hO5 HH4 HO3 Q3
        obtain ⟨z0, z1, z2, z3, _, _, _, _⟩ := HH5.out.cells
        have hCl := fun (W : World) (hBW : Below w5.heap.size w5 W) => rcloses_any (h1, h2, m, fs) (.string ⟨h1.toArray⟩) (.string ⟨h2.toArray⟩) (.slice ao fs.length cap) W ((OwnsP.sees HF5.out).below hBW) (by have := HSM.out.1; simp only; omega) (fun p hp => by have := HSM.out.2.1 p hp; omega)
        simp only at hCl
        obtain ⟨C, hC⟩ : ∃ C, C = closesL (h1, h2, m, fs) := ⟨_, rfl⟩
        rw [← hC] at hCl
        obtain ⟨E, hE⟩ : ∃ E, E = (tgt h2).err := ⟨_, rfl⟩
        obtain ⟨A', hA'⟩ : ∃ A', A' = (tgt h2).at' := ⟨_, rfl⟩
        obtain ⟨PP, hPP⟩ : ∃ PP, PP = (tgt h2).path := ⟨_, rfl⟩
        obtain ⟨QQ, hQQ⟩ : ∃ QQ, QQ = (tgt h2).query := ⟨_, rfl⟩
        rw [← hE, ← hA', ← hPP, ← hQQ]
        rw [← hQQ] at HQ5
        have HRQ : Hid (reqOf (h1, h2, m, fs) bd = ⟨(h1, h2, m, fs), PP, QQ, bd, C⟩) := hid (by rw [hPP, hQQ, hC]; rfl)
        clear hE hA' hPP hQQ hC
        go_wp2_with fail
        have HCl := hid hCl
        clear hCl
        have HK : Hid (∀ W W' : World, Below W.heap.size W W' → (w2.heap.size < W.heap.size ∧ W.cell? ⟨w2.heap.size, 0, none⟩ = some (.string ⟨h1.toArray⟩) ∧ W.cell? ⟨w2.heap.size, 1, none⟩ = some (.string ⟨h2.toArray⟩) ∧ W.cell? ⟨w2.heap.size, 2, none⟩ = some (.int .i64 m) ∧ W.cell? ⟨w2.heap.size, 3, none⟩ = some (.slice ao fs.length cap)) → (w2.heap.size < W'.heap.size ∧ W'.cell? ⟨w2.heap.size, 0, none⟩ = some (.string ⟨h1.toArray⟩) ∧ W'.cell? ⟨w2.heap.size, 1, none⟩ = some (.string ⟨h2.toArray⟩) ∧ W'.cell? ⟨w2.heap.size, 2, none⟩ = some (.int .i64 m) ∧ W'.cell? ⟨w2.heap.size, 3, none⟩ = some (.slice ao fs.length cap))) := hid fun W W' hb hh => by
          have hz := hb.size
          exact ⟨by omega, (hb.cell (p := ⟨w2.heap.size, 0, none⟩) hh.1).trans hh.2.1, (hb.cell (p := ⟨w2.heap.size, 1, none⟩) hh.1).trans hh.2.2.1, (hb.cell (p := ⟨w2.heap.size, 2, none⟩) hh.1).trans hh.2.2.2.1, (hb.cell (p := ⟨w2.heap.size, 3, none⟩) hh.1).trans hh.2.2.2.2⟩
        have hlt5 := HH5.out.lt
        have HK8 : Hid (∀ W : World, (w2.heap.size < W.heap.size ∧ W.cell? ⟨w2.heap.size, 0, none⟩ = some (.string ⟨h1.toArray⟩) ∧ W.cell? ⟨w2.heap.size, 1, none⟩ = some (.string ⟨h2.toArray⟩) ∧ W.cell? ⟨w2.heap.size, 2, none⟩ = some (.int .i64 m) ∧ W.cell? ⟨w2.heap.size, 3, none⟩ = some (.slice ao fs.length cap)) → (w2.heap.size < (set8 W w5.heap.size (.string ⟨h1.toArray⟩) (.string ⟨h2.toArray⟩) (.int .i64 m) (.slice ao fs.length cap) (.string ⟨PP.toArray⟩) (.slice aq QQ.length cq) (.string ⟨bd.toArray⟩) (.bool C)).heap.size ∧ (set8 W w5.heap.size (.string ⟨h1.toArray⟩) (.string ⟨h2.toArray⟩) (.int .i64 m) (.slice ao fs.length cap) (.string ⟨PP.toArray⟩) (.slice aq QQ.length cq) (.string ⟨bd.toArray⟩) (.bool C)).cell? ⟨w2.heap.size, 0, none⟩ = some (.string ⟨h1.toArray⟩) ∧ (set8 W w5.heap.size (.string ⟨h1.toArray⟩) (.string ⟨h2.toArray⟩) (.int .i64 m) (.slice ao fs.length cap) (.string ⟨PP.toArray⟩) (.slice aq QQ.length cq) (.string ⟨bd.toArray⟩) (.bool C)).cell? ⟨w2.heap.size, 1, none⟩ = some (.string ⟨h2.toArray⟩) ∧ (set8 W w5.heap.size (.string ⟨h1.toArray⟩) (.string ⟨h2.toArray⟩) (.int .i64 m) (.slice ao fs.length cap) (.string ⟨PP.toArray⟩) (.slice aq QQ.length cq) (.string ⟨bd.toArray⟩) (.bool C)).cell? ⟨w2.heap.size, 2, none⟩ = some (.int .i64 m) ∧ (set8 W w5.heap.size (.string ⟨h1.toArray⟩) (.string ⟨h2.toArray⟩) (.int .i64 m) (.slice ao fs.length cap) (.string ⟨PP.toArray⟩) (.slice aq QQ.length cq) (.string ⟨bd.toArray⟩) (.bool C)).cell? ⟨w2.heap.size, 3, none⟩ = some (.slice ao fs.length cap))) := hid fun W hh => by
          have hk := (Kept.set8 w5.heap.size w5.heap.size W (.string ⟨h1.toArray⟩) (.string ⟨h2.toArray⟩) (.int .i64 m) (.slice ao fs.length cap) (.string ⟨PP.toArray⟩) (.slice aq QQ.length cq) (.string ⟨bd.toArray⟩) (.bool C)).below (Nat.le_refl _)
          unfold set8
          unfold set8 at hk
          have hz := hk.size
          exact ⟨by have := hh.1; omega, (hk.cell (p := ⟨w2.heap.size, 0, none⟩) hlt5).trans hh.2.1, (hk.cell (p := ⟨w2.heap.size, 1, none⟩) hlt5).trans hh.2.2.1, (hk.cell (p := ⟨w2.heap.size, 2, none⟩) hlt5).trans hh.2.2.2.1, (hk.cell (p := ⟨w2.heap.size, 3, none⟩) hlt5).trans hh.2.2.2.2⟩
        unfold set8 at HK8
        have BA : Hid (Below w5.heap.size w5 w5.drew) := hid (Below.drew (Below.refl _ _))
        have BB : Hid (Below w5.heap.size w5 (w5.alloc (.cells #[.string ⟨#[]⟩, .string ⟨#[]⟩, .int .i64 0, .slice none 0 0, .string ⟨#[]⟩, .slice none 0 0, .string ⟨#[]⟩, .bool false] 36)).drew) := hid (Below.drew (below_alloc w5 _))
        have HRB : Hid (ReqAt (w5.alloc (.cells #[.string ⟨#[]⟩, .string ⟨#[]⟩, .int .i64 0, .slice none 0 0, .string ⟨#[]⟩, .slice none 0 0, .string ⟨#[]⟩, .bool false] 36)).drew w5.heap.size (.string ⟨#[]⟩) (.string ⟨#[]⟩) (.int .i64 0) (.slice none 0 0) (.string ⟨#[]⟩) (.slice none 0 0) (.string ⟨#[]⟩) (.bool false)) := hid (ReqAt.new w5 (.string ⟨#[]⟩) (.string ⟨#[]⟩) (.int .i64 0) (.slice none 0 0) (.string ⟨#[]⟩) (.slice none 0 0) (.string ⟨#[]⟩) (.bool false))
        have HSA : Hid (w2.heap.size < w5.drew.heap.size ∧ w5.drew.cell? ⟨w2.heap.size, 0, none⟩ = some (.string ⟨h1.toArray⟩) ∧ w5.drew.cell? ⟨w2.heap.size, 1, none⟩ = some (.string ⟨h2.toArray⟩) ∧ w5.drew.cell? ⟨w2.heap.size, 2, none⟩ = some (.int .i64 m) ∧ w5.drew.cell? ⟨w2.heap.size, 3, none⟩ = some (.slice ao fs.length cap)) := hid ⟨hlt5, z0, z1, z2, z3⟩
        have HSB : Hid (w2.heap.size < (w5.alloc (.cells #[.string ⟨#[]⟩, .string ⟨#[]⟩, .int .i64 0, .slice none 0 0, .string ⟨#[]⟩, .slice none 0 0, .string ⟨#[]⟩, .bool false] 36)).drew.heap.size ∧ (w5.alloc (.cells #[.string ⟨#[]⟩, .string ⟨#[]⟩, .int .i64 0, .slice none 0 0, .string ⟨#[]⟩, .slice none 0 0, .string ⟨#[]⟩, .bool false] 36)).drew.cell? ⟨w2.heap.size, 0, none⟩ = some (.string ⟨h1.toArray⟩) ∧ (w5.alloc (.cells #[.string ⟨#[]⟩, .string ⟨#[]⟩, .int .i64 0, .slice none 0 0, .string ⟨#[]⟩, .slice none 0 0, .string ⟨#[]⟩, .bool false] 36)).drew.cell? ⟨w2.heap.size, 1, none⟩ = some (.string ⟨h2.toArray⟩) ∧ (w5.alloc (.cells #[.string ⟨#[]⟩, .string ⟨#[]⟩, .int .i64 0, .slice none 0 0, .string ⟨#[]⟩, .slice none 0 0, .string ⟨#[]⟩, .bool false] 36)).drew.cell? ⟨w2.heap.size, 2, none⟩ = some (.int .i64 m) ∧ (w5.alloc (.cells #[.string ⟨#[]⟩, .string ⟨#[]⟩, .int .i64 0, .slice none 0 0, .string ⟨#[]⟩, .slice none 0 0, .string ⟨#[]⟩, .bool false] 36)).drew.cell? ⟨w2.heap.size, 3, none⟩ = some (.slice ao fs.length cap)) := hid (HK.out w5 _ BB.out ⟨hlt5, z0, z1, z2, z3⟩)
        clear z0 z1 z2 z3
        go_cut [18] (fun p18 wx => ∃ b, p18 = .pointer (some ⟨b, 0, none⟩) ∧ Hid (w5.heap.size ≤ b ∧ ReqAt wx b (.string ⟨h1.toArray⟩) (.string ⟨h2.toArray⟩) (.int .i64 m) (.slice ao fs.length cap) (.string ⟨PP.toArray⟩) (.slice aq QQ.length cq) (.string ⟨bd.toArray⟩) (.bool C) ∧ Below w5.heap.size w5 wx))
        case first =>
          go_region_held3 (fun W => w2.heap.size < W.heap.size ∧ W.cell? ⟨w2.heap.size, 0, none⟩ = some (.string ⟨h1.toArray⟩) ∧ W.cell? ⟨w2.heap.size, 1, none⟩ = some (.string ⟨h2.toArray⟩) ∧ W.cell? ⟨w2.heap.size, 2, none⟩ = some (.int .i64 m) ∧ W.cell? ⟨w2.heap.size, 3, none⟩ = some (.slice ao fs.length cap))
            (first | (with_reducible exact HSA.out) | (with_reducible exact HSB.out) | (with_reducible exact hS6) | (with_reducible exact HK8.out _ hS6) | (with_reducible refine HK.out w6 _ (below_alloc w6 _) ?_; assumption))
            (first
              | (go_at_call 30
                 refine (HCl.out _ ?hb).mono ?_
                 case hb => first | (with_reducible exact BA.out) | (with_reducible exact BB.out)
                 rintro e' w6 ⟨rfl, hB6⟩
                 have HW6 := hid hB6
                 first
                   | (with_reducible have hS6 := HK.out w5.drew w6 hB6 HSA.out
                      have hB7 := BA.out.trans HW6.out
                      have HE6 := hid (And.intro hB7.size <| And.intro (ReqAt.new w6 (.string ⟨h1.toArray⟩) (.string ⟨h2.toArray⟩) (.int .i64 m) (.slice ao fs.length cap) (.string ⟨PP.toArray⟩) (.slice aq QQ.length cq) (.string ⟨bd.toArray⟩) (.bool C)) (hB7.trans ((below_alloc w6 (.cells #[.string ⟨h1.toArray⟩, .string ⟨h2.toArray⟩, .int .i64 m, .slice ao fs.length cap, .string ⟨PP.toArray⟩, .slice aq QQ.length cq, .string ⟨bd.toArray⟩, .bool C] 36)).mono hB7.size)))
                      clear HW6 hB6 hB7)
                   | (with_reducible have hS6 := HK.out _ _ hB6 HSB.out
                      have hR6 := HRB.out.below HW6.out HRB.out.lt
                      have hB7 := BB.out.trans (HW6.out.mono BB.out.size)
                      have hE6 := And.intro (Nat.le_refl w5.heap.size) <| And.intro (hR6.set8 (.string ⟨h1.toArray⟩) (.string ⟨h2.toArray⟩) (.int .i64 m) (.slice ao fs.length cap) (.string ⟨PP.toArray⟩) (.slice aq QQ.length cq) (.string ⟨bd.toArray⟩) (.bool C)) (hB7.trans ((Kept.set8 w5.heap.size w5.heap.size w6 (.string ⟨h1.toArray⟩) (.string ⟨h2.toArray⟩) (.int .i64 m) (.slice ao fs.length cap) (.string ⟨PP.toArray⟩) (.slice aq QQ.length cq) (.string ⟨bd.toArray⟩) (.bool C)).below (Nat.le_refl _)))
                      unfold set8 at hE6
                      have HE6 := hid hE6
                      obtain ⟨i0, i1, i2, i3, i4, i5, i6, i7⟩ := hR6.cells
                      have j0 := hR6.warm 0
                      have j1 := hR6.warm 1
                      have j2 := hR6.warm 2
                      have j3 := hR6.warm 3
                      have j4 := hR6.warm 4
                      have j5 := hR6.warm 5
                      have j6 := hR6.warm 6
                      have j7 := hR6.warm 7
                      clear hR6 HW6 hB6 hB7 hE6)))
          all_goals
            go_wp2
            go_meet
            case rel => exact ⟨_, rfl, HE6⟩
        case rest =>
          obtain ⟨b, rfl, HX⟩ := hcut
          have hBx := HX.out.2.2
          have hbw := HX.out.1
          have hne1 : ¬ (w.heap.size + 1 = b) := by omega
          have hne2 : ¬ (w.heap.size + 1 + 1 = b) := by omega
          have hne3 : ¬ (b = w.heap.size + 1) := by omega
          have hne4 : ¬ (b = w.heap.size + 1 + 1) := by omega
          have D0 := hid (D0.out.below hBx D0.out.lt)
          have D1 := hid (D1.out.below hBx D1.out.lt)
          have Q2 := hid (Q2.out.below hBx Q2.out.lt)
          have HB3 := hid (HB3.out.trans (hBx.mono HB3.out.size))
          have HF6 := hid (OwnsP.below HF5.out hBx)
          have HQ6 := hid (OwnsP.below HQ5.out hBx)
          obtain ⟨x0, x1, x2, x3⟩ := D1.out.cells
          obtain ⟨y0, y1, _, _⟩ := D0.out.cells
          obtain ⟨n0, n1, n2, n3, n4, n5, n6, n7⟩ := HX.out.2.1.cells
          obtain ⟨r0, r1, r2, r3, r4, r5, r6, r7⟩ := Q2.out.cells
          have g0 := Q2.out.warm 0
          have g1 := Q2.out.warm 1
          have g2 := Q2.out.warm 2
          have g3 := Q2.out.warm 3
          have g4 := Q2.out.warm 4
          have g5 := Q2.out.warm 5
          have g6 := Q2.out.warm 6
          have g7 := Q2.out.warm 7
          clear hBx HX HK HK8 HCl BA BB HRB HSA HSB
          have HFAR : Hid (∀ (W : World) (q : Nat) (k : Nat) (u : Value), w.heap.size ≠ q → b ≠ q → (W.cell? ⟨w.heap.size, 0, none⟩ = some (.string s) ∧ W.cell? ⟨b, 0, none⟩ = some (.string ⟨h1.toArray⟩) ∧ W.cell? ⟨b, 1, none⟩ = some (.string ⟨h2.toArray⟩) ∧ W.cell? ⟨b, 2, none⟩ = some (.int .i64 m) ∧ W.cell? ⟨b, 3, none⟩ = some (.slice ao fs.length cap) ∧ W.cell? ⟨b, 4, none⟩ = some (.string ⟨PP.toArray⟩) ∧ W.cell? ⟨b, 5, none⟩ = some (.slice aq QQ.length cq) ∧ W.cell? ⟨b, 6, none⟩ = some (.string ⟨bd.toArray⟩) ∧ W.cell? ⟨b, 7, none⟩ = some (.bool C)) → ((W.setCell ⟨q, k, none⟩ u).cell? ⟨w.heap.size, 0, none⟩ = some (.string s) ∧ (W.setCell ⟨q, k, none⟩ u).cell? ⟨b, 0, none⟩ = some (.string ⟨h1.toArray⟩) ∧ (W.setCell ⟨q, k, none⟩ u).cell? ⟨b, 1, none⟩ = some (.string ⟨h2.toArray⟩) ∧ (W.setCell ⟨q, k, none⟩ u).cell? ⟨b, 2, none⟩ = some (.int .i64 m) ∧ (W.setCell ⟨q, k, none⟩ u).cell? ⟨b, 3, none⟩ = some (.slice ao fs.length cap) ∧ (W.setCell ⟨q, k, none⟩ u).cell? ⟨b, 4, none⟩ = some (.string ⟨PP.toArray⟩) ∧ (W.setCell ⟨q, k, none⟩ u).cell? ⟨b, 5, none⟩ = some (.slice aq QQ.length cq) ∧ (W.setCell ⟨q, k, none⟩ u).cell? ⟨b, 6, none⟩ = some (.string ⟨bd.toArray⟩) ∧ (W.setCell ⟨q, k, none⟩ u).cell? ⟨b, 7, none⟩ = some (.bool C))) := hid fun W q k u hq1 hq2 hh => by
            have f1 : ∀ i, (W.setCell ⟨q, k, none⟩ u).cell? ⟨w.heap.size, i, none⟩ = W.cell? ⟨w.heap.size, i, none⟩ := fun i => by
              apply World.cell?_setCell_other
              intro e
              cases e
              exact hq1 rfl
            have f2 : ∀ i, (W.setCell ⟨q, k, none⟩ u).cell? ⟨b, i, none⟩ = W.cell? ⟨b, i, none⟩ := fun i => by
              apply World.cell?_setCell_other
              intro e
              cases e
              exact hq2 rfl
            simp only [f1, f2]
            exact hh
          have HSD : Hid (∀ W : World, (W.cell? ⟨w.heap.size, 0, none⟩ = some (.string s) ∧ W.cell? ⟨b, 0, none⟩ = some (.string ⟨h1.toArray⟩) ∧ W.cell? ⟨b, 1, none⟩ = some (.string ⟨h2.toArray⟩) ∧ W.cell? ⟨b, 2, none⟩ = some (.int .i64 m) ∧ W.cell? ⟨b, 3, none⟩ = some (.slice ao fs.length cap) ∧ W.cell? ⟨b, 4, none⟩ = some (.string ⟨PP.toArray⟩) ∧ W.cell? ⟨b, 5, none⟩ = some (.slice aq QQ.length cq) ∧ W.cell? ⟨b, 6, none⟩ = some (.string ⟨bd.toArray⟩) ∧ W.cell? ⟨b, 7, none⟩ = some (.bool C)) → (W.drew.cell? ⟨w.heap.size, 0, none⟩ = some (.string s) ∧ W.drew.cell? ⟨b, 0, none⟩ = some (.string ⟨h1.toArray⟩) ∧ W.drew.cell? ⟨b, 1, none⟩ = some (.string ⟨h2.toArray⟩) ∧ W.drew.cell? ⟨b, 2, none⟩ = some (.int .i64 m) ∧ W.drew.cell? ⟨b, 3, none⟩ = some (.slice ao fs.length cap) ∧ W.drew.cell? ⟨b, 4, none⟩ = some (.string ⟨PP.toArray⟩) ∧ W.drew.cell? ⟨b, 5, none⟩ = some (.slice aq QQ.length cq) ∧ W.drew.cell? ⟨b, 6, none⟩ = some (.string ⟨bd.toArray⟩) ∧ W.drew.cell? ⟨b, 7, none⟩ = some (.bool C))) := hid fun W hh => hh
          have HS0 : Hid (wc.drew.cell? ⟨w.heap.size, 0, none⟩ = some (.string s) ∧ wc.drew.cell? ⟨b, 0, none⟩ = some (.string ⟨h1.toArray⟩) ∧ wc.drew.cell? ⟨b, 1, none⟩ = some (.string ⟨h2.toArray⟩) ∧ wc.drew.cell? ⟨b, 2, none⟩ = some (.int .i64 m) ∧ wc.drew.cell? ⟨b, 3, none⟩ = some (.slice ao fs.length cap) ∧ wc.drew.cell? ⟨b, 4, none⟩ = some (.string ⟨PP.toArray⟩) ∧ wc.drew.cell? ⟨b, 5, none⟩ = some (.slice aq QQ.length cq) ∧ wc.drew.cell? ⟨b, 6, none⟩ = some (.string ⟨bd.toArray⟩) ∧ wc.drew.cell? ⟨b, 7, none⟩ = some (.bool C)) := hid (HSD.out wc ⟨y0, n0, n1, n2, n3, n4, n5, n6, n7⟩)
          have HF1 : Hid (∀ W : World, (W.cell? ⟨w.heap.size, 0, none⟩ = some (.string s) ∧ W.cell? ⟨b, 0, none⟩ = some (.string ⟨h1.toArray⟩) ∧ W.cell? ⟨b, 1, none⟩ = some (.string ⟨h2.toArray⟩) ∧ W.cell? ⟨b, 2, none⟩ = some (.int .i64 m) ∧ W.cell? ⟨b, 3, none⟩ = some (.slice ao fs.length cap) ∧ W.cell? ⟨b, 4, none⟩ = some (.string ⟨PP.toArray⟩) ∧ W.cell? ⟨b, 5, none⟩ = some (.slice aq QQ.length cq) ∧ W.cell? ⟨b, 6, none⟩ = some (.string ⟨bd.toArray⟩) ∧ W.cell? ⟨b, 7, none⟩ = some (.bool C)) → (((W.setCell ⟨w.heap.size + 1, 0, none⟩ (.string (s.extract n s.size))).setCell ⟨w.heap.size + 1, 1, none⟩ (.int .i64 0)).cell? ⟨w.heap.size, 0, none⟩ = some (.string s) ∧ ((W.setCell ⟨w.heap.size + 1, 0, none⟩ (.string (s.extract n s.size))).setCell ⟨w.heap.size + 1, 1, none⟩ (.int .i64 0)).cell? ⟨b, 0, none⟩ = some (.string ⟨h1.toArray⟩) ∧ ((W.setCell ⟨w.heap.size + 1, 0, none⟩ (.string (s.extract n s.size))).setCell ⟨w.heap.size + 1, 1, none⟩ (.int .i64 0)).cell? ⟨b, 1, none⟩ = some (.string ⟨h2.toArray⟩) ∧ ((W.setCell ⟨w.heap.size + 1, 0, none⟩ (.string (s.extract n s.size))).setCell ⟨w.heap.size + 1, 1, none⟩ (.int .i64 0)).cell? ⟨b, 2, none⟩ = some (.int .i64 m) ∧ ((W.setCell ⟨w.heap.size + 1, 0, none⟩ (.string (s.extract n s.size))).setCell ⟨w.heap.size + 1, 1, none⟩ (.int .i64 0)).cell? ⟨b, 3, none⟩ = some (.slice ao fs.length cap) ∧ ((W.setCell ⟨w.heap.size + 1, 0, none⟩ (.string (s.extract n s.size))).setCell ⟨w.heap.size + 1, 1, none⟩ (.int .i64 0)).cell? ⟨b, 4, none⟩ = some (.string ⟨PP.toArray⟩) ∧ ((W.setCell ⟨w.heap.size + 1, 0, none⟩ (.string (s.extract n s.size))).setCell ⟨w.heap.size + 1, 1, none⟩ (.int .i64 0)).cell? ⟨b, 5, none⟩ = some (.slice aq QQ.length cq) ∧ ((W.setCell ⟨w.heap.size + 1, 0, none⟩ (.string (s.extract n s.size))).setCell ⟨w.heap.size + 1, 1, none⟩ (.int .i64 0)).cell? ⟨b, 6, none⟩ = some (.string ⟨bd.toArray⟩) ∧ ((W.setCell ⟨w.heap.size + 1, 0, none⟩ (.string (s.extract n s.size))).setCell ⟨w.heap.size + 1, 1, none⟩ (.int .i64 0)).cell? ⟨b, 7, none⟩ = some (.bool C))) := hid fun W hh => HFAR.out _ _ _ _ (by omega) (by omega) (HFAR.out _ _ _ _ (by omega) (by omega) hh)
          have HF8 : Hid (∀ W : World, (W.cell? ⟨w.heap.size, 0, none⟩ = some (.string s) ∧ W.cell? ⟨b, 0, none⟩ = some (.string ⟨h1.toArray⟩) ∧ W.cell? ⟨b, 1, none⟩ = some (.string ⟨h2.toArray⟩) ∧ W.cell? ⟨b, 2, none⟩ = some (.int .i64 m) ∧ W.cell? ⟨b, 3, none⟩ = some (.slice ao fs.length cap) ∧ W.cell? ⟨b, 4, none⟩ = some (.string ⟨PP.toArray⟩) ∧ W.cell? ⟨b, 5, none⟩ = some (.slice aq QQ.length cq) ∧ W.cell? ⟨b, 6, none⟩ = some (.string ⟨bd.toArray⟩) ∧ W.cell? ⟨b, 7, none⟩ = some (.bool C)) → (((((((((W.setCell ⟨w.heap.size + 1 + 1, 0, none⟩ (.string ⟨h1.toArray⟩)).setCell ⟨w.heap.size + 1 + 1, 1, none⟩ (.string ⟨h2.toArray⟩)).setCell ⟨w.heap.size + 1 + 1, 2, none⟩ (.int .i64 m)).setCell ⟨w.heap.size + 1 + 1, 3, none⟩ (.slice ao fs.length cap)).setCell ⟨w.heap.size + 1 + 1, 4, none⟩ (.string ⟨PP.toArray⟩)).setCell ⟨w.heap.size + 1 + 1, 5, none⟩ (.slice aq QQ.length cq)).setCell ⟨w.heap.size + 1 + 1, 6, none⟩ (.string ⟨bd.toArray⟩)).setCell ⟨w.heap.size + 1 + 1, 7, none⟩ (.bool C)).cell? ⟨w.heap.size, 0, none⟩ = some (.string s) ∧ ((((((((W.setCell ⟨w.heap.size + 1 + 1, 0, none⟩ (.string ⟨h1.toArray⟩)).setCell ⟨w.heap.size + 1 + 1, 1, none⟩ (.string ⟨h2.toArray⟩)).setCell ⟨w.heap.size + 1 + 1, 2, none⟩ (.int .i64 m)).setCell ⟨w.heap.size + 1 + 1, 3, none⟩ (.slice ao fs.length cap)).setCell ⟨w.heap.size + 1 + 1, 4, none⟩ (.string ⟨PP.toArray⟩)).setCell ⟨w.heap.size + 1 + 1, 5, none⟩ (.slice aq QQ.length cq)).setCell ⟨w.heap.size + 1 + 1, 6, none⟩ (.string ⟨bd.toArray⟩)).setCell ⟨w.heap.size + 1 + 1, 7, none⟩ (.bool C)).cell? ⟨b, 0, none⟩ = some (.string ⟨h1.toArray⟩) ∧ ((((((((W.setCell ⟨w.heap.size + 1 + 1, 0, none⟩ (.string ⟨h1.toArray⟩)).setCell ⟨w.heap.size + 1 + 1, 1, none⟩ (.string ⟨h2.toArray⟩)).setCell ⟨w.heap.size + 1 + 1, 2, none⟩ (.int .i64 m)).setCell ⟨w.heap.size + 1 + 1, 3, none⟩ (.slice ao fs.length cap)).setCell ⟨w.heap.size + 1 + 1, 4, none⟩ (.string ⟨PP.toArray⟩)).setCell ⟨w.heap.size + 1 + 1, 5, none⟩ (.slice aq QQ.length cq)).setCell ⟨w.heap.size + 1 + 1, 6, none⟩ (.string ⟨bd.toArray⟩)).setCell ⟨w.heap.size + 1 + 1, 7, none⟩ (.bool C)).cell? ⟨b, 1, none⟩ = some (.string ⟨h2.toArray⟩) ∧ ((((((((W.setCell ⟨w.heap.size + 1 + 1, 0, none⟩ (.string ⟨h1.toArray⟩)).setCell ⟨w.heap.size + 1 + 1, 1, none⟩ (.string ⟨h2.toArray⟩)).setCell ⟨w.heap.size + 1 + 1, 2, none⟩ (.int .i64 m)).setCell ⟨w.heap.size + 1 + 1, 3, none⟩ (.slice ao fs.length cap)).setCell ⟨w.heap.size + 1 + 1, 4, none⟩ (.string ⟨PP.toArray⟩)).setCell ⟨w.heap.size + 1 + 1, 5, none⟩ (.slice aq QQ.length cq)).setCell ⟨w.heap.size + 1 + 1, 6, none⟩ (.string ⟨bd.toArray⟩)).setCell ⟨w.heap.size + 1 + 1, 7, none⟩ (.bool C)).cell? ⟨b, 2, none⟩ = some (.int .i64 m) ∧ ((((((((W.setCell ⟨w.heap.size + 1 + 1, 0, none⟩ (.string ⟨h1.toArray⟩)).setCell ⟨w.heap.size + 1 + 1, 1, none⟩ (.string ⟨h2.toArray⟩)).setCell ⟨w.heap.size + 1 + 1, 2, none⟩ (.int .i64 m)).setCell ⟨w.heap.size + 1 + 1, 3, none⟩ (.slice ao fs.length cap)).setCell ⟨w.heap.size + 1 + 1, 4, none⟩ (.string ⟨PP.toArray⟩)).setCell ⟨w.heap.size + 1 + 1, 5, none⟩ (.slice aq QQ.length cq)).setCell ⟨w.heap.size + 1 + 1, 6, none⟩ (.string ⟨bd.toArray⟩)).setCell ⟨w.heap.size + 1 + 1, 7, none⟩ (.bool C)).cell? ⟨b, 3, none⟩ = some (.slice ao fs.length cap) ∧ ((((((((W.setCell ⟨w.heap.size + 1 + 1, 0, none⟩ (.string ⟨h1.toArray⟩)).setCell ⟨w.heap.size + 1 + 1, 1, none⟩ (.string ⟨h2.toArray⟩)).setCell ⟨w.heap.size + 1 + 1, 2, none⟩ (.int .i64 m)).setCell ⟨w.heap.size + 1 + 1, 3, none⟩ (.slice ao fs.length cap)).setCell ⟨w.heap.size + 1 + 1, 4, none⟩ (.string ⟨PP.toArray⟩)).setCell ⟨w.heap.size + 1 + 1, 5, none⟩ (.slice aq QQ.length cq)).setCell ⟨w.heap.size + 1 + 1, 6, none⟩ (.string ⟨bd.toArray⟩)).setCell ⟨w.heap.size + 1 + 1, 7, none⟩ (.bool C)).cell? ⟨b, 4, none⟩ = some (.string ⟨PP.toArray⟩) ∧ ((((((((W.setCell ⟨w.heap.size + 1 + 1, 0, none⟩ (.string ⟨h1.toArray⟩)).setCell ⟨w.heap.size + 1 + 1, 1, none⟩ (.string ⟨h2.toArray⟩)).setCell ⟨w.heap.size + 1 + 1, 2, none⟩ (.int .i64 m)).setCell ⟨w.heap.size + 1 + 1, 3, none⟩ (.slice ao fs.length cap)).setCell ⟨w.heap.size + 1 + 1, 4, none⟩ (.string ⟨PP.toArray⟩)).setCell ⟨w.heap.size + 1 + 1, 5, none⟩ (.slice aq QQ.length cq)).setCell ⟨w.heap.size + 1 + 1, 6, none⟩ (.string ⟨bd.toArray⟩)).setCell ⟨w.heap.size + 1 + 1, 7, none⟩ (.bool C)).cell? ⟨b, 5, none⟩ = some (.slice aq QQ.length cq) ∧ ((((((((W.setCell ⟨w.heap.size + 1 + 1, 0, none⟩ (.string ⟨h1.toArray⟩)).setCell ⟨w.heap.size + 1 + 1, 1, none⟩ (.string ⟨h2.toArray⟩)).setCell ⟨w.heap.size + 1 + 1, 2, none⟩ (.int .i64 m)).setCell ⟨w.heap.size + 1 + 1, 3, none⟩ (.slice ao fs.length cap)).setCell ⟨w.heap.size + 1 + 1, 4, none⟩ (.string ⟨PP.toArray⟩)).setCell ⟨w.heap.size + 1 + 1, 5, none⟩ (.slice aq QQ.length cq)).setCell ⟨w.heap.size + 1 + 1, 6, none⟩ (.string ⟨bd.toArray⟩)).setCell ⟨w.heap.size + 1 + 1, 7, none⟩ (.bool C)).cell? ⟨b, 6, none⟩ = some (.string ⟨bd.toArray⟩) ∧ ((((((((W.setCell ⟨w.heap.size + 1 + 1, 0, none⟩ (.string ⟨h1.toArray⟩)).setCell ⟨w.heap.size + 1 + 1, 1, none⟩ (.string ⟨h2.toArray⟩)).setCell ⟨w.heap.size + 1 + 1, 2, none⟩ (.int .i64 m)).setCell ⟨w.heap.size + 1 + 1, 3, none⟩ (.slice ao fs.length cap)).setCell ⟨w.heap.size + 1 + 1, 4, none⟩ (.string ⟨PP.toArray⟩)).setCell ⟨w.heap.size + 1 + 1, 5, none⟩ (.slice aq QQ.length cq)).setCell ⟨w.heap.size + 1 + 1, 6, none⟩ (.string ⟨bd.toArray⟩)).setCell ⟨w.heap.size + 1 + 1, 7, none⟩ (.bool C)).cell? ⟨b, 7, none⟩ = some (.bool C))) := hid fun W hh => HFAR.out _ _ _ _ (by omega) (by omega) <| HFAR.out _ _ _ _ (by omega) (by omega) <| HFAR.out _ _ _ _ (by omega) (by omega) <| HFAR.out _ _ _ _ (by omega) (by omega) <| HFAR.out _ _ _ _ (by omega) (by omega) <| HFAR.out _ _ _ _ (by omega) (by omega) <| HFAR.out _ _ _ _ (by omega) (by omega) <| HFAR.out _ _ _ _ (by omega) (by omega) hh
          have HS1 : Hid (((wc.setCell ⟨w.heap.size + 1, 0, none⟩ (.string (s.extract n s.size))).setCell ⟨w.heap.size + 1, 1, none⟩ (.int .i64 0)).drew.cell? ⟨w.heap.size, 0, none⟩ = some (.string s) ∧ ((wc.setCell ⟨w.heap.size + 1, 0, none⟩ (.string (s.extract n s.size))).setCell ⟨w.heap.size + 1, 1, none⟩ (.int .i64 0)).drew.cell? ⟨b, 0, none⟩ = some (.string ⟨h1.toArray⟩) ∧ ((wc.setCell ⟨w.heap.size + 1, 0, none⟩ (.string (s.extract n s.size))).setCell ⟨w.heap.size + 1, 1, none⟩ (.int .i64 0)).drew.cell? ⟨b, 1, none⟩ = some (.string ⟨h2.toArray⟩) ∧ ((wc.setCell ⟨w.heap.size + 1, 0, none⟩ (.string (s.extract n s.size))).setCell ⟨w.heap.size + 1, 1, none⟩ (.int .i64 0)).drew.cell? ⟨b, 2, none⟩ = some (.int .i64 m) ∧ ((wc.setCell ⟨w.heap.size + 1, 0, none⟩ (.string (s.extract n s.size))).setCell ⟨w.heap.size + 1, 1, none⟩ (.int .i64 0)).drew.cell? ⟨b, 3, none⟩ = some (.slice ao fs.length cap) ∧ ((wc.setCell ⟨w.heap.size + 1, 0, none⟩ (.string (s.extract n s.size))).setCell ⟨w.heap.size + 1, 1, none⟩ (.int .i64 0)).drew.cell? ⟨b, 4, none⟩ = some (.string ⟨PP.toArray⟩) ∧ ((wc.setCell ⟨w.heap.size + 1, 0, none⟩ (.string (s.extract n s.size))).setCell ⟨w.heap.size + 1, 1, none⟩ (.int .i64 0)).drew.cell? ⟨b, 5, none⟩ = some (.slice aq QQ.length cq) ∧ ((wc.setCell ⟨w.heap.size + 1, 0, none⟩ (.string (s.extract n s.size))).setCell ⟨w.heap.size + 1, 1, none⟩ (.int .i64 0)).drew.cell? ⟨b, 6, none⟩ = some (.string ⟨bd.toArray⟩) ∧ ((wc.setCell ⟨w.heap.size + 1, 0, none⟩ (.string (s.extract n s.size))).setCell ⟨w.heap.size + 1, 1, none⟩ (.int .i64 0)).drew.cell? ⟨b, 7, none⟩ = some (.bool C)) := hid (HSD.out _ (HF1.out wc ⟨y0, n0, n1, n2, n3, n4, n5, n6, n7⟩))
          have HS2 : Hid (((((((((((wc.setCell ⟨w.heap.size + 1, 0, none⟩ (.string (s.extract n s.size))).setCell ⟨w.heap.size + 1, 1, none⟩ (.int .i64 0)).setCell ⟨w.heap.size + 1 + 1, 0, none⟩ (.string ⟨h1.toArray⟩)).setCell ⟨w.heap.size + 1 + 1, 1, none⟩ (.string ⟨h2.toArray⟩)).setCell ⟨w.heap.size + 1 + 1, 2, none⟩ (.int .i64 m)).setCell ⟨w.heap.size + 1 + 1, 3, none⟩ (.slice ao fs.length cap)).setCell ⟨w.heap.size + 1 + 1, 4, none⟩ (.string ⟨PP.toArray⟩)).setCell ⟨w.heap.size + 1 + 1, 5, none⟩ (.slice aq QQ.length cq)).setCell ⟨w.heap.size + 1 + 1, 6, none⟩ (.string ⟨bd.toArray⟩)).setCell ⟨w.heap.size + 1 + 1, 7, none⟩ (.bool C)).drew.cell? ⟨w.heap.size, 0, none⟩ = some (.string s) ∧ ((((((((((wc.setCell ⟨w.heap.size + 1, 0, none⟩ (.string (s.extract n s.size))).setCell ⟨w.heap.size + 1, 1, none⟩ (.int .i64 0)).setCell ⟨w.heap.size + 1 + 1, 0, none⟩ (.string ⟨h1.toArray⟩)).setCell ⟨w.heap.size + 1 + 1, 1, none⟩ (.string ⟨h2.toArray⟩)).setCell ⟨w.heap.size + 1 + 1, 2, none⟩ (.int .i64 m)).setCell ⟨w.heap.size + 1 + 1, 3, none⟩ (.slice ao fs.length cap)).setCell ⟨w.heap.size + 1 + 1, 4, none⟩ (.string ⟨PP.toArray⟩)).setCell ⟨w.heap.size + 1 + 1, 5, none⟩ (.slice aq QQ.length cq)).setCell ⟨w.heap.size + 1 + 1, 6, none⟩ (.string ⟨bd.toArray⟩)).setCell ⟨w.heap.size + 1 + 1, 7, none⟩ (.bool C)).drew.cell? ⟨b, 0, none⟩ = some (.string ⟨h1.toArray⟩) ∧ ((((((((((wc.setCell ⟨w.heap.size + 1, 0, none⟩ (.string (s.extract n s.size))).setCell ⟨w.heap.size + 1, 1, none⟩ (.int .i64 0)).setCell ⟨w.heap.size + 1 + 1, 0, none⟩ (.string ⟨h1.toArray⟩)).setCell ⟨w.heap.size + 1 + 1, 1, none⟩ (.string ⟨h2.toArray⟩)).setCell ⟨w.heap.size + 1 + 1, 2, none⟩ (.int .i64 m)).setCell ⟨w.heap.size + 1 + 1, 3, none⟩ (.slice ao fs.length cap)).setCell ⟨w.heap.size + 1 + 1, 4, none⟩ (.string ⟨PP.toArray⟩)).setCell ⟨w.heap.size + 1 + 1, 5, none⟩ (.slice aq QQ.length cq)).setCell ⟨w.heap.size + 1 + 1, 6, none⟩ (.string ⟨bd.toArray⟩)).setCell ⟨w.heap.size + 1 + 1, 7, none⟩ (.bool C)).drew.cell? ⟨b, 1, none⟩ = some (.string ⟨h2.toArray⟩) ∧ ((((((((((wc.setCell ⟨w.heap.size + 1, 0, none⟩ (.string (s.extract n s.size))).setCell ⟨w.heap.size + 1, 1, none⟩ (.int .i64 0)).setCell ⟨w.heap.size + 1 + 1, 0, none⟩ (.string ⟨h1.toArray⟩)).setCell ⟨w.heap.size + 1 + 1, 1, none⟩ (.string ⟨h2.toArray⟩)).setCell ⟨w.heap.size + 1 + 1, 2, none⟩ (.int .i64 m)).setCell ⟨w.heap.size + 1 + 1, 3, none⟩ (.slice ao fs.length cap)).setCell ⟨w.heap.size + 1 + 1, 4, none⟩ (.string ⟨PP.toArray⟩)).setCell ⟨w.heap.size + 1 + 1, 5, none⟩ (.slice aq QQ.length cq)).setCell ⟨w.heap.size + 1 + 1, 6, none⟩ (.string ⟨bd.toArray⟩)).setCell ⟨w.heap.size + 1 + 1, 7, none⟩ (.bool C)).drew.cell? ⟨b, 2, none⟩ = some (.int .i64 m) ∧ ((((((((((wc.setCell ⟨w.heap.size + 1, 0, none⟩ (.string (s.extract n s.size))).setCell ⟨w.heap.size + 1, 1, none⟩ (.int .i64 0)).setCell ⟨w.heap.size + 1 + 1, 0, none⟩ (.string ⟨h1.toArray⟩)).setCell ⟨w.heap.size + 1 + 1, 1, none⟩ (.string ⟨h2.toArray⟩)).setCell ⟨w.heap.size + 1 + 1, 2, none⟩ (.int .i64 m)).setCell ⟨w.heap.size + 1 + 1, 3, none⟩ (.slice ao fs.length cap)).setCell ⟨w.heap.size + 1 + 1, 4, none⟩ (.string ⟨PP.toArray⟩)).setCell ⟨w.heap.size + 1 + 1, 5, none⟩ (.slice aq QQ.length cq)).setCell ⟨w.heap.size + 1 + 1, 6, none⟩ (.string ⟨bd.toArray⟩)).setCell ⟨w.heap.size + 1 + 1, 7, none⟩ (.bool C)).drew.cell? ⟨b, 3, none⟩ = some (.slice ao fs.length cap) ∧ ((((((((((wc.setCell ⟨w.heap.size + 1, 0, none⟩ (.string (s.extract n s.size))).setCell ⟨w.heap.size + 1, 1, none⟩ (.int .i64 0)).setCell ⟨w.heap.size + 1 + 1, 0, none⟩ (.string ⟨h1.toArray⟩)).setCell ⟨w.heap.size + 1 + 1, 1, none⟩ (.string ⟨h2.toArray⟩)).setCell ⟨w.heap.size + 1 + 1, 2, none⟩ (.int .i64 m)).setCell ⟨w.heap.size + 1 + 1, 3, none⟩ (.slice ao fs.length cap)).setCell ⟨w.heap.size + 1 + 1, 4, none⟩ (.string ⟨PP.toArray⟩)).setCell ⟨w.heap.size + 1 + 1, 5, none⟩ (.slice aq QQ.length cq)).setCell ⟨w.heap.size + 1 + 1, 6, none⟩ (.string ⟨bd.toArray⟩)).setCell ⟨w.heap.size + 1 + 1, 7, none⟩ (.bool C)).drew.cell? ⟨b, 4, none⟩ = some (.string ⟨PP.toArray⟩) ∧ ((((((((((wc.setCell ⟨w.heap.size + 1, 0, none⟩ (.string (s.extract n s.size))).setCell ⟨w.heap.size + 1, 1, none⟩ (.int .i64 0)).setCell ⟨w.heap.size + 1 + 1, 0, none⟩ (.string ⟨h1.toArray⟩)).setCell ⟨w.heap.size + 1 + 1, 1, none⟩ (.string ⟨h2.toArray⟩)).setCell ⟨w.heap.size + 1 + 1, 2, none⟩ (.int .i64 m)).setCell ⟨w.heap.size + 1 + 1, 3, none⟩ (.slice ao fs.length cap)).setCell ⟨w.heap.size + 1 + 1, 4, none⟩ (.string ⟨PP.toArray⟩)).setCell ⟨w.heap.size + 1 + 1, 5, none⟩ (.slice aq QQ.length cq)).setCell ⟨w.heap.size + 1 + 1, 6, none⟩ (.string ⟨bd.toArray⟩)).setCell ⟨w.heap.size + 1 + 1, 7, none⟩ (.bool C)).drew.cell? ⟨b, 5, none⟩ = some (.slice aq QQ.length cq) ∧ ((((((((((wc.setCell ⟨w.heap.size + 1, 0, none⟩ (.string (s.extract n s.size))).setCell ⟨w.heap.size + 1, 1, none⟩ (.int .i64 0)).setCell ⟨w.heap.size + 1 + 1, 0, none⟩ (.string ⟨h1.toArray⟩)).setCell ⟨w.heap.size + 1 + 1, 1, none⟩ (.string ⟨h2.toArray⟩)).setCell ⟨w.heap.size + 1 + 1, 2, none⟩ (.int .i64 m)).setCell ⟨w.heap.size + 1 + 1, 3, none⟩ (.slice ao fs.length cap)).setCell ⟨w.heap.size + 1 + 1, 4, none⟩ (.string ⟨PP.toArray⟩)).setCell ⟨w.heap.size + 1 + 1, 5, none⟩ (.slice aq QQ.length cq)).setCell ⟨w.heap.size + 1 + 1, 6, none⟩ (.string ⟨bd.toArray⟩)).setCell ⟨w.heap.size + 1 + 1, 7, none⟩ (.bool C)).drew.cell? ⟨b, 6, none⟩ = some (.string ⟨bd.toArray⟩) ∧ ((((((((((wc.setCell ⟨w.heap.size + 1, 0, none⟩ (.string (s.extract n s.size))).setCell ⟨w.heap.size + 1, 1, none⟩ (.int .i64 0)).setCell ⟨w.heap.size + 1 + 1, 0, none⟩ (.string ⟨h1.toArray⟩)).setCell ⟨w.heap.size + 1 + 1, 1, none⟩ (.string ⟨h2.toArray⟩)).setCell ⟨w.heap.size + 1 + 1, 2, none⟩ (.int .i64 m)).setCell ⟨w.heap.size + 1 + 1, 3, none⟩ (.slice ao fs.length cap)).setCell ⟨w.heap.size + 1 + 1, 4, none⟩ (.string ⟨PP.toArray⟩)).setCell ⟨w.heap.size + 1 + 1, 5, none⟩ (.slice aq QQ.length cq)).setCell ⟨w.heap.size + 1 + 1, 6, none⟩ (.string ⟨bd.toArray⟩)).setCell ⟨w.heap.size + 1 + 1, 7, none⟩ (.bool C)).drew.cell? ⟨b, 7, none⟩ = some (.bool C)) := hid (HSD.out _ (HF8.out _ (HF1.out wc ⟨y0, n0, n1, n2, n3, n4, n5, n6, n7⟩)))
          have HS3 : Hid (((((((((wc.setCell ⟨w.heap.size + 1 + 1, 0, none⟩ (.string ⟨h1.toArray⟩)).setCell ⟨w.heap.size + 1 + 1, 1, none⟩ (.string ⟨h2.toArray⟩)).setCell ⟨w.heap.size + 1 + 1, 2, none⟩ (.int .i64 m)).setCell ⟨w.heap.size + 1 + 1, 3, none⟩ (.slice ao fs.length cap)).setCell ⟨w.heap.size + 1 + 1, 4, none⟩ (.string ⟨PP.toArray⟩)).setCell ⟨w.heap.size + 1 + 1, 5, none⟩ (.slice aq QQ.length cq)).setCell ⟨w.heap.size + 1 + 1, 6, none⟩ (.string ⟨bd.toArray⟩)).setCell ⟨w.heap.size + 1 + 1, 7, none⟩ (.bool C)).drew.cell? ⟨w.heap.size, 0, none⟩ = some (.string s) ∧ ((((((((wc.setCell ⟨w.heap.size + 1 + 1, 0, none⟩ (.string ⟨h1.toArray⟩)).setCell ⟨w.heap.size + 1 + 1, 1, none⟩ (.string ⟨h2.toArray⟩)).setCell ⟨w.heap.size + 1 + 1, 2, none⟩ (.int .i64 m)).setCell ⟨w.heap.size + 1 + 1, 3, none⟩ (.slice ao fs.length cap)).setCell ⟨w.heap.size + 1 + 1, 4, none⟩ (.string ⟨PP.toArray⟩)).setCell ⟨w.heap.size + 1 + 1, 5, none⟩ (.slice aq QQ.length cq)).setCell ⟨w.heap.size + 1 + 1, 6, none⟩ (.string ⟨bd.toArray⟩)).setCell ⟨w.heap.size + 1 + 1, 7, none⟩ (.bool C)).drew.cell? ⟨b, 0, none⟩ = some (.string ⟨h1.toArray⟩) ∧ ((((((((wc.setCell ⟨w.heap.size + 1 + 1, 0, none⟩ (.string ⟨h1.toArray⟩)).setCell ⟨w.heap.size + 1 + 1, 1, none⟩ (.string ⟨h2.toArray⟩)).setCell ⟨w.heap.size + 1 + 1, 2, none⟩ (.int .i64 m)).setCell ⟨w.heap.size + 1 + 1, 3, none⟩ (.slice ao fs.length cap)).setCell ⟨w.heap.size + 1 + 1, 4, none⟩ (.string ⟨PP.toArray⟩)).setCell ⟨w.heap.size + 1 + 1, 5, none⟩ (.slice aq QQ.length cq)).setCell ⟨w.heap.size + 1 + 1, 6, none⟩ (.string ⟨bd.toArray⟩)).setCell ⟨w.heap.size + 1 + 1, 7, none⟩ (.bool C)).drew.cell? ⟨b, 1, none⟩ = some (.string ⟨h2.toArray⟩) ∧ ((((((((wc.setCell ⟨w.heap.size + 1 + 1, 0, none⟩ (.string ⟨h1.toArray⟩)).setCell ⟨w.heap.size + 1 + 1, 1, none⟩ (.string ⟨h2.toArray⟩)).setCell ⟨w.heap.size + 1 + 1, 2, none⟩ (.int .i64 m)).setCell ⟨w.heap.size + 1 + 1, 3, none⟩ (.slice ao fs.length cap)).setCell ⟨w.heap.size + 1 + 1, 4, none⟩ (.string ⟨PP.toArray⟩)).setCell ⟨w.heap.size + 1 + 1, 5, none⟩ (.slice aq QQ.length cq)).setCell ⟨w.heap.size + 1 + 1, 6, none⟩ (.string ⟨bd.toArray⟩)).setCell ⟨w.heap.size + 1 + 1, 7, none⟩ (.bool C)).drew.cell? ⟨b, 2, none⟩ = some (.int .i64 m) ∧ ((((((((wc.setCell ⟨w.heap.size + 1 + 1, 0, none⟩ (.string ⟨h1.toArray⟩)).setCell ⟨w.heap.size + 1 + 1, 1, none⟩ (.string ⟨h2.toArray⟩)).setCell ⟨w.heap.size + 1 + 1, 2, none⟩ (.int .i64 m)).setCell ⟨w.heap.size + 1 + 1, 3, none⟩ (.slice ao fs.length cap)).setCell ⟨w.heap.size + 1 + 1, 4, none⟩ (.string ⟨PP.toArray⟩)).setCell ⟨w.heap.size + 1 + 1, 5, none⟩ (.slice aq QQ.length cq)).setCell ⟨w.heap.size + 1 + 1, 6, none⟩ (.string ⟨bd.toArray⟩)).setCell ⟨w.heap.size + 1 + 1, 7, none⟩ (.bool C)).drew.cell? ⟨b, 3, none⟩ = some (.slice ao fs.length cap) ∧ ((((((((wc.setCell ⟨w.heap.size + 1 + 1, 0, none⟩ (.string ⟨h1.toArray⟩)).setCell ⟨w.heap.size + 1 + 1, 1, none⟩ (.string ⟨h2.toArray⟩)).setCell ⟨w.heap.size + 1 + 1, 2, none⟩ (.int .i64 m)).setCell ⟨w.heap.size + 1 + 1, 3, none⟩ (.slice ao fs.length cap)).setCell ⟨w.heap.size + 1 + 1, 4, none⟩ (.string ⟨PP.toArray⟩)).setCell ⟨w.heap.size + 1 + 1, 5, none⟩ (.slice aq QQ.length cq)).setCell ⟨w.heap.size + 1 + 1, 6, none⟩ (.string ⟨bd.toArray⟩)).setCell ⟨w.heap.size + 1 + 1, 7, none⟩ (.bool C)).drew.cell? ⟨b, 4, none⟩ = some (.string ⟨PP.toArray⟩) ∧ ((((((((wc.setCell ⟨w.heap.size + 1 + 1, 0, none⟩ (.string ⟨h1.toArray⟩)).setCell ⟨w.heap.size + 1 + 1, 1, none⟩ (.string ⟨h2.toArray⟩)).setCell ⟨w.heap.size + 1 + 1, 2, none⟩ (.int .i64 m)).setCell ⟨w.heap.size + 1 + 1, 3, none⟩ (.slice ao fs.length cap)).setCell ⟨w.heap.size + 1 + 1, 4, none⟩ (.string ⟨PP.toArray⟩)).setCell ⟨w.heap.size + 1 + 1, 5, none⟩ (.slice aq QQ.length cq)).setCell ⟨w.heap.size + 1 + 1, 6, none⟩ (.string ⟨bd.toArray⟩)).setCell ⟨w.heap.size + 1 + 1, 7, none⟩ (.bool C)).drew.cell? ⟨b, 5, none⟩ = some (.slice aq QQ.length cq) ∧ ((((((((wc.setCell ⟨w.heap.size + 1 + 1, 0, none⟩ (.string ⟨h1.toArray⟩)).setCell ⟨w.heap.size + 1 + 1, 1, none⟩ (.string ⟨h2.toArray⟩)).setCell ⟨w.heap.size + 1 + 1, 2, none⟩ (.int .i64 m)).setCell ⟨w.heap.size + 1 + 1, 3, none⟩ (.slice ao fs.length cap)).setCell ⟨w.heap.size + 1 + 1, 4, none⟩ (.string ⟨PP.toArray⟩)).setCell ⟨w.heap.size + 1 + 1, 5, none⟩ (.slice aq QQ.length cq)).setCell ⟨w.heap.size + 1 + 1, 6, none⟩ (.string ⟨bd.toArray⟩)).setCell ⟨w.heap.size + 1 + 1, 7, none⟩ (.bool C)).drew.cell? ⟨b, 6, none⟩ = some (.string ⟨bd.toArray⟩) ∧ ((((((((wc.setCell ⟨w.heap.size + 1 + 1, 0, none⟩ (.string ⟨h1.toArray⟩)).setCell ⟨w.heap.size + 1 + 1, 1, none⟩ (.string ⟨h2.toArray⟩)).setCell ⟨w.heap.size + 1 + 1, 2, none⟩ (.int .i64 m)).setCell ⟨w.heap.size + 1 + 1, 3, none⟩ (.slice ao fs.length cap)).setCell ⟨w.heap.size + 1 + 1, 4, none⟩ (.string ⟨PP.toArray⟩)).setCell ⟨w.heap.size + 1 + 1, 5, none⟩ (.slice aq QQ.length cq)).setCell ⟨w.heap.size + 1 + 1, 6, none⟩ (.string ⟨bd.toArray⟩)).setCell ⟨w.heap.size + 1 + 1, 7, none⟩ (.bool C)).drew.cell? ⟨b, 7, none⟩ = some (.bool C)) := hid (HSD.out _ (HF8.out wc ⟨y0, n0, n1, n2, n3, n4, n5, n6, n7⟩))
          clear HSD HFAR HF1 HF8 y0 n0 n1 n2 n3 n4 n5 n6 n7 hne1 hne2 hne3 hne4
          go_wp2
          go_region_held3 (fun W => W.cell? ⟨w.heap.size, 0, none⟩ = some (.string s) ∧ W.cell? ⟨b, 0, none⟩ = some (.string ⟨h1.toArray⟩) ∧ W.cell? ⟨b, 1, none⟩ = some (.string ⟨h2.toArray⟩) ∧ W.cell? ⟨b, 2, none⟩ = some (.int .i64 m) ∧ W.cell? ⟨b, 3, none⟩ = some (.slice ao fs.length cap) ∧ W.cell? ⟨b, 4, none⟩ = some (.string ⟨PP.toArray⟩) ∧ W.cell? ⟨b, 5, none⟩ = some (.slice aq QQ.length cq) ∧ W.cell? ⟨b, 6, none⟩ = some (.string ⟨bd.toArray⟩) ∧ W.cell? ⟨b, 7, none⟩ = some (.bool C)) (first | (with_reducible exact HS0.out) | (with_reducible exact HS1.out) | (with_reducible exact HS2.out) | (with_reducible exact HS3.out)) (fail)
          all_goals
            go_wp2
            obtain ⟨e1, e2, e3⟩ := nx_end (s := (.string (s.extract n s.size))) (st := (.int .i64 0)) D1.out Q2.out (.string ⟨h1.toArray⟩) (.string ⟨h2.toArray⟩) (.int .i64 m) (.slice ao fs.length cap) (.string ⟨PP.toArray⟩) (.slice aq QQ.length cq) (.string ⟨bd.toArray⟩) (.bool C)
            unfold set8 at e1 e2 e3
            have HE3 := hid (HB3.out.trans (e3.mono (by omega)))
            have hf7 := own_end (s := (.string (s.extract n s.size))) (st := (.int .i64 0)) (p := w.heap.size + 1) HF6.out (by omega) (.string ⟨h1.toArray⟩) (.string ⟨h2.toArray⟩) (.int .i64 m) (.slice ao fs.length cap) (.string ⟨PP.toArray⟩) (.slice aq QQ.length cq) (.string ⟨bd.toArray⟩) (.bool C)
            have hq7 := own_end (s := (.string (s.extract n s.size))) (st := (.int .i64 0)) (p := w.heap.size + 1) HQ6.out (by omega) (.string ⟨h1.toArray⟩) (.string ⟨h2.toArray⟩) (.int .i64 m) (.slice ao fs.length cap) (.string ⟨PP.toArray⟩) (.slice aq QQ.length cq) (.string ⟨bd.toArray⟩) (.bool C)
            unfold set8 at hf7 hq7
            have HF7 := hid (OwnsP.low hf7 (show w.heap.size ≤ W.heap.size by omega))
            have HQ7 := hid (OwnsP.low hq7 (show w.heap.size ≤ W.heap.size by omega))
            clear hf7 hq7
            obtain ⟨c0, c1, _, _⟩ := e1.cells
            obtain ⟨u0, u1, u2, u3, u4, u5, u6, u7⟩ := e2.cells
            clear e1 e2 e3
            refine bodyPost_ret (v := .tuple #[.agg #[.string (s.extract n s.size), .int .i64 0], .agg #[.string ⟨h1.toArray⟩, .string ⟨h2.toArray⟩, .int .i64 m, .slice ao fs.length cap, .string ⟨PP.toArray⟩, .slice aq QQ.length cq, .string ⟨bd.toArray⟩, .bool C], .bool true, .int .i64 0]) (by simp [results, Tryz.results10, go_sem, c0, c1, u0, u1, u2, u3, u4, u5, u6, u7]) rfl ?_
            rw [HT.out]
            refine ⟨.agg #[.string ⟨h1.toArray⟩, .string ⟨h2.toArray⟩, .int .i64 m, .slice ao fs.length cap, .string ⟨PP.toArray⟩, .slice aq QQ.length cq, .string ⟨bd.toArray⟩, .bool C], ?_, ?_, Below.drew HE3.out⟩
            · rw [HXN.out]
              rfl
            · simp only [nxD]
              rw [HRQ.out]
              exact ⟨.slice ao fs.length cap, .slice aq QQ.length cq, rfl, HF7.out, HQ7.out⟩
    · rw [if_pos hp0] at hT
      have f0 : (pst != 0) = true := by rw [bne_iff_ne]; exact hp0
      have HT := hid hT
      clear hT hp0
      go_wp2_with (first | rw [← HW3.out] | fail)
      (try rw [← HW3.out])
      go_region
      all_goals
        go_wp2
        obtain ⟨e1, e2, e3⟩ := nx_end (s := (.string ⟨#[]⟩)) (st := (.int .i64 pst)) D1.out Q2.out (.string ⟨#[]⟩) (.string ⟨#[]⟩) (.int .i64 0) (.slice none 0 0) (.string ⟨#[]⟩) (.slice none 0 0) (.string ⟨#[]⟩) (.bool false)
        unfold set8 at e1 e2 e3
        have HE3 := hid (HB3.out.trans (e3.mono (by omega)))
        obtain ⟨c0, c1, _, _⟩ := e1.cells
        obtain ⟨u0, u1, u2, u3, u4, u5, u6, u7⟩ := e2.cells
        clear e1 e2 e3
        refine bodyPost_ret (v := .tuple #[.agg #[.string ⟨#[]⟩, .int .i64 pst], .agg #[.string ⟨#[]⟩, .string ⟨#[]⟩, .int .i64 0, .slice none 0 0, .string ⟨#[]⟩, .slice none 0 0, .string ⟨#[]⟩, .bool false], .bool false, .int .i64 pst]) (by simp [results, Tryz.results10, go_sem, c0, c1, u0, u1, u2, u3, u4, u5, u6, u7]) rfl ?_
        rw [HT.out]
        exact ⟨_, rfl, OwnsR.zero _ _, Below.drew HE3.out⟩
end Go.Proofs.YtllhibdjopfcnaaGreatDoor
