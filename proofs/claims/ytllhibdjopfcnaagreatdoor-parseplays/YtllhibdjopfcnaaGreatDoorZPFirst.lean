/-
  The request that bytes begin with: the code's.
-/
import Derived.Test.YtllhibdjopfcnaaGreatDoorZHBody
import Derived.Test.YtllhibdjopfcnaaGreatDoorZHParse
import Derived.Test.YtllhibdjopfcnaaGreatDoorZForm
import Derived.Deep.CutBlock
namespace Go.Proofs.YtllhibdjopfcnaaGreatDoor
open Go.RowKit
set_option linter.unusedVariables false

theorem take4_prefix (l : List UInt8) : [13, 10, 13, 10].isPrefixOf l = decide (l.take 4 = [13, 10, 13, 10]) := by
  match l with
  | [] => rfl
  | [a] => simp [List.isPrefixOf]
  | [a, b] => simp [List.isPrefixOf]
  | [a, b, c] => simp [List.isPrefixOf]
  | a :: b :: c :: d :: r =>
    by_cases h : a = 13 ∧ b = 10 ∧ c = 13 ∧ d = 10
    · obtain ⟨rfl, rfl, rfl, rfl⟩ := h
      simp [List.isPrefixOf]
    · have : ¬ (a :: b :: c :: d :: r).take 4 = [13, 10, 13, 10] := by
        intro e
        simp at e
        exact h e
      rw [decide_eq_false this]
      cases hp : List.isPrefixOf [13, 10, 13, 10] (a :: b :: c :: d :: r) with
      | false => rfl
      | true =>
        simp [List.isPrefixOf] at hp
        exact absurd ⟨hp.1.symm, hp.2.1.symm, hp.2.2.1.symm, hp.2.2.2.symm⟩ h
theorem index_endH : ∀ l : List UInt8, (endH l = none → Lib.index l [13, 10, 13, 10] = -1) ∧ (∀ n, endH l = some n → Lib.index l [13, 10, 13, 10] = (n : Int) - 4)
  | [] => ⟨(fun _ => rfl), (fun n h => by cases h)⟩
  | a :: r => by
    obtain ⟨i1, i2⟩ := index_endH r
    rw [Lib.index, take4_prefix, endH_cons]
    by_cases h : (a :: r).take 4 = [13, 10, 13, 10]
    · rw [if_pos h, decide_eq_true h, if_pos rfl]
      exact ⟨(fun e => by cases e), (fun n e => by injection e with e; subst e; rfl)⟩
    · rw [if_neg h, decide_eq_false h, if_neg (by decide)]
      cases hr : endH r with
      | none =>
        rw [i1 hr]
        exact ⟨(fun _ => rfl), (fun n e => by cases e)⟩
      | some m =>
        have hm := endH_le hr
        rw [i2 m hr]
        refine ⟨(fun e => by cases e), fun n e => ?_⟩
        rw [Option.map_some] at e
        injection e with e
        have : (((m : Int) - 4) == -1) = false := by rw [beq_eq_false_iff_ne]; omega
        rw [this]
        simp only [Bool.false_eq_true, if_false]
        omega

/-- At p lies a request, whole. -/
def ReqAt (w : World) (p : Nat) (a b c d e f g h : Value) : Prop := w.heap[p]? = some (.cells #[a, b, c, d, e, f, g, h] 36 (0, 0))
theorem ReqAt.lt {w : World} {p : Nat} {a b c d e f g h : Value} (x : ReqAt w p a b c d e f g h) : p < w.heap.size := (Array.getElem?_eq_some_iff.1 x).1
theorem ReqAt.same {w w' : World} {p : Nat} {a b c d e f g h : Value} (x : ReqAt w p a b c d e f g h) (y : w'.heap[p]? = w.heap[p]?) : ReqAt w' p a b c d e f g h := by
  unfold ReqAt
  rw [y]
  exact x
theorem ReqAt.below {w w' : World} {p B : Nat} {a b c d e f g h : Value} (x : ReqAt w p a b c d e f g h) (hb : Below B w w') (hp : p < B) : ReqAt w' p a b c d e f g h := x.same (hb.block p hp)
theorem ReqAt.new (w : World) (a b c d e f g h : Value) : ReqAt (w.alloc (.cells #[a, b, c, d, e, f, g, h] 36)) w.heap.size a b c d e f g h := heap_alloc_new w _
theorem ReqAt.cells {w : World} {p : Nat} {a b c d e f g h : Value} (x : ReqAt w p a b c d e f g h) :
    w.cell? ⟨p, 0, none⟩ = some a ∧ w.cell? ⟨p, 1, none⟩ = some b ∧ w.cell? ⟨p, 2, none⟩ = some c ∧ w.cell? ⟨p, 3, none⟩ = some d ∧ w.cell? ⟨p, 4, none⟩ = some e ∧ w.cell? ⟨p, 5, none⟩ = some f ∧ w.cell? ⟨p, 6, none⟩ = some g ∧ w.cell? ⟨p, 7, none⟩ = some h := by
  unfold ReqAt at x
  refine ⟨?_, ?_, ?_, ?_, ?_, ?_, ?_, ?_⟩ <;> simp [World.cell?, x]
theorem ReqAt.warm {w : World} {p : Nat} {a b c d e f g h : Value} (x : ReqAt w p a b c d e f g h) (i : Nat) : w.frozen? ⟨p, i, none⟩ = false := by
  unfold ReqAt at x
  simp [World.frozen?, x]

/-- A request is laid anew at p. -/
def set8 (w : World) (p : Nat) (a b c d e f g h : Value) : World := (((((((w.setCell ⟨p, 0, none⟩ a).setCell ⟨p, 1, none⟩ b).setCell ⟨p, 2, none⟩ c).setCell ⟨p, 3, none⟩ d).setCell ⟨p, 4, none⟩ e).setCell ⟨p, 5, none⟩ f).setCell ⟨p, 6, none⟩ g).setCell ⟨p, 7, none⟩ h
theorem ReqAt.set8 {w : World} {p : Nat} {a b c d e f g h : Value} (x : ReqAt w p a b c d e f g h) (a' b' c' d' e' f' g' h' : Value) : ReqAt (set8 w p a' b' c' d' e' f' g' h') p a' b' c' d' e' f' g' h' := by
  unfold ReqAt at *
  unfold Go.Proofs.YtllhibdjopfcnaaGreatDoor.set8
  simp only [World.setCell, Array.getElem?_modify, x]
  simp
theorem Kept.set8 (p B : Nat) (w : World) (a b c d e f g h : Value) : Kept p B w (set8 w p a b c d e f g h) := by
  unfold Go.Proofs.YtllhibdjopfcnaaGreatDoor.set8
  exact (((((((Kept.store w 0 a).trans (Kept.store _ 1 b)).trans (Kept.store _ 2 c)).trans (Kept.store _ 3 d)).trans (Kept.store _ 4 e)).trans (Kept.store _ 5 f)).trans (Kept.store _ 6 g)).trans (Kept.store _ 7 h)
/-- A request's value; one that the call made. -/
def reqV (q : ReqL) (vf vq : Value) : Value := .agg #[.string ⟨q.head.1.toArray⟩, .string ⟨q.head.2.1.toArray⟩, .int .i64 q.head.2.2.1, vf, .string ⟨q.path.toArray⟩, vq, .string ⟨q.body.toArray⟩, .bool q.close]
def OwnsR (w : World) (base : Nat) (v : Value) (q : ReqL) : Prop := ∃ vf vq, v = reqV q vf vq ∧ OwnsP w base vf q.head.2.2.2 ∧ OwnsP w base vq q.query
def rz : ReqL := ⟨hz, [], [], [], false⟩
theorem OwnsR.zero (w : World) (base : Nat) : OwnsR w base (.agg #[.string ⟨#[]⟩, .string ⟨#[]⟩, .int .i64 0, .slice none 0 0, .string ⟨#[]⟩, .slice none 0 0, .string ⟨#[]⟩, .bool false]) rz := ⟨_, _, rfl, OwnsP.nil _ _, OwnsP.nil _ _⟩
theorem OwnsP.kept {w w' : World} {base p : Nat} {v : Value} {l : List PairL} (h : OwnsP w base v l) (hk : Kept p w.heap.size w w') (hp : p < base) : OwnsP w' base v l := by
  refine ⟨h.1, ?_⟩
  rcases h.2 with hn | ⟨g, cap, cur, rfl, hbase, hg, rest⟩
  · exact Or.inl hn
  · exact Or.inr ⟨g, cap, cur, rfl, hbase, by rw [hk.block g (Array.getElem?_eq_some_iff.1 hg).1 (by omega)]; exact hg, rest⟩
theorem OwnsP.low {w : World} {base base' : Nat} {v : Value} {l : List PairL} (h : OwnsP w base v l) (hb : base' ≤ base) : OwnsP w base' v l := by
  refine ⟨h.1, ?_⟩
  rcases h.2 with hn | ⟨g, cap, cur, rfl, hbase, hg, rest⟩
  · exact Or.inl hn
  · exact Or.inr ⟨g, cap, cur, rfl, by omega, hg, rest⟩
theorem parse_small {s : List UInt8} {h : HeadL} {k : Nat} (e : parseL s = (h, 0, k)) : h.2.2.2.length ≤ 32 ∧ (∀ p ∈ h.2.2.2, p.2.length ≤ 1024) ∧ h.2.1.length ≤ 1024 := by
  obtain ⟨_, raws, r⟩ := parse_ok e
  refine ⟨r.n32, fun p hp => ?_, ?_⟩
  · obtain ⟨a, ha, hf⟩ := r.fields p hp
    have h1 := (fieldL_ok hf).2
    have h2 := (r.raws a ha).len
    omega
  · have := r.reqLen
    simp only [reqText, List.length_append, List.length_cons] at this
    omega
/-- What first answers: the request, how many bytes it has, the status. -/
def firT : Tell ReqL → ReqL × Nat × Int
  | (.error none) => (rz, 0, 0)
  | (.error (some s)) => (rz, 0, s)
  | (.ok (q, n)) => (q, n, 0)

set_option maxRecDepth 20000 in
set_option maxHeartbeats 8000000 in
theorem first_any (L : List UInt8) (w : World) (hM : ML w) (hs : L.length ≤ 65536) :
    Calls Tryz.prog 25 #[.string ⟨L.toArray⟩] w fun e w' => ∃ v, e = .returned (.tuple #[v, .int .i64 ((firT (firstL L)).2.1 : Int), .int .i64 (firT (firstL L)).2.2]) ∧ OwnsR w' w.heap.size v (firT (firstL L)).1 ∧ Below w.heap.size w w' := by
  obtain ⟨T, hT⟩ : ∃ T, T = firstL L := ⟨_, rfl⟩
  rw [← hT]
  have HFL := hid hT
  unfold firstL at hT
  obtain ⟨s, hse⟩ : ∃ s : ByteArray, s = ⟨L.toArray⟩ := ⟨_, rfl⟩
  have hsz : s.size = L.length := by rw [hse, size_list]
  have hR0 := ReqAt.new w (.string ⟨#[]⟩) (.string ⟨#[]⟩) (.int .i64 0) (.slice none 0 0) (.string ⟨#[]⟩) (.slice none 0 0) (.string ⟨#[]⟩) (.bool false)
  have hB0 := below_alloc w (.cells #[.string ⟨#[]⟩, .string ⟨#[]⟩, .int .i64 0, .slice none 0 0, .string ⟨#[]⟩, .slice none 0 0, .string ⟨#[]⟩, .bool false] 36)
  have hM0 := hM.below hB0 hM.lt
  obtain ⟨w1, hw1⟩ : ∃ w1, w1 = w.alloc (.cells #[.string ⟨#[]⟩, .string ⟨#[]⟩, .int .i64 0, .slice none 0 0, .string ⟨#[]⟩, .slice none 0 0, .string ⟨#[]⟩, .bool false] 36) := ⟨_, rfl⟩
  have hsz1 : w1.heap.size = w.heap.size + 1 := by rw [hw1]; simp
  rw [← hw1] at hR0 hB0 hM0
  obtain ⟨mx, hmx⟩ := hM0
  have hI := Tryz.strings_Index s ⟨#[13, 10, 13, 10]⟩ mx w1 (by omega) hmx
  rw [show s.data.toList = L by rw [hse], show (⟨#[13, 10, 13, 10]⟩ : ByteArray).data.toList = [13, 10, 13, 10] from rfl] at hI
  obtain ⟨j1, j2⟩ := index_endH L
  have HW1 := hid hw1
  have HB0 := hid hB0
  obtain ⟨y0, y1, y2, y3, y4, y5, y6, y7⟩ := hR0.cells
  have x0 := hR0.warm 0
  have x1 := hR0.warm 1
  have x2 := hR0.warm 2
  have x3 := hR0.warm 3
  have x4 := hR0.warm 4
  have x5 := hR0.warm 5
  have x6 := hR0.warm 6
  have x7 := hR0.warm 7
  rw [← hse]
  clear hw1 hB0 hM
  cases he : endH L with
  | none =>
    rw [j1 he] at hI
    rw [he] at hT
    simp only at hT
    clear j1 j2 he hse
    by_cases hl : 4096 < L.length
    · rw [if_pos hl] at hT
      have f1 : decide ((4096 : Int) < (s.size : Int)) = true := by simp; omega
      have HT := hid hT
      clear hl hsz hT
      go_enter Tryz.func25, Tryz.ntmps25
      go_wp2_with fail
      rw [← HW1.out]
      refine hI.mono ?_
      clear hI
      rintro e w9 ⟨rfl, hw9⟩
      subst hw9
      have HRQ := hid hR0
      have HBQ := HB0
      clear hR0
      have hR8 := HRQ.out.set8 (.string ⟨#[]⟩) (.string ⟨#[]⟩) (.int .i64 0) (.slice none 0 0) (.string ⟨#[]⟩) (.slice none 0 0) (.string ⟨#[]⟩) (.bool false)
      have HB8 := hid (HBQ.out.trans ((Kept.set8 w.heap.size w9.heap.size w9 (.string ⟨#[]⟩) (.string ⟨#[]⟩) (.int .i64 0) (.slice none 0 0) (.string ⟨#[]⟩) (.slice none 0 0) (.string ⟨#[]⟩) (.bool false)).below (by omega)))
      unfold set8 at hR8 HB8
      go_wp2
      (try simp only [Exit.inBlock, Exit.then])
      clear y0 y1 y2 y3 y4 y5 y6 y7
      obtain ⟨y0, y1, y2, y3, y4, y5, y6, y7⟩ := hR8.cells
      refine bodyPost_ret (v := .tuple #[.agg #[.string ⟨#[]⟩, .string ⟨#[]⟩, .int .i64 0, .slice none 0 0, .string ⟨#[]⟩, .slice none 0 0, .string ⟨#[]⟩, .bool false], .int .i64 0, .int .i64 431]) (by simp [results, Tryz.results25, go_sem, y0, y1, y2, y3, y4, y5, y6, y7]) rfl ?_
      rw [HT.out]
      exact ⟨_, rfl, OwnsR.zero _ _, HB8.out⟩
    · rw [if_neg hl] at hT
      have f1 : decide ((4096 : Int) < (s.size : Int)) = false := by simp; omega
      have HT := hid hT
      clear hl hsz hT
      go_enter Tryz.func25, Tryz.ntmps25
      go_wp2_with fail
      rw [← HW1.out]
      refine hI.mono ?_
      clear hI
      rintro e w9 ⟨rfl, hw9⟩
      subst hw9
      have HRQ := hid hR0
      have HBQ := HB0
      clear hR0
      have hR8 := HRQ.out.set8 (.string ⟨#[]⟩) (.string ⟨#[]⟩) (.int .i64 0) (.slice none 0 0) (.string ⟨#[]⟩) (.slice none 0 0) (.string ⟨#[]⟩) (.bool false)
      have HB8 := hid (HBQ.out.trans ((Kept.set8 w.heap.size w9.heap.size w9 (.string ⟨#[]⟩) (.string ⟨#[]⟩) (.int .i64 0) (.slice none 0 0) (.string ⟨#[]⟩) (.slice none 0 0) (.string ⟨#[]⟩) (.bool false)).below (by omega)))
      unfold set8 at hR8 HB8
      go_wp2
      (try simp only [Exit.inBlock, Exit.then])
      clear y0 y1 y2 y3 y4 y5 y6 y7
      obtain ⟨y0, y1, y2, y3, y4, y5, y6, y7⟩ := hR8.cells
      refine bodyPost_ret (v := .tuple #[.agg #[.string ⟨#[]⟩, .string ⟨#[]⟩, .int .i64 0, .slice none 0 0, .string ⟨#[]⟩, .slice none 0 0, .string ⟨#[]⟩, .bool false], .int .i64 0, .int .i64 0]) (by simp [results, Tryz.results25, go_sem, y0, y1, y2, y3, y4, y5, y6, y7]) rfl ?_
      rw [HT.out]
      exact ⟨_, rfl, OwnsR.zero _ _, HB8.out⟩
  | some k =>
    have hk := endH_le he
    rw [j2 k he] at hI
    rw [he] at hT
    simp only at hT
    obtain ⟨j, hj⟩ : ∃ j, j = k - 4 := ⟨_, rfl⟩
    rw [show (k : Int) - 4 = (j : Int) by omega] at hI
    have hadd : (j : Int) + 4 = (k : Int) := by omega
    have fj : ¬ (j : Int) < 0 := by omega
    have hx : s.extract 0 k = ⟨(L.take k).toArray⟩ := by rw [hse, extract_list]; simp
    have hks : (k : Int) ≤ (s.size : Int) := by omega
    have hP := parse_any (L.take k) w1 ⟨mx, hmx⟩ (by rw [List.length_take]; omega)
    have hBo := fun (h : HeadL) (a b v : Value) (w : World) (q1 : SeesP w v h.2.2.2) (q2 : h.2.2.2.length ≤ 1048576) (q3 : ∀ p ∈ h.2.2.2, p.2.length ≤ 1048576) => bodyOf_any h a b v L k w q1 q2 q3 hs hk.2
    rw [← hse] at hBo
    rw [← hx] at hP
    obtain ⟨PT, hPT⟩ : ∃ PT, PT = parseL (L.take k) := ⟨_, rfl⟩
    rw [← hPT] at hT hP
    have HPT := hid hPT
    have HBo := hid hBo
    obtain ⟨h, pst, ppl⟩ := PT
    simp only at hT hP
    have HK4 := hid hk.1
    clear hj j1 j2 he hse hx hk hPT hBo
    have hwp := hR0.lt
    have hgl : 0 < w1.heap.size := World.block_lt_of_cell? w1 _ hmx
    have HMX := hid hmx
    have HR0 := hid hR0
    clear hmx hR0
    go_enter Tryz.func25, Tryz.ntmps25
    go_wp2_with fail
    rw [← HW1.out]
    refine hI.mono ?_
    clear hI
    rintro e w1 ⟨rfl, hwi⟩
    subst hwi
    go_wp2_with fail
    refine hP.mono ?_
    clear hP
    rintro e w2 ⟨v, rfl, hO2, hB2⟩
    obtain ⟨h1, h2, m, fs⟩ := h
    simp only [strV] at hO2 ⊢
    obtain ⟨ao, cap, rfl⟩ := hO2.shape
    obtain ⟨nf, hnf⟩ : ∃ nf, nf = fs.length := ⟨_, rfl⟩
    rw [← hnf] at hO2 ⊢
    have hsz2 := hB2.size
    have HB2 := hid (HB0.out.trans (hB2.mono (by omega)))
    have hR2 := HR0.out.below hB2 hwp
    have HH3 := hid (HeadAt.new w2 (.string ⟨h1.toArray⟩) (.string ⟨h2.toArray⟩) (.int .i64 m) (.slice ao nf cap))
    have hB23 := below_alloc w2 (.cells #[.string ⟨h1.toArray⟩, .string ⟨h2.toArray⟩, .int .i64 m, .slice ao nf cap] 34)
    obtain ⟨w3, hw3⟩ : ∃ w3, w3 = w2.alloc (.cells #[.string ⟨h1.toArray⟩, .string ⟨h2.toArray⟩, .int .i64 m, .slice ao nf cap] 34) := ⟨_, rfl⟩
    rw [← hw3] at HH3 hB23
    have HW3 := hid hw3
    have hsz3 : w3.heap.size = w2.heap.size + 1 := by rw [hw3]; simp
    have HB3 := hid (HB2.out.trans (hB23.mono HB2.out.size))
    have HR3 := hid (hR2.below hB23 hR2.lt)
    have HO3 := hid (OwnsP.below hO2 hB23)
    have HM3 : Hid (ML w3) := hid ⟨mx, ((hB2.trans (hB23.mono hsz2)).cell (p := ⟨0, 0, none⟩) hgl).trans HMX.out⟩
    have hgl3 : 0 < w3.heap.size := by omega
    obtain ⟨z0, z1, z2, z3, _, _, _, _⟩ := HH3.out.cells
    obtain ⟨ph, hph⟩ : ∃ ph, ph = w2.heap.size := ⟨_, rfl⟩
    have hphl : ph < w3.heap.size := by omega
    have hpw : w.heap.size < ph := by omega
    have HPH := hid hph
    have HSZ3 := hid (show w1.heap.size ≤ w3.heap.size ∧ w.heap.size < w1.heap.size by omega)
    clear hO2 hB2 hR2 hB23 hw3 hph HR0 HB0 HMX hgl HW1 hnf
    by_cases h0 : pst = 0
    · subst h0
      rw [if_neg (by simp)] at hT
      have hsm := parse_small HPT.out.symm
      simp only at hsm
      have hB4 := HBo.out (h1, h2, m, fs) (.string ⟨h1.toArray⟩) (.string ⟨h2.toArray⟩) (.slice ao nf cap) w3 (OwnsP.sees HO3.out) (by simp only; omega) (fun p hp => by have := hsm.2.1 p hp; omega)
      simp only [bodV] at hB4
      have hTg := fun w => target_any h2 w (by omega)
      obtain ⟨BT, hBT⟩ : ∃ BT, BT = bodyAt (h1, h2, m, fs) L k := ⟨_, rfl⟩
      rw [← hBT] at hT hB4
      go_wp2_with fail
      rw [← HW3.out]
      go_wp2_with fail
      refine hB4.mono ?_
      clear hB4
      rintro e w4 ⟨rfl, hB4⟩
      have hsz4 := hB4.size
      have HB4 := hid (HB3.out.trans (hB4.mono HB3.out.size))
      have HR4 := hid (HR3.out.below hB4 HR3.out.lt)
      have HO4 := hid (OwnsP.below HO3.out hB4)
      have hH4 : HeadAt w4 ph (.string ⟨h1.toArray⟩) (.string ⟨h2.toArray⟩) (.int .i64 m) (.slice ao nf cap) := by rw [HPH.out]; exact HH3.out.below hB4 HH3.out.lt
      have HM4 := hid (HM3.out.below hB4 hgl3)
      have hgl4 : 0 < w4.heap.size := by omega
      have hphl4 : ph < w4.heap.size := by omega
      have HSZ4 := hid (show w3.heap.size ≤ w4.heap.size from hsz4)
      rw [← HPH.out]
      clear hB4 HB3 HR3 HO3 HH3 HM3 z0 z1 z2 z3 hgl3 hsz3 hsz2 HW3
      match hbt : BT with
      | .error none =>
        (try rw [hbt] at hT)
        simp only at hT
        have HT := hid hT
        simp only [bodT]
        obtain ⟨w9, hw9⟩ : ∃ w9, w9 = w4 := ⟨_, rfl⟩
        rw [← hw9] at HR4 HB4 ⊢
        have HRQ := HR4
        have HBQ := HB4
        clear hT hbt HBo hBT hw9 hTg hsm HPT HM4 HO4 hH4
        have hR8 := HRQ.out.set8 (.string ⟨#[]⟩) (.string ⟨#[]⟩) (.int .i64 0) (.slice none 0 0) (.string ⟨#[]⟩) (.slice none 0 0) (.string ⟨#[]⟩) (.bool false)
        have HB8 := hid (HBQ.out.trans ((Kept.set8 w.heap.size w9.heap.size w9 (.string ⟨#[]⟩) (.string ⟨#[]⟩) (.int .i64 0) (.slice none 0 0) (.string ⟨#[]⟩) (.slice none 0 0) (.string ⟨#[]⟩) (.bool false)).below (Nat.le_of_lt HRQ.out.lt)))
        unfold set8 at hR8 HB8
        clear y0 y1 y2 y3 y4 y5 y6 y7 x0 x1 x2 x3 x4 x5 x6 x7
        obtain ⟨y0, y1, y2, y3, y4, y5, y6, y7⟩ := HRQ.out.cells
        have x0 := HRQ.out.warm 0
        have x1 := HRQ.out.warm 1
        have x2 := HRQ.out.warm 2
        have x3 := HRQ.out.warm 3
        have x4 := HRQ.out.warm 4
        have x5 := HRQ.out.warm 5
        have x6 := HRQ.out.warm 6
        have x7 := HRQ.out.warm 7
        go_wp2
        (try simp only [Exit.inBlock, Exit.then])
        clear y0 y1 y2 y3 y4 y5 y6 y7
        obtain ⟨y0, y1, y2, y3, y4, y5, y6, y7⟩ := hR8.cells
        refine bodyPost_ret (v := .tuple #[.agg #[.string ⟨#[]⟩, .string ⟨#[]⟩, .int .i64 0, .slice none 0 0, .string ⟨#[]⟩, .slice none 0 0, .string ⟨#[]⟩, .bool false], .int .i64 0, .int .i64 0]) (by simp [results, Tryz.results25, go_sem, y0, y1, y2, y3, y4, y5, y6, y7]) rfl ?_
        rw [HT.out]
        exact ⟨_, rfl, OwnsR.zero _ _, HB8.out⟩
      | .error (some t) =>
        (try rw [hbt] at hT)
        simp only at hT
        have HT := hid hT
        simp only [bodT]
        have ft : (t != 0) = true := by
          rw [bne_iff_ne]
          have : firstL L = (.error (some t)) := by rw [← HFL.out, hT]
          exact stat4_ne (first_stat this)
        obtain ⟨w9, hw9⟩ : ∃ w9, w9 = w4 := ⟨_, rfl⟩
        rw [← hw9] at HR4 HB4 ⊢
        have HRQ := HR4
        have HBQ := HB4
        clear hT hbt HBo hBT hw9 hTg hsm HPT HM4 HO4 hH4
        have hR8 := HRQ.out.set8 (.string ⟨#[]⟩) (.string ⟨#[]⟩) (.int .i64 0) (.slice none 0 0) (.string ⟨#[]⟩) (.slice none 0 0) (.string ⟨#[]⟩) (.bool false)
        have HB8 := hid (HBQ.out.trans ((Kept.set8 w.heap.size w9.heap.size w9 (.string ⟨#[]⟩) (.string ⟨#[]⟩) (.int .i64 0) (.slice none 0 0) (.string ⟨#[]⟩) (.slice none 0 0) (.string ⟨#[]⟩) (.bool false)).below (Nat.le_of_lt HRQ.out.lt)))
        unfold set8 at hR8 HB8
        clear y0 y1 y2 y3 y4 y5 y6 y7 x0 x1 x2 x3 x4 x5 x6 x7
        obtain ⟨y0, y1, y2, y3, y4, y5, y6, y7⟩ := HRQ.out.cells
        have x0 := HRQ.out.warm 0
        have x1 := HRQ.out.warm 1
        have x2 := HRQ.out.warm 2
        have x3 := HRQ.out.warm 3
        have x4 := HRQ.out.warm 4
        have x5 := HRQ.out.warm 5
        have x6 := HRQ.out.warm 6
        have x7 := HRQ.out.warm 7
        go_wp2
        (try simp only [Exit.inBlock, Exit.then])
        clear y0 y1 y2 y3 y4 y5 y6 y7
        obtain ⟨y0, y1, y2, y3, y4, y5, y6, y7⟩ := hR8.cells
        refine bodyPost_ret (v := .tuple #[.agg #[.string ⟨#[]⟩, .string ⟨#[]⟩, .int .i64 0, .slice none 0 0, .string ⟨#[]⟩, .slice none 0 0, .string ⟨#[]⟩, .bool false], .int .i64 0, .int .i64 t]) (by simp [results, Tryz.results25, go_sem, y0, y1, y2, y3, y4, y5, y6, y7]) rfl ?_
        rw [HT.out]
        exact ⟨_, rfl, OwnsR.zero _ _, HB8.out⟩
      | .ok (bd, n) =>
        (try rw [hbt] at hT)
        simp only at hT
        have HT := hid hT
        simp only [bodT]
        have hn4 := (firstL_got (show firstL L = (.ok (_, n)) by rw [← HFL.out, hT])).1
        have fn : ((n : Int) == 0) = false := by rw [beq_eq_false_iff_ne]; omega
        obtain ⟨z0, z1, z2, z3, _, _, _, _⟩ := hH4.cells
        have HH4 := hid hH4
        have HSM := hid hsm
        clear hT hbt HBo hBT hn4 hH4 hsm
        go_wp2_with fail
        refine (hTg _).mono ?_
        clear hTg
        rintro e w5 ⟨vq, rfl, hO5, hB5⟩
        simp only
        obtain ⟨aq, cq, hvq⟩ := hO5.shape
        obtain ⟨nq, hnq⟩ : ∃ nq, nq = (tgt h2).query.length := ⟨_, rfl⟩
        rw [← hnq] at hvq
        subst hvq
        have hsz5 := hB5.size
        have HB5 := hid (HB4.out.trans (hB5.mono HB4.out.size))
        have HR5 := hid (HR4.out.below hB5 HR4.out.lt)
        have HF5 := hid (OwnsP.below HO4.out hB5)
        have HQ5 := hid hO5
        have HH5 := hid (HH4.out.below hB5 hphl4)
        have HM5 := hid (HM4.out.below hB5 hgl4)
        have hgl5 : 0 < w5.heap.size := by omega
        have hphl5 : ph < w5.heap.size := by omega
        have HSZ5 := hid (show w4.heap.size ≤ w5.heap.size from hsz5)
        clear hB5 hO5 HB4 HR4 HO4 HH4 HM4 z0 z1 z2 z3 hgl4 hphl4 hnq
        obtain ⟨E, hE⟩ : ∃ E, E = (tgt h2).err := ⟨_, rfl⟩
        obtain ⟨A', hA'⟩ : ∃ A', A' = (tgt h2).at' := ⟨_, rfl⟩
        obtain ⟨PP, hPP⟩ : ∃ PP, PP = (tgt h2).path := ⟨_, rfl⟩
        rw [← hE, ← hA', ← hPP]
        have HPP := hid hPP
        clear hE hA' hPP
        go_wp2_with fail
        obtain ⟨z0, z1, z2, z3, _, _, _, _⟩ := HH5.out.cells
        have hCl := closes_any (h1, h2, m, fs) (.string ⟨h1.toArray⟩) (.string ⟨h2.toArray⟩) (.slice ao nf cap) w5.drew (HM5.out.below (Below.drew (Below.refl w5.heap.size w5)) hgl5) ((OwnsP.sees HF5.out).below (Below.drew (Below.refl _ _))) (by have := HSM.out.1; simp only; omega) (fun p hp => by have := HSM.out.2.1 p hp; omega)
        simp only at hCl
        obtain ⟨C, hC⟩ : ∃ C, C = closesL (h1, h2, m, fs) := ⟨_, rfl⟩
        rw [← hC] at hCl
        have HC := hid hC
        clear hC
        refine wp_region_noPanic ?_
        refine wp_region_held_drew (S := (fun W => HeadAt W ph (.string ⟨h1.toArray⟩) (.string ⟨h2.toArray⟩) (.int .i64 m) (.slice ao nf cap))) (by kernel_rfl) ?_ (fun hHeld => ?_)
        · exact HH5.out.below (Below.drew (Below.refl w5.heap.size w5)) hphl5
        refine wpAnyH_take (i := 0) (oi := { dst := some 66, op := Op.load 34 (Operand.tmp 6), type := 34, pos := "parse.go:168", after := #[], guard := none }) (v := (.agg #[.string ⟨h1.toArray⟩, .string ⟨h2.toArray⟩, .int .i64 m, .slice ao nf cap])) rfl (by kernel_rfl) (by kernel_rfl) (by kernel_rfl) (fun _ _ _ h => h) (Or.inl ⟨by rfl, ?_⟩) (by assumption) ?_
        · intro w hSw
          try dsimp only at hSw
          obtain ⟨z0, z1, z2, z3, _, _, _, _⟩ := HeadAt.cells hSw
          go_simp
        try simp only [Act.put, List.setIfInBounds_toArray, List.set_cons_zero, List.set_cons_succ]
        refine wpAnyH_take (i := 1) (oi := { dst := some 67, op := Op.move (Operand.tmp 9), type := 9, pos := "parse.go:168", after := #[], guard := none }) (v := (.string ⟨PP.toArray⟩)) rfl (by kernel_rfl) (by kernel_rfl) (by kernel_rfl) (fun _ _ _ h => h) (Or.inl ⟨by rfl, ?_⟩) (by assumption) ?_
        · intro w hSw
          try dsimp only at hSw
          go_simp
        try simp only [Act.put, List.setIfInBounds_toArray, List.set_cons_zero, List.set_cons_succ]
        refine wpAnyH_take (i := 2) (oi := { dst := some 68, op := Op.move (Operand.tmp 10), type := 32, pos := "parse.go:168", after := #[], guard := none }) (v := (.slice aq nq cq)) rfl (by kernel_rfl) (by kernel_rfl) (by kernel_rfl) (fun _ _ _ h => h) (Or.inl ⟨by rfl, ?_⟩) (by assumption) ?_
        · intro w hSw
          try dsimp only at hSw
          go_simp
        try simp only [Act.put, List.setIfInBounds_toArray, List.set_cons_zero, List.set_cons_succ]
        refine wpAnyH_take (i := 3) (oi := { dst := some 69, op := Op.move (Operand.tmp 8), type := 9, pos := "parse.go:168", after := #[], guard := none }) (v := (.string ⟨bd.toArray⟩)) rfl (by kernel_rfl) (by kernel_rfl) (by kernel_rfl) (fun _ _ _ h => h) (Or.inl ⟨by rfl, ?_⟩) (by assumption) ?_
        · intro w hSw
          try dsimp only at hSw
          go_simp
        try simp only [Act.put, List.setIfInBounds_toArray, List.set_cons_zero, List.set_cons_succ]
        refine wpAnyH_take (i := 4) (oi := { dst := some 70, op := Op.load 34 (Operand.tmp 6), type := 34, pos := "parse.go:168", after := #[], guard := none }) (v := (.agg #[.string ⟨h1.toArray⟩, .string ⟨h2.toArray⟩, .int .i64 m, .slice ao nf cap])) rfl (by kernel_rfl) (by kernel_rfl) (by kernel_rfl) (fun _ _ _ h => h) (Or.inl ⟨by rfl, ?_⟩) (by assumption) ?_
        · intro w hSw
          try dsimp only at hSw
          obtain ⟨z0, z1, z2, z3, _, _, _, _⟩ := HeadAt.cells hSw
          go_simp
        try simp only [Act.put, List.setIfInBounds_toArray, List.set_cons_zero, List.set_cons_succ]
        refine wpAnyH_take (i := 7) (oi := { dst := some 73, op := Op.move (Operand.tmp 3), type := 3, pos := "parse.go:168", after := #[{ on := 8, ground := Ground.gcOnly Departure.lateStores }], guard := none }) (v := (.int .i64 (n : Int))) rfl (by kernel_rfl) (by kernel_rfl) (by kernel_rfl) (fun _ _ _ h => h) (Or.inl ⟨by rfl, ?_⟩) (by assumption) ?_
        · intro w hSw
          try dsimp only at hSw
          go_simp
        try simp only [Act.put, List.setIfInBounds_toArray, List.set_cons_zero, List.set_cons_succ]
        refine wpAnyH_ready (rs := [5]) (by kernel_rfl) (by simp) ?_
        refine AllReadyH.cons (o := { dst := some 71, op := Op.call { callee := Callee.value (Operand.func 39), args := #[Operand.tmp 70], argTypes := #[34] }, type := 4, pos := "parse.go:168", after := #[{ on := 4, ground := Ground.data }], guard := none }) rfl (fun K hK => ?_) AllReadyH.nil
        go_simp
        refine hCl.mono ?_
        clear hCl
        rintro e w6 ⟨rfl, hB6⟩
        have hB56 : Below w5.heap.size w5 w6 := (Below.drew (Below.refl w5.heap.size w5)).trans hB6
        have HH6 := hid (HH5.out.below hB56 hphl5)
        have HR6 := hid (HR5.out.below hB56 HR5.out.lt)
        have HF6 := hid (OwnsP.below HF5.out hB56)
        have HQ6 := hid (OwnsP.below HQ5.out hB56)
        have HB6 := hid (HB5.out.trans (hB56.mono HB5.out.size))
        have HQB := hid (show w.heap.size < w4.heap.size by have := HSZ3.out; have := HSZ4.out; omega)
        have HH8 := hid ((HH6.out.same ((Kept.set8 w.heap.size w6.heap.size w6 (.string ⟨h1.toArray⟩) (.string ⟨h2.toArray⟩) (.int .i64 m) (.slice ao nf cap) (.string ⟨PP.toArray⟩) (.slice aq nq cq) (.string ⟨bd.toArray⟩) (.bool C)).block ph HH6.out.lt (by omega))))
        unfold set8 at HH8
        clear y0 y1 y2 y3 y4 y5 y6 y7 x0 x1 x2 x3 x4 x5 x6 x7
        obtain ⟨y0, y1, y2, y3, y4, y5, y6, y7⟩ := HR6.out.cells
        have x0 := HR6.out.warm 0
        have x1 := HR6.out.warm 1
        have x2 := HR6.out.warm 2
        have x3 := HR6.out.warm 3
        have x4 := HR6.out.warm 4
        have x5 := HR6.out.warm 5
        have x6 := HR6.out.warm 6
        have x7 := HR6.out.warm 7
        clear hB6 hB56
        go_simp
        refine hK.out _ _ ?_ (fun hHeld => ?_)
        · exact HH6.out
        clear hK K
        try simp only [Act.put, List.setIfInBounds_toArray, List.set_cons_zero, List.set_cons_succ]
        refine wpAnyH_take (i := 6) (oi := { dst := some 72, op := Op.build 36 #[(0, Operand.tmp 66), (1, Operand.tmp 67), (2, Operand.tmp 68), (3, Operand.tmp 69), (4, Operand.tmp 71)], type := 36, pos := "parse.go:168", after := #[{ on := 0, ground := Ground.data }, { on := 1, ground := Ground.data }, { on := 2, ground := Ground.data }, { on := 3, ground := Ground.data }, { on := 5, ground := Ground.data }], guard := none }) (v := (.agg #[.string ⟨h1.toArray⟩, .string ⟨h2.toArray⟩, .int .i64 m, .slice ao nf cap, .string ⟨PP.toArray⟩, .slice aq nq cq, .string ⟨bd.toArray⟩, .bool C])) rfl (by kernel_rfl) (by kernel_rfl) (by kernel_rfl) (fun _ _ _ h => h) (Or.inl ⟨by rfl, ?_⟩) (by assumption) ?_
        · intro w hSw
          try dsimp only at hSw
          go_simp
        try simp only [Act.put, List.setIfInBounds_toArray, List.set_cons_zero, List.set_cons_succ]
        refine wpAnyH_ready (rs := [8]) (by kernel_rfl) (by simp) ?_
        refine AllReadyH.cons (o := { dst := none, op := Op.store 36 (Operand.tmp 2) (Operand.tmp 72), type := 0, pos := "parse.go:168", after := #[{ on := 6, ground := Ground.data }, { on := 5, ground := Ground.chain }, { on := 0, ground := Ground.phase }, { on := 1, ground := Ground.phase }, { on := 2, ground := Ground.phase }, { on := 3, ground := Ground.phase }, { on := 4, ground := Ground.phase }, { on := 5, ground := Ground.phase }, { on := 6, ground := Ground.phase }, { on := 7, ground := Ground.textOnly Departure.lateStores }], guard := none }) rfl (fun K hK => ?_) AllReadyH.nil
        rw [if_pos (by rfl)]
        go_wp2_with fail
        refine hK.out _ _ ?_ (fun hHeld => ?_)
        · exact HH8.out
        clear hK K
        try simp only [Act.put, List.setIfInBounds_toArray, List.set_cons_zero, List.set_cons_succ]
        refine wpAnyH_take (i := 9) (oi := { dst := some 3, op := Op.assign (Operand.tmp 73), type := 3, pos := "parse.go:168", after := #[{ on := 7, ground := Ground.data }, { on := 8, ground := Ground.chain }, { on := 0, ground := Ground.phase }, { on := 1, ground := Ground.phase }, { on := 2, ground := Ground.phase }, { on := 3, ground := Ground.phase }, { on := 4, ground := Ground.phase }, { on := 5, ground := Ground.phase }, { on := 6, ground := Ground.phase }, { on := 7, ground := Ground.phase }, { on := 8, ground := Ground.phase }], guard := none }) (v := (.int .i64 (n : Int))) rfl (by kernel_rfl) (by kernel_rfl) (by kernel_rfl) (fun _ _ _ h => h) (Or.inl ⟨by rfl, ?_⟩) (by assumption) ?_
        · intro w hSw
          try dsimp only at hSw
          go_simp
        try simp only [Act.put, List.setIfInBounds_toArray, List.set_cons_zero, List.set_cons_succ]
        refine wpAnyH_take (i := 10) (oi := { dst := some 4, op := Op.assign (Operand.const (Value.int IntKind.i64 0)), type := 3, pos := "parse.go:168", after := #[{ on := 9, ground := Ground.chain }, { on := 0, ground := Ground.phase }, { on := 1, ground := Ground.phase }, { on := 2, ground := Ground.phase }, { on := 3, ground := Ground.phase }, { on := 4, ground := Ground.phase }, { on := 5, ground := Ground.phase }, { on := 6, ground := Ground.phase }, { on := 7, ground := Ground.phase }, { on := 8, ground := Ground.phase }, { on := 9, ground := Ground.phase }], guard := none }) (v := (.int .i64 0)) rfl (by kernel_rfl) (by kernel_rfl) (by kernel_rfl) (fun _ _ _ h => h) (Or.inl ⟨by rfl, ?_⟩) (by assumption) ?_
        · intro w hSw
          try dsimp only at hSw
          go_simp
        try simp only [Act.put, List.setIfInBounds_toArray, List.set_cons_zero, List.set_cons_succ]
        refine wpAnyH_done (by kernel_rfl) ?_ _
        refine NoPanic.normal ?_
        clear y0 y1 y2 y3 y4 y5 y6 y7 x0 x1 x2 x3 x4 x5 x6 x7
        have hR8 := HR6.out.set8 (.string ⟨h1.toArray⟩) (.string ⟨h2.toArray⟩) (.int .i64 m) (.slice ao nf cap) (.string ⟨PP.toArray⟩) (.slice aq nq cq) (.string ⟨bd.toArray⟩) (.bool C)
        have hK8 := Kept.set8 w.heap.size w6.heap.size w6 (.string ⟨h1.toArray⟩) (.string ⟨h2.toArray⟩) (.int .i64 m) (.slice ao nf cap) (.string ⟨PP.toArray⟩) (.slice aq nq cq) (.string ⟨bd.toArray⟩) (.bool C)
        have HB8 := hid (HB6.out.trans (hK8.below (Nat.le_of_lt HR6.out.lt)))
        have HF8 := hid (OwnsP.kept HF6.out hK8 HSZ3.out.2)
        have HQ8 := hid (OwnsP.kept HQ6.out hK8 HQB.out)
        unfold set8 at hR8 HB8 HF8 HQ8
        go_wp2
        (try simp only [Exit.inBlock, Exit.then])
        obtain ⟨y0, y1, y2, y3, y4, y5, y6, y7⟩ := hR8.cells
        refine bodyPost_ret (v := .tuple #[.agg #[.string ⟨h1.toArray⟩, .string ⟨h2.toArray⟩, .int .i64 m, .slice ao nf cap, .string ⟨PP.toArray⟩, .slice aq nq cq, .string ⟨bd.toArray⟩, .bool C], .int .i64 (n : Int), .int .i64 0]) (by simp [results, Tryz.results25, go_sem, y0, y1, y2, y3, y4, y5, y6, y7]) rfl ?_
        rw [HT.out]
        refine ⟨_, rfl, ⟨.slice ao nf cap, .slice aq nq cq, ?_, OwnsP.low HF8.out (by have := HSZ3.out; omega), OwnsP.low HQ8.out (Nat.le_of_lt HQB.out)⟩, HB8.out⟩
        simp only [firT, reqOf, reqV]
        rw [HPP.out, HC.out]
    · rw [if_pos h0] at hT
      have f0 : (pst != 0) = true := by rw [bne_iff_ne]; exact h0
      have HT := hid hT
      have HRQ := HR3
      have HBQ := HB3
      rw [HW3.out] at HRQ HBQ
      clear hT h0 HPT HBo HM3 HO3 HH3 z0 z1 z2 z3
      have hR8 := HRQ.out.set8 (.string ⟨#[]⟩) (.string ⟨#[]⟩) (.int .i64 0) (.slice none 0 0) (.string ⟨#[]⟩) (.slice none 0 0) (.string ⟨#[]⟩) (.bool false)
      have HB8 := hid (HBQ.out.trans ((Kept.set8 w.heap.size (w2.alloc (.cells #[.string ⟨h1.toArray⟩, .string ⟨h2.toArray⟩, .int .i64 m, .slice ao nf cap] 34)).heap.size (w2.alloc (.cells #[.string ⟨h1.toArray⟩, .string ⟨h2.toArray⟩, .int .i64 m, .slice ao nf cap] 34)) (.string ⟨#[]⟩) (.string ⟨#[]⟩) (.int .i64 0) (.slice none 0 0) (.string ⟨#[]⟩) (.slice none 0 0) (.string ⟨#[]⟩) (.bool false)).below (Nat.le_of_lt HRQ.out.lt)))
      unfold set8 at hR8 HB8
      clear y0 y1 y2 y3 y4 y5 y6 y7 x0 x1 x2 x3 x4 x5 x6 x7
      obtain ⟨y0, y1, y2, y3, y4, y5, y6, y7⟩ := HRQ.out.cells
      have x0 := HRQ.out.warm 0
      have x1 := HRQ.out.warm 1
      have x2 := HRQ.out.warm 2
      have x3 := HRQ.out.warm 3
      have x4 := HRQ.out.warm 4
      have x5 := HRQ.out.warm 5
      have x6 := HRQ.out.warm 6
      have x7 := HRQ.out.warm 7
      go_wp2
      (try simp only [Exit.inBlock, Exit.then])
      clear y0 y1 y2 y3 y4 y5 y6 y7
      obtain ⟨y0, y1, y2, y3, y4, y5, y6, y7⟩ := hR8.cells
      refine bodyPost_ret (v := .tuple #[.agg #[.string ⟨#[]⟩, .string ⟨#[]⟩, .int .i64 0, .slice none 0 0, .string ⟨#[]⟩, .slice none 0 0, .string ⟨#[]⟩, .bool false], .int .i64 0, .int .i64 pst]) (by simp [results, Tryz.results25, go_sem, y0, y1, y2, y3, y4, y5, y6, y7]) rfl ?_
      rw [HT.out]
      exact ⟨_, rfl, OwnsR.zero _ _, HB8.out⟩
end Go.Proofs.YtllhibdjopfcnaaGreatDoor
