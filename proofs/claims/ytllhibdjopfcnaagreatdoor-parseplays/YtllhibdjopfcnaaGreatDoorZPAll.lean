/-
  Where the head that bytes begin with ends: the document's.
-/
import Derived.Test.YtllhibdjopfcnaaGreatDoorZPFirst
import Derived.Test.YtllhibdjopfcnaaGreatDoorZRSize
namespace Go.Proofs.YtllhibdjopfcnaaGreatDoor
open Go.RowKit
set_option linter.unusedVariables false

/-- A request in memory: with the places of its fields and of its query. -/
structure RqE where
  q : ReqL
  af : Option Addr
  cf : Nat
  aq : Option Addr
  cq : Nat
def RqE.vf (e : RqE) : Value := .slice e.af e.q.head.2.2.2.length e.cf
def RqE.vq (e : RqE) : Value := .slice e.aq e.q.query.length e.cq
def RqE.row (e : RqE) : List Value := [.string ⟨e.q.head.1.toArray⟩, .string ⟨e.q.head.2.1.toArray⟩, .int .i64 e.q.head.2.2.1, e.vf, .string ⟨e.q.path.toArray⟩, e.vq, .string ⟨e.q.body.toArray⟩, .bool e.q.close]
def RqE.val (e : RqE) : Value := reqV e.q e.vf e.vq
def cellsR : List RqE → List Value
  | [] => []
  | e :: r => e.row ++ cellsR r
theorem row_len (e : RqE) : e.row.length = 8 := rfl
theorem cellsR_len (l : List RqE) : (cellsR l).length = l.length * 8 := by
  induction l with
  | nil => rfl
  | cons p r ih => simp [cellsR, ih, row_len]; omega
theorem cellsR_app (a b : List RqE) : cellsR (a ++ b) = cellsR a ++ cellsR b := by
  induction a with
  | nil => rfl
  | cons p r ih => simp [cellsR, ih]
theorem cellsR_get : ∀ (l : List RqE) (j i : Nat) (h : j < l.length), i < 8 → (cellsR l)[j * 8 + i]? = l[j].row[i]?
  | [], j, i, h, _ => by simp at h
  | p :: r, 0, i, h, hi => by
    rw [cellsR, Nat.zero_mul, Nat.zero_add, List.getElem?_append_left (by rw [row_len]; exact hi)]
    rfl
  | p :: r, j + 1, i, h, hi => by
    have ih := cellsR_get r j i (by simpa using h) hi
    rw [cellsR, List.getElem?_append_right (by rw [row_len]; omega), row_len, show (j + 1) * 8 + i - 8 = j * 8 + i by omega, ih]
    simp
theorem cellsR_one (l : List RqE) : ∀ v ∈ cellsR l, v.oneCell' = true := by
  induction l with
  | nil => intro v hv; cases hv
  | cons p r ih =>
    intro v hv
    rcases List.mem_append.1 hv with hv | hv
    · simp only [RqE.row, List.mem_cons, List.not_mem_nil, or_false] at hv
      rcases hv with rfl | rfl | rfl | rfl | rfl | rfl | rfl | rfl <;> rfl
    · exact ih v hv
/-- The slice v is the call's own row of requests. -/
structure OwnsQ (w : World) (base : Nat) (v : Value) (l : List RqE) : Prop where
  row : w.ownsRow base 36 8 v l.length (cellsR l)
  parts : ∀ e ∈ l, OwnsP w base e.vf e.q.head.2.2.2 ∧ OwnsP w base e.vq e.q.query
theorem OwnsQ.nil (w : World) (base : Nat) : OwnsQ w base (.slice none 0 0) [] := ⟨World.ownsRow_nil _ _ _ _, fun e he => by cases he⟩
theorem OwnsQ.below {w w' : World} {base : Nat} {v : Value} {l : List RqE} (h : OwnsQ w base v l) (hb : Below w.heap.size w w') : OwnsQ w' base v l :=
  ⟨ownsRow_below h.row hb, fun e he => ⟨OwnsP.below (h.parts e he).1 hb, OwnsP.below (h.parts e he).2 hb⟩⟩
theorem OwnsQ.shape {w : World} {base : Nat} {v : Value} {l : List RqE} (h : OwnsQ w base v l) : ∃ ao cap, v = .slice ao l.length cap := by
  rcases h.row.2 with ⟨rfl, hn⟩ | ⟨g, cap, cur, rfl, _⟩
  · exact ⟨none, 0, by rw [hn]⟩
  · exact ⟨_, cap, rfl⟩
theorem OwnsQ.block {w : World} {base : Nat} {v : Value} {l : List RqE} (h : OwnsQ w base v l) : ∀ j, v.ownBlock = some j → base ≤ j := by
  intro j hj
  rcases h.row.2 with ⟨rfl, hn⟩ | ⟨g, cap, cur, rfl, hb, _⟩
  · simp [Value.ownBlock] at hj
  · simp [Value.ownBlock] at hj
    omega
theorem OwnsQ.le {w : World} {base base' : Nat} {v : Value} {l : List RqE} (h : OwnsQ w base v l) (hb : base' ≤ base) : OwnsQ w base' v l := by
  refine ⟨⟨h.row.1, ?_⟩, fun e he => ⟨OwnsP.low (h.parts e he).1 hb, OwnsP.low (h.parts e he).2 hb⟩⟩
  rcases h.row.2 with hn | ⟨g, cap, cur, rfl, hbase, hg, rest⟩
  · exact Or.inl hn
  · exact Or.inr ⟨g, cap, cur, rfl, by omega, hg, rest⟩
/-- The slice v reads the requests l in the world w. -/
def SeesQ (w : World) (v : Value) (l : List RqE) : Prop :=
  ∃ b ao cap, v = .slice ao l.length cap ∧ l.length ≤ cap ∧ (l ≠ [] → ao = some ⟨b, 0, none⟩) ∧ (∀ j i, (h : j < l.length) → i < 8 → w.cell? ⟨b, j * 8 + i, none⟩ = l[j].row[i]?) ∧ ∀ e ∈ l, SeesP w e.vf e.q.head.2.2.2 ∧ SeesP w e.vq e.q.query
theorem OwnsQ.sees {w : World} {base : Nat} {v : Value} {l : List RqE} (h : OwnsQ w base v l) : SeesQ w v l := by
  have hp : ∀ e ∈ l, SeesP w e.vf e.q.head.2.2.2 ∧ SeesP w e.vq e.q.query := fun e he => ⟨OwnsP.sees (h.parts e he).1, OwnsP.sees (h.parts e he).2⟩
  rcases h.row.2 with ⟨rfl, hn⟩ | ⟨g, cap, cur, rfl, hbase, hg, hcap, _, _, ht⟩
  · have : l = [] := List.eq_nil_of_length_eq_zero hn
    subst this
    exact ⟨0, none, 0, rfl, Nat.le_refl _, fun h => absurd rfl h, (fun j i hj => by simp at hj), hp⟩
  · refine ⟨g, _, cap, rfl, hcap, fun _ => rfl, fun j i hj hi => ?_, hp⟩
    have e1 := cellsR_get l j i hj hi
    have hi' : i < l[j].row.length := by rw [row_len]; exact hi
    rw [List.getElem?_eq_getElem hi'] at e1 ⊢
    have h1 := h.row.cells (g := g) rfl _ _ e1
    rw [addr_add, Nat.zero_add] at h1
    exact h1
theorem SeesQ.below {w w' : World} {v : Value} {l : List RqE} (h : SeesQ w v l) (hb : Below w.heap.size w w') : SeesQ w' v l := by
  obtain ⟨b, ao, cap, hv, hc, ha, hcell, hp⟩ := h
  refine ⟨b, ao, cap, hv, hc, ha, fun j i hj hi => ?_, fun e he => ⟨(hp e he).1.below hb, (hp e he).2.below hb⟩⟩
  have h1 := hcell j i hj hi
  have hi' : i < l[j].row.length := by rw [row_len]; exact hi
  rw [List.getElem?_eq_getElem hi'] at h1 ⊢
  exact (hb.cell (World.block_lt_of_cell? w _ h1)).trans h1
theorem pair_not_req : (73 : TypeId) ≠ 36 := by decide
/-- Rows of pairs stand apart from a row of requests. -/
theorem apart_pq {w : World} {base base' : Nat} {u v : Value} {l : List PairL} {n : Nat} {xs : List Value} (h : OwnsP w base u l) (k : w.ownsRow base' 36 8 v n xs) : ∀ g, u.ownBlock = some g → v.ownBlock ≠ some g := by
  intro g hg e
  rcases h.2 with ⟨rfl, _⟩ | ⟨g1, c1, cur1, rfl, _, hg1, _⟩
  · simp [Value.ownBlock] at hg
  · rcases k.2 with ⟨rfl, _⟩ | ⟨g2, c2, cur2, rfl, _, hg2, _⟩
    · simp [Value.ownBlock] at e
    · simp [Value.ownBlock] at hg e
      subst hg
      subst e
      rw [hg1] at hg2
      injection hg2 with hg2
      injection hg2 with _ h2 _
      exact pair_not_req h2
theorem OwnsP.grown {w w' : World} {base : Nat} {u : Value} {l : List PairL} {r : Option Nat} (h : OwnsP w base u l) (hg : w.grownBy w' r) (ha : ∀ g, u.ownBlock = some g → r ≠ some g) : OwnsP w' base u l := by
  refine ⟨h.1, ?_⟩
  rcases h.2 with hn | ⟨g, cap, cur, rfl, hbase, hg1, rest⟩
  · exact Or.inl hn
  · refine Or.inr ⟨g, cap, cur, rfl, hbase, ?_, rest⟩
    rw [hg.block g (Array.getElem?_eq_some_iff.1 hg1).1 (fun e => ha g (by simp [Value.ownBlock]) e.symm)]
    exact hg1
theorem Tryz.infoR : (Tryz.prog.info? 36).map (fun i => (i.zero, i.size, i.bytes)) = some (some (.agg #[.string ⟨#[]⟩, .string ⟨#[]⟩, .int .i64 0, .slice none 0 0, .string ⟨#[]⟩, .slice none 0 0, .string ⟨#[]⟩, .bool false]), 8, 128) := by kernel_rfl
theorem news_row (w : World) (e : RqE) (t : TypeId) : ∀ j u, (cellsR [e])[j]? = some u → (w.alloc (.cells #[.string ⟨e.q.head.1.toArray⟩, .string ⟨e.q.head.2.1.toArray⟩, .int .i64 e.q.head.2.2.1, e.vf, .string ⟨e.q.path.toArray⟩, e.vq, .string ⟨e.q.body.toArray⟩, .bool e.q.close] t)).cell? ((⟨w.heap.size, 0, none⟩ : Addr).add j) = some u :=
  World.news_of_block (heap_alloc_new w _)
theorem news_atQ (w : World) (g : Nat) (hg : g = w.heap.size) (e : RqE) (t : TypeId) : ∀ j u, (cellsR [e])[j]? = some u → (w.alloc (.cells #[.string ⟨e.q.head.1.toArray⟩, .string ⟨e.q.head.2.1.toArray⟩, .int .i64 e.q.head.2.2.1, .slice e.af e.q.head.2.2.2.length e.cf, .string ⟨e.q.path.toArray⟩, .slice e.aq e.q.query.length e.cq, .string ⟨e.q.body.toArray⟩, .bool e.q.close] t)).cell? ((⟨g, 0, none⟩ : Addr).add j) = some u := by
  subst hg
  exact news_row w e t
theorem wpList_appQ {w : World} {ops : Array Oper} {rest : List Oper} {o : Oper} {a : Act} {Q : Exit → Act → World → Prop} (hgd : o.guard = none) (s x : Operand)
    (ho : o.op = .call { callee := .builtin .append, args := #[s, x], argTypes := #[45, 45] }) (base : Nat) (v : Value) (l : List RqE) (hs : a.eval s = v) (hown : OwnsQ w base v l) (b : Nat) (e : RqE)
    (hx : a.eval x = .slice (some ⟨b, 0, none⟩) 1 1) (hsee : ∀ j u, (cellsR [e])[j]? = some u → w.cell? ((⟨b, 0, none⟩ : Addr).add j) = some u) (hpe : OwnsP w base e.vf e.q.head.2.2.2 ∧ OwnsP w base e.vq e.q.query)
    (hb : (l.length + 1) * 128 ≤ 140737488355328) (hbase : base ≤ w.heap.size)
    (h : ∀ v' w', OwnsQ w' base v' (l ++ [e]) → w.grownBy w' v.ownBlock → wpList Tryz.prog ops Q rest (a.put o.dst v') w') : wpList Tryz.prog ops Q (o :: rest) a w := by
  obtain ⟨i0, hi, hz0, hz1, hz2⟩ := info_parts Tryz.infoR
  have hmx : l.length + 1 ≤ maxLen := by simp only [maxLen]; omega
  obtain ⟨g, cap', w', hr, h1, h2, _, _⟩ := run_append_lies (P := Tryz.prog) w 45 o.type base 36 i0 _ 8 128 Tryz.underlying45 hi hz0 hz1 hz2 (by decide) (by decide) v _ _ hown.row ⟨b, 0, none⟩ 1 1 (cellsR [e]) rfl hsee (cellsR_one _) (by decide) hmx hb hbase _ rfl
  refine wpList_plain hgd fun K hK => ?_
  unfold Oper.wp execOp
  simp only [ho, resolve, invoke, builtin, Sem.run_bind, Sem.run_pure, Result.andThen_ok, List.map_toArray, List.map_cons, List.map_nil, hs, hx, hr]
  refine hK _ _ (h _ w' ⟨by simpa [cellsR_app] using h1, fun e' he => ?_⟩ h2)
  rcases List.mem_append.1 he with he | he
  · exact ⟨OwnsP.grown (hown.parts e' he).1 h2 (apart_pq (hown.parts e' he).1 hown.row), OwnsP.grown (hown.parts e' he).2 h2 (apart_pq (hown.parts e' he).2 hown.row)⟩
  · rw [List.mem_singleton] at he
    subst he
    exact ⟨OwnsP.grown hpe.1 h2 (apart_pq hpe.1 hown.row), OwnsP.grown hpe.2 h2 (apart_pq hpe.2 hown.row)⟩
theorem OwnsR.elem {w : World} {base : Nat} {v : Value} {q : ReqL} (h : OwnsR w base v q) : ∃ e : RqE, e.q = q ∧ v = e.val ∧ OwnsP w base e.vf e.q.head.2.2.2 ∧ OwnsP w base e.vq e.q.query := by
  obtain ⟨vf, vq, rfl, h1, h2⟩ := h
  obtain ⟨af, cf, rfl⟩ := h1.shape
  obtain ⟨aq, cq, rfl⟩ := h2.shape
  exact ⟨⟨q, af, cf, aq, cq⟩, rfl, rfl, h1, h2⟩
end Go.Proofs.YtllhibdjopfcnaaGreatDoor

namespace Go.Proofs.YtllhibdjopfcnaaGreatDoor
open Go.RowKit
set_option linter.unusedVariables false

theorem firT_stat {T : Tell ReqL} {t : Int} (h : T = (.error (some t))) : firT T = (rz, 0, t) := by rw [h]; rfl
set_option maxRecDepth 20000 in
set_option maxHeartbeats 8000000 in
theorem all_any (L : List UInt8) (w : World) (hM : ML w) (hs : L.length ≤ 1000000000) :
    Calls Tryz.prog 16 #[.string ⟨L.toArray⟩] w fun e w' => ∃ v es, e = .returned (.tuple #[v, .int .i64 (allL L).2]) ∧ OwnsQ w' w.heap.size v es ∧ es.map RqE.q = (allL L).1 ∧ Below w.heap.size w w' := by
  obtain ⟨A, hA⟩ : ∃ A, A = allL L := ⟨_, rfl⟩
  rw [← hA]
  have HA := hid hA
  have hgl := hM.lt
  have HM := hid hM
  clear hA hM
  go_enter Tryz.func16, Tryz.ntmps16
  go_wp2_with fail
  go_loopw [0, 4] (fun sv out wr => ∃ (m : Nat) (es : List RqE), m ≤ L.length ∧ sv = .string ⟨(L.drop m).toArray⟩ ∧ OwnsQ wr w.heap.size out es ∧ es.length ≤ m ∧ A = (es.map RqE.q ++ (allL (L.drop m)).1, (allL (L.drop m)).2) ∧ Below w.heap.size w wr) (fun sv _ _ => match sv with | .string s => s.size | _ => 0)
  case atStart =>
    refine ⟨0, [], Nat.zero_le _, rfl, OwnsQ.nil _ _, Nat.le_refl _, ?_, Below.refl _ _⟩
    rw [HA.out]
    rfl
  case round =>
    obtain ⟨m, es, hm, rfl, hO, hel, hEq, hB⟩ := hrel
    obtain ⟨M, hMe⟩ : ∃ M, M = L.drop m := ⟨_, rfl⟩
    have hMl : M.length ≤ 1000000000 := by rw [hMe, List.length_drop]; omega
    have hMm : m + M.length = L.length := by rw [hMe, List.length_drop]; omega
    rw [← hMe] at hEq ⊢
    obtain ⟨s, hse⟩ : ∃ s : ByteArray, s = ⟨M.toArray⟩ := ⟨_, rfl⟩
    have hsz : s.size = M.length := by rw [hse, size_list]
    obtain ⟨c, hc⟩ : ∃ c, c = min M.length 65536 := ⟨_, rfl⟩
    have hx : s.extract 0 c = ⟨(M.take 65536).toArray⟩ := by
      rw [hse, extract_list]
      simp only [List.drop_zero, Nat.sub_zero]
      congr 2
      rw [hc]
      rcases Nat.le_total M.length 65536 with h | h
      · rw [Nat.min_eq_left h, List.take_of_length_le (Nat.le_refl _), List.take_of_length_le h]
      · rw [Nat.min_eq_right h]
    have hF := first_any (M.take 65536) wr (HM.out.below hB hgl) (by rw [List.length_take]; omega)
    rw [← hx] at hF
    have hst := allL_step M
    obtain ⟨T, hT⟩ : ∃ T, T = firstL (M.take 65536) := ⟨_, rfl⟩
    rw [← hT] at hF hst
    have HT := hid hT
    have hmin : min (s.size : Int) 65536 = (c : Int) := by omega
    have hcs : (c : Int) ≤ (s.size : Int) := by omega
    rw [← hse]
    have HO := hid hO
    have HB := hid hB
    have HSE := hid hse
    have HEQ := hid hEq
    have HST := hid hst
    have HSZ := hid hsz
    have HMM := hid hMm
    have HME := hid hMe
    obtain ⟨ao, cap, rfl⟩ := hO.shape
    have hsb := hB.size
    clear hO hB hse hEq hst hT hx hc hMe hsz hMm
    go_wp2_with fail
    refine hF.mono ?_
    clear hF
    rintro e w2 ⟨v, rfl, hR, hB2⟩
    obtain ⟨e1, he1, rfl, hp1⟩ := hR.elem
    have hsz2 := hB2.size
    have HB2 := hid (HB.out.trans (hB2.mono hsb))
    have HO2 := hid (HO.out.below hB2)
    have HP2 := hid hp1
    have HE1 := hid he1
    clear hR hp1 hB2 he1 HB HO
    simp only [RqE.val, reqV, RqE.vf, RqE.vq]
    have HB3 := hid (HB2.out.trans ((below_alloc w2 (.cells #[.string ⟨e1.q.head.1.toArray⟩, .string ⟨e1.q.head.2.1.toArray⟩, .int .i64 e1.q.head.2.2.1, .slice e1.af e1.q.head.2.2.2.length e1.cf, .string ⟨e1.q.path.toArray⟩, .slice e1.aq e1.q.query.length e1.cq, .string ⟨e1.q.body.toArray⟩, .bool e1.q.close] 36)).mono HB2.out.size))
    have HO3 := hid (HO2.out.below (below_alloc w2 (.cells #[.string ⟨e1.q.head.1.toArray⟩, .string ⟨e1.q.head.2.1.toArray⟩, .int .i64 e1.q.head.2.2.1, .slice e1.af e1.q.head.2.2.2.length e1.cf, .string ⟨e1.q.path.toArray⟩, .slice e1.aq e1.q.query.length e1.cq, .string ⟨e1.q.body.toArray⟩, .bool e1.q.close] 36)))
    match hTc : T with
    | .error (some t) =>
      have HT4 := hid (first_stat (show firstL (M.take 65536) = (.error (some t)) by first | rw [← HT.out, hTc] | rw [← HT.out]))
      have hst := HST.out
      (try rw [hTc] at hst)
      simp only at hst
      have ft : (t != 0) = true := by rw [bne_iff_ne]; exact stat4_ne HT4.out
      have HE : Hid (A = (es.map RqE.q, t)) := by
        unfold Hid
        rw [HEQ.out, hst]
        simp
      simp only [firT]
      clear hTc hst HT HST HEQ HT4 HE1
      go_wp2
      go_ret2
      rw [HE.out]
      exact ⟨_, es, rfl, HO3.out, rfl, HB3.out⟩
    | .error none =>
      have hst := HST.out
      (try rw [hTc] at hst)
      simp only at hst
      simp only [firT]
      by_cases hl : 65536 < M.length
      · have fl : decide ((65536 : Int) < (s.size : Int)) = true := by have := HSZ.out; simp; omega
        have HE : Hid (A = (es.map RqE.q, 413)) := by
          unfold Hid
          rw [HEQ.out, hst, if_pos hl]
          simp
        clear hTc hst HT HST HEQ HE1 hl
        go_wp2
        go_ret2
        rw [HE.out]
        exact ⟨_, es, rfl, HO3.out, rfl, HB3.out⟩
      · have fl : decide ((65536 : Int) < (s.size : Int)) = false := by have := HSZ.out; simp; omega
        have HE : Hid (A = (es.map RqE.q, 0)) := by
          unfold Hid
          rw [HEQ.out, hst, if_neg hl]
          simp
        clear hTc hst HT HST HEQ HE1 hl
        go_wp2
        go_ret2
        rw [HE.out]
        exact ⟨_, es, rfl, HO3.out, rfl, HB3.out⟩
    | .ok (q, n) =>
      have hn := firstL_got (show firstL (M.take 65536) = (.ok (q, n)) by first | rw [← HT.out, hTc] | rw [← HT.out])
      rw [List.length_take] at hn
      have hst := HST.out
      (try rw [hTc] at hst)
      simp only at hst
      have fn : ((n : Int) == 0) = false := by rw [beq_eq_false_iff_ne]; omega
      have hns : (n : Int) ≤ (s.size : Int) := by have := HSZ.out; omega
      have hq : e1.q = q := by have := HE1.out; (try rw [hTc] at this); exact this
      have hmm := HMM.out
      have hdd : L.drop (m + n) = M.drop n := by rw [HME.out, List.drop_drop]
      have HE : Hid (A = ((es ++ [e1]).map RqE.q ++ (allL (L.drop (m + n))).1, (allL (L.drop (m + n))).2)) := by
        unfold Hid
        rw [HEQ.out, hst, hdd, List.map_append, List.map_singleton, hq]
        simp
      have HN := hid (show m + n ≤ L.length ∧ es.length + 1 ≤ m + n ∧ 4 ≤ n by omega)
      have hcap : (es.length + 1) * 128 ≤ 140737488355328 := by omega
      have HXN : Hid (s.extract n s.size = ⟨(L.drop (m + n)).toArray⟩) := by
        unfold Hid
        rw [hdd, HSZ.out, HSE.out, extract_list, List.take_of_length_le (by simp)]
      simp only [firT]
      have hal := ReqAt.new w2 (.string ⟨e1.q.head.1.toArray⟩) (.string ⟨e1.q.head.2.1.toArray⟩) (.int .i64 e1.q.head.2.2.1) (.slice e1.af e1.q.head.2.2.2.length e1.cf) (.string ⟨e1.q.path.toArray⟩) (.slice e1.aq e1.q.query.length e1.cq) (.string ⟨e1.q.body.toArray⟩) (.bool e1.q.close)
      obtain ⟨y0, y1, y2, y3, y4, y5, y6, y7⟩ := hal.cells
      have hB34 := below_alloc w2 (.cells #[.string ⟨e1.q.head.1.toArray⟩, .string ⟨e1.q.head.2.1.toArray⟩, .int .i64 e1.q.head.2.2.1, .slice e1.af e1.q.head.2.2.2.length e1.cf, .string ⟨e1.q.path.toArray⟩, .slice e1.aq e1.q.query.length e1.cq, .string ⟨e1.q.body.toArray⟩, .bool e1.q.close] 36)
      clear hTc hst HT HST HEQ HE1 hdd hmm hq hn hal
      have hsb2 : w.heap.size ≤ w2.heap.size := by omega
      go_wp2_with (first | (at_builtin; refine wpList_appQ rfl _ _ rfl w.heap.size (.slice ao es.length cap) es rfl ?ho _ e1 rfl ?hs ?hp hcap ?hbase ?_; (case hs => exact news_atQ _ _ (by simp) e1 36); (case ho => exact HO3.out.below (below_alloc _ _)); (case hp => exact ⟨OwnsP.low (OwnsP.below (OwnsP.below HP2.out.1 hB34) (below_alloc _ _)) hsb, OwnsP.low (OwnsP.below (OwnsP.below HP2.out.2 hB34) (below_alloc _ _)) hsb⟩); (case hbase => simp; omega); intro v4 w4 hO4 hG4))
      have HB4 : Hid (Below w.heap.size w w4) := by
        unfold Hid
        exact below_grownBy (HB3.out.trans ((below_alloc _ _).mono HB3.out.size)) hG4 (OwnsQ.block HO3.out) (by simp; omega)
      have HO4 := hid hO4
      clear hO4 hG4
      go_wp2
      go_roundw
      case rel => exact ⟨m + n, es ++ [e1], HN.out.1, by rw [← HXN.out], HO4.out, by have := HN.out; simp; omega, HE.out, HB4.out⟩
      case measure =>
        have h1 := HN.out
        have h2 := HSZ.out
        have h3 := HMM.out
        have h4 : (s.extract n s.size).size = L.length - (m + n) := by rw [HXN.out, size_list, List.length_drop]
        simp only [h4]
        omega

set_option maxRecDepth 20000 in
set_option maxHeartbeats 4000000 in
theorem awakeP_any (w : World) (hM : ML w) : Calls Tryz.prog 15 #[] w fun e w' => e = .returned (.bool true) ∧ Below w.heap.size w w' := by
  have hA := all_any awS w hM (by decide)
  have hC := fun w => chunksN_any awC 0 w (by decide) (by decide)
  rw [aw_chunks] at hC
  rw [aw_all] at hA
  simp only at hA
  simp only [chkV, chkT] at hC
  rw [show (⟨awS.toArray⟩ : ByteArray) = ⟨#[71, 69, 84, 32, 47, 120, 32, 72, 84, 84, 80, 47, 49, 46, 49, 13, 10, 72, 111, 115, 116, 58, 32, 97, 13, 10, 13, 10, 71, 69, 84, 32, 47, 120, 32, 72, 84, 84, 80, 47, 49, 46, 49, 13, 10, 72, 111, 115, 116, 58, 32, 97, 13, 10, 13, 10, 120]⟩ from rfl] at hA
  rw [show (⟨awC.toArray⟩ : ByteArray) = ⟨#[51, 13, 10, 97, 98, 99, 13, 10, 48, 13, 10, 13, 10]⟩ from rfl, show (((0 : Nat) : Int)) = 0 from rfl] at hC
  go_enter Tryz.func15, Tryz.ntmps15
  go_wp2_with fail
  refine hA.mono ?_
  clear hA
  rintro e w1 ⟨v, es, rfl, hO, hq, hB1⟩
  have hpath : es.map (fun e => e.q.path) = [[47, 120], [47, 120]] := by
    have h := congrArg (List.map ReqL.path) hq
    rw [List.map_map, aw_reqs] at h
    exact h
  obtain ⟨e1, e2, rfl⟩ : ∃ e1 e2, es = [e1, e2] := by
    have hl : es.length = 2 := by
      have h := congrArg List.length hpath
      rw [List.length_map] at h
      exact h
    match es, hl with
    | [e1, e2], _ => exact ⟨e1, e2, rfl⟩
  have hp2 : e2.q.path = [47, 120] := by
    rw [List.map_cons, List.map_cons, List.map_nil] at hpath
    injection hpath with _ h
    injection h with h _
  have HO := hid hO
  obtain ⟨ao, cap, rfl⟩ := hO.shape
  have HB1 := hid hB1
  clear hO hq hB1 hpath
  go_wp2_with fail
  refine (hC _).mono ?_
  clear hC
  rintro e w2 ⟨rfl, hB2⟩
  have HB2 := hid (HB1.out.trans (hB2.mono HB1.out.size))
  obtain ⟨b, ao', cap', hv, hcap, hao, hcell, _⟩ := (HO.out.below hB2).sees
  injection hv with hv1 _ hv3
  have := hao (by simp)
  rw [this] at hv1
  subst hv1
  subst hv3
  have c4 := hcell 1 4 (by simp) (by decide)
  simp only [List.getElem_cons_succ, List.getElem_cons_zero, RqE.row, List.getElem?_cons_succ, List.getElem?_cons_zero, hp2] at c4
  have hcp : (1 : Int) < ((2 : Nat) : Int) := by decide
  simp only [List.length_cons, List.length_nil] at hcap ⊢
  clear HO HB1 hB2 hcell hao this hp2
  go_wp2
  go_ret
  exact ⟨rfl, HB2.out⟩
end Go.Proofs.YtllhibdjopfcnaaGreatDoor

namespace Go.Proofs.YtllhibdjopfcnaaGreatDoor
open Go.RowKit
set_option linter.unusedVariables false

theorem str_join (a b : List UInt8) : (⟨a.toArray⟩ : ByteArray) ++ ⟨b.toArray⟩ = ⟨(a ++ b).toArray⟩ := by
  apply ByteArray.ext
  simp [ByteArray.data_append]
set_option maxRecDepth 20000 in
set_option maxHeartbeats 8000000 in
theorem rchunksN_any (L : List UInt8) (k : Nat) (w : World) (hs : L.length ≤ 140737488355328) (hk : k ≤ L.length) :
    Calls Tryz.prog 45 #[.string ⟨L.toArray⟩, .int .i64 (k : Int)] w fun e w' => e = .returned (chkV (chkT k (chunksL (L.length + 1) [] (L.drop k)))) ∧ w = w' := by
  have hLf := Left.start hk
  obtain ⟨T, hT⟩ : ∃ T, T = chunksL (L.length + 1) [] (L.drop k) := ⟨_, rfl⟩
  rw [← hT] at hLf ⊢
  obtain ⟨s, hse⟩ : ∃ s : ByteArray, s = ⟨L.toArray⟩ := ⟨_, rfl⟩
  have hsz : s.size = L.length := by rw [hse, size_list]
  have HSi := hid (fun (k : Nat) (hk : k ≤ L.length) => size_any L k w hk hs)
  have HEn := hid (fun (i n : Nat) (hi : i ≤ L.length) => ended_any L i n w hi hs)
  rw [← hse] at HSi HEn ⊢
  have f1 : ¬ (k : Int) < 0 := by omega
  have f2 : ¬ (s.size : Int) < (k : Int) := by omega
  have f2n : ¬ s.size < k := by omega
  have HLf := hid hLf
  have HSE := hid hse
  have HSZ := hid hsz
  clear hT hLf hse hsz
  go_enter Tryz.func45, Tryz.ntmps45
  go_wp2_with fail
  clear f1 f2 f2n
  go_loop [1, 8] (fun at' body => ∃ (c : Nat) (B : List UInt8), at' = .int .i64 (c : Int) ∧ body = .string ⟨B.toArray⟩ ∧ Left T L k c B) (fun at' _ => s.size + 1 - (intOf at').toNat)
  case atStart => exact ⟨k, [], rfl, rfl, HLf.out⟩
  case round =>
    obtain ⟨c, B, rfl, rfl, hL⟩ := hrel
    have hcL := hL.2.1
    have hkc := hL.1
    have hB16 := hL.2.2.1
    have hSi := HSi.out c hcL
    have HL := hid hL
    have hsz := HSZ.out
    clear hL
    rcases hz : sizeL (L.drop c) with (_ | st) | ⟨n, m⟩
    · rw [hz] at hSi
      simp only [szV] at hSi
      have HT := hid (HL.out.more hz)
      clear hz
      go_wp2_with fail
      refine hSi.mono ?_
      clear hSi
      rintro e w1 ⟨rfl, hw1⟩
      subst hw1
      go_wp2
      (try simp only [Exit.inBlock, Exit.then])
      refine bodyPost_ret (results_tmp4 rfl _ _ _) rfl ?_
      rw [HT.out]
      exact ⟨rfl, rfl⟩
    · rw [hz] at hSi
      simp only [szV] at hSi
      have h400 := sizeL_bad hz
      have HT := hid (HL.out.bad hz)
      clear hz
      go_wp2_with fail
      refine hSi.mono ?_
      clear hSi
      rintro e w1 ⟨rfl, hw1⟩
      subst hw1
      go_wp2
      (try simp only [Exit.inBlock, Exit.then])
      refine bodyPost_ret (results_tmp4 rfl _ _ _) rfl ?_
      rw [HT.out, h400]
      exact ⟨rfl, rfl⟩
    · rw [hz] at hSi
      simp only [szV] at hSi
      have hgm := sizeL_got hz
      rw [List.length_drop] at hgm
      obtain ⟨q, hq⟩ : ∃ q, q = c + m := ⟨_, rfl⟩
      rw [show (c : Int) + (m : Int) = (q : Int) by omega] at hSi
      have hqL : q ≤ L.length := by omega
      have f1 : ((q : Int) == -1) = false := by rw [beq_eq_false_iff_ne]; omega
      have f2 : ((q : Int) == -2) = false := by rw [beq_eq_false_iff_ne]; omega
      obtain ⟨bs, hbs⟩ : ∃ bs : ByteArray, bs = ⟨B.toArray⟩ := ⟨_, rfl⟩
      have hbz : bs.size = B.length := by rw [hbs, size_list]
      rw [← hbs]
      obtain ⟨r, hr⟩ : ∃ r : Nat, r = 16384 - bs.size := ⟨_, rfl⟩
      have hsub : (16384 : Int) - (bs.size : Int) = (r : Int) := by omega
      by_cases hbig : 16384 < n + B.length
      · have f3 : r < n := by omega
        have f3d : decide (r < n) = true := by simp; omega
        have HT := hid (HL.out.large hz hbig)
        clear hz hr hbz hq hgm hbs hsz
        go_wp2_with fail
        refine hSi.mono ?_
        clear hSi
        rintro e w1 ⟨rfl, hw1⟩
        subst hw1
        go_wp2
        (try simp only [Exit.inBlock, Exit.then])
        refine bodyPost_ret (results_tmp4 rfl _ _ _) rfl ?_
        rw [HT.out]
        exact ⟨rfl, rfl⟩
      · have f3 : ¬ r < n := by omega
        have f3d : decide (r < n) = false := by simp; omega
        obtain ⟨t, ht⟩ : ∃ t : Nat, t = s.size - q := ⟨_, rfl⟩
        have hsub2 : (s.size : Int) - (q : Int) = (t : Int) := by omega
        have ht47 : (t : Int) ≤ 140737488355328 := by omega
        have hs47 : (s.size : Int) ≤ 140737488355328 := by omega
        by_cases hlong : L.length < q + n
        · have f4 : t < n := by omega
          have f4d : decide (t < n) = true := by simp; omega
          have HT := hid (HL.out.short hz hbig (by omega))
          clear hz hr hbz hq hgm ht hlong hbig hbs hsz
          go_wp2_with fail
          refine hSi.mono ?_
          clear hSi
          rintro e w1 ⟨rfl, hw1⟩
          subst hw1
          go_wp2
          (try simp only [Exit.inBlock, Exit.then])
          refine bodyPost_ret (results_tmp4 rfl _ _ _) rfl ?_
          rw [HT.out]
          exact ⟨rfl, rfl⟩
        · have f4 : ¬ t < n := by omega
          have f4d : decide (t < n) = false := by simp; omega
          obtain ⟨e, he⟩ : ∃ e, e = q + n := ⟨_, rfl⟩
          have hadd : (q : Int) + (n : Int) = (e : Int) := by omega
          have hqe : (q : Int) ≤ (e : Int) := by omega
          have hes : (e : Int) ≤ (s.size : Int) := by omega
          have hx : s.extract q e = ⟨((L.drop q).take n).toArray⟩ := by
            rw [HSE.out, extract_list, show e - q = n by omega]
          have hxz : (s.extract q e).size ≤ 140737488355328 := by
            rw [hx, size_list, List.length_take]
            omega
          have hsmall : ¬ 9223372036854775807 < bs.size + (s.extract q e).size := by omega
          have hcat : bs ++ s.extract q e = ⟨(B ++ (L.drop q).take n).toArray⟩ := by rw [hbs, hx, str_join]
          have hE := HEn.out e 0 (by omega)
          have hLe := HL.out.eol hz hbig (by omega)
          rw [← hq, ← he] at hLe
          have HCAT := hid hcat
          have hkq := HL.out.1
          have HKE := hid (show k ≤ e ∧ c + 2 ≤ e + 2 ∧ e + 2 - k + k = e + 2 ∧ c < e ∧ q + 2 - k + k = q + 2 ∧ k ≤ q by omega)
          rcases eol_cases (L.drop e) with ⟨_, e3⟩ | ⟨_, _, e3⟩ | ⟨_, _, e3⟩
          · rw [e3] at hE
            simp only [eoV] at hE
            have he2 : e + 2 ≤ L.length := by
              have := eolL_got e3
              rw [List.length_drop] at this
              omega
            obtain ⟨e2, he2'⟩ : ∃ e2, e2 = e + 2 := ⟨_, rfl⟩
            rw [show (e : Int) + 2 = (e2 : Int) by omega] at hE
            have f5 : ((e2 : Int) == -1) = false := by rw [beq_eq_false_iff_ne]; omega
            have f6 : ((e2 : Int) == -2) = false := by rw [beq_eq_false_iff_ne]; omega
            by_cases hn0 : n = 0
            · have f7 : ((n : Int) == 0) = true := by rw [beq_iff_eq]; omega
              have HT := hid (hLe.2.2.1 hn0 e3)
              have HQ := hid (show q + 2 = e2 by omega)
              have HB0 : Hid (bs ++ s.extract q e = ⟨B.toArray⟩) := by
                unfold Hid
                rw [HCAT.out, hn0]
                simp
              clear hz hr hbz hq hgm ht hlong hbig he hx hxz hcat hLe e3 he2' hn0 hbs hsz
              go_wp2_with fail
              refine hSi.mono ?_
              clear hSi
              rintro e' w1 ⟨rfl, hw1⟩
              subst hw1
              go_wp2_with fail
              refine hE.mono ?_
              clear hE
              rintro e' w1 ⟨rfl, hw1⟩
              subst hw1
              go_wp2
              (try simp only [Exit.inBlock, Exit.then])
              refine bodyPost_ret (results_tmp4 rfl _ _ _) rfl ?_
              rw [HT.out, HB0.out]
              refine ⟨?_, rfl⟩
              have h1 := HQ.out
              have h2 := HKE.out
              have h3 : k + (q + 2 - k) = e2 := by omega
              rw [chkT, h3]
              rfl
            · have f7 : ((n : Int) == 0) = false := by rw [beq_eq_false_iff_ne]; omega
              have HN := hid (hLe.2.2.2 hn0 e3)
              have HE2 := hid he2'
              have HMe := hid (show c < e2 ∧ c ≤ s.size by omega)
              clear hz hr hbz hq hgm ht hlong hbig he hx hxz hcat hLe e3 he2' hn0 hbs hsz
              go_wp2_with fail
              refine hSi.mono ?_
              clear hSi
              rintro e' w1 ⟨rfl, hw1⟩
              subst hw1
              go_wp2_with fail
              refine hE.mono ?_
              clear hE
              rintro e' w1 ⟨rfl, hw1⟩
              subst hw1
              go_wp2
              go_round
              case rel => exact ⟨e2, _, rfl, by rw [HCAT.out], by rw [HE2.out]; exact HN.out⟩
              case measure => have := HMe.out; simp [intOf]; omega
          · rw [e3] at hE
            simp only [eoV] at hE
            have HT := hid (hLe.1 e3)
            clear hz hr hbz hq hgm ht hlong hbig he hx hxz hcat hLe e3 hbs hsz
            go_wp2_with fail
            refine hSi.mono ?_
            clear hSi
            rintro e' w1 ⟨rfl, hw1⟩
            subst hw1
            go_wp2_with fail
            refine hE.mono ?_
            clear hE
            rintro e' w1 ⟨rfl, hw1⟩
            subst hw1
            go_wp2
            (try simp only [Exit.inBlock, Exit.then])
            refine bodyPost_ret (results_tmp4 rfl _ _ _) rfl ?_
            rw [HT.out]
            exact ⟨rfl, rfl⟩
          · rw [e3] at hE
            simp only [eoV] at hE
            have HT := hid (hLe.2.1 _ e3)
            clear hz hr hbz hq hgm ht hlong hbig he hx hxz hcat hLe e3 hbs hsz
            go_wp2_with fail
            refine hSi.mono ?_
            clear hSi
            rintro e' w1 ⟨rfl, hw1⟩
            subst hw1
            go_wp2_with fail
            refine hE.mono ?_
            clear hE
            rintro e' w1 ⟨rfl, hw1⟩
            subst hw1
            go_wp2
            (try simp only [Exit.inBlock, Exit.then])
            refine bodyPost_ret (results_tmp4 rfl _ _ _) rfl ?_
            rw [HT.out]
            exact ⟨rfl, rfl⟩
set_option maxRecDepth 20000 in
theorem chunks_out (s : ByteArray) (at' : Int) (w : World) (h : at' < 0 ∨ (s.size : Int) < at') :
    Calls Tryz.prog 32 #[.string s, .int .i64 at'] w fun e w' => e = .returned (chkV ([], 0, false, 400)) ∧ w = w' := by
  rcases h with h | h
  · have f1 : decide (at' < 0) = true := by simp; omega
    go_enter Tryz.func32, Tryz.ntmps32
    go_wp2
    (try simp only [Exit.inBlock, Exit.then])
    refine bodyPost_ret (results_tmp4 rfl _ _ _) rfl ?_
    exact ⟨rfl, rfl⟩
  · have h2 : ¬ at' < 0 := by omega
    have f1 : decide (at' < 0) = false := by simp; omega
    have f2 : decide ((s.size : Int) < at') = true := by simp; omega
    go_enter Tryz.func32, Tryz.ntmps32
    go_wp2
    (try simp only [Exit.inBlock, Exit.then])
    refine bodyPost_ret (results_tmp4 rfl _ _ _) rfl ?_
    exact ⟨rfl, rfl⟩
set_option maxRecDepth 20000 in
theorem rchunks_out (s : ByteArray) (at' : Int) (w : World) (h : at' < 0 ∨ (s.size : Int) < at') :
    Calls Tryz.prog 45 #[.string s, .int .i64 at'] w fun e w' => e = .returned (chkV ([], 0, false, 400)) ∧ w = w' := by
  rcases h with h | h
  · have f1 : decide (at' < 0) = true := by simp; omega
    go_enter Tryz.func45, Tryz.ntmps45
    go_wp2
    (try simp only [Exit.inBlock, Exit.then])
    refine bodyPost_ret (results_tmp4 rfl _ _ _) rfl ?_
    exact ⟨rfl, rfl⟩
  · have h2 : ¬ at' < 0 := by omega
    have f1 : decide (at' < 0) = false := by simp; omega
    have f2 : decide ((s.size : Int) < at') = true := by simp; omega
    go_enter Tryz.func45, Tryz.ntmps45
    go_wp2
    (try simp only [Exit.inBlock, Exit.then])
    refine bodyPost_ret (results_tmp4 rfl _ _ _) rfl ?_
    exact ⟨rfl, rfl⟩
end Go.Proofs.YtllhibdjopfcnaaGreatDoor

namespace Go.Proofs.YtllhibdjopfcnaaGreatDoor
open Go.RowKit
set_option linter.unusedVariables false

def hdV : Option Nat → Int
  | none => -1
  | some n => (n : Int)
theorem endH_short : ∀ {l : List UInt8}, l.length < 4 → endH l = none
  | [], _ => rfl
  | a :: r, h => by
    rw [endH_cons, if_neg, endH_short (by simp at h; omega)]
    · rfl
    · intro e
      have := congrArg List.length e
      simp at this h
      omega
theorem endH_drop (L : List UInt8) (k : Nat) (hk : k < L.length) : endH (L.drop k) = if (L.drop k).take 4 = [13, 10, 13, 10] then some 4 else (endH (L.drop (k + 1))).map (· + 1) := by
  rw [List.drop_eq_getElem_cons hk, endH_cons]
set_option maxRecDepth 20000 in
set_option maxHeartbeats 4000000 in
theorem rhead_any (L : List UInt8) (w : World) (hs : L.length ≤ 140737488355328) :
    Calls Tryz.prog 26 #[.string ⟨L.toArray⟩] w fun e w' => e = .returned (.int .i64 (hdV (endH L))) ∧ w = w' := by
  obtain ⟨R, hR⟩ : ∃ R, R = endH L := ⟨_, rfl⟩
  rw [← hR]
  have HR := hid hR
  obtain ⟨s, hse⟩ : ∃ s : ByteArray, s = ⟨L.toArray⟩ := ⟨_, rfl⟩
  have HSZ : Hid (s.size = L.length) := hid (by rw [hse, size_list])
  have HSE := hid hse
  have hss : s.size ≤ 140737488355328 := by rw [hse, size_list]; exact hs
  rw [← hse]
  clear hR hse hs
  go_enter Tryz.func26, Tryz.ntmps26
  go_wp2_with fail
  go_loop [3] (fun i => ∃ k : Nat, i = .int .i64 (k : Int) ∧ Hid (k ≤ L.length ∧ R = (endH (L.drop k)).map (· + k))) (fun i => s.size + 1 - (intOf i).toNat)
  case atStart => exact ⟨0, rfl, hid ⟨Nat.zero_le _, by rw [HR.out, List.drop_zero]; cases endH L <;> simp⟩⟩
  case round =>
    obtain ⟨k, rfl, HI⟩ := hrel
    have hsz := HSZ.out
    have hkL := HI.out.1
    have hks : k ≤ s.size := by omega
    by_cases h4 : k + 4 ≤ L.length
    · have hle : (k : Int) + 4 ≤ (s.size : Int) := by omega
      have hx : s.extract k (k + 4) = ⟨((L.drop k).take 4).toArray⟩ := by
        rw [HSE.out, extract_list, show k + 4 - k = 4 by omega]
      have hd := endH_drop L k (by omega)
      by_cases he : (L.drop k).take 4 = [13, 10, 13, 10]
      · rw [if_pos he] at hd
        have HT : Hid (R = some (4 + k)) := hid (by rw [HI.out.2, hd]; rfl)
        rw [he] at hx
        clear he hd hsz hkL h4
        go_wp2
        go_ret
        rw [HT.out]
        exact ⟨by simp [hdV]; omega, rfl⟩
      · rw [if_neg he] at hd
        have HT : Hid (k + 1 ≤ L.length ∧ R = (endH (L.drop (k + 1))).map (· + (k + 1))) := hid ⟨by omega, by
          rw [HI.out.2, hd]
          cases endH (L.drop (k + 1)) <;> simp; omega⟩
        obtain ⟨x, hxe⟩ : ∃ x, x = s.extract k (k + 4) := ⟨_, rfl⟩
        have hne : (x.toList == [13, 10, 13, 10]) = false := by
          rw [hxe, hx, ByteArray.toList_eq, beq_eq_false_iff_ne]
          exact he
        have hxs : s.extract k (k + 4) = x := hxe.symm
        clear he hd hx hsz hkL h4 hxe
        go_wp2
        go_round
        case rel => exact ⟨k + 1, by go_num, HT⟩
        case measure => have := HSZ.out; have := HT.out.1; simp [intOf]; omega
    · have hle : ¬ (k : Int) + 4 ≤ (s.size : Int) := by omega
      have HT : Hid (R = none) := hid (by rw [HI.out.2, endH_short (by rw [List.length_drop]; omega)]; rfl)
      clear hsz hkL h4
      go_wp2
      go_ret
      rw [HT.out]
      exact ⟨rfl, rfl⟩
end Go.Proofs.YtllhibdjopfcnaaGreatDoor
