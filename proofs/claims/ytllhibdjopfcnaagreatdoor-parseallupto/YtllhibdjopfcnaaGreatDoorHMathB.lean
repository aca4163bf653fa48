/-
  Heads of requests: what is read was right lines, and right lines are read; what is printed.
-/
import Derived.Test.YtllhibdjopfcnaaGreatDoorHMath
namespace Go.Proofs.YtllhibdjopfcnaaGreatDoor
set_option linter.unusedVariables false

theorem madeL_iff {p : UInt8 → Bool} {l : List UInt8} : madeL p l = true ↔ l.all p = true ∧ l ≠ [] := by
  unfold madeL
  cases l <;> simp

/-! ### The request line -/
def verOf (n : Int) : List UInt8 := if n = 0 then v10 else v11
def reqText (h : HeadL) : List UInt8 := h.1 ++ 32 :: (h.2.1 ++ 32 :: verOf h.2.2.1)
structure ReqOk (h : HeadL) : Prop where
  m16 : h.1.length ≤ 16
  mLg : madeL isLg h.1 = true
  tVs : madeL isVs h.2.1 = true
  tOk : (tgt h.2.1).err = 0
  min : h.2.2.1 = 0 ∨ h.2.2.1 = 1
theorem verL_ok {v : List UInt8} (h : (verL v).2 = 0) : ((verL v).1 = 0 ∨ (verL v).1 = 1) ∧ v = verOf (verL v).1 := by
  unfold verL at *
  split
  · rename_i e; exact ⟨Or.inl rfl, e⟩
  · split
    · rename_i e; exact ⟨Or.inr rfl, e⟩
    · rename_i e1 e2
      rw [if_neg e1, if_neg e2] at h
      split at h <;> simp at h
theorem verL_of {n : Int} (h : n = 0 ∨ n = 1) : verL (verOf n) = (n, 0) := by
  rcases h with rfl | rfl <;> decide
theorem cutC_true {c : UInt8} {l : List UInt8} (h : (cutC c l).2.2 = true) : l = (cutC c l).1 ++ c :: (cutC c l).2.1 ∧ c ∉ (cutC c l).1 := by
  rcases cutC_spec c l with ⟨_, e⟩ | ⟨a, b, e1, e2, e3⟩
  · rw [e] at h; cases h
  · rw [e3]; exact ⟨e1, e2⟩
theorem cutC_false {c : UInt8} {l : List UInt8} (h : (cutC c l).2.2 = false) : (cutC c l).2.1 = [] := by
  rcases cutC_spec c l with ⟨_, e⟩ | ⟨a, b, e1, e2, e3⟩
  · rw [e]
  · rw [e3] at h; cases h
theorem reqL_ok {line : List UInt8} {h : HeadL} (e : reqL line = (h, 0)) : line = reqText h ∧ ReqOk h ∧ h.2.2.2 = [] := by
  unfold reqL at e
  split at e
  · simp at e
  · rename_i h1
    simp only [not_or, Bool.not_eq_false] at h1
    split at e
    · rename_i h2
      simp only [Prod.mk.injEq] at e
      exact absurd e.2 h2
    · rename_i h2
      simp only [ne_eq, Decidable.not_not] at h2
      split at e
      · simp at e
      · rename_i h3
        simp only [ne_eq, Decidable.not_not] at h3
        simp only [Prod.mk.injEq, and_true] at e
        subst e
        obtain ⟨hv, hve⟩ := verL_ok h2
        refine ⟨?_, ⟨by simp only; omega, h1.2.1, h1.2.2, h3, hv⟩, rfl⟩
        have c1 : (cutC 32 line).2.2 = true := by
          cases hc : (cutC 32 line).2.2 with
          | true => rfl
          | false =>
            have := cutC_false hc
            rw [this] at h1
            exact absurd h1.2.2 (by decide)
        have c2 : (cutC 32 (cutC 32 line).2.1).2.2 = true := by
          cases hc : (cutC 32 (cutC 32 line).2.1).2.2 with
          | true => rfl
          | false =>
            have := cutC_false hc
            rw [this] at h2
            exact absurd h2 (by decide)
        simp only [reqText]
        rw [← hve, ← (cutC_true c2).1]
        exact (cutC_true c1).1
theorem reqL_text {h : HeadL} (r : ReqOk h) : reqL (reqText h) = ((h.1, h.2.1, h.2.2.1, []), 0) := by
  have a1 := madeL_iff.1 r.mLg
  have a2 := madeL_iff.1 r.tVs
  have e1 : cutC 32 (reqText h) = (h.1, h.2.1 ++ 32 :: verOf h.2.2.1, true) := cutC_app _ (isLg_ne 32 (by decide) a1.1)
  have e2 : cutC 32 (h.2.1 ++ 32 :: verOf h.2.2.1) = (h.2.1, verOf h.2.2.1, true) := cutC_app _ (isVs_ne 32 (by decide) a2.1)
  unfold reqL
  simp only [e1, e2, verL_of r.min, r.mLg, r.tVs, r.tOk]
  have := r.m16
  rw [if_neg (by simp; omega)]
  simp
theorem reqText_brk {h : HeadL} (r : ReqOk h) : brk (reqText h) = false := by
  have a1 := madeL_iff.1 r.mLg
  have a2 := madeL_iff.1 r.tVs
  unfold reqText
  rw [brk_app, brk_all (by decide) (by decide) a1.1, show (32 :: (h.2.1 ++ 32 :: verOf h.2.2.1)) = [32] ++ (h.2.1 ++ ([32] ++ verOf h.2.2.1)) from rfl, brk_app, brk_app, brk_all (by decide) (by decide) a2.1]
  rcases r.min with e | e <;> rw [e] <;> decide

/-! ### Blanks around -/
theorem dw_self {p : UInt8 → Bool} : ∀ {l : List UInt8}, (∀ b, l.head? = some b → p b = false) → l.dropWhile p = l
  | [], _ => rfl
  | b :: r, h => by rw [List.dropWhile_cons, if_neg (by rw [h b rfl]; simp)]
theorem dw_head {p : UInt8 → Bool} : ∀ {l : List UInt8} (b : UInt8), (l.dropWhile p).head? = some b → p b = false
  | [], b, h => by simp at h
  | a :: r, b, h => by
    rw [List.dropWhile_cons] at h
    split at h
    · exact dw_head b h
    · rename_i ha
      simp at h
      subst h
      simpa using ha
theorem dw_suffix (p : UInt8 → Bool) (l : List UInt8) : ∃ a, l = a ++ l.dropWhile p := ⟨l.takeWhile p, (List.takeWhile_append_dropWhile).symm⟩
theorem trimB_idem (l : List UInt8) : trimB (trimB l) = trimB l := by
  unfold trimB Lib.trimS
  obtain ⟨A, hA⟩ : ∃ A, A = Lib.trimRightS l [32, 9] := ⟨_, rfl⟩
  rw [← hA]
  have hAr : ∀ b, A.reverse.head? = some b → [32, 9].contains b = false := by
    intro b hb
    rw [hA, Lib.trimRightS, List.reverse_reverse] at hb
    exact dw_head (p := fun x => [32, 9].contains x) b hb
  obtain ⟨T, hT⟩ : ∃ T, T = Lib.trimLeftS A [32, 9] := ⟨_, rfl⟩
  rw [← hT]
  obtain ⟨pre, hpre⟩ := dw_suffix (fun x => [32, 9].contains x) A
  rw [show A.dropWhile (fun x => [32, 9].contains x) = T from hT.symm] at hpre
  have e1 : Lib.trimRightS T [32, 9] = T := by
    unfold Lib.trimRightS
    rw [dw_self, List.reverse_reverse]
    intro b hb
    apply hAr
    rw [hpre, List.reverse_append]
    cases hr : T.reverse with
    | nil => rw [hr] at hb; simp at hb
    | cons x y => rw [hr] at hb; simpa using hb
  rw [e1]
  unfold Lib.trimLeftS
  refine dw_self (fun b hb => ?_)
  rw [hT] at hb
  exact dw_head (p := fun x => [32, 9].contains x) b hb
theorem dw_all {p : UInt8 → Bool} : ∀ {l : List UInt8}, (∀ c ∈ l, p c = true) → l.dropWhile p = []
  | [], _ => rfl
  | b :: r, h => by
    rw [List.dropWhile_cons, if_pos (h b (by simp))]
    exact dw_all (fun c hc => h c (by simp [hc]))
theorem trimB_lead {bl : List UInt8} (v : List UInt8) (h : ∀ c ∈ bl, [32, 9].contains c = true) : trimB (bl ++ v) = trimB v := by
  have hbr : bl.reverse.dropWhile (fun x => [32, 9].contains x) = [] := dw_all (fun c hc => h c (by simpa using hc))
  have hbd : bl.dropWhile (fun x => [32, 9].contains x) = [] := dw_all h
  unfold trimB Lib.trimS Lib.trimRightS Lib.trimLeftS
  rw [List.reverse_append, List.dropWhile_append]
  split
  · rename_i he
    rw [hbr]
    have : v.reverse.dropWhile (fun x => [32, 9].contains x) = [] := by simpa using he
    rw [this]
  · rw [List.reverse_append, List.reverse_reverse, List.dropWhile_append, hbd]
    simp

/-! ### Fields -/
structure FieldOk (p : PairL) : Prop where
  nm : p.1.all isNm = true
  ne : p.1 ≠ []
  sm : small p.1 = p.1
  vl : p.2.all isVl = true
  tr : trimB p.2 = p.2
theorem fieldL_ok {raw : List UInt8} {p : PairL} (h : fieldL raw = some p) : FieldOk p ∧ p.1.length + 1 + p.2.length ≤ raw.length := by
  unfold fieldL at h
  split at h
  · rename_i hc
    have hm := madeL_iff.1 hc.2.1
    simp only [Option.some.injEq] at h
    subst h
    have ht := trimB_idem (cutC 58 raw).2.1
    refine ⟨⟨all_small hm.1, by simp [small, hm.2], small_idem _, hc.2.2, ht⟩, ?_⟩
    have e := congrArg List.length (cutC_true hc.1).1
    have hl : (trimB (cutC 58 raw).2.1).length ≤ (cutC 58 raw).2.1.length := by
      unfold trimB Lib.trimS Lib.trimLeftS Lib.trimRightS
      refine Nat.le_trans (List.dropWhile_sublist _).length_le ?_
      rw [List.length_reverse]
      refine Nat.le_trans (List.dropWhile_sublist _).length_le ?_
      rw [List.length_reverse]
      exact Nat.le_refl _
    simp only [List.length_append, List.length_cons, small, List.length_map] at e ⊢
    omega
  · cases h
theorem fieldL_make {n v : List UInt8} {p : PairL} (hn : n.all isNm = true) (hne : n ≠ []) (hs : small n = p.1) (ht : trimB v = p.2) (hv : p.2.all isVl = true) : fieldL (n ++ 58 :: v) = some p := by
  have e : cutC 58 (n ++ 58 :: v) = (n, v, true) := cutC_app _ (isNm_ne 58 (by decide) hn)
  unfold fieldL
  simp only [e]
  rw [if_pos ⟨trivial, madeL_iff.2 ⟨hn, hne⟩, by rw [ht]; exact hv⟩, hs, ht]
def rawOf (p : PairL) : List UInt8 := p.1 ++ 58 :: 32 :: p.2
theorem fieldL_raw {p : PairL} (h : FieldOk p) : fieldL (rawOf p) = some p := by
  refine fieldL_make h.nm h.ne h.sm ?_ h.vl
  rw [show 32 :: p.2 = [32] ++ p.2 from rfl, trimB_lead _ (by intro c hc; simp at hc; subst hc; decide)]
  exact h.tr
theorem brk_raw {n v : List UInt8} (hn : n.all isNm = true) (hv : v.all isVl = true) : brk (n ++ 58 :: v) = false := by
  rw [brk_app, brk_all (by decide) (by decide) hn, show 58 :: v = [58] ++ v from rfl, brk_app, brk_all (by decide) (by decide) hv]
  rfl
theorem rawOf_brk {p : PairL} (h : FieldOk p) : brk (rawOf p) = false := brk_raw h.nm (by rw [List.all_cons, h.vl]; rfl)
theorem rawOf_len (p : PairL) : (rawOf p).length = p.1.length + 2 + p.2.length := by
  unfold rawOf
  rw [List.length_append, List.length_cons, List.length_cons]
  omega
theorem rawOf_ne (p : PairL) : rawOf p ≠ [] := by simp [rawOf]

/-! ### Heads -/
theorem lines_none {n f k : Nat} {l : List UInt8} {h : HeadL} {k' : Nat} (e : lines n (f + 1) none k l = (h, 0, k')) :
    ∃ h0 r, l = reqText h0 ++ 13 :: 10 :: r ∧ (reqText h0).length ≤ 1024 ∧ ReqOk h0 ∧ h0.2.2.2 = [] ∧ lines n f (some h0) (k + (reqText h0).length + 2) r = (h, 0, k') := by
  rw [lines] at e
  split at e
  · simp at e
  · rename_i hl
    split at e
    · simp at e
    · rename_i hc
      simp only [not_or, Bool.not_eq_false, Bool.not_eq_true] at hc
      have hcut := cutE_true hc.1
      split at e
      · rename_i h0
        simp only [Prod.mk.injEq] at e
        exact absurd e.2.1 h0
      · rename_i h0
        simp only [ne_eq, Decidable.not_not] at h0
        obtain ⟨e1, e2, e3⟩ := reqL_ok (line := (cutE l).1) (h := (reqL (cutE l).1).1) (by rw [← h0])
        rw [e1] at e hl hcut
        exact ⟨_, _, hcut, by omega, e2, e3, by rw [← e1] at e ⊢; exact e⟩
/-- What is read as a head. -/
structure Read (s : List UInt8) (h : HeadL) (raws : List (List UInt8)) : Prop where
  s4096 : s.length ≤ 4096
  req : ReqOk h
  reqLen : (reqText h).length ≤ 1024
  text : s = reqText h ++ 13 :: 10 :: (joinE raws ++ [13, 10])
  flds : raws.map fieldL = h.2.2.2.map some
  raws : ∀ a ∈ raws, RawOk a
  n32 : h.2.2.2.length ≤ 32
  host : hostOk h = true
theorem parse_ok {s : List UInt8} {h : HeadL} {k : Nat} (e : parseL s = (h, 0, k)) : k = 0 ∧ ∃ raws, Read s h raws := by
  unfold parseL at e
  split at e
  · simp at e
  · rename_i hl
    split at e
    · rename_i h0
      simp only [Prod.mk.injEq] at e
      exact absurd e.2.1 h0
    · rename_i h0
      simp only [ne_eq, Decidable.not_not] at h0
      split at e
      · rename_i hh
        simp only [Prod.mk.injEq, true_and] at e
        obtain ⟨e1, e2⟩ := e
        obtain ⟨h1, r, t1, t2, t3, t4, t5⟩ := lines_none (n := s.length) (f := s.length) (k := 0) (l := s) (h := h) (k' := (lines s.length (s.length + 1) none 0 s).2.2) (by
          rw [← e1, ← h0])
        obtain ⟨raws, ps, r1, r2, r3, r4, r5, r6⟩ := lines_ok _ _ _ _ _ _ t5
        rw [t4] at r4 r6
        simp only [List.nil_append] at r4
        refine ⟨e2.symm, raws, ?_⟩
        have hreq : reqText h = reqText h1 := by rw [r4]; rfl
        refine ⟨by omega, ?_, by rw [hreq]; exact t2, by rw [hreq, ← r1]; exact t1, by rw [r4]; exact r2, r3, ?_, by rw [← e1]; exact hh⟩
        · rw [r4]; exact ⟨t3.m16, t3.mLg, t3.tVs, t3.tOk, t3.min⟩
        · rw [r4]; have := r6 (by simp); simpa using this
      · simp at e
theorem parse_read {s : List UInt8} {h : HeadL} {raws : List (List UInt8)} (r : Read s h raws) : parseL s = (h, 0, 0) := by
  have hlen : raws.length < s.length := by
    have := joinE_len raws
    have e := congrArg List.length r.text
    simp only [List.length_append, List.length_cons] at e
    omega
  have e1 : lines s.length (s.length + 1) none 0 s = (h, 0, 0) := by
    obtain ⟨N, hN⟩ : ∃ N, N = s.length := ⟨_, rfl⟩
    rw [← hN] at hlen ⊢
    rw [r.text, lines_req (reqText_brk r.req) r.reqLen (reqL_text r.req), lines_join raws h.2.2.2 _ _ _ r.raws r.flds (by have := r.n32; simpa using this) hlen]
    simp
  have := r.s4096
  unfold parseL
  rw [if_neg (by omega), e1]
  simp only [r.host]
  simp

/-! ### What is printed -/
def textL (h : HeadL) : List UInt8 := reqText h ++ 13 :: 10 :: (joinE (h.2.2.2.map rawOf) ++ [13, 10])
def sameL (a b : HeadL) : Bool := decide (a.1 = b.1) && decide (a.2.1 = b.2.1) && decide (a.2.2.1 = b.2.2.1) && decide (a.2.2.2 = b.2.2.2)
theorem sameL_iff {a b : HeadL} : sameL a b = true ↔ a = b := by
  obtain ⟨a1, a2, a3, a4⟩ := a
  obtain ⟨b1, b2, b3, b4⟩ := b
  simp [sameL, and_assoc]
theorem sameL_self (a : HeadL) : sameL a a = true := sameL_iff.2 rfl
def prnL (h : HeadL) : Option (List UInt8) := if (h.2.2.1 = 0 ∨ h.2.2.1 = 1) ∧ (parseL (textL h)).2.1 = 0 ∧ sameL (parseL (textL h)).1 h = true then some (textL h) else none
theorem parse_back {s : List UInt8} {h : HeadL} : ((parseL s).2.1 = 0 ∧ sameL (parseL s).1 h = true) ↔ parseL s = (h, 0, 0) := by
  constructor
  · intro ⟨x, y⟩
    have y := sameL_iff.1 y
    have e : parseL s = (h, 0, (parseL s).2.2) := by rw [← x, ← y]
    rw [e, (parse_ok e).1]
  · intro e
    rw [e]
    exact ⟨rfl, sameL_self h⟩
theorem Read.fields {s : List UInt8} {h : HeadL} {raws : List (List UInt8)} (r : Read s h raws) : ∀ p ∈ h.2.2.2, ∃ a ∈ raws, fieldL a = some p := by
  intro p hp
  have : some p ∈ raws.map fieldL := by rw [r.flds]; exact List.mem_map.2 ⟨p, hp, rfl⟩
  obtain ⟨a, ha, e⟩ := List.mem_map.1 this
  exact ⟨a, ha, e⟩
theorem Read.fieldOk {s : List UInt8} {h : HeadL} {raws : List (List UInt8)} (r : Read s h raws) : ∀ p ∈ h.2.2.2, FieldOk p := by
  intro p hp
  obtain ⟨a, _, e⟩ := r.fields p hp
  exact (fieldL_ok e).1
theorem joinE_mem : ∀ {raws : List (List UInt8)} {a : List UInt8}, a ∈ raws → a.length + 2 ≤ (joinE raws).length
  | [], a, h => by cases h
  | b :: r, a, h => by
    simp only [joinE, List.length_append, List.length_cons]
    rcases List.mem_cons.1 h with rfl | h
    · omega
    · have := joinE_mem h; omega
theorem joinE_raws : ∀ (raws : List (List UInt8)) (ps : List PairL), raws.map fieldL = ps.map some → (joinE (ps.map rawOf)).length ≤ (joinE raws).length + ps.length
  | [], ps, h => by
    cases ps with
    | nil => simp [joinE]
    | cons p r => simp at h
  | a :: r, ps, h => by
    cases ps with
    | nil => simp at h
    | cons p ps =>
      simp only [List.map_cons, List.cons.injEq] at h
      have ih := joinE_raws r ps h.2
      have h1 := (fieldL_ok h.1).2
      have h2 := rawOf_len p
      simp only [List.map_cons, joinE, List.length_append, List.length_cons]
      omega
theorem again {s : List UInt8} {h : HeadL} {k : Nat} (e : parseL s = (h, 0, k)) (hs : s.length ≤ 1024) : prnL h = some (textL h) := by
  obtain ⟨_, raws, r⟩ := parse_ok e
  have hj := joinE_raws raws h.2.2.2 r.flds
  have hl := congrArg List.length r.text
  simp only [List.length_append, List.length_cons, List.length_nil] at hl
  have hn := r.n32
  have R : Read (textL h) h (h.2.2.2.map rawOf) := by
    refine ⟨?_, r.req, r.reqLen, rfl, ?_, ?_, hn, r.host⟩
    · simp only [textL, List.length_append, List.length_cons, List.length_nil]
      omega
    · rw [List.map_map]
      exact List.map_congr_left fun p hp => fieldL_raw (r.fieldOk p hp)
    · intro a ha
      obtain ⟨p, hp, rfl⟩ := List.mem_map.1 ha
      refine ⟨rawOf_brk (r.fieldOk p hp), ?_, rawOf_ne p⟩
      obtain ⟨a, ha, e2⟩ := r.fields p hp
      have h1 := (fieldL_ok e2).2
      have h2 := joinE_mem ha
      rw [rawOf_len]
      omega
  unfold prnL
  rw [if_pos ⟨r.req.min, parse_back.2 (parse_read R)⟩]
theorem print_some {h : HeadL} {s : List UInt8} (e : prnL h = some s) : s = textL h ∧ parseL s = (h, 0, 0) := by
  unfold prnL at e
  split at e
  · rename_i hc
    simp only [Option.some.injEq] at e
    subst e
    exact ⟨rfl, parse_back.1 hc.2⟩
  · cases e

/-- Nothing is read from more than 4096 bytes. -/
theorem parse_long {s : List UInt8} (h : 4096 < s.length) : parseL s = (hz, 431, 0) := by rw [parseL, if_pos h]

/-! ### The code's text -/
def wloop : List UInt8 → List PairL → List UInt8
  | out, [] => out
  | out, p :: r => if 4096 < out.length then out else wloop (out ++ (rawOf p ++ [13, 10])) r
theorem wloop_all : ∀ (ps : List PairL) (out : List UInt8), wloop out ps = out ++ joinE (ps.map rawOf) ∨ (4096 < (wloop out ps).length ∧ (wloop out ps).length ≤ (out ++ joinE (ps.map rawOf)).length)
  | [], out => Or.inl (by simp [wloop, joinE])
  | p :: r, out => by
    unfold wloop
    split
    · rename_i h
      exact Or.inr ⟨h, by simp⟩
    · have e : out ++ joinE ((p :: r).map rawOf) = (out ++ (rawOf p ++ [13, 10])) ++ joinE (r.map rawOf) := by
        simp [joinE]
      rw [e]
      exact wloop_all r _
/-- " HTTP/1." -/
def verW : List UInt8 := [32, 72, 84, 84, 80, 47, 49, 46]
def headW (h : HeadL) (d : List UInt8) : List UInt8 := h.1 ++ 32 :: (h.2.1 ++ (verW ++ (d ++ [13, 10])))
def writC (h : HeadL) (d : List UInt8) : List UInt8 := wloop (headW h d) h.2.2.2 ++ [13, 10]
theorem headW_text {h : HeadL} {d : List UInt8} (hm : (h.2.2.1 = 0 ∧ d = [48]) ∨ (h.2.2.1 = 1 ∧ d = [49])) : headW h d ++ joinE (h.2.2.2.map rawOf) ++ [13, 10] = textL h := by
  unfold headW textL reqText
  rcases hm with ⟨e, rfl⟩ | ⟨e, rfl⟩ <;> rw [e] <;> simp [verW, verOf, v10, v11]
theorem print_code (h : HeadL) (d : List UInt8) (hd : (h.2.2.1 = 0 → d = [48]) ∧ (h.2.2.1 = 1 → d = [49])) :
    prnL h = if (parseL (writC h d)).2.1 = 0 ∧ sameL (parseL (writC h d)).1 h = true then some (writC h d) else none := by
  by_cases hm : h.2.2.1 = 0 ∨ h.2.2.1 = 1
  · have hm' : (h.2.2.1 = 0 ∧ d = [48]) ∨ (h.2.2.1 = 1 ∧ d = [49]) := by
      rcases hm with e | e
      · exact Or.inl ⟨e, hd.1 e⟩
      · exact Or.inr ⟨e, hd.2 e⟩
    have ht := headW_text hm'
    rcases wloop_all h.2.2.2 (headW h d) with e | ⟨e1, e2⟩
    · have hw : writC h d = textL h := by rw [writC, e, ht]
      rw [hw]
      unfold prnL
      by_cases hp : (parseL (textL h)).2.1 = 0 ∧ sameL (parseL (textL h)).1 h = true
      · rw [if_pos ⟨hm, hp⟩, if_pos hp]
      · rw [if_neg (fun x => hp x.2), if_neg hp]
    · have h1 : 4096 < (writC h d).length := by rw [writC, List.length_append]; omega
      have h2 : 4096 < (textL h).length := by rw [← ht, List.length_append]; omega
      unfold prnL
      rw [parse_long h1, parse_long h2, if_neg (by simp), if_neg (by simp)]
  · unfold prnL
    rw [if_neg (fun x => hm x.1), if_neg]
    intro x
    obtain ⟨_, raws, r⟩ := parse_ok (parse_back.1 x)
    exact hm r.req.min

/-! ### The document's text -/
def minR (n : Int) : List UInt8 := if n = 1 then [49] else if n = 0 then [48] else [50]
def writR (h : HeadL) : List UInt8 := headW h (minR h.2.2.1) ++ joinE ((h.2.2.2.take 33).map rawOf) ++ [13, 10]
theorem print_doc (h : HeadL) : prnL h = if (parseL (writR h)).2.1 = 0 ∧ sameL (parseL (writR h)).1 h = true then some (writR h) else none := by
  by_cases hm : h.2.2.1 = 0 ∨ h.2.2.1 = 1
  · have hm' : (h.2.2.1 = 0 ∧ minR h.2.2.1 = [48]) ∨ (h.2.2.1 = 1 ∧ minR h.2.2.1 = [49]) := by
      rcases hm with e | e <;> rw [e] <;> decide
    have ht := headW_text hm'
    by_cases hl : h.2.2.2.length ≤ 33
    · have hw : writR h = textL h := by rw [writR, List.take_of_length_le hl, ht]
      rw [hw]
      unfold prnL
      by_cases hp : (parseL (textL h)).2.1 = 0 ∧ sameL (parseL (textL h)).1 h = true
      · rw [if_pos ⟨hm, hp⟩, if_pos hp]
      · rw [if_neg (fun x => hp x.2), if_neg hp]
    · unfold prnL
      rw [if_neg, if_neg]
      · intro x
        obtain ⟨_, raws, r⟩ := parse_ok (parse_back.1 x)
        have := r.n32
        omega
      · intro ⟨_, x⟩
        obtain ⟨_, raws, r⟩ := parse_ok (parse_back.1 x)
        have := r.n32
        omega
  · unfold prnL
    rw [if_neg (fun x => hm x.1), if_neg]
    intro x
    obtain ⟨_, raws, r⟩ := parse_ok (parse_back.1 x)
    exact hm r.req.min
end Go.Proofs.YtllhibdjopfcnaaGreatDoor
