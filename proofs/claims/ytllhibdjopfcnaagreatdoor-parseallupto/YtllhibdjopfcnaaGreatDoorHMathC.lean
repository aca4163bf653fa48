/-
  Heads of requests: letters of names, blanks around values, how many fields there may be; bodies, ends of connections.
-/
import Derived.Test.YtllhibdjopfcnaaGreatDoorHMathB
namespace Go.Proofs.YtllhibdjopfcnaaGreatDoor
set_option linter.unusedVariables false

/-! ### How many fields -/
theorem lines_run {n : Nat} : ∀ (raws : List (List UInt8)) (ps : List PairL) (f k : Nat) (h : HeadL) (rest : List UInt8), (∀ a ∈ raws, RawOk a) → raws.map fieldL = ps.map some → h.2.2.2.length + ps.length ≤ 32 →
    lines n (f + raws.length) (some h) k (joinE raws ++ rest) = lines n f (some (h.1, h.2.1, h.2.2.1, h.2.2.2 ++ ps)) (k + (joinE raws).length) rest
  | [], ps, f, k, h, rest, _, hm, _ => by
    obtain rfl : ps = [] := by cases ps with | nil => rfl | cons p r => simp at hm
    simp [joinE]
  | a :: r, ps, f, k, h, rest, ha, hm, h32 => by
    cases ps with
    | nil => simp at hm
    | cons p ps =>
      simp only [List.map_cons, List.cons.injEq] at hm
      have h1 := ha a (by simp)
      simp only [List.length_cons] at h32
      rw [show f + (a :: r).length = (f + r.length) + 1 by simp; omega, joinE, List.append_assoc, List.cons_append, List.cons_append, lines_field h1.brk h1.len h1.ne (by omega) hm.1]
      rw [lines_run r ps f _ _ rest (fun x hx => ha x (by simp [hx])) hm.2 (by simp; omega)]
      simp only [List.length_append, List.length_cons, List.append_assoc, List.singleton_append]
      congr 1
      omega
def xraw (k : Nat) : List UInt8 := 120 :: 58 :: List.replicate k 118
def hostRaw : List UInt8 := [104, 111, 115, 116, 58, 32, 97]
def getReq : HeadL := ([71, 69, 84], [47], 1, [])
/-- "GET / HTTP/1.1", "host: a", each with its end. -/
def baseS : List UInt8 := [71, 69, 84, 32, 47, 32, 72, 84, 84, 80, 47, 49, 46, 49, 13, 10, 104, 111, 115, 116, 58, 32, 97, 13, 10]
def limS (n k : Nat) : List UInt8 := baseS ++ (joinE (List.replicate (n - 1) (xraw k)) ++ [13, 10])
def xpair (k : Nat) : PairL := ([120], List.replicate k 118)
theorem trimB_v (k : Nat) : trimB (List.replicate k 118) = List.replicate k 118 := by
  unfold trimB Lib.trimS Lib.trimRightS Lib.trimLeftS
  have e1 : (List.replicate k (118 : UInt8)).reverse.dropWhile (fun x => [32, 9].contains x) = (List.replicate k (118 : UInt8)).reverse := by
    refine dw_self (fun b hb => ?_)
    have : b ∈ (List.replicate k (118 : UInt8)).reverse := List.mem_of_mem_head? hb
    rw [List.mem_reverse] at this
    rw [(List.mem_replicate.1 this).2]; decide
  rw [e1, List.reverse_reverse]
  refine dw_self (fun b hb => ?_)
  have : b ∈ List.replicate k (118 : UInt8) := List.mem_of_mem_head? hb
  rw [(List.mem_replicate.1 this).2]; decide
theorem xraw_field (k : Nat) : fieldL (xraw k) = some (xpair k) := by
  show fieldL ([120] ++ 58 :: List.replicate k 118) = _
  refine fieldL_make (by decide) (by decide) (show small [120] = [120] by decide) (trimB_v k) ?_
  rw [List.all_eq_true]
  intro x hx
  rw [(List.mem_replicate.1 hx).2]; decide
theorem xraw_ok {k : Nat} (h : k ≤ 63) : RawOk (xraw k) := by
  refine ⟨?_, by simp [xraw]; omega, by simp [xraw]⟩
  show brk ([120] ++ 58 :: List.replicate k 118) = false
  refine brk_raw (by decide) ?_
  rw [List.all_eq_true]
  intro x hx
  rw [(List.mem_replicate.1 hx).2]; decide
theorem xraw_len (k : Nat) : (xraw k).length = k + 2 := by simp [xraw]
theorem joinE_rep (a : List UInt8) : ∀ m : Nat, (joinE (List.replicate m a)).length = m * (a.length + 2)
  | 0 => by simp [joinE]
  | m + 1 => by
    rw [List.replicate_succ, joinE, List.length_append, List.length_cons, List.length_cons, joinE_rep a m, Nat.succ_mul]
    omega
theorem joinE_app : ∀ (a b : List (List UInt8)), joinE (a ++ b) = joinE a ++ joinE b
  | [], b => rfl
  | x :: a, b => by simp [joinE, joinE_app a b]
theorem base_is : baseS = reqText getReq ++ 13 :: 10 :: joinE [hostRaw] := by decide
theorem getReq_ok : ReqOk getReq := ⟨by decide, by decide, by decide, by decide +kernel, Or.inr rfl⟩
theorem host_field : fieldL hostRaw = some (hostS, [97]) := by decide
theorem host_ok : RawOk hostRaw := ⟨by decide, by decide, by decide⟩
theorem rep_map (k m : Nat) : (List.replicate m (xraw k)).map fieldL = (List.replicate m (xpair k)).map some := by
  simp [xraw_field]
theorem lim_raws {k : Nat} (hk : k ≤ 63) (m : Nat) : ∀ a ∈ hostRaw :: List.replicate m (xraw k), RawOk a := by
  intro a ha
  rcases List.mem_cons.1 ha with rfl | ha
  · exact host_ok
  · rw [(List.mem_replicate.1 ha).2]; exact xraw_ok hk
theorem lim_few {n k : Nat} (hk : k ≤ 63) (hn : n ≤ 32) (hl : (limS n k).length ≤ 4096) : parseL (limS n k) = (([71, 69, 84], [47], 1, (hostS, [97]) :: List.replicate (n - 1) (xpair k)), 0, 0) := by
  refine parse_read (raws := hostRaw :: List.replicate (n - 1) (xraw k)) ⟨hl, ⟨getReq_ok.m16, getReq_ok.mLg, getReq_ok.tVs, getReq_ok.tOk, getReq_ok.min⟩, (show (reqText getReq).length ≤ 1024 by decide), ?_, ?_, lim_raws hk _, by simp; omega, ?_⟩
  · unfold limS
    rw [base_is]
    simp only [joinE, List.append_assoc, List.cons_append, List.nil_append]
    rfl
  · simp only [List.map_cons, host_field, rep_map]
  · have : valsL ([71, 69, 84], [47], 1, (hostS, [97]) :: List.replicate (n - 1) (xpair k)) hostS = [[97]] := by
      unfold valsL
      simp only
      rw [List.filter_cons, if_pos (by decide), List.filter_eq_nil_iff.2]
      · rfl
      · intro p hp
        rw [(List.mem_replicate.1 hp).2]
        show ¬ (([120] : List UInt8) == small hostS) = true
        decide
    unfold hostOk
    rw [this, decide_eq_true_eq]
    exact Or.inl rfl
theorem lim_many {n k : Nat} (hk : k ≤ 63) (hn : 32 < n) (hl : (limS n k).length ≤ 4096) : parseL (limS n k) = (hz, 431, 25 + 31 * (k + 4)) := by
  have e : limS n k = reqText getReq ++ 13 :: 10 :: (joinE (hostRaw :: List.replicate 31 (xraw k)) ++ (xraw k ++ 13 :: 10 :: (joinE (List.replicate (n - 33) (xraw k)) ++ [13, 10]))) := by
    unfold limS
    rw [base_is, show n - 1 = 31 + (1 + (n - 33)) by omega, ← List.replicate_append_replicate, ← List.replicate_append_replicate, joinE_app, joinE_app]
    simp only [joinE, List.append_assoc, List.cons_append, List.nil_append, List.replicate_succ, List.replicate_zero]
  have hlines : lines (limS n k).length ((limS n k).length + 1) none 0 (limS n k) = (hz, 431, 25 + 31 * (k + 4)) := by
    have hge : 34 ≤ (limS n k).length := by
      unfold limS
      rw [List.length_append, List.length_append, joinE_rep]
      have : 32 * (k + 2 + 2) ≤ (n - 1) * ((xraw k).length + 2) := by rw [xraw_len]; exact Nat.mul_le_mul_right _ (by omega)
      omega
    obtain ⟨N, hN⟩ : ∃ N, N = (limS n k).length := ⟨_, rfl⟩
    rw [← hN] at hge ⊢
    rw [e, lines_req (reqText_brk getReq_ok) (by decide) (reqL_text getReq_ok)]
    rw [show N = (N - 33 + 1) + (hostRaw :: List.replicate 31 (xraw k)).length by simp; omega]
    rw [lines_run _ ((hostS, [97]) :: List.replicate 31 (xpair k)) _ _ _ _ (lim_raws hk 31) (by simp only [List.map_cons, host_field, rep_map]) (by simp)]
    rw [lines_full (xraw_ok hk).brk (xraw_ok hk).len (xraw_ok hk).ne (by simp)]
    rw [joinE, List.length_append, List.length_cons, List.length_cons, joinE_rep, xraw_len]
    simp only [Prod.mk.injEq, true_and]
    have a1 : (reqText getReq).length = 14 := by decide
    have a2 : hostRaw.length = 7 := by decide
    rw [a1, a2]
    omega
  unfold parseL
  rw [if_neg (by omega), hlines]
  simp

/-! ### Letters and blanks -/
def upB (i : Nat) (b : UInt8) : UInt8 := if isSm b = true ∧ i % 2 = 0 then b - 32 else b
/-- What the law makes of a text. -/
def tr (bl : List UInt8) : Bool → Nat → List UInt8 → List UInt8
  | _, _, [] => []
  | false, i, b :: r => b :: tr bl (decide (b = 10)) (i + 1) r
  | true, i, b :: r => if upB i b = 58 then 58 :: (bl ++ tr bl false (i + 1) r) else upB i b :: tr bl true (i + 1) r
def upL : Nat → List UInt8 → List UInt8
  | _, [] => []
  | i, b :: r => upB i b :: upL (i + 1) r
theorem upB_sm {b : UInt8} (h : isSm b = true) : isLg (b - 32) = true ∧ (b - 32) + 32 = b := by
  simp only [isSm, decide_eq_true_eq] at h
  refine ⟨?_, by simp⟩
  simp only [isLg, decide_eq_true_eq]
  have : (b - 32).toNat = b.toNat - 32 := by
    rw [UInt8.toNat_sub_of_le]
    · rfl
    · rw [UInt8.le_iff_toNat_le]; exact Nat.le_trans (by decide) h.1
  omega
theorem upB_small (i : Nat) {b : UInt8} (hs : smB b = b) : smB (upB i b) = b := by
  unfold upB
  split
  · rename_i h
    obtain ⟨h1, h2⟩ := upB_sm h.1
    rw [smB, if_pos h1, h2]
  · exact hs
theorem upB_nm (i : Nat) {b : UInt8} (hn : isNm b = true) : isNm (upB i b) = true := by
  unfold upB
  split
  · rename_i h
    simp [isNm, (upB_sm h.1).1]
  · exact hn
theorem upL_len : ∀ (l : List UInt8) (i : Nat), (upL i l).length = l.length
  | [], _ => rfl
  | b :: r, i => by simp [upL, upL_len r]
theorem upL_small : ∀ (l : List UInt8) (i : Nat), small l = l → small (upL i l) = l
  | [], _, _ => rfl
  | b :: r, i, h => by
    simp only [small, List.map_cons, List.cons.injEq] at h
    have ih := upL_small r (i + 1) h.2
    simp only [small] at ih
    simp only [upL, small, List.map_cons, upB_small i h.1, ih]
theorem upL_nm : ∀ (l : List UInt8) (i : Nat), l.all isNm = true → (upL i l).all isNm = true
  | [], _, _ => rfl
  | b :: r, i, h => by
    simp only [List.all_cons, Bool.and_eq_true] at h
    simp only [upL, List.all_cons, Bool.and_eq_true]
    exact ⟨upB_nm i h.1, upL_nm r (i + 1) h.2⟩
theorem tr_plain (bl : List UInt8) : ∀ (x y : List UInt8) (i : Nat), 10 ∉ x → tr bl false i (x ++ y) = x ++ tr bl false (i + x.length) y
  | [], y, i, _ => by simp
  | b :: x, y, i, h => by
    have hb : ¬ b = 10 := fun e => h (by rw [e]; simp)
    have hx : 10 ∉ x := fun e => h (by simp [e])
    rw [List.cons_append, tr, decide_eq_false hb, tr_plain bl x y _ hx]
    simp only [List.length_cons, List.cons_append]
    congr 3
    omega
theorem tr_name (bl : List UInt8) : ∀ (x y : List UInt8) (i : Nat), x.all isNm = true → tr bl true i (x ++ 58 :: y) = upL i x ++ 58 :: (bl ++ tr bl false (i + x.length + 1) y)
  | [], y, i, _ => by
    have h58 : upB i 58 = 58 := by rw [upB, if_neg]; intro h; exact absurd h.1 (by decide)
    rw [List.nil_append, tr, if_pos h58]
    simp [upL]
  | b :: x, y, i, h => by
    simp only [List.all_cons, Bool.and_eq_true] at h
    have h58 : ¬ upB i b = 58 := by
      intro e
      have := upB_nm i h.1
      rw [e] at this
      exact absurd this (by decide)
    rw [List.cons_append, tr, if_neg h58, tr_name bl x y _ h.2]
    simp only [upL, List.length_cons, List.cons_append]
    congr 5
    omega
theorem not10_all {p : UInt8 → Bool} (h10 : p 10 = false) {l : List UInt8} (h : l.all p = true) : 10 ∉ l := by
  intro hm
  rw [List.all_eq_true] at h
  rw [h 10 hm] at h10
  cases h10
theorem tr_end (bl : List UInt8) (i : Nat) (y : List UInt8) : tr bl false i (13 :: 10 :: y) = 13 :: 10 :: tr bl true (i + 2) y := by
  rw [tr, decide_eq_false (by decide), tr, decide_eq_true rfl]
/-- The lines that the law makes. -/
def rawT (bl : List UInt8) (i : Nat) (p : PairL) : List UInt8 := upL i p.1 ++ 58 :: (bl ++ 32 :: p.2)
def rawsT (bl : List UInt8) : Nat → List PairL → List (List UInt8)
  | _, [] => []
  | i, p :: r => rawT bl i p :: rawsT bl (i + (rawOf p).length + 2) r
theorem tr_fields (bl : List UInt8) : ∀ (ps : List PairL) (i : Nat), (∀ p ∈ ps, FieldOk p) → tr bl true i (joinE (ps.map rawOf) ++ [13, 10]) = joinE (rawsT bl i ps) ++ [13, 10]
  | [], i, _ => by
    have h1 : upB i 13 = 13 := by rw [upB, if_neg]; intro h; exact absurd h.1 (by decide)
    have h2 : upB (i + 1) 10 = 10 := by rw [upB, if_neg]; intro h; exact absurd h.1 (by decide)
    simp [joinE, rawsT, tr, h1, h2]
  | p :: r, i, h => by
    have hp := h p (by simp)
    have ih := tr_fields bl r (i + (rawOf p).length + 2) (fun q hq => h q (by simp [hq]))
    have hv : 10 ∉ 32 :: p.2 := by
      simp only [List.mem_cons, not_or]
      exact ⟨by decide, not10_all (by decide) hp.vl⟩
    simp only [List.map_cons, joinE, rawsT, rawT]
    have e : rawOf p ++ 13 :: 10 :: joinE (r.map rawOf) ++ [13, 10] = p.1 ++ 58 :: ((32 :: p.2) ++ 13 :: 10 :: (joinE (r.map rawOf) ++ [13, 10])) := by
      simp [rawOf]
    rw [e, tr_name bl _ _ _ hp.nm, tr_plain bl _ _ _ hv, tr_end]
    rw [show i + p.1.length + 1 + (32 :: p.2).length + 2 = i + (rawOf p).length + 2 by rw [rawOf_len, List.length_cons]; omega, ih]
    simp
theorem rawT_field {bl : List UInt8} (hbl : ∀ c ∈ bl, [32, 9].contains c = true) (i : Nat) {p : PairL} (h : FieldOk p) : fieldL (rawT bl i p) = some p := by
  refine fieldL_make (upL_nm _ _ h.nm) ?_ (upL_small _ _ h.sm) ?_ h.vl
  · intro e
    have := upL_len p.1 i
    rw [e] at this
    exact h.ne (List.eq_nil_of_length_eq_zero this.symm)
  · rw [show bl ++ 32 :: p.2 = (bl ++ [32]) ++ p.2 by simp, trimB_lead]
    · exact h.tr
    · intro c hc
      rcases List.mem_append.1 hc with hc | hc
      · exact hbl c hc
      · simp at hc; subst hc; decide
theorem rawT_len (bl : List UInt8) (i : Nat) (p : PairL) : (rawT bl i p).length = (rawOf p).length + bl.length := by
  rw [rawOf_len, rawT, List.length_append, upL_len, List.length_cons, List.length_append, List.length_cons]
  omega
theorem rawT_ok {bl : List UInt8} (hbl : ∀ c ∈ bl, [32, 9].contains c = true) (i : Nat) {p : PairL} (h : FieldOk p) (hl : (rawOf p).length + bl.length ≤ 1024) : RawOk (rawT bl i p) := by
  refine ⟨brk_raw (upL_nm _ _ h.nm) ?_, by rw [rawT_len]; exact hl, by simp [rawT]⟩
  rw [List.all_append, List.all_cons, h.vl, Bool.and_eq_true]
  refine ⟨?_, rfl⟩
  rw [List.all_eq_true]
  intro c hc
  simp only [isVl, hbl c hc, Bool.or_true]
theorem rawsT_mem {bl : List UInt8} : ∀ (ps : List PairL) (i : Nat) (a : List UInt8), a ∈ rawsT bl i ps → ∃ p ∈ ps, ∃ j, a = rawT bl j p
  | [], i, a, h => by cases h
  | p :: r, i, a, h => by
    rcases List.mem_cons.1 h with rfl | h
    · exact ⟨p, by simp, i, rfl⟩
    · obtain ⟨q, hq, j, e⟩ := rawsT_mem r _ a h
      exact ⟨q, by simp [hq], j, e⟩
theorem rawsT_map {bl : List UInt8} (hbl : ∀ c ∈ bl, [32, 9].contains c = true) : ∀ (ps : List PairL) (i : Nat), (∀ p ∈ ps, FieldOk p) → (rawsT bl i ps).map fieldL = ps.map some
  | [], i, _ => rfl
  | p :: r, i, h => by
    rw [rawsT, List.map_cons, List.map_cons, rawT_field hbl i (h p (by simp)), rawsT_map hbl r _ (fun q hq => h q (by simp [hq]))]
/-- Letters of names and blanks around values change nothing. -/
theorem letters {h : HeadL} {s bl : List UInt8} (e : prnL h = some s) (hbl : ∀ c ∈ bl, [32, 9].contains c = true) (h8 : bl.length ≤ 8) (h9 : s.length ≤ 900) (ho : (tr bl false 0 s).length ≤ 4096) : parseL (tr bl false 0 s) = (h, 0, 0) := by
  obtain ⟨hs, hp⟩ := print_some e
  obtain ⟨_, raws, r⟩ := parse_ok hp
  have hf := r.fieldOk
  have h10 : 10 ∉ reqText h := by
    have := reqText_brk r.req
    intro hm
    rw [brk, List.any_eq_false] at this
    exact this 10 hm (by decide)
  have ht : tr bl false 0 s = reqText h ++ 13 :: 10 :: (joinE (rawsT bl (0 + (reqText h).length + 2) h.2.2.2) ++ [13, 10]) := by
    rw [hs, textL, tr_plain bl _ _ _ h10, tr_end, tr_fields bl _ _ hf]
  refine parse_read (raws := rawsT bl (0 + (reqText h).length + 2) h.2.2.2) ⟨ho, r.req, r.reqLen, ht, rawsT_map hbl _ _ hf, ?_, r.n32, r.host⟩
  intro a ha
  obtain ⟨p, hpm, j, rfl⟩ := rawsT_mem _ _ _ ha
  refine rawT_ok hbl j (hf p hpm) ?_
  have h1 : (rawOf p).length + 2 ≤ (joinE (h.2.2.2.map rawOf)).length := joinE_mem (List.mem_map.2 ⟨p, hpm, rfl⟩)
  rw [hs] at h9
  simp only [textL, List.length_append, List.length_cons, List.length_nil] at h9
  omega

/-! ### Bodies, ends of connections -/
def clS : List UInt8 := [99, 111, 110, 116, 101, 110, 116, 45, 108, 101, 110, 103, 116, 104]
def teS : List UInt8 := [116, 114, 97, 110, 115, 102, 101, 114, 45, 101, 110, 99, 111, 100, 105, 110, 103]
def chS : List UInt8 := [99, 104, 117, 110, 107, 101, 100]
def cnS : List UInt8 := [99, 111, 110, 110, 101, 99, 116, 105, 111, 110]
def closeS : List UInt8 := [99, 108, 111, 115, 101]
def keepS : List UInt8 := [107, 101, 101, 112, 45, 97, 108, 105, 118, 101]
def numL (l : List UInt8) : Nat := l.foldl (fun n b => 10 * n + (b.toNat - 48)) 0
def lenL (l : List (List UInt8)) : Int × Int × Int :=
  if 9 < (l.headD []).length ∨ madeL isDg (l.headD []) = false then (0, 0, 400)
  else if l.all (· == l.headD []) = false then (0, 0, 400)
  else if 16384 < numL (l.headD []) then (0, 0, 413) else (1, numL (l.headD []), 0)
def codL (c : List (List UInt8)) (minor : Int) : Int × Int × Int := if c.length = 1 ∧ small (c.headD []) = chS ∧ minor = 1 then (2, 0, 0) else (0, 0, 400)
def bodyL (h : HeadL) : Int × Int × Int :=
  if 0 < (valsL h clS).length ∧ 0 < (valsL h teS).length then (0, 0, 400)
  else if 0 < (valsL h teS).length then codL (valsL h teS) h.2.2.1
  else if 0 < (valsL h clS).length then lenL (valsL h clS)
  else (0, 0, 0)
def wordsL (vs : List (List UInt8)) : List (List UInt8) := vs.flatMap fun v => (splitC 44 v).map fun w => small (trimB w)
def closesL (h : HeadL) : Bool := (wordsL (valsL h cnS)).contains closeS || (decide (h.2.2.1 = 0) && !(wordsL (valsL h cnS)).contains keepS)
end Go.Proofs.YtllhibdjopfcnaaGreatDoor
