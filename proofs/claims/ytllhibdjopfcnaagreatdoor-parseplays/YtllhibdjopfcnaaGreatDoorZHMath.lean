/-
  Heads of requests: letters of names, blanks around values, how many fields there may be; bodies, ends of connections.
-/
import Derived.Test.YtllhibdjopfcnaaGreatDoorZForm
import Derived.Lib.SlTrimSet
import Derived.Lib.IndexMore
import Derived.Lib.IndexAny
namespace Go.Proofs.YtllhibdjopfcnaaGreatDoor
set_option linter.unusedVariables false

def isLg (b : UInt8) : Bool := decide (65 ≤ b.toNat ∧ b.toNat ≤ 90)
def isSm (b : UInt8) : Bool := decide (97 ≤ b.toNat ∧ b.toNat ≤ 122)
def isDg (b : UInt8) : Bool := decide (48 ≤ b.toNat ∧ b.toNat ≤ 57)
def isVs (b : UInt8) : Bool := decide (33 ≤ b.toNat ∧ b.toNat ≤ 126)
def signs : List UInt8 := [33, 35, 36, 37, 38, 39, 42, 43, 45, 46, 94, 95, 96, 124, 126]
def isNm (b : UInt8) : Bool := isLg b || isSm b || isDg b || signs.contains b
def isVl (b : UInt8) : Bool := isVs b || [32, 9].contains b
def smB (b : UInt8) : UInt8 := if isLg b = true then b + 32 else b
def small (l : List UInt8) : List UInt8 := l.map smB
def madeL (p : UInt8 → Bool) (l : List UInt8) : Bool := l.all p && !l.isEmpty
abbrev trimB (l : List UInt8) : List UInt8 := Lib.trimS l [32, 9]

/-- A head: method, target, minor, fields. -/
abbrev HeadL := List UInt8 × List UInt8 × Int × List PairL
def hz : HeadL := ([], [], 0, [])

def v10 : List UInt8 := [72, 84, 84, 80, 47, 49, 46, 48]
def v11 : List UInt8 := [72, 84, 84, 80, 47, 49, 46, 49]
/-- Minor and status of a version. -/
def verL (v : List UInt8) : Int × Int :=
  if v = v10 then (0, 0) else if v = v11 then (1, 0) else
  if v.length = 8 ∧ v.take 5 = [72, 84, 84, 80, 47] ∧ isDg (v.getD 5 0) = true ∧ v.getD 6 0 = 46 ∧ isDg (v.getD 7 0) = true then (0, 505) else (0, 400)
/-- A request line's head and status. -/
def reqL (line : List UInt8) : HeadL × Int :=
  if 16 < (cutC 32 line).1.length ∨ madeL isLg (cutC 32 line).1 = false ∨ madeL isVs (cutC 32 (cutC 32 line).2.1).1 = false then (hz, 400)
  else if (verL (cutC 32 (cutC 32 line).2.1).2.1).2 ≠ 0 then (hz, (verL (cutC 32 (cutC 32 line).2.1).2.1).2)
  else if (tgt (cutC 32 (cutC 32 line).2.1).1).err ≠ 0 then (hz, 400)
  else (((cutC 32 line).1, (cutC 32 (cutC 32 line).2.1).1, (verL (cutC 32 (cutC 32 line).2.1).2.1).1, []), 0)
/-- A line's field. -/
def fieldL (line : List UInt8) : Option PairL :=
  if (cutC 58 line).2.2 = true ∧ madeL isNm (cutC 58 line).1 = true ∧ (trimB (cutC 58 line).2.1).all isVl = true then some (small (cutC 58 line).1, trimB (cutC 58 line).2.1) else none

/-- A text around the first CR LF. -/
def cutE : List UInt8 → List UInt8 × List UInt8 × Bool
  | [] => ([], [], false)
  | a :: r => if a = 13 ∧ r.head? = some 10 then ([], r.tail, true) else (a :: (cutE r).1, (cutE r).2.1, (cutE r).2.2)
def brkB (b : UInt8) : Bool := [13, 10].contains b
def brk (l : List UInt8) : Bool := l.any brkB

def lines (n : Nat) : Nat → Option HeadL → Nat → List UInt8 → HeadL × Int × Nat
  | 0, _, _, _ => (hz, 400, 0)
  | f + 1, oh, k, l =>
    if 1024 < (cutE l).1.length then (hz, 431, k)
    else if (cutE l).2.2 = false ∨ brk (cutE l).1 = true then (hz, 400, k)
    else match oh with
      | none => if (reqL (cutE l).1).2 ≠ 0 then (hz, (reqL (cutE l).1).2, k) else lines n f (some (reqL (cutE l).1).1) (k + (cutE l).1.length + 2) (cutE l).2.1
      | some h =>
        if (cutE l).1 = [] then (if (cutE l).2.1 = [] then (h, 0, 0) else (hz, 400, n))
        else if 32 ≤ h.2.2.2.length then (hz, 431, k)
        else match fieldL (cutE l).1 with
          | none => (hz, 400, k)
          | some p => lines n f (some (h.1, h.2.1, h.2.2.1, h.2.2.2 ++ [p])) (k + (cutE l).1.length + 2) (cutE l).2.1

def valsL (h : HeadL) (name : List UInt8) : List (List UInt8) := (h.2.2.2.filter fun p => p.1 == small name).map (·.2)
def hostS : List UInt8 := [104, 111, 115, 116]
def hostOk (h : HeadL) : Bool := decide ((valsL h hostS).length = 1 ∨ (valsL h hostS).length = 0 ∧ h.2.2.1 = 0)
/-- The head of bytes, its status, its place. -/
def parseL (s : List UInt8) : HeadL × Int × Nat :=
  if 4096 < s.length then (hz, 431, 0)
  else if (lines s.length (s.length + 1) none 0 s).2.1 ≠ 0 then (hz, (lines s.length (s.length + 1) none 0 s).2.1, (lines s.length (s.length + 1) none 0 s).2.2)
  else if hostOk (lines s.length (s.length + 1) none 0 s).1 = true then ((lines s.length (s.length + 1) none 0 s).1, 0, 0) else (hz, 400, 0)

/-! ### Bytes -/
theorem byteL (b : UInt8) : b.toNat < 256 := b.toNat_lt
theorem sm_of {b : UInt8} (h : isLg b = true) : (b + 32).toNat = b.toNat + 32 := by
  simp only [isLg, decide_eq_true_eq] at h
  rw [UInt8.toNat_add]
  simp
  omega
theorem smB_idem (b : UInt8) : smB (smB b) = smB b := by
  unfold smB
  split
  · rename_i h
    have := sm_of h
    rw [if_neg]
    simp only [isLg, decide_eq_true_eq] at h ⊢
    omega
  · rfl
theorem small_idem (l : List UInt8) : small (small l) = small l := by
  simp [small, smB_idem]
theorem isNm_smB {b : UInt8} (h : isNm b = true) : isNm (smB b) = true := by
  unfold smB
  split
  · rename_i hl
    have := sm_of hl
    simp only [isLg, decide_eq_true_eq] at hl
    have h2 : isSm (b + 32) = true := by simp only [isSm, decide_eq_true_eq]; omega
    simp [isNm, h2]
  · exact h
theorem all_small {l : List UInt8} (h : l.all isNm = true) : (small l).all isNm = true := by
  rw [List.all_eq_true] at h ⊢
  intro x hx
  obtain ⟨b, hb, rfl⟩ := List.mem_map.1 hx
  exact isNm_smB (h b hb)
theorem isNm_ne (c : UInt8) (hc : isNm c = false) {l : List UInt8} (h : l.all isNm = true) : c ∉ l := by
  intro hm
  rw [List.all_eq_true] at h
  rw [h c hm] at hc
  cases hc
theorem isVs_ne (c : UInt8) (hc : isVs c = false) {l : List UInt8} (h : l.all isVs = true) : c ∉ l := by
  intro hm
  rw [List.all_eq_true] at h
  rw [h c hm] at hc
  cases hc
theorem isLg_ne (c : UInt8) (hc : isLg c = false) {l : List UInt8} (h : l.all isLg = true) : c ∉ l := by
  intro hm
  rw [List.all_eq_true] at h
  rw [h c hm] at hc
  cases hc
theorem brk_app (a b : List UInt8) : brk (a ++ b) = (brk a || brk b) := by simp [brk]
theorem brk_all {p : UInt8 → Bool} (h13 : p 13 = false) (h10 : p 10 = false) {l : List UInt8} (h : l.all p = true) : brk l = false := by
  rw [brk, List.any_eq_false]
  intro x hx
  rw [List.all_eq_true] at h
  have := h x hx
  simp only [brkB, List.contains_cons, List.contains_nil, Bool.or_false, Bool.or_eq_true, beq_iff_eq, not_or]
  refine ⟨fun e => ?_, fun e => ?_⟩
  · subst e; rw [h13] at this; cases this
  · subst e; rw [h10] at this; cases this

/-! ### Lines -/
theorem cutE_app {l : List UInt8} (r : List UInt8) (h : brk l = false) : cutE (l ++ 13 :: 10 :: r) = (l, r, true) := by
  induction l with
  | nil => simp [cutE]
  | cons a l ih =>
    rw [brk, List.any_cons, Bool.or_eq_false_iff] at h
    have ha : ¬ a = 13 := by
      intro e; subst e; exact absurd h.1 (by decide)
    rw [List.cons_append, cutE, if_neg (fun e => ha e.1), ih h.2]
theorem cutE_true : ∀ {l : List UInt8}, (cutE l).2.2 = true → l = (cutE l).1 ++ 13 :: 10 :: (cutE l).2.1
  | [], h => by simp [cutE] at h
  | a :: r, h => by
    unfold cutE at h ⊢
    split at h
    · rename_i hc
      rw [if_pos hc]
      obtain ⟨rfl, h2⟩ := hc
      cases r with
      | nil => simp at h2
      | cons b r => simp at h2; subst h2; rfl
    · rename_i hc
      rw [if_neg hc]
      simp only at h ⊢
      have := cutE_true h
      rw [List.cons_append, ← this]
theorem cutE_false : ∀ {l : List UInt8}, (cutE l).2.2 = false → (cutE l).1 = l ∧ (cutE l).2.1 = []
  | [], h => by simp [cutE]
  | a :: r, h => by
    unfold cutE at h ⊢
    split at h
    · simp at h
    · rename_i hc
      rw [if_neg hc]
      simp only at h ⊢
      obtain ⟨h1, h2⟩ := cutE_false h
      rw [h1, h2]
      exact ⟨rfl, rfl⟩
theorem cutE_len (l : List UInt8) : (cutE l).1.length ≤ l.length ∧ ((cutE l).2.2 = true → (cutE l).1.length + 2 + (cutE l).2.1.length = l.length) := by
  cases h : (cutE l).2.2 with
  | false => rw [(cutE_false h).1]; exact ⟨Nat.le_refl _, fun e => by cases e⟩
  | true =>
    have e := congrArg List.length (cutE_true h)
    simp only [List.length_append, List.length_cons] at e
    exact ⟨by omega, fun _ => by omega⟩
theorem lines_req {n f k : Nat} {a r : List UInt8} {h : HeadL} (hb : brk a = false) (hl : a.length ≤ 1024) (hr : reqL a = (h, 0)) : lines n (f + 1) none k (a ++ 13 :: 10 :: r) = lines n f (some h) (k + a.length + 2) r := by
  rw [lines, cutE_app r hb]
  simp only [hb, hr]
  rw [if_neg (by omega), if_neg (by simp)]
  simp
theorem lines_field {n f k : Nat} {a r : List UInt8} {h : HeadL} {p : PairL} (hb : brk a = false) (hl : a.length ≤ 1024) (hne : a ≠ []) (h32 : h.2.2.2.length < 32) (hf : fieldL a = some p) :
    lines n (f + 1) (some h) k (a ++ 13 :: 10 :: r) = lines n f (some (h.1, h.2.1, h.2.2.1, h.2.2.2 ++ [p])) (k + a.length + 2) r := by
  rw [lines, cutE_app r hb]
  simp only [hb, hf]
  rw [if_neg (by omega), if_neg (by simp), if_neg hne, if_neg (by omega)]
theorem lines_full {n f k : Nat} {a r : List UInt8} {h : HeadL} (hb : brk a = false) (hl : a.length ≤ 1024) (hne : a ≠ []) (h32 : 32 ≤ h.2.2.2.length) : lines n (f + 1) (some h) k (a ++ 13 :: 10 :: r) = (hz, 431, k) := by
  rw [lines, cutE_app r hb]
  simp only [hb]
  rw [if_neg (by omega), if_neg (by simp), if_neg hne, if_pos h32]
theorem lines_end {n f k : Nat} {h : HeadL} : lines n (f + 1) (some h) k [13, 10] = (h, 0, 0) := by
  have : cutE [13, 10] = ([], [], true) := by decide
  rw [lines, this]
  simp [brk]

/-- Lines, each with its end. -/
def joinE : List (List UInt8) → List UInt8
  | [] => []
  | a :: r => a ++ 13 :: 10 :: joinE r
structure RawOk (a : List UInt8) : Prop where
  brk : brk a = false
  len : a.length ≤ 1024
  ne : a ≠ []
theorem joinE_len : ∀ l : List (List UInt8), 2 * l.length ≤ (joinE l).length
  | [] => by simp [joinE]
  | a :: r => by have := joinE_len r; simp only [joinE, List.length_append, List.length_cons]; omega
/-- Right lines are read. -/
theorem lines_join {n : Nat} : ∀ (raws : List (List UInt8)) (ps : List PairL) (f k : Nat) (h : HeadL), (∀ a ∈ raws, RawOk a) → raws.map fieldL = ps.map some → h.2.2.2.length + ps.length ≤ 32 → raws.length < f →
    lines n f (some h) k (joinE raws ++ [13, 10]) = ((h.1, h.2.1, h.2.2.1, h.2.2.2 ++ ps), 0, 0)
  | [], ps, f, k, h, _, hm, _, hf => by
    obtain rfl : ps = [] := by cases ps with | nil => rfl | cons p r => simp at hm
    obtain ⟨f, rfl⟩ : ∃ g, f = g + 1 := ⟨f - 1, by omega⟩
    rw [joinE, List.nil_append, lines_end]
    simp
  | a :: r, ps, f, k, h, ha, hm, h32, hf => by
    obtain ⟨f, rfl⟩ : ∃ g, f = g + 1 := ⟨f - 1, by simp at hf; omega⟩
    cases ps with
    | nil => simp at hm
    | cons p ps =>
      simp only [List.map_cons, List.cons.injEq] at hm
      have h1 := ha a (by simp)
      simp only [List.length_cons] at h32 hf
      rw [joinE, List.append_assoc, List.cons_append, List.cons_append, lines_field h1.brk h1.len h1.ne (by omega) hm.1]
      rw [lines_join r ps f _ _ (fun x hx => ha x (by simp [hx])) hm.2 (by simp; omega) (by omega)]
      simp
/-- What is read as a head was right lines. -/
theorem lines_ok {n : Nat} : ∀ (f k : Nat) (h : HeadL) (l : List UInt8) (h' : HeadL) (k' : Nat), lines n f (some h) k l = (h', 0, k') →
    ∃ raws ps, l = joinE raws ++ [13, 10] ∧ raws.map fieldL = ps.map some ∧ (∀ a ∈ raws, RawOk a) ∧ h' = (h.1, h.2.1, h.2.2.1, h.2.2.2 ++ ps) ∧ k' = 0 ∧ (h.2.2.2.length ≤ 32 → h.2.2.2.length + ps.length ≤ 32)
  | 0, k, h, l, h', k', e => by simp [lines] at e
  | f + 1, k, h, l, h', k', e => by
    rw [lines] at e
    split at e
    · simp at e
    · rename_i hl
      split at e
      · simp at e
      · rename_i hc
        simp only [not_or, Bool.not_eq_false, Bool.not_eq_true] at hc
        have hcut := cutE_true hc.1
        split at e
        · rename_i h0
          split at e
          · rename_i h1
            simp only [Prod.mk.injEq] at e
            refine ⟨[], [], ?_, rfl, (fun a ha => by cases ha), ?_, e.2.2.symm, fun h => by simpa using h⟩
            · rw [hcut, h0, h1]; rfl
            · rw [← e.1]; simp
          · simp at e
        · rename_i h0
          split at e
          · simp at e
          · rename_i h32
            split at e
            · simp at e
            · rename_i p hp
              obtain ⟨raws, ps, e1, e2, e3, e4, e5, e6⟩ := lines_ok f _ _ _ _ _ e
              refine ⟨(cutE l).1 :: raws, p :: ps, ?_, ?_, ?_, ?_, e5, ?_⟩
              · rw [joinE, List.append_assoc, List.cons_append, List.cons_append, ← e1]
                exact hcut
              · simp [hp, e2]
              · intro a ha
                rcases List.mem_cons.1 ha with rfl | ha
                · exact ⟨hc.2, by omega, h0⟩
                · exact e3 a ha
              · rw [e4]; simp
              · intro h
                simp only [List.length_append, List.length_cons, List.length_nil] at e6 ⊢
                omega
end Go.Proofs.YtllhibdjopfcnaaGreatDoor

namespace Go.Proofs.YtllhibdjopfcnaaGreatDoor
set_option linter.unusedVariables false

theorem madeL_iff {p : UInt8 → Bool} {l : List UInt8} : madeL p l = true ↔ l.all p = true ∧ l ≠ [] := by
  unfold madeL
  cases l <;> simp

/-! ### The request line -/
def verOf (n : Int) : List UInt8 := if n = 0 then v10 else v11
def reqText (h : HeadL) : List UInt8 := h.1 ++ 32 :: (h.2.1 ++ 32 :: verOf h.2.2.1)
structure ReqOk (h : HeadL) : Prop where
  m16 : h.1.length ≤ 16
  mLg : madeL isLg h.1 = true
  tVs : madeL isVs h.2.1 = true
  tOk : (tgt h.2.1).err = 0
  min : h.2.2.1 = 0 ∨ h.2.2.1 = 1
theorem verL_ok {v : List UInt8} (h : (verL v).2 = 0) : ((verL v).1 = 0 ∨ (verL v).1 = 1) ∧ v = verOf (verL v).1 := by
  unfold verL at *
  split
  · rename_i e; exact ⟨Or.inl rfl, e⟩
  · split
    · rename_i e; exact ⟨Or.inr rfl, e⟩
    · rename_i e1 e2
      rw [if_neg e1, if_neg e2] at h
      split at h <;> simp at h
theorem verL_of {n : Int} (h : n = 0 ∨ n = 1) : verL (verOf n) = (n, 0) := by
  rcases h with rfl | rfl <;> decide
theorem cutC_true {c : UInt8} {l : List UInt8} (h : (cutC c l).2.2 = true) : l = (cutC c l).1 ++ c :: (cutC c l).2.1 ∧ c ∉ (cutC c l).1 := by
  rcases cutC_spec c l with ⟨_, e⟩ | ⟨a, b, e1, e2, e3⟩
  · rw [e] at h; cases h
  · rw [e3]; exact ⟨e1, e2⟩
theorem cutC_false {c : UInt8} {l : List UInt8} (h : (cutC c l).2.2 = false) : (cutC c l).2.1 = [] := by
  rcases cutC_spec c l with ⟨_, e⟩ | ⟨a, b, e1, e2, e3⟩
  · rw [e]
  · rw [e3] at h; cases h
theorem reqL_ok {line : List UInt8} {h : HeadL} (e : reqL line = (h, 0)) : line = reqText h ∧ ReqOk h ∧ h.2.2.2 = [] := by
  unfold reqL at e
  split at e
  · simp at e
  · rename_i h1
    simp only [not_or, Bool.not_eq_false] at h1
    split at e
    · rename_i h2
      simp only [Prod.mk.injEq] at e
      exact absurd e.2 h2
    · rename_i h2
      simp only [ne_eq, Decidable.not_not] at h2
      split at e
      · simp at e
      · rename_i h3
        simp only [ne_eq, Decidable.not_not] at h3
        simp only [Prod.mk.injEq, and_true] at e
        subst e
        obtain ⟨hv, hve⟩ := verL_ok h2
        refine ⟨?_, ⟨by simp only; omega, h1.2.1, h1.2.2, h3, hv⟩, rfl⟩
        have c1 : (cutC 32 line).2.2 = true := by
          cases hc : (cutC 32 line).2.2 with
          | true => rfl
          | false =>
            have := cutC_false hc
            rw [this] at h1
            exact absurd h1.2.2 (by decide)
        have c2 : (cutC 32 (cutC 32 line).2.1).2.2 = true := by
          cases hc : (cutC 32 (cutC 32 line).2.1).2.2 with
          | true => rfl
          | false =>
            have := cutC_false hc
            rw [this] at h2
            exact absurd h2 (by decide)
        simp only [reqText]
        rw [← hve, ← (cutC_true c2).1]
        exact (cutC_true c1).1
theorem reqL_text {h : HeadL} (r : ReqOk h) : reqL (reqText h) = ((h.1, h.2.1, h.2.2.1, []), 0) := by
  have a1 := madeL_iff.1 r.mLg
  have a2 := madeL_iff.1 r.tVs
  have e1 : cutC 32 (reqText h) = (h.1, h.2.1 ++ 32 :: verOf h.2.2.1, true) := cutC_app _ (isLg_ne 32 (by decide) a1.1)
  have e2 : cutC 32 (h.2.1 ++ 32 :: verOf h.2.2.1) = (h.2.1, verOf h.2.2.1, true) := cutC_app _ (isVs_ne 32 (by decide) a2.1)
  unfold reqL
  simp only [e1, e2, verL_of r.min, r.mLg, r.tVs, r.tOk]
  have := r.m16
  rw [if_neg (by simp; omega)]
  simp
theorem reqText_brk {h : HeadL} (r : ReqOk h) : brk (reqText h) = false := by
  have a1 := madeL_iff.1 r.mLg
  have a2 := madeL_iff.1 r.tVs
  unfold reqText
  rw [brk_app, brk_all (by decide) (by decide) a1.1, show (32 :: (h.2.1 ++ 32 :: verOf h.2.2.1)) = [32] ++ (h.2.1 ++ ([32] ++ verOf h.2.2.1)) from rfl, brk_app, brk_app, brk_all (by decide) (by decide) a2.1]
  rcases r.min with e | e <;> rw [e] <;> decide

/-! ### Blanks around -/
theorem dw_self {p : UInt8 → Bool} : ∀ {l : List UInt8}, (∀ b, l.head? = some b → p b = false) → l.dropWhile p = l
  | [], _ => rfl
  | b :: r, h => by rw [List.dropWhile_cons, if_neg (by rw [h b rfl]; simp)]
theorem dw_head {p : UInt8 → Bool} : ∀ {l : List UInt8} (b : UInt8), (l.dropWhile p).head? = some b → p b = false
  | [], b, h => by simp at h
  | a :: r, b, h => by
    rw [List.dropWhile_cons] at h
    split at h
    · exact dw_head b h
    · rename_i ha
      simp at h
      subst h
      simpa using ha
theorem dw_suffix (p : UInt8 → Bool) (l : List UInt8) : ∃ a, l = a ++ l.dropWhile p := ⟨l.takeWhile p, (List.takeWhile_append_dropWhile).symm⟩
theorem trimB_idem (l : List UInt8) : trimB (trimB l) = trimB l := by
  unfold trimB Lib.trimS
  obtain ⟨A, hA⟩ : ∃ A, A = Lib.trimRightS l [32, 9] := ⟨_, rfl⟩
  rw [← hA]
  have hAr : ∀ b, A.reverse.head? = some b → [32, 9].contains b = false := by
    intro b hb
    rw [hA, Lib.trimRightS, List.reverse_reverse] at hb
    exact dw_head (p := fun x => [32, 9].contains x) b hb
  obtain ⟨T, hT⟩ : ∃ T, T = Lib.trimLeftS A [32, 9] := ⟨_, rfl⟩
  rw [← hT]
  obtain ⟨pre, hpre⟩ := dw_suffix (fun x => [32, 9].contains x) A
  rw [show A.dropWhile (fun x => [32, 9].contains x) = T from hT.symm] at hpre
  have e1 : Lib.trimRightS T [32, 9] = T := by
    unfold Lib.trimRightS
    rw [dw_self, List.reverse_reverse]
    intro b hb
    apply hAr
    rw [hpre, List.reverse_append]
    cases hr : T.reverse with
    | nil => rw [hr] at hb; simp at hb
    | cons x y => rw [hr] at hb; simpa using hb
  rw [e1]
  unfold Lib.trimLeftS
  refine dw_self (fun b hb => ?_)
  rw [hT] at hb
  exact dw_head (p := fun x => [32, 9].contains x) b hb
theorem dw_all {p : UInt8 → Bool} : ∀ {l : List UInt8}, (∀ c ∈ l, p c = true) → l.dropWhile p = []
  | [], _ => rfl
  | b :: r, h => by
    rw [List.dropWhile_cons, if_pos (h b (by simp))]
    exact dw_all (fun c hc => h c (by simp [hc]))
theorem trimB_lead {bl : List UInt8} (v : List UInt8) (h : ∀ c ∈ bl, [32, 9].contains c = true) : trimB (bl ++ v) = trimB v := by
  have hbr : bl.reverse.dropWhile (fun x => [32, 9].contains x) = [] := dw_all (fun c hc => h c (by simpa using hc))
  have hbd : bl.dropWhile (fun x => [32, 9].contains x) = [] := dw_all h
  unfold trimB Lib.trimS Lib.trimRightS Lib.trimLeftS
  rw [List.reverse_append, List.dropWhile_append]
  split
  · rename_i he
    rw [hbr]
    have : v.reverse.dropWhile (fun x => [32, 9].contains x) = [] := by simpa using he
    rw [this]
  · rw [List.reverse_append, List.reverse_reverse, List.dropWhile_append, hbd]
    simp

/-! ### Fields -/
structure FieldOk (p : PairL) : Prop where
  nm : p.1.all isNm = true
  ne : p.1 ≠ []
  sm : small p.1 = p.1
  vl : p.2.all isVl = true
  tr : trimB p.2 = p.2
theorem fieldL_ok {raw : List UInt8} {p : PairL} (h : fieldL raw = some p) : FieldOk p ∧ p.1.length + 1 + p.2.length ≤ raw.length := by
  unfold fieldL at h
  split at h
  · rename_i hc
    have hm := madeL_iff.1 hc.2.1
    simp only [Option.some.injEq] at h
    subst h
    have ht := trimB_idem (cutC 58 raw).2.1
    refine ⟨⟨all_small hm.1, by simp [small, hm.2], small_idem _, hc.2.2, ht⟩, ?_⟩
    have e := congrArg List.length (cutC_true hc.1).1
    have hl : (trimB (cutC 58 raw).2.1).length ≤ (cutC 58 raw).2.1.length := by
      unfold trimB Lib.trimS Lib.trimLeftS Lib.trimRightS
      refine Nat.le_trans (List.dropWhile_sublist _).length_le ?_
      rw [List.length_reverse]
      refine Nat.le_trans (List.dropWhile_sublist _).length_le ?_
      rw [List.length_reverse]
      exact Nat.le_refl _
    simp only [List.length_append, List.length_cons, small, List.length_map] at e ⊢
    omega
  · cases h
theorem fieldL_make {n v : List UInt8} {p : PairL} (hn : n.all isNm = true) (hne : n ≠ []) (hs : small n = p.1) (ht : trimB v = p.2) (hv : p.2.all isVl = true) : fieldL (n ++ 58 :: v) = some p := by
  have e : cutC 58 (n ++ 58 :: v) = (n, v, true) := cutC_app _ (isNm_ne 58 (by decide) hn)
  unfold fieldL
  simp only [e]
  rw [if_pos ⟨trivial, madeL_iff.2 ⟨hn, hne⟩, by rw [ht]; exact hv⟩, hs, ht]
def rawOf (p : PairL) : List UInt8 := p.1 ++ 58 :: 32 :: p.2
theorem fieldL_raw {p : PairL} (h : FieldOk p) : fieldL (rawOf p) = some p := by
  refine fieldL_make h.nm h.ne h.sm ?_ h.vl
  rw [show 32 :: p.2 = [32] ++ p.2 from rfl, trimB_lead _ (by intro c hc; simp at hc; subst hc; decide)]
  exact h.tr
theorem brk_raw {n v : List UInt8} (hn : n.all isNm = true) (hv : v.all isVl = true) : brk (n ++ 58 :: v) = false := by
  rw [brk_app, brk_all (by decide) (by decide) hn, show 58 :: v = [58] ++ v from rfl, brk_app, brk_all (by decide) (by decide) hv]
  rfl
theorem rawOf_brk {p : PairL} (h : FieldOk p) : brk (rawOf p) = false := brk_raw h.nm (by rw [List.all_cons, h.vl]; rfl)
theorem rawOf_len (p : PairL) : (rawOf p).length = p.1.length + 2 + p.2.length := by
  unfold rawOf
  rw [List.length_append, List.length_cons, List.length_cons]
  omega
theorem rawOf_ne (p : PairL) : rawOf p ≠ [] := by simp [rawOf]

/-! ### Heads -/
theorem lines_none {n f k : Nat} {l : List UInt8} {h : HeadL} {k' : Nat} (e : lines n (f + 1) none k l = (h, 0, k')) :
    ∃ h0 r, l = reqText h0 ++ 13 :: 10 :: r ∧ (reqText h0).length ≤ 1024 ∧ ReqOk h0 ∧ h0.2.2.2 = [] ∧ lines n f (some h0) (k + (reqText h0).length + 2) r = (h, 0, k') := by
  rw [lines] at e
  split at e
  · simp at e
  · rename_i hl
    split at e
    · simp at e
    · rename_i hc
      simp only [not_or, Bool.not_eq_false, Bool.not_eq_true] at hc
      have hcut := cutE_true hc.1
      split at e
      · rename_i h0
        simp only [Prod.mk.injEq] at e
        exact absurd e.2.1 h0
      · rename_i h0
        simp only [ne_eq, Decidable.not_not] at h0
        obtain ⟨e1, e2, e3⟩ := reqL_ok (line := (cutE l).1) (h := (reqL (cutE l).1).1) (by rw [← h0])
        rw [e1] at e hl hcut
        exact ⟨_, _, hcut, by omega, e2, e3, by rw [← e1] at e ⊢; exact e⟩
/-- What is read as a head. -/
structure Read (s : List UInt8) (h : HeadL) (raws : List (List UInt8)) : Prop where
  s4096 : s.length ≤ 4096
  req : ReqOk h
  reqLen : (reqText h).length ≤ 1024
  text : s = reqText h ++ 13 :: 10 :: (joinE raws ++ [13, 10])
  flds : raws.map fieldL = h.2.2.2.map some
  raws : ∀ a ∈ raws, RawOk a
  n32 : h.2.2.2.length ≤ 32
  host : hostOk h = true
theorem parse_ok {s : List UInt8} {h : HeadL} {k : Nat} (e : parseL s = (h, 0, k)) : k = 0 ∧ ∃ raws, Read s h raws := by
  unfold parseL at e
  split at e
  · simp at e
  · rename_i hl
    split at e
    · rename_i h0
      simp only [Prod.mk.injEq] at e
      exact absurd e.2.1 h0
    · rename_i h0
      simp only [ne_eq, Decidable.not_not] at h0
      split at e
      · rename_i hh
        simp only [Prod.mk.injEq, true_and] at e
        obtain ⟨e1, e2⟩ := e
        obtain ⟨h1, r, t1, t2, t3, t4, t5⟩ := lines_none (n := s.length) (f := s.length) (k := 0) (l := s) (h := h) (k' := (lines s.length (s.length + 1) none 0 s).2.2) (by
          rw [← e1, ← h0])
        obtain ⟨raws, ps, r1, r2, r3, r4, r5, r6⟩ := lines_ok _ _ _ _ _ _ t5
        rw [t4] at r4 r6
        simp only [List.nil_append] at r4
        refine ⟨e2.symm, raws, ?_⟩
        have hreq : reqText h = reqText h1 := by rw [r4]; rfl
        refine ⟨by omega, ?_, by rw [hreq]; exact t2, by rw [hreq, ← r1]; exact t1, by rw [r4]; exact r2, r3, ?_, by rw [← e1]; exact hh⟩
        · rw [r4]; exact ⟨t3.m16, t3.mLg, t3.tVs, t3.tOk, t3.min⟩
        · rw [r4]; have := r6 (by simp); simpa using this
      · simp at e
theorem parse_read {s : List UInt8} {h : HeadL} {raws : List (List UInt8)} (r : Read s h raws) : parseL s = (h, 0, 0) := by
  have hlen : raws.length < s.length := by
    have := joinE_len raws
    have e := congrArg List.length r.text
    simp only [List.length_append, List.length_cons] at e
    omega
  have e1 : lines s.length (s.length + 1) none 0 s = (h, 0, 0) := by
    obtain ⟨N, hN⟩ : ∃ N, N = s.length := ⟨_, rfl⟩
    rw [← hN] at hlen ⊢
    rw [r.text, lines_req (reqText_brk r.req) r.reqLen (reqL_text r.req), lines_join raws h.2.2.2 _ _ _ r.raws r.flds (by have := r.n32; simpa using this) hlen]
    simp
  have := r.s4096
  unfold parseL
  rw [if_neg (by omega), e1]
  simp only [r.host]
  simp

/-! ### What is printed -/
def textL (h : HeadL) : List UInt8 := reqText h ++ 13 :: 10 :: (joinE (h.2.2.2.map rawOf) ++ [13, 10])
def sameL (a b : HeadL) : Bool := decide (a.1 = b.1) && decide (a.2.1 = b.2.1) && decide (a.2.2.1 = b.2.2.1) && decide (a.2.2.2 = b.2.2.2)
theorem sameL_iff {a b : HeadL} : sameL a b = true ↔ a = b := by
  obtain ⟨a1, a2, a3, a4⟩ := a
  obtain ⟨b1, b2, b3, b4⟩ := b
  simp [sameL, and_assoc]
theorem sameL_self (a : HeadL) : sameL a a = true := sameL_iff.2 rfl
def prnL (h : HeadL) : Option (List UInt8) := if (h.2.2.1 = 0 ∨ h.2.2.1 = 1) ∧ (parseL (textL h)).2.1 = 0 ∧ sameL (parseL (textL h)).1 h = true then some (textL h) else none
theorem parse_back {s : List UInt8} {h : HeadL} : ((parseL s).2.1 = 0 ∧ sameL (parseL s).1 h = true) ↔ parseL s = (h, 0, 0) := by
  constructor
  · intro ⟨x, y⟩
    have y := sameL_iff.1 y
    have e : parseL s = (h, 0, (parseL s).2.2) := by rw [← x, ← y]
    rw [e, (parse_ok e).1]
  · intro e
    rw [e]
    exact ⟨rfl, sameL_self h⟩
theorem Read.fields {s : List UInt8} {h : HeadL} {raws : List (List UInt8)} (r : Read s h raws) : ∀ p ∈ h.2.2.2, ∃ a ∈ raws, fieldL a = some p := by
  intro p hp
  have : some p ∈ raws.map fieldL := by rw [r.flds]; exact List.mem_map.2 ⟨p, hp, rfl⟩
  obtain ⟨a, ha, e⟩ := List.mem_map.1 this
  exact ⟨a, ha, e⟩
theorem Read.fieldOk {s : List UInt8} {h : HeadL} {raws : List (List UInt8)} (r : Read s h raws) : ∀ p ∈ h.2.2.2, FieldOk p := by
  intro p hp
  obtain ⟨a, _, e⟩ := r.fields p hp
  exact (fieldL_ok e).1
theorem joinE_mem : ∀ {raws : List (List UInt8)} {a : List UInt8}, a ∈ raws → a.length + 2 ≤ (joinE raws).length
  | [], a, h => by cases h
  | b :: r, a, h => by
    simp only [joinE, List.length_append, List.length_cons]
    rcases List.mem_cons.1 h with rfl | h
    · omega
    · have := joinE_mem h; omega
theorem joinE_raws : ∀ (raws : List (List UInt8)) (ps : List PairL), raws.map fieldL = ps.map some → (joinE (ps.map rawOf)).length ≤ (joinE raws).length + ps.length
  | [], ps, h => by
    cases ps with
    | nil => simp [joinE]
    | cons p r => simp at h
  | a :: r, ps, h => by
    cases ps with
    | nil => simp at h
    | cons p ps =>
      simp only [List.map_cons, List.cons.injEq] at h
      have ih := joinE_raws r ps h.2
      have h1 := (fieldL_ok h.1).2
      have h2 := rawOf_len p
      simp only [List.map_cons, joinE, List.length_append, List.length_cons]
      omega
theorem again {s : List UInt8} {h : HeadL} {k : Nat} (e : parseL s = (h, 0, k)) (hs : s.length ≤ 1024) : prnL h = some (textL h) := by
  obtain ⟨_, raws, r⟩ := parse_ok e
  have hj := joinE_raws raws h.2.2.2 r.flds
  have hl := congrArg List.length r.text
  simp only [List.length_append, List.length_cons, List.length_nil] at hl
  have hn := r.n32
  have R : Read (textL h) h (h.2.2.2.map rawOf) := by
    refine ⟨?_, r.req, r.reqLen, rfl, ?_, ?_, hn, r.host⟩
    · simp only [textL, List.length_append, List.length_cons, List.length_nil]
      omega
    · rw [List.map_map]
      exact List.map_congr_left fun p hp => fieldL_raw (r.fieldOk p hp)
    · intro a ha
      obtain ⟨p, hp, rfl⟩ := List.mem_map.1 ha
      refine ⟨rawOf_brk (r.fieldOk p hp), ?_, rawOf_ne p⟩
      obtain ⟨a, ha, e2⟩ := r.fields p hp
      have h1 := (fieldL_ok e2).2
      have h2 := joinE_mem ha
      rw [rawOf_len]
      omega
  unfold prnL
  rw [if_pos ⟨r.req.min, parse_back.2 (parse_read R)⟩]
theorem print_some {h : HeadL} {s : List UInt8} (e : prnL h = some s) : s = textL h ∧ parseL s = (h, 0, 0) := by
  unfold prnL at e
  split at e
  · rename_i hc
    simp only [Option.some.injEq] at e
    subst e
    exact ⟨rfl, parse_back.1 hc.2⟩
  · cases e

/-- Nothing is read from more than 4096 bytes. -/
theorem parse_long {s : List UInt8} (h : 4096 < s.length) : parseL s = (hz, 431, 0) := by rw [parseL, if_pos h]

/-! ### The code's text -/
def wloop : List UInt8 → List PairL → List UInt8
  | out, [] => out
  | out, p :: r => if 4096 < out.length then out else wloop (out ++ (rawOf p ++ [13, 10])) r
theorem wloop_all : ∀ (ps : List PairL) (out : List UInt8), wloop out ps = out ++ joinE (ps.map rawOf) ∨ (4096 < (wloop out ps).length ∧ (wloop out ps).length ≤ (out ++ joinE (ps.map rawOf)).length)
  | [], out => Or.inl (by simp [wloop, joinE])
  | p :: r, out => by
    unfold wloop
    split
    · rename_i h
      exact Or.inr ⟨h, by simp⟩
    · have e : out ++ joinE ((p :: r).map rawOf) = (out ++ (rawOf p ++ [13, 10])) ++ joinE (r.map rawOf) := by
        simp [joinE]
      rw [e]
      exact wloop_all r _
/-- " HTTP/1." -/
def verW : List UInt8 := [32, 72, 84, 84, 80, 47, 49, 46]
def headW (h : HeadL) (d : List UInt8) : List UInt8 := h.1 ++ 32 :: (h.2.1 ++ (verW ++ (d ++ [13, 10])))
def writC (h : HeadL) (d : List UInt8) : List UInt8 := wloop (headW h d) h.2.2.2 ++ [13, 10]
theorem headW_text {h : HeadL} {d : List UInt8} (hm : (h.2.2.1 = 0 ∧ d = [48]) ∨ (h.2.2.1 = 1 ∧ d = [49])) : headW h d ++ joinE (h.2.2.2.map rawOf) ++ [13, 10] = textL h := by
  unfold headW textL reqText
  rcases hm with ⟨e, rfl⟩ | ⟨e, rfl⟩ <;> rw [e] <;> simp [verW, verOf, v10, v11]
theorem print_code (h : HeadL) (d : List UInt8) (hd : (h.2.2.1 = 0 → d = [48]) ∧ (h.2.2.1 = 1 → d = [49])) :
    prnL h = if (parseL (writC h d)).2.1 = 0 ∧ sameL (parseL (writC h d)).1 h = true then some (writC h d) else none := by
  by_cases hm : h.2.2.1 = 0 ∨ h.2.2.1 = 1
  · have hm' : (h.2.2.1 = 0 ∧ d = [48]) ∨ (h.2.2.1 = 1 ∧ d = [49]) := by
      rcases hm with e | e
      · exact Or.inl ⟨e, hd.1 e⟩
      · exact Or.inr ⟨e, hd.2 e⟩
    have ht := headW_text hm'
    rcases wloop_all h.2.2.2 (headW h d) with e | ⟨e1, e2⟩
    · have hw : writC h d = textL h := by rw [writC, e, ht]
      rw [hw]
      unfold prnL
      by_cases hp : (parseL (textL h)).2.1 = 0 ∧ sameL (parseL (textL h)).1 h = true
      · rw [if_pos ⟨hm, hp⟩, if_pos hp]
      · rw [if_neg (fun x => hp x.2), if_neg hp]
    · have h1 : 4096 < (writC h d).length := by rw [writC, List.length_append]; omega
      have h2 : 4096 < (textL h).length := by rw [← ht, List.length_append]; omega
      unfold prnL
      rw [parse_long h1, parse_long h2, if_neg (by simp), if_neg (by simp)]
  · unfold prnL
    rw [if_neg (fun x => hm x.1), if_neg]
    intro x
    obtain ⟨_, raws, r⟩ := parse_ok (parse_back.1 x)
    exact hm r.req.min

/-! ### The document's text -/
def minR (n : Int) : List UInt8 := if n = 1 then [49] else if n = 0 then [48] else [50]
def writR (h : HeadL) : List UInt8 := headW h (minR h.2.2.1) ++ joinE ((h.2.2.2.take 33).map rawOf) ++ [13, 10]
theorem print_doc (h : HeadL) : prnL h = if (parseL (writR h)).2.1 = 0 ∧ sameL (parseL (writR h)).1 h = true then some (writR h) else none := by
  by_cases hm : h.2.2.1 = 0 ∨ h.2.2.1 = 1
  · have hm' : (h.2.2.1 = 0 ∧ minR h.2.2.1 = [48]) ∨ (h.2.2.1 = 1 ∧ minR h.2.2.1 = [49]) := by
      rcases hm with e | e <;> rw [e] <;> decide
    have ht := headW_text hm'
    by_cases hl : h.2.2.2.length ≤ 33
    · have hw : writR h = textL h := by rw [writR, List.take_of_length_le hl, ht]
      rw [hw]
      unfold prnL
      by_cases hp : (parseL (textL h)).2.1 = 0 ∧ sameL (parseL (textL h)).1 h = true
      · rw [if_pos ⟨hm, hp⟩, if_pos hp]
      · rw [if_neg (fun x => hp x.2), if_neg hp]
    · unfold prnL
      rw [if_neg, if_neg]
      · intro x
        obtain ⟨_, raws, r⟩ := parse_ok (parse_back.1 x)
        have := r.n32
        omega
      · intro ⟨_, x⟩
        obtain ⟨_, raws, r⟩ := parse_ok (parse_back.1 x)
        have := r.n32
        omega
  · unfold prnL
    rw [if_neg (fun x => hm x.1), if_neg]
    intro x
    obtain ⟨_, raws, r⟩ := parse_ok (parse_back.1 x)
    exact hm r.req.min
end Go.Proofs.YtllhibdjopfcnaaGreatDoor

namespace Go.Proofs.YtllhibdjopfcnaaGreatDoor
set_option linter.unusedVariables false

/-! ### How many fields -/
theorem lines_run {n : Nat} : ∀ (raws : List (List UInt8)) (ps : List PairL) (f k : Nat) (h : HeadL) (rest : List UInt8), (∀ a ∈ raws, RawOk a) → raws.map fieldL = ps.map some → h.2.2.2.length + ps.length ≤ 32 →
    lines n (f + raws.length) (some h) k (joinE raws ++ rest) = lines n f (some (h.1, h.2.1, h.2.2.1, h.2.2.2 ++ ps)) (k + (joinE raws).length) rest
  | [], ps, f, k, h, rest, _, hm, _ => by
    obtain rfl : ps = [] := by cases ps with | nil => rfl | cons p r => simp at hm
    simp [joinE]
  | a :: r, ps, f, k, h, rest, ha, hm, h32 => by
    cases ps with
    | nil => simp at hm
    | cons p ps =>
      simp only [List.map_cons, List.cons.injEq] at hm
      have h1 := ha a (by simp)
      simp only [List.length_cons] at h32
      rw [show f + (a :: r).length = (f + r.length) + 1 by simp; omega, joinE, List.append_assoc, List.cons_append, List.cons_append, lines_field h1.brk h1.len h1.ne (by omega) hm.1]
      rw [lines_run r ps f _ _ rest (fun x hx => ha x (by simp [hx])) hm.2 (by simp; omega)]
      simp only [List.length_append, List.length_cons, List.append_assoc, List.singleton_append]
      congr 1
      omega
def xraw (k : Nat) : List UInt8 := 120 :: 58 :: List.replicate k 118
def hostRaw : List UInt8 := [104, 111, 115, 116, 58, 32, 97]
def getReq : HeadL := ([71, 69, 84], [47], 1, [])
/-- "GET / HTTP/1.1", "host: a", each with its end. -/
def baseS : List UInt8 := [71, 69, 84, 32, 47, 32, 72, 84, 84, 80, 47, 49, 46, 49, 13, 10, 104, 111, 115, 116, 58, 32, 97, 13, 10]
def limS (n k : Nat) : List UInt8 := baseS ++ (joinE (List.replicate (n - 1) (xraw k)) ++ [13, 10])
def xpair (k : Nat) : PairL := ([120], List.replicate k 118)
theorem trimB_v (k : Nat) : trimB (List.replicate k 118) = List.replicate k 118 := by
  unfold trimB Lib.trimS Lib.trimRightS Lib.trimLeftS
  have e1 : (List.replicate k (118 : UInt8)).reverse.dropWhile (fun x => [32, 9].contains x) = (List.replicate k (118 : UInt8)).reverse := by
    refine dw_self (fun b hb => ?_)
    have : b ∈ (List.replicate k (118 : UInt8)).reverse := List.mem_of_mem_head? hb
    rw [List.mem_reverse] at this
    rw [(List.mem_replicate.1 this).2]; decide
  rw [e1, List.reverse_reverse]
  refine dw_self (fun b hb => ?_)
  have : b ∈ List.replicate k (118 : UInt8) := List.mem_of_mem_head? hb
  rw [(List.mem_replicate.1 this).2]; decide
theorem xraw_field (k : Nat) : fieldL (xraw k) = some (xpair k) := by
  show fieldL ([120] ++ 58 :: List.replicate k 118) = _
  refine fieldL_make (by decide) (by decide) (show small [120] = [120] by decide) (trimB_v k) ?_
  rw [List.all_eq_true]
  intro x hx
  rw [(List.mem_replicate.1 hx).2]; decide
theorem xraw_ok {k : Nat} (h : k ≤ 63) : RawOk (xraw k) := by
  refine ⟨?_, by simp [xraw]; omega, by simp [xraw]⟩
  show brk ([120] ++ 58 :: List.replicate k 118) = false
  refine brk_raw (by decide) ?_
  rw [List.all_eq_true]
  intro x hx
  rw [(List.mem_replicate.1 hx).2]; decide
theorem xraw_len (k : Nat) : (xraw k).length = k + 2 := by simp [xraw]
theorem joinE_rep (a : List UInt8) : ∀ m : Nat, (joinE (List.replicate m a)).length = m * (a.length + 2)
  | 0 => by simp [joinE]
  | m + 1 => by
    rw [List.replicate_succ, joinE, List.length_append, List.length_cons, List.length_cons, joinE_rep a m, Nat.succ_mul]
    omega
theorem joinE_app : ∀ (a b : List (List UInt8)), joinE (a ++ b) = joinE a ++ joinE b
  | [], b => rfl
  | x :: a, b => by simp [joinE, joinE_app a b]
theorem base_is : baseS = reqText getReq ++ 13 :: 10 :: joinE [hostRaw] := by decide
theorem getReq_ok : ReqOk getReq := ⟨by decide, by decide, by decide, by decide +kernel, Or.inr rfl⟩
theorem host_field : fieldL hostRaw = some (hostS, [97]) := by decide
theorem host_ok : RawOk hostRaw := ⟨by decide, by decide, by decide⟩
theorem rep_map (k m : Nat) : (List.replicate m (xraw k)).map fieldL = (List.replicate m (xpair k)).map some := by
  simp [xraw_field]
theorem lim_raws {k : Nat} (hk : k ≤ 63) (m : Nat) : ∀ a ∈ hostRaw :: List.replicate m (xraw k), RawOk a := by
  intro a ha
  rcases List.mem_cons.1 ha with rfl | ha
  · exact host_ok
  · rw [(List.mem_replicate.1 ha).2]; exact xraw_ok hk
theorem lim_few {n k : Nat} (hk : k ≤ 63) (hn : n ≤ 32) (hl : (limS n k).length ≤ 4096) : parseL (limS n k) = (([71, 69, 84], [47], 1, (hostS, [97]) :: List.replicate (n - 1) (xpair k)), 0, 0) := by
  refine parse_read (raws := hostRaw :: List.replicate (n - 1) (xraw k)) ⟨hl, ⟨getReq_ok.m16, getReq_ok.mLg, getReq_ok.tVs, getReq_ok.tOk, getReq_ok.min⟩, (show (reqText getReq).length ≤ 1024 by decide), ?_, ?_, lim_raws hk _, by simp; omega, ?_⟩
  · unfold limS
    rw [base_is]
    simp only [joinE, List.append_assoc, List.cons_append, List.nil_append]
    rfl
  · simp only [List.map_cons, host_field, rep_map]
  · have : valsL ([71, 69, 84], [47], 1, (hostS, [97]) :: List.replicate (n - 1) (xpair k)) hostS = [[97]] := by
      unfold valsL
      simp only
      rw [List.filter_cons, if_pos (by decide), List.filter_eq_nil_iff.2]
      · rfl
      · intro p hp
        rw [(List.mem_replicate.1 hp).2]
        show ¬ (([120] : List UInt8) == small hostS) = true
        decide
    unfold hostOk
    rw [this, decide_eq_true_eq]
    exact Or.inl rfl
theorem lim_many {n k : Nat} (hk : k ≤ 63) (hn : 32 < n) (hl : (limS n k).length ≤ 4096) : parseL (limS n k) = (hz, 431, 25 + 31 * (k + 4)) := by
  have e : limS n k = reqText getReq ++ 13 :: 10 :: (joinE (hostRaw :: List.replicate 31 (xraw k)) ++ (xraw k ++ 13 :: 10 :: (joinE (List.replicate (n - 33) (xraw k)) ++ [13, 10]))) := by
    unfold limS
    rw [base_is, show n - 1 = 31 + (1 + (n - 33)) by omega, ← List.replicate_append_replicate, ← List.replicate_append_replicate, joinE_app, joinE_app]
    simp only [joinE, List.append_assoc, List.cons_append, List.nil_append, List.replicate_succ, List.replicate_zero]
  have hlines : lines (limS n k).length ((limS n k).length + 1) none 0 (limS n k) = (hz, 431, 25 + 31 * (k + 4)) := by
    have hge : 34 ≤ (limS n k).length := by
      unfold limS
      rw [List.length_append, List.length_append, joinE_rep]
      have : 32 * (k + 2 + 2) ≤ (n - 1) * ((xraw k).length + 2) := by rw [xraw_len]; exact Nat.mul_le_mul_right _ (by omega)
      omega
    obtain ⟨N, hN⟩ : ∃ N, N = (limS n k).length := ⟨_, rfl⟩
    rw [← hN] at hge ⊢
    rw [e, lines_req (reqText_brk getReq_ok) (by decide) (reqL_text getReq_ok)]
    rw [show N = (N - 33 + 1) + (hostRaw :: List.replicate 31 (xraw k)).length by simp; omega]
    rw [lines_run _ ((hostS, [97]) :: List.replicate 31 (xpair k)) _ _ _ _ (lim_raws hk 31) (by simp only [List.map_cons, host_field, rep_map]) (by simp)]
    rw [lines_full (xraw_ok hk).brk (xraw_ok hk).len (xraw_ok hk).ne (by simp)]
    rw [joinE, List.length_append, List.length_cons, List.length_cons, joinE_rep, xraw_len]
    simp only [Prod.mk.injEq, true_and]
    have a1 : (reqText getReq).length = 14 := by decide
    have a2 : hostRaw.length = 7 := by decide
    rw [a1, a2]
    omega
  unfold parseL
  rw [if_neg (by omega), hlines]
  simp

/-! ### Letters and blanks -/
def upB (i : Nat) (b : UInt8) : UInt8 := if isSm b = true ∧ i % 2 = 0 then b - 32 else b
/-- What the law makes of a text. -/
def tr (bl : List UInt8) : Bool → Nat → List UInt8 → List UInt8
  | _, _, [] => []
  | false, i, b :: r => b :: tr bl (decide (b = 10)) (i + 1) r
  | true, i, b :: r => if upB i b = 58 then 58 :: (bl ++ tr bl false (i + 1) r) else upB i b :: tr bl true (i + 1) r
def upL : Nat → List UInt8 → List UInt8
  | _, [] => []
  | i, b :: r => upB i b :: upL (i + 1) r
theorem upB_sm {b : UInt8} (h : isSm b = true) : isLg (b - 32) = true ∧ (b - 32) + 32 = b := by
  simp only [isSm, decide_eq_true_eq] at h
  refine ⟨?_, by simp⟩
  simp only [isLg, decide_eq_true_eq]
  have : (b - 32).toNat = b.toNat - 32 := by
    rw [UInt8.toNat_sub_of_le]
    · rfl
    · rw [UInt8.le_iff_toNat_le]; exact Nat.le_trans (by decide) h.1
  omega
theorem upB_small (i : Nat) {b : UInt8} (hs : smB b = b) : smB (upB i b) = b := by
  unfold upB
  split
  · rename_i h
    obtain ⟨h1, h2⟩ := upB_sm h.1
    rw [smB, if_pos h1, h2]
  · exact hs
theorem upB_nm (i : Nat) {b : UInt8} (hn : isNm b = true) : isNm (upB i b) = true := by
  unfold upB
  split
  · rename_i h
    simp [isNm, (upB_sm h.1).1]
  · exact hn
theorem upL_len : ∀ (l : List UInt8) (i : Nat), (upL i l).length = l.length
  | [], _ => rfl
  | b :: r, i => by simp [upL, upL_len r]
theorem upL_small : ∀ (l : List UInt8) (i : Nat), small l = l → small (upL i l) = l
  | [], _, _ => rfl
  | b :: r, i, h => by
    simp only [small, List.map_cons, List.cons.injEq] at h
    have ih := upL_small r (i + 1) h.2
    simp only [small] at ih
    simp only [upL, small, List.map_cons, upB_small i h.1, ih]
theorem upL_nm : ∀ (l : List UInt8) (i : Nat), l.all isNm = true → (upL i l).all isNm = true
  | [], _, _ => rfl
  | b :: r, i, h => by
    simp only [List.all_cons, Bool.and_eq_true] at h
    simp only [upL, List.all_cons, Bool.and_eq_true]
    exact ⟨upB_nm i h.1, upL_nm r (i + 1) h.2⟩
theorem tr_plain (bl : List UInt8) : ∀ (x y : List UInt8) (i : Nat), 10 ∉ x → tr bl false i (x ++ y) = x ++ tr bl false (i + x.length) y
  | [], y, i, _ => by simp
  | b :: x, y, i, h => by
    have hb : ¬ b = 10 := fun e => h (by rw [e]; simp)
    have hx : 10 ∉ x := fun e => h (by simp [e])
    rw [List.cons_append, tr, decide_eq_false hb, tr_plain bl x y _ hx]
    simp only [List.length_cons, List.cons_append]
    congr 3
    omega
theorem tr_name (bl : List UInt8) : ∀ (x y : List UInt8) (i : Nat), x.all isNm = true → tr bl true i (x ++ 58 :: y) = upL i x ++ 58 :: (bl ++ tr bl false (i + x.length + 1) y)
  | [], y, i, _ => by
    have h58 : upB i 58 = 58 := by rw [upB, if_neg]; intro h; exact absurd h.1 (by decide)
    rw [List.nil_append, tr, if_pos h58]
    simp [upL]
  | b :: x, y, i, h => by
    simp only [List.all_cons, Bool.and_eq_true] at h
    have h58 : ¬ upB i b = 58 := by
      intro e
      have := upB_nm i h.1
      rw [e] at this
      exact absurd this (by decide)
    rw [List.cons_append, tr, if_neg h58, tr_name bl x y _ h.2]
    simp only [upL, List.length_cons, List.cons_append]
    congr 5
    omega
theorem not10_all {p : UInt8 → Bool} (h10 : p 10 = false) {l : List UInt8} (h : l.all p = true) : 10 ∉ l := by
  intro hm
  rw [List.all_eq_true] at h
  rw [h 10 hm] at h10
  cases h10
theorem tr_end (bl : List UInt8) (i : Nat) (y : List UInt8) : tr bl false i (13 :: 10 :: y) = 13 :: 10 :: tr bl true (i + 2) y := by
  rw [tr, decide_eq_false (by decide), tr, decide_eq_true rfl]
/-- The lines that the law makes. -/
def rawT (bl : List UInt8) (i : Nat) (p : PairL) : List UInt8 := upL i p.1 ++ 58 :: (bl ++ 32 :: p.2)
def rawsT (bl : List UInt8) : Nat → List PairL → List (List UInt8)
  | _, [] => []
  | i, p :: r => rawT bl i p :: rawsT bl (i + (rawOf p).length + 2) r
theorem tr_fields (bl : List UInt8) : ∀ (ps : List PairL) (i : Nat), (∀ p ∈ ps, FieldOk p) → tr bl true i (joinE (ps.map rawOf) ++ [13, 10]) = joinE (rawsT bl i ps) ++ [13, 10]
  | [], i, _ => by
    have h1 : upB i 13 = 13 := by rw [upB, if_neg]; intro h; exact absurd h.1 (by decide)
    have h2 : upB (i + 1) 10 = 10 := by rw [upB, if_neg]; intro h; exact absurd h.1 (by decide)
    simp [joinE, rawsT, tr, h1, h2]
  | p :: r, i, h => by
    have hp := h p (by simp)
    have ih := tr_fields bl r (i + (rawOf p).length + 2) (fun q hq => h q (by simp [hq]))
    have hv : 10 ∉ 32 :: p.2 := by
      simp only [List.mem_cons, not_or]
      exact ⟨by decide, not10_all (by decide) hp.vl⟩
    simp only [List.map_cons, joinE, rawsT, rawT]
    have e : rawOf p ++ 13 :: 10 :: joinE (r.map rawOf) ++ [13, 10] = p.1 ++ 58 :: ((32 :: p.2) ++ 13 :: 10 :: (joinE (r.map rawOf) ++ [13, 10])) := by
      simp [rawOf]
    rw [e, tr_name bl _ _ _ hp.nm, tr_plain bl _ _ _ hv, tr_end]
    rw [show i + p.1.length + 1 + (32 :: p.2).length + 2 = i + (rawOf p).length + 2 by rw [rawOf_len, List.length_cons]; omega, ih]
    simp
theorem rawT_field {bl : List UInt8} (hbl : ∀ c ∈ bl, [32, 9].contains c = true) (i : Nat) {p : PairL} (h : FieldOk p) : fieldL (rawT bl i p) = some p := by
  refine fieldL_make (upL_nm _ _ h.nm) ?_ (upL_small _ _ h.sm) ?_ h.vl
  · intro e
    have := upL_len p.1 i
    rw [e] at this
    exact h.ne (List.eq_nil_of_length_eq_zero this.symm)
  · rw [show bl ++ 32 :: p.2 = (bl ++ [32]) ++ p.2 by simp, trimB_lead]
    · exact h.tr
    · intro c hc
      rcases List.mem_append.1 hc with hc | hc
      · exact hbl c hc
      · simp at hc; subst hc; decide
theorem rawT_len (bl : List UInt8) (i : Nat) (p : PairL) : (rawT bl i p).length = (rawOf p).length + bl.length := by
  rw [rawOf_len, rawT, List.length_append, upL_len, List.length_cons, List.length_append, List.length_cons]
  omega
theorem rawT_ok {bl : List UInt8} (hbl : ∀ c ∈ bl, [32, 9].contains c = true) (i : Nat) {p : PairL} (h : FieldOk p) (hl : (rawOf p).length + bl.length ≤ 1024) : RawOk (rawT bl i p) := by
  refine ⟨brk_raw (upL_nm _ _ h.nm) ?_, by rw [rawT_len]; exact hl, by simp [rawT]⟩
  rw [List.all_append, List.all_cons, h.vl, Bool.and_eq_true]
  refine ⟨?_, rfl⟩
  rw [List.all_eq_true]
  intro c hc
  simp only [isVl, hbl c hc, Bool.or_true]
theorem rawsT_mem {bl : List UInt8} : ∀ (ps : List PairL) (i : Nat) (a : List UInt8), a ∈ rawsT bl i ps → ∃ p ∈ ps, ∃ j, a = rawT bl j p
  | [], i, a, h => by cases h
  | p :: r, i, a, h => by
    rcases List.mem_cons.1 h with rfl | h
    · exact ⟨p, by simp, i, rfl⟩
    · obtain ⟨q, hq, j, e⟩ := rawsT_mem r _ a h
      exact ⟨q, by simp [hq], j, e⟩
theorem rawsT_map {bl : List UInt8} (hbl : ∀ c ∈ bl, [32, 9].contains c = true) : ∀ (ps : List PairL) (i : Nat), (∀ p ∈ ps, FieldOk p) → (rawsT bl i ps).map fieldL = ps.map some
  | [], i, _ => rfl
  | p :: r, i, h => by
    rw [rawsT, List.map_cons, List.map_cons, rawT_field hbl i (h p (by simp)), rawsT_map hbl r _ (fun q hq => h q (by simp [hq]))]
/-- Letters of names and blanks around values change nothing. -/
theorem letters {h : HeadL} {s bl : List UInt8} (e : prnL h = some s) (hbl : ∀ c ∈ bl, [32, 9].contains c = true) (h8 : bl.length ≤ 8) (h9 : s.length ≤ 900) (ho : (tr bl false 0 s).length ≤ 4096) : parseL (tr bl false 0 s) = (h, 0, 0) := by
  obtain ⟨hs, hp⟩ := print_some e
  obtain ⟨_, raws, r⟩ := parse_ok hp
  have hf := r.fieldOk
  have h10 : 10 ∉ reqText h := by
    have := reqText_brk r.req
    intro hm
    rw [brk, List.any_eq_false] at this
    exact this 10 hm (by decide)
  have ht : tr bl false 0 s = reqText h ++ 13 :: 10 :: (joinE (rawsT bl (0 + (reqText h).length + 2) h.2.2.2) ++ [13, 10]) := by
    rw [hs, textL, tr_plain bl _ _ _ h10, tr_end, tr_fields bl _ _ hf]
  refine parse_read (raws := rawsT bl (0 + (reqText h).length + 2) h.2.2.2) ⟨ho, r.req, r.reqLen, ht, rawsT_map hbl _ _ hf, ?_, r.n32, r.host⟩
  intro a ha
  obtain ⟨p, hpm, j, rfl⟩ := rawsT_mem _ _ _ ha
  refine rawT_ok hbl j (hf p hpm) ?_
  have h1 : (rawOf p).length + 2 ≤ (joinE (h.2.2.2.map rawOf)).length := joinE_mem (List.mem_map.2 ⟨p, hpm, rfl⟩)
  rw [hs] at h9
  simp only [textL, List.length_append, List.length_cons, List.length_nil] at h9
  omega

/-! ### Bodies, ends of connections -/
def clS : List UInt8 := [99, 111, 110, 116, 101, 110, 116, 45, 108, 101, 110, 103, 116, 104]
def teS : List UInt8 := [116, 114, 97, 110, 115, 102, 101, 114, 45, 101, 110, 99, 111, 100, 105, 110, 103]
def chS : List UInt8 := [99, 104, 117, 110, 107, 101, 100]
def cnS : List UInt8 := [99, 111, 110, 110, 101, 99, 116, 105, 111, 110]
def closeS : List UInt8 := [99, 108, 111, 115, 101]
def keepS : List UInt8 := [107, 101, 101, 112, 45, 97, 108, 105, 118, 101]
def numL (l : List UInt8) : Nat := l.foldl (fun n b => 10 * n + (b.toNat - 48)) 0
def lenL (l : List (List UInt8)) : Int × Int × Int :=
  if 9 < (l.headD []).length ∨ madeL isDg (l.headD []) = false then (0, 0, 400)
  else if l.all (· == l.headD []) = false then (0, 0, 400)
  else if 16384 < numL (l.headD []) then (0, 0, 413) else (1, numL (l.headD []), 0)
def codL (c : List (List UInt8)) (minor : Int) : Int × Int × Int := if c.length = 1 ∧ small (c.headD []) = chS ∧ minor = 1 then (2, 0, 0) else (0, 0, 400)
def bodyL (h : HeadL) : Int × Int × Int :=
  if 0 < (valsL h clS).length ∧ 0 < (valsL h teS).length then (0, 0, 400)
  else if 0 < (valsL h teS).length then codL (valsL h teS) h.2.2.1
  else if 0 < (valsL h clS).length then lenL (valsL h clS)
  else (0, 0, 0)
def wordsL (vs : List (List UInt8)) : List (List UInt8) := vs.flatMap fun v => (splitC 44 v).map fun w => small (trimB w)
def closesL (h : HeadL) : Bool := (wordsL (valsL h cnS)).contains closeS || (decide (h.2.2.1 = 0) && !(wordsL (valsL h cnS)).contains keepS)
end Go.Proofs.YtllhibdjopfcnaaGreatDoor
