/-
  Heads of requests: what they are, over lists of bytes.
-/
import Derived.Test.YtllhibdjopfcnaaGreatDoorTMath
import Derived.Lib.SlTrimSet
import Derived.Lib.IndexMore
import Derived.Lib.IndexAny
namespace Go.Proofs.YtllhibdjopfcnaaGreatDoor
set_option linter.unusedVariables false

def isLg (b : UInt8) : Bool := decide (65 ≤ b.toNat ∧ b.toNat ≤ 90)
def isSm (b : UInt8) : Bool := decide (97 ≤ b.toNat ∧ b.toNat ≤ 122)
def isDg (b : UInt8) : Bool := decide (48 ≤ b.toNat ∧ b.toNat ≤ 57)
def isVs (b : UInt8) : Bool := decide (33 ≤ b.toNat ∧ b.toNat ≤ 126)
def signs : List UInt8 := [33, 35, 36, 37, 38, 39, 42, 43, 45, 46, 94, 95, 96, 124, 126]
def isNm (b : UInt8) : Bool := isLg b || isSm b || isDg b || signs.contains b
def isVl (b : UInt8) : Bool := isVs b || [32, 9].contains b
def smB (b : UInt8) : UInt8 := if isLg b = true then b + 32 else b
def small (l : List UInt8) : List UInt8 := l.map smB
def madeL (p : UInt8 → Bool) (l : List UInt8) : Bool := l.all p && !l.isEmpty
abbrev trimB (l : List UInt8) : List UInt8 := Lib.trimS l [32, 9]

/-- A head: method, target, minor, fields. -/
abbrev HeadL := List UInt8 × List UInt8 × Int × List PairL
def hz : HeadL := ([], [], 0, [])

def v10 : List UInt8 := [72, 84, 84, 80, 47, 49, 46, 48]
def v11 : List UInt8 := [72, 84, 84, 80, 47, 49, 46, 49]
/-- Minor and status of a version. -/
def verL (v : List UInt8) : Int × Int :=
  if v = v10 then (0, 0) else if v = v11 then (1, 0) else
  if v.length = 8 ∧ v.take 5 = [72, 84, 84, 80, 47] ∧ isDg (v.getD 5 0) = true ∧ v.getD 6 0 = 46 ∧ isDg (v.getD 7 0) = true then (0, 505) else (0, 400)
/-- A request line's head and status. -/
def reqL (line : List UInt8) : HeadL × Int :=
  if 16 < (cutC 32 line).1.length ∨ madeL isLg (cutC 32 line).1 = false ∨ madeL isVs (cutC 32 (cutC 32 line).2.1).1 = false then (hz, 400)
  else if (verL (cutC 32 (cutC 32 line).2.1).2.1).2 ≠ 0 then (hz, (verL (cutC 32 (cutC 32 line).2.1).2.1).2)
  else if (tgt (cutC 32 (cutC 32 line).2.1).1).err ≠ 0 then (hz, 400)
  else (((cutC 32 line).1, (cutC 32 (cutC 32 line).2.1).1, (verL (cutC 32 (cutC 32 line).2.1).2.1).1, []), 0)
/-- A line's field. -/
def fieldL (line : List UInt8) : Option PairL :=
  if (cutC 58 line).2.2 = true ∧ madeL isNm (cutC 58 line).1 = true ∧ (trimB (cutC 58 line).2.1).all isVl = true then some (small (cutC 58 line).1, trimB (cutC 58 line).2.1) else none

/-- A text around the first CR LF. -/
def cutE : List UInt8 → List UInt8 × List UInt8 × Bool
  | [] => ([], [], false)
  | a :: r => if a = 13 ∧ r.head? = some 10 then ([], r.tail, true) else (a :: (cutE r).1, (cutE r).2.1, (cutE r).2.2)
def brkB (b : UInt8) : Bool := [13, 10].contains b
def brk (l : List UInt8) : Bool := l.any brkB

def lines (n : Nat) : Nat → Option HeadL → Nat → List UInt8 → HeadL × Int × Nat
  | 0, _, _, _ => (hz, 400, 0)
  | f + 1, oh, k, l =>
    if 1024 < (cutE l).1.length then (hz, 431, k)
    else if (cutE l).2.2 = false ∨ brk (cutE l).1 = true then (hz, 400, k)
    else match oh with
      | none => if (reqL (cutE l).1).2 ≠ 0 then (hz, (reqL (cutE l).1).2, k) else lines n f (some (reqL (cutE l).1).1) (k + (cutE l).1.length + 2) (cutE l).2.1
      | some h =>
        if (cutE l).1 = [] then (if (cutE l).2.1 = [] then (h, 0, 0) else (hz, 400, n))
        else if 32 ≤ h.2.2.2.length then (hz, 431, k)
        else match fieldL (cutE l).1 with
          | none => (hz, 400, k)
          | some p => lines n f (some (h.1, h.2.1, h.2.2.1, h.2.2.2 ++ [p])) (k + (cutE l).1.length + 2) (cutE l).2.1

def valsL (h : HeadL) (name : List UInt8) : List (List UInt8) := (h.2.2.2.filter fun p => p.1 == small name).map (·.2)
def hostS : List UInt8 := [104, 111, 115, 116]
def hostOk (h : HeadL) : Bool := decide ((valsL h hostS).length = 1 ∨ (valsL h hostS).length = 0 ∧ h.2.2.1 = 0)
/-- The head of bytes, its status, its place. -/
def parseL (s : List UInt8) : HeadL × Int × Nat :=
  if 4096 < s.length then (hz, 431, 0)
  else if (lines s.length (s.length + 1) none 0 s).2.1 ≠ 0 then (hz, (lines s.length (s.length + 1) none 0 s).2.1, (lines s.length (s.length + 1) none 0 s).2.2)
  else if hostOk (lines s.length (s.length + 1) none 0 s).1 = true then ((lines s.length (s.length + 1) none 0 s).1, 0, 0) else (hz, 400, 0)

/-! ### Bytes -/
theorem byteL (b : UInt8) : b.toNat < 256 := b.toNat_lt
theorem sm_of {b : UInt8} (h : isLg b = true) : (b + 32).toNat = b.toNat + 32 := by
  simp only [isLg, decide_eq_true_eq] at h
  rw [UInt8.toNat_add]
  simp
  omega
theorem smB_idem (b : UInt8) : smB (smB b) = smB b := by
  unfold smB
  split
  · rename_i h
    have := sm_of h
    rw [if_neg]
    simp only [isLg, decide_eq_true_eq] at h ⊢
    omega
  · rfl
theorem small_idem (l : List UInt8) : small (small l) = small l := by
  simp [small, smB_idem]
theorem isNm_smB {b : UInt8} (h : isNm b = true) : isNm (smB b) = true := by
  unfold smB
  split
  · rename_i hl
    have := sm_of hl
    simp only [isLg, decide_eq_true_eq] at hl
    have h2 : isSm (b + 32) = true := by simp only [isSm, decide_eq_true_eq]; omega
    simp [isNm, h2]
  · exact h
theorem all_small {l : List UInt8} (h : l.all isNm = true) : (small l).all isNm = true := by
  rw [List.all_eq_true] at h ⊢
  intro x hx
  obtain ⟨b, hb, rfl⟩ := List.mem_map.1 hx
  exact isNm_smB (h b hb)
theorem isNm_ne (c : UInt8) (hc : isNm c = false) {l : List UInt8} (h : l.all isNm = true) : c ∉ l := by
  intro hm
  rw [List.all_eq_true] at h
  rw [h c hm] at hc
  cases hc
theorem isVs_ne (c : UInt8) (hc : isVs c = false) {l : List UInt8} (h : l.all isVs = true) : c ∉ l := by
  intro hm
  rw [List.all_eq_true] at h
  rw [h c hm] at hc
  cases hc
theorem isLg_ne (c : UInt8) (hc : isLg c = false) {l : List UInt8} (h : l.all isLg = true) : c ∉ l := by
  intro hm
  rw [List.all_eq_true] at h
  rw [h c hm] at hc
  cases hc
theorem brk_app (a b : List UInt8) : brk (a ++ b) = (brk a || brk b) := by simp [brk]
theorem brk_all {p : UInt8 → Bool} (h13 : p 13 = false) (h10 : p 10 = false) {l : List UInt8} (h : l.all p = true) : brk l = false := by
  rw [brk, List.any_eq_false]
  intro x hx
  rw [List.all_eq_true] at h
  have := h x hx
  simp only [brkB, List.contains_cons, List.contains_nil, Bool.or_false, Bool.or_eq_true, beq_iff_eq, not_or]
  refine ⟨fun e => ?_, fun e => ?_⟩
  · subst e; rw [h13] at this; cases this
  · subst e; rw [h10] at this; cases this

/-! ### Lines -/
theorem cutE_app {l : List UInt8} (r : List UInt8) (h : brk l = false) : cutE (l ++ 13 :: 10 :: r) = (l, r, true) := by
  induction l with
  | nil => simp [cutE]
  | cons a l ih =>
    rw [brk, List.any_cons, Bool.or_eq_false_iff] at h
    have ha : ¬ a = 13 := by
      intro e; subst e; exact absurd h.1 (by decide)
    rw [List.cons_append, cutE, if_neg (fun e => ha e.1), ih h.2]
theorem cutE_true : ∀ {l : List UInt8}, (cutE l).2.2 = true → l = (cutE l).1 ++ 13 :: 10 :: (cutE l).2.1
  | [], h => by simp [cutE] at h
  | a :: r, h => by
    unfold cutE at h ⊢
    split at h
    · rename_i hc
      rw [if_pos hc]
      obtain ⟨rfl, h2⟩ := hc
      cases r with
      | nil => simp at h2
      | cons b r => simp at h2; subst h2; rfl
    · rename_i hc
      rw [if_neg hc]
      simp only at h ⊢
      have := cutE_true h
      rw [List.cons_append, ← this]
theorem cutE_false : ∀ {l : List UInt8}, (cutE l).2.2 = false → (cutE l).1 = l ∧ (cutE l).2.1 = []
  | [], h => by simp [cutE]
  | a :: r, h => by
    unfold cutE at h ⊢
    split at h
    · simp at h
    · rename_i hc
      rw [if_neg hc]
      simp only at h ⊢
      obtain ⟨h1, h2⟩ := cutE_false h
      rw [h1, h2]
      exact ⟨rfl, rfl⟩
theorem cutE_len (l : List UInt8) : (cutE l).1.length ≤ l.length ∧ ((cutE l).2.2 = true → (cutE l).1.length + 2 + (cutE l).2.1.length = l.length) := by
  cases h : (cutE l).2.2 with
  | false => rw [(cutE_false h).1]; exact ⟨Nat.le_refl _, fun e => by cases e⟩
  | true =>
    have e := congrArg List.length (cutE_true h)
    simp only [List.length_append, List.length_cons] at e
    exact ⟨by omega, fun _ => by omega⟩
theorem lines_req {n f k : Nat} {a r : List UInt8} {h : HeadL} (hb : brk a = false) (hl : a.length ≤ 1024) (hr : reqL a = (h, 0)) : lines n (f + 1) none k (a ++ 13 :: 10 :: r) = lines n f (some h) (k + a.length + 2) r := by
  rw [lines, cutE_app r hb]
  simp only [hb, hr]
  rw [if_neg (by omega), if_neg (by simp)]
  simp
theorem lines_field {n f k : Nat} {a r : List UInt8} {h : HeadL} {p : PairL} (hb : brk a = false) (hl : a.length ≤ 1024) (hne : a ≠ []) (h32 : h.2.2.2.length < 32) (hf : fieldL a = some p) :
    lines n (f + 1) (some h) k (a ++ 13 :: 10 :: r) = lines n f (some (h.1, h.2.1, h.2.2.1, h.2.2.2 ++ [p])) (k + a.length + 2) r := by
  rw [lines, cutE_app r hb]
  simp only [hb, hf]
  rw [if_neg (by omega), if_neg (by simp), if_neg hne, if_neg (by omega)]
theorem lines_full {n f k : Nat} {a r : List UInt8} {h : HeadL} (hb : brk a = false) (hl : a.length ≤ 1024) (hne : a ≠ []) (h32 : 32 ≤ h.2.2.2.length) : lines n (f + 1) (some h) k (a ++ 13 :: 10 :: r) = (hz, 431, k) := by
  rw [lines, cutE_app r hb]
  simp only [hb]
  rw [if_neg (by omega), if_neg (by simp), if_neg hne, if_pos h32]
theorem lines_end {n f k : Nat} {h : HeadL} : lines n (f + 1) (some h) k [13, 10] = (h, 0, 0) := by
  have : cutE [13, 10] = ([], [], true) := by decide
  rw [lines, this]
  simp [brk]

/-- Lines, each with its end. -/
def joinE : List (List UInt8) → List UInt8
  | [] => []
  | a :: r => a ++ 13 :: 10 :: joinE r
structure RawOk (a : List UInt8) : Prop where
  brk : brk a = false
  len : a.length ≤ 1024
  ne : a ≠ []
theorem joinE_len : ∀ l : List (List UInt8), 2 * l.length ≤ (joinE l).length
  | [] => by simp [joinE]
  | a :: r => by have := joinE_len r; simp only [joinE, List.length_append, List.length_cons]; omega
/-- Right lines are read. -/
theorem lines_join {n : Nat} : ∀ (raws : List (List UInt8)) (ps : List PairL) (f k : Nat) (h : HeadL), (∀ a ∈ raws, RawOk a) → raws.map fieldL = ps.map some → h.2.2.2.length + ps.length ≤ 32 → raws.length < f →
    lines n f (some h) k (joinE raws ++ [13, 10]) = ((h.1, h.2.1, h.2.2.1, h.2.2.2 ++ ps), 0, 0)
  | [], ps, f, k, h, _, hm, _, hf => by
    obtain rfl : ps = [] := by cases ps with | nil => rfl | cons p r => simp at hm
    obtain ⟨f, rfl⟩ : ∃ g, f = g + 1 := ⟨f - 1, by omega⟩
    rw [joinE, List.nil_append, lines_end]
    simp
  | a :: r, ps, f, k, h, ha, hm, h32, hf => by
    obtain ⟨f, rfl⟩ : ∃ g, f = g + 1 := ⟨f - 1, by simp at hf; omega⟩
    cases ps with
    | nil => simp at hm
    | cons p ps =>
      simp only [List.map_cons, List.cons.injEq] at hm
      have h1 := ha a (by simp)
      simp only [List.length_cons] at h32 hf
      rw [joinE, List.append_assoc, List.cons_append, List.cons_append, lines_field h1.brk h1.len h1.ne (by omega) hm.1]
      rw [lines_join r ps f _ _ (fun x hx => ha x (by simp [hx])) hm.2 (by simp; omega) (by omega)]
      simp
/-- What is read as a head was right lines. -/
theorem lines_ok {n : Nat} : ∀ (f k : Nat) (h : HeadL) (l : List UInt8) (h' : HeadL) (k' : Nat), lines n f (some h) k l = (h', 0, k') →
    ∃ raws ps, l = joinE raws ++ [13, 10] ∧ raws.map fieldL = ps.map some ∧ (∀ a ∈ raws, RawOk a) ∧ h' = (h.1, h.2.1, h.2.2.1, h.2.2.2 ++ ps) ∧ k' = 0 ∧ (h.2.2.2.length ≤ 32 → h.2.2.2.length + ps.length ≤ 32)
  | 0, k, h, l, h', k', e => by simp [lines] at e
  | f + 1, k, h, l, h', k', e => by
    rw [lines] at e
    split at e
    · simp at e
    · rename_i hl
      split at e
      · simp at e
      · rename_i hc
        simp only [not_or, Bool.not_eq_false, Bool.not_eq_true] at hc
        have hcut := cutE_true hc.1
        split at e
        · rename_i h0
          split at e
          · rename_i h1
            simp only [Prod.mk.injEq] at e
            refine ⟨[], [], ?_, rfl, (fun a ha => by cases ha), ?_, e.2.2.symm, fun h => by simpa using h⟩
            · rw [hcut, h0, h1]; rfl
            · rw [← e.1]; simp
          · simp at e
        · rename_i h0
          split at e
          · simp at e
          · rename_i h32
            split at e
            · simp at e
            · rename_i p hp
              obtain ⟨raws, ps, e1, e2, e3, e4, e5, e6⟩ := lines_ok f _ _ _ _ _ e
              refine ⟨(cutE l).1 :: raws, p :: ps, ?_, ?_, ?_, ?_, e5, ?_⟩
              · rw [joinE, List.append_assoc, List.cons_append, List.cons_append, ← e1]
                exact hcut
              · simp [hp, e2]
              · intro a ha
                rcases List.mem_cons.1 ha with rfl | ha
                · exact ⟨hc.2, by omega, h0⟩
                · exact e3 a ha
              · rw [e4]; simp
              · intro h
                simp only [List.length_append, List.length_cons, List.length_nil] at e6 ⊢
                omega
end Go.Proofs.YtllhibdjopfcnaaGreatDoor
