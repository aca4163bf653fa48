/-
  Requests out of bytes, over lists of bytes: chunked bodies, what bytes begin with, all requests; what a part tells the whole tells; heads and what stands behind them; the states of a reader.
-/
import Derived.Test.YtllhibdjopfcnaaGreatDoorZHMath
namespace Go.Proofs.YtllhibdjopfcnaaGreatDoor
set_option linter.unusedVariables false

/-- What bytes tell: more is wanted; a status; or a thing, and how many bytes it has. -/
abbrev Tell (α : Type) := Except (Option Int) (α × Nat)

theorem bad_inj {α : Type} {s t : Int} (h : (Except.error (some s) : Tell α) = .error (some t)) : s = t := by
  injection h with h
  injection h with h
theorem got_inj {α : Type} {a b : α} {n m : Nat} (h : (Except.ok (a, n) : Tell α) = .ok (b, m)) : a = b ∧ n = m := by
  injection h with h
  injection h with h1 h2
  exact ⟨h1, h2⟩
def isHx (b : UInt8) : Bool := decide (0 ≤ hexD b)
def isRm (b : UInt8) : Bool := decide (32 ≤ b.toNat ∧ b.toNat ≤ 126 ∨ b.toNat = 9)
/-- A line's end. -/
def eolL : List UInt8 → Tell Unit
  | [] => (.error none)
  | [a] => if a = 13 then (.error none) else (.error (some 400))
  | a :: b :: _ => if a = 13 ∧ b = 10 then (.ok ((), 2)) else (.error (some 400))
def hexN (l : List UInt8) : Nat := l.foldl (fun n b => 16 * n + (hexD b).toNat) 0
def digs (l : List UInt8) : Nat := (l.takeWhile isHx).length
def rmk : List UInt8 → Nat
  | [] => 0
  | a :: t => if a = 59 then 1 + (t.takeWhile isRm).length else 0
/-- The line of a size. -/
def sizeL (l : List UInt8) : Tell Nat :=
  if 8 < digs l then (.error (some 400))
  else if digs l = l.length then (.error none)
  else if digs l = 0 then (.error (some 400))
  else if 1024 < digs l + rmk (l.drop (digs l)) then (.error (some 400))
  else match eolL (l.drop (digs l + rmk (l.drop (digs l)))) with
    | (.error none) => (.error none)
    | (.error (some s)) => (.error (some s))
    | (.ok (_, k)) => (.ok ((hexN (l.take (digs l))), (digs l + rmk (l.drop (digs l)) + k)))
def putT {α : Type} (k : Nat) : Tell α → Tell α
  | (.error none) => (.error none)
  | (.error (some s)) => (.error (some s))
  | (.ok (a, n)) => (.ok (a, (k + n)))
/-- A chunked body, behind what was read. -/
def chunksL : Nat → List UInt8 → List UInt8 → Tell (List UInt8)
  | 0, _, _ => (.error none)
  | f + 1, body, l => match sizeL l with
    | (.error none) => (.error none)
    | (.error (some s)) => (.error (some s))
    | (.ok (n, k)) =>
      if 16384 < n + body.length then (.error (some 413))
      else if l.length < k + n then (.error none)
      else match eolL (l.drop (k + n)) with
        | (.error none) => (.error none)
        | (.error (some s)) => (.error (some s))
        | (.ok (_, e)) => if n = 0 then (.ok (body, (k + e))) else putT (k + n + e) (chunksL f (body ++ (l.drop k).take n) (l.drop (k + n + e)))
/-- The place behind the first two line ends that stand together. -/
def endH : List UInt8 → Option Nat
  | [] => none
  | a :: r => if (a :: r).take 4 = [13, 10, 13, 10] then some 4 else (endH r).map (· + 1)

/-- A request: head, path, query, body, whether it closes. -/
structure ReqL where
  head : HeadL
  path : List UInt8
  query : List PairL
  body : List UInt8
  close : Bool
def reqOf (h : HeadL) (b : List UInt8) : ReqL := ⟨h, (tgt h.2.1).path, (tgt h.2.1).query, b, closesL h⟩
/-- The body that a head asks for, from a place on: it, and where it ends. -/
def bodyAt (h : HeadL) (s : List UInt8) (at' : Nat) : Tell (List UInt8) :=
  if (bodyL h).2.2 ≠ 0 then (.error (some (bodyL h).2.2))
  else if (bodyL h).1 = 2 then putT at' (chunksL (s.length + 1) [] (s.drop at'))
  else if s.length < at' + (bodyL h).2.1.toNat then (.error none)
  else (.ok (((s.drop at').take (bodyL h).2.1.toNat), (at' + (bodyL h).2.1.toNat)))
/-- The request that bytes begin with. -/
def firstL (s : List UInt8) : Tell ReqL :=
  match endH s with
  | none => if 4096 < s.length then (.error (some 431)) else (.error none)
  | some at' =>
    if (parseL (s.take at')).2.1 ≠ 0 then (.error (some (parseL (s.take at')).2.1))
    else match bodyAt (parseL (s.take at')).1 s at' with
      | (.error none) => (.error none)
      | (.error (some t)) => (.error (some t))
      | (.ok (b, n)) => (.ok ((reqOf (parseL (s.take at')).1 b), n))

/-! ### What a part tells the whole tells -/
theorem eolL_more {p : List UInt8} (r : List UInt8) (h : eolL p ≠ (.error none)) : eolL (p ++ r) = eolL p := by
  match p with
  | [] => exact absurd rfl h
  | [a] =>
    by_cases ha : a = 13
    · subst ha; exact absurd rfl h
    · cases r with
      | nil => rfl
      | cons b r => simp [eolL, ha]
  | a :: b :: p => rfl
theorem eolL_one (a : UInt8) : eolL [a] = if a = 13 then (.error none) else (.error (some 400)) := rfl
theorem eolL_two (a b : UInt8) (p : List UInt8) : eolL (a :: b :: p) = if a = 13 ∧ b = 10 then (.ok ((), 2)) else (.error (some 400)) := rfl
theorem rmk_cons (a : UInt8) (t : List UInt8) : rmk (a :: t) = if a = 59 then 1 + (t.takeWhile isRm).length else 0 := rfl
theorem eolL_got {p : List UInt8} {k : Nat} (h : eolL p = (.ok ((), k))) : k = 2 ∧ 2 ≤ p.length := by
  match p with
  | [] => cases h
  | [a] =>
    rw [eolL_one] at h
    by_cases ha : a = 13
    · rw [if_pos ha] at h; cases h
    · rw [if_neg ha] at h; cases h
  | a :: b :: p =>
    rw [eolL_two] at h
    by_cases ha : a = 13 ∧ b = 10
    · rw [if_pos ha] at h
      have h := (got_inj h).2; exact ⟨h.symm, by simp⟩
    · rw [if_neg ha] at h; cases h
theorem eolL_bad {p : List UInt8} {s : Int} (h : eolL p = (.error (some s))) : s = 400 := by
  match p with
  | [] => cases h
  | [a] =>
    rw [eolL_one] at h
    by_cases ha : a = 13
    · rw [if_pos ha] at h; cases h
    · rw [if_neg ha] at h; have h := bad_inj h; exact h.symm
  | a :: b :: p =>
    rw [eolL_two] at h
    by_cases ha : a = 13 ∧ b = 10
    · rw [if_pos ha] at h; cases h
    · rw [if_neg ha] at h; have h := bad_inj h; exact h.symm
theorem takeWhile_len (f : UInt8 → Bool) (l : List UInt8) : (l.takeWhile f).length ≤ l.length := by
  have := congrArg List.length (List.takeWhile_append_dropWhile (p := f) (l := l))
  rw [List.length_append] at this
  omega
theorem takeWhile_app (f : UInt8 → Bool) : ∀ (p r : List UInt8), ((p ++ r).takeWhile f).length = if (p.takeWhile f).length = p.length then p.length + (r.takeWhile f).length else (p.takeWhile f).length
  | [], r => by simp
  | a :: p, r => by
    have ih := takeWhile_app f p r
    rw [List.cons_append, List.takeWhile_cons, List.takeWhile_cons]
    cases ha : f a with
    | false => simp
    | true =>
      simp only [List.length_cons, if_true, ih]
      by_cases h : (p.takeWhile f).length = p.length
      · rw [if_pos h, if_pos (by omega)]; omega
      · rw [if_neg h, if_neg (by omega)]
theorem digs_len (l : List UInt8) : digs l ≤ l.length := takeWhile_len _ _
theorem digs_app (p r : List UInt8) : digs (p ++ r) = if digs p = p.length then p.length + digs r else digs p := takeWhile_app _ _ _
theorem rmk_len (l : List UInt8) : rmk l ≤ l.length := by
  cases l with
  | nil => simp [rmk]
  | cons a t =>
    have := takeWhile_len isRm t
    rw [rmk_cons, List.length_cons]
    split <;> omega
theorem rmk_app {p : List UInt8} (r : List UInt8) (h : rmk p < p.length) : rmk (p ++ r) = rmk p := by
  cases p with
  | nil => simp at h
  | cons a t =>
    rw [List.cons_append, rmk_cons, rmk_cons]
    rw [rmk_cons] at h
    by_cases ha : a = 59
    · rw [if_pos ha, List.length_cons] at h
      rw [if_pos ha, if_pos ha, takeWhile_app, if_neg (by omega)]
    · rw [if_neg ha, if_neg ha]
theorem rmk_ge (p r : List UInt8) : rmk p ≤ rmk (p ++ r) := by
  cases p with
  | nil => simp [rmk]
  | cons a t =>
    rw [List.cons_append, rmk_cons, rmk_cons]
    by_cases ha : a = 59
    · rw [if_pos ha, if_pos ha, takeWhile_app]
      have := takeWhile_len isRm t
      split <;> omega
    · rw [if_neg ha, if_neg ha]; omega
theorem drop_app_le {p r : List UInt8} {k : Nat} (h : k ≤ p.length) : (p ++ r).drop k = p.drop k ++ r := List.drop_append_of_le_length h
theorem take_app_le {p r : List UInt8} {k : Nat} (h : k ≤ p.length) : (p ++ r).take k = p.take k := List.take_append_of_le_length h
theorem sizeL_more {p : List UInt8} (r : List UInt8) (h : sizeL p ≠ (.error none)) : sizeL (p ++ r) = sizeL p := by
  have hl := digs_len p
  unfold sizeL at h ⊢
  by_cases h8 : 8 < digs p
  · rw [if_pos h8, if_pos]
    rw [digs_app]
    split <;> omega
  rw [if_neg h8] at h ⊢
  by_cases he : digs p = p.length
  · rw [if_pos he] at h; exact absurd rfl h
  rw [if_neg he] at h ⊢
  have hd : digs (p ++ r) = digs p := by rw [digs_app, if_neg he]
  rw [hd, if_neg h8, if_neg (by rw [List.length_append]; omega)]
  by_cases h0 : digs p = 0
  · rw [if_pos h0, if_pos h0]
  rw [if_neg h0] at h ⊢
  rw [if_neg h0, drop_app_le hl]
  have hr := rmk_ge (p.drop (digs p)) r
  have hrl := rmk_len (p.drop (digs p))
  rw [List.length_drop] at hrl
  by_cases hm : 1024 < digs p + rmk (p.drop (digs p))
  · rw [if_pos hm, if_pos (by omega)]
  rw [if_neg hm] at h ⊢
  by_cases hq : rmk (p.drop (digs p)) < (p.drop (digs p)).length
  · rw [rmk_app r hq, if_neg hm]
    have hk : digs p + rmk (p.drop (digs p)) ≤ p.length := by omega
    rw [drop_app_le hk, take_app_le hl]
    rw [eolL_more]
    intro e
    rw [e] at h
    exact h rfl
  · rw [List.length_drop] at hq
    exfalso
    apply h
    have : p.drop (digs p + rmk (p.drop (digs p))) = [] := by
      apply List.drop_eq_nil_of_le
      omega
    rw [this]
    rfl
theorem sizeL_got {p : List UInt8} {n k : Nat} (h : sizeL p = (.ok (n, k))) : 3 ≤ k ∧ k ≤ p.length := by
  unfold sizeL at h
  split at h
  · cases h
  · split at h
    · cases h
    · split at h
      · cases h
      · rename_i h0
        split at h
        · cases h
        · split at h
          · cases h
          · cases h
          · rename_i e
            have h := (got_inj h).2
            obtain ⟨rfl, h2⟩ := eolL_got e
            rw [List.length_drop] at h2
            omega
theorem sizeL_bad {p : List UInt8} {s : Int} (h : sizeL p = (.error (some s))) : s = 400 := by
  unfold sizeL at h
  split at h
  · cases h; rfl
  · split at h
    · cases h
    · split at h
      · cases h; rfl
      · split at h
        · cases h; rfl
        · split at h
          · cases h
          · rename_i e
            have h := bad_inj h
            subst h
            exact eolL_bad e
          · cases h
theorem put_more {α : Type} {k : Nat} {x : Tell α} : putT k x = (.error none) ↔ x = (.error none) := by
  rcases x with (_ | s) | ⟨a, n⟩ <;> simp [putT]
/-- More fuel than bytes is enough. -/
theorem chunksL_fuel : ∀ (f g : Nat) (body l : List UInt8), l.length < f → l.length < g → chunksL f body l = chunksL g body l
  | 0, _, _, _, h, _ => by omega
  | _, 0, _, _, _, h => by omega
  | f + 1, g + 1, body, l, hf, hg => by
    unfold chunksL
    match hs : sizeL l with
    | .error none => rfl
    | .error (some s) => rfl
    | .ok (n, k) =>
      obtain ⟨h3, hk⟩ := sizeL_got hs
      simp only
      split
      · rfl
      · split
        · rfl
        · match he : eolL (l.drop (k + n)) with
          | .error none => rfl
          | .error (some s) => rfl
          | .ok (u, e) =>
            simp only
            split
            · rfl
            · rw [chunksL_fuel f g _ _ (by rw [List.length_drop]; omega) (by rw [List.length_drop]; omega)]
theorem chunksL_more : ∀ (f : Nat) (body p r : List UInt8), chunksL f body p ≠ (.error none) → chunksL f body (p ++ r) = chunksL f body p
  | 0, _, _, _, h => absurd rfl h
  | f + 1, body, p, r, h => by
    unfold chunksL at h ⊢
    match hs : sizeL p with
    | .error none => rw [hs] at h; exact absurd rfl h
    | .error (some s) => rw [sizeL_more r (by rw [hs]; simp), hs]
    | .ok (n, k) =>
      obtain ⟨h3, hk⟩ := sizeL_got hs
      rw [sizeL_more r (by rw [hs]; simp), hs]
      rw [hs] at h
      simp only at h ⊢
      by_cases h1 : 16384 < n + body.length
      · rw [if_pos h1, if_pos h1]
      rw [if_neg h1] at h ⊢
      rw [if_neg h1]
      by_cases h2 : p.length < k + n
      · rw [if_pos h2] at h; exact absurd rfl h
      rw [if_neg h2] at h ⊢
      rw [if_neg (by rw [List.length_append]; omega), drop_app_le (by omega)]
      match he : eolL (p.drop (k + n)) with
      | .error none => rw [he] at h; exact absurd rfl h
      | .error (some s) => rw [eolL_more r (by rw [he]; simp), he]
      | .ok (u, e) =>
        obtain ⟨rfl, h4⟩ := eolL_got he
        rw [List.length_drop] at h4
        rw [eolL_more r (by rw [he]; simp), he]
        rw [he] at h
        simp only at h ⊢
        by_cases h0 : n = 0
        · rw [if_pos h0, if_pos h0]
        rw [if_neg h0] at h ⊢
        rw [if_neg h0, drop_app_le (by omega), drop_app_le (by omega), take_app_le (by rw [List.length_drop]; omega)]
        rw [chunksL_more f _ _ r (fun e => h (put_more.2 e))]
theorem chunksL_got : ∀ (f : Nat) (body l b : List UInt8) (n : Nat), chunksL f body l = (.ok (b, n)) → 5 ≤ n ∧ n ≤ l.length ∧ (body.length ≤ 16384 → b.length ≤ 16384)
  | 0, _, _, _, _, h => by cases h
  | f + 1, body, l, b, n, h => by
    unfold chunksL at h
    match hs : sizeL l with
    | .error none => rw [hs] at h; cases h
    | .error (some s) => rw [hs] at h; cases h
    | .ok (m, k) =>
      obtain ⟨h3, hk⟩ := sizeL_got hs
      rw [hs] at h
      simp only at h
      split at h
      · cases h
      · split at h
        · cases h
        · rename_i h1 h2
          split at h
          · cases h
          · cases h
          · rename_i u e he
            obtain ⟨rfl, h4⟩ := eolL_got he
            rw [List.length_drop] at h4
            split at h
            · obtain ⟨hb, hn⟩ := got_inj h
              subst hb
              exact ⟨by omega, by omega, fun h => h⟩
            · match hc : chunksL f (body ++ (l.drop k).take m) (l.drop (k + m + 2)) with
              | .error none => rw [hc] at h; cases h
              | .error (some s) => rw [hc] at h; cases h
              | .ok (b', n') =>
                rw [hc] at h
                obtain ⟨hb, hn⟩ := got_inj h
                subst hb
                obtain ⟨i1, i2, i3⟩ := chunksL_got f _ _ _ _ hc
                rw [List.length_drop] at i2
                refine ⟨by omega, by omega, fun hbl => i3 ?_⟩
                rw [List.length_append, List.length_take, List.length_drop]
                omega
theorem chunksL_bad : ∀ (f : Nat) (body l : List UInt8) (s : Int), chunksL f body l = (.error (some s)) → s = 400 ∨ s = 413
  | 0, _, _, _, h => by cases h
  | f + 1, body, l, s, h => by
    unfold chunksL at h
    match hs : sizeL l with
    | .error none => rw [hs] at h; cases h
    | .error (some t) => rw [hs] at h; have h := bad_inj h; subst h; exact Or.inl (sizeL_bad hs)
    | .ok (m, k) =>
      rw [hs] at h
      simp only at h
      split at h
      · have h := bad_inj h; exact Or.inr h.symm
      · split at h
        · cases h
        · split at h
          · cases h
          · rename_i t he
            have h := bad_inj h
            subst h
            exact Or.inl (eolL_bad he)
          · split at h
            · cases h
            · rename_i e _ _
              match hc : chunksL f (body ++ (l.drop k).take m) (l.drop (k + m + e)) with
              | .error none => rw [hc] at h; cases h
              | .error (some t) =>
                rw [hc] at h
                have h := bad_inj h
                subst h
                exact chunksL_bad f _ _ _ hc
              | .ok (b', n') => rw [hc] at h; cases h
theorem endH_le : ∀ {l : List UInt8} {n : Nat}, endH l = some n → 4 ≤ n ∧ n ≤ l.length
  | [], n, h => by cases h
  | a :: r, n, h => by
    unfold endH at h
    split at h
    · rename_i h4
      injection h with h
      subst h
      have := congrArg List.length h4
      rw [List.length_take] at this
      simp only [List.length_cons, List.length_nil] at this ⊢
      omega
    · cases hr : endH r with
      | none => rw [hr] at h; cases h
      | some m =>
        rw [hr, Option.map_some] at h
        injection h with h
        obtain ⟨h1, h2⟩ := endH_le hr
        simp only [List.length_cons]
        omega
theorem endH_app : ∀ {p : List UInt8} {n : Nat} (r : List UInt8), endH p = some n → endH (p ++ r) = some n
  | [], n, r, h => by cases h
  | a :: p, n, r, h => by
    unfold endH at h
    rw [List.cons_append]
    unfold endH
    by_cases h4 : (a :: p).take 4 = [13, 10, 13, 10]
    · rw [if_pos h4] at h
      have hl := congrArg List.length h4
      rw [List.length_take] at hl
      simp only [List.length_cons, List.length_nil] at hl
      have : (a :: (p ++ r)).take 4 = [13, 10, 13, 10] := by
        rw [← List.cons_append, List.take_append_of_le_length (by simp only [List.length_cons]; omega)]
        exact h4
      rw [if_pos this]
      exact h
    · rw [if_neg h4] at h
      cases hr : endH p with
      | none => rw [hr] at h; cases h
      | some m =>
        rw [hr] at h
        have hm := (endH_le hr)
        have : ¬ (a :: (p ++ r)).take 4 = [13, 10, 13, 10] := by
          rw [← List.cons_append, List.take_append_of_le_length (by simp only [List.length_cons]; omega)]
          exact h4
        rw [if_neg this, endH_app r hr]
        exact h
theorem bodyAt_more {h : HeadL} {p : List UInt8} {k : Nat} (r : List UInt8) (hk : k ≤ p.length) (e : bodyAt h p k ≠ (.error none)) : bodyAt h (p ++ r) k = bodyAt h p k := by
  unfold bodyAt at e ⊢
  by_cases h1 : (bodyL h).2.2 ≠ 0
  · rw [if_pos h1, if_pos h1]
  rw [if_neg h1] at e ⊢
  rw [if_neg h1]
  by_cases h2 : (bodyL h).1 = 2
  · rw [if_pos h2] at e ⊢
    rw [if_pos h2]
    have e' : chunksL (p.length + 1) [] (p.drop k) ≠ (.error none) := fun x => e (put_more.2 x)
    rw [drop_app_le hk]
    have hf : chunksL (p.length + 1) [] (p.drop k) = chunksL ((p ++ r).length + 1) [] (p.drop k) := chunksL_fuel _ _ _ _ (by rw [List.length_drop]; omega) (by rw [List.length_drop, List.length_append]; omega)
    rw [hf] at e' ⊢
    rw [chunksL_more _ _ _ r e']
  rw [if_neg h2] at e ⊢
  rw [if_neg h2]
  by_cases h3 : p.length < k + (bodyL h).2.1.toNat
  · rw [if_pos h3] at e; exact absurd rfl e
  rw [if_neg h3, if_neg (by rw [List.length_append]; omega), drop_app_le hk, take_app_le (by rw [List.length_drop]; omega)]
/-- What a part tells the whole tells. -/
theorem firstL_more {p : List UInt8} (r : List UInt8) (h : firstL p ≠ (.error none)) : firstL (p ++ r) = firstL p := by
  unfold firstL at h ⊢
  cases he : endH p with
  | none =>
    rw [he] at h
    simp only at h ⊢
    by_cases hl : 4096 < p.length
    · rw [if_pos hl]
      cases hr : endH (p ++ r) with
      | none => simp only; rw [if_pos (by rw [List.length_append]; omega)]
      | some n =>
        have hn : p.length < n := by
          apply Classical.byContradiction
          intro hc
          have hle : n ≤ p.length := by omega
          exact absurd hr (by
            intro hr
            have key : ∀ (q : List UInt8) (m : Nat), endH (q ++ r) = some m → m ≤ q.length → endH q = some m := by
              intro q
              induction q with
              | nil => intro m hm hq; have := (endH_le hm).1; simp at hq; omega
              | cons a q ih =>
                intro m hm hq
                rw [List.cons_append] at hm
                unfold endH at hm ⊢
                by_cases h4 : (a :: (q ++ r)).take 4 = [13, 10, 13, 10]
                · rw [if_pos h4] at hm
                  injection hm with hm
                  subst hm
                  rw [← List.cons_append, List.take_append_of_le_length hq] at h4
                  rw [if_pos h4]
                · rw [if_neg h4] at hm
                  cases hx : endH (q ++ r) with
                  | none => rw [hx] at hm; cases hm
                  | some m' =>
                    rw [hx] at hm
                    injection hm with hm
                    subst hm
                    have hq' : m' ≤ q.length := by simp only [List.length_cons] at hq; omega
                    have := (endH_le hx).1
                    rw [← List.cons_append, List.take_append_of_le_length (by simp only [List.length_cons]; omega)] at h4
                    rw [if_neg h4, ih m' hx hq']
                    rfl
            rw [key p n hr hle] at he
            cases he)
        have hn2 := (endH_le hr).2
        have := parse_long (s := (p ++ r).take n) (by rw [List.length_take]; omega)
        simp only [this]
        rfl
    · rw [if_neg hl] at h; exact absurd rfl h
  | some n =>
    obtain ⟨h4, hn⟩ := endH_le he
    rw [endH_app r he]
    rw [he] at h
    simp only at h ⊢
    rw [take_app_le hn]
    by_cases h1 : (parseL (p.take n)).2.1 ≠ 0
    · rw [if_pos h1, if_pos h1]
    rw [if_neg h1] at h ⊢
    rw [if_neg h1, bodyAt_more r hn]
    intro e
    rw [e] at h
    exact h rfl
theorem bodyAt_got {h : HeadL} {p b : List UInt8} {k n : Nat} (e : bodyAt h p k = (.ok (b, n))) (hk : k ≤ p.length) : k ≤ n ∧ n ≤ p.length := by
  unfold bodyAt at e
  split at e
  · cases e
  · split at e
    · match hc : chunksL (p.length + 1) [] (p.drop k) with
      | .error none => rw [hc] at e; cases e
      | .error (some s) => rw [hc] at e; cases e
      | .ok (b', n') =>
        rw [hc] at e
        have e := (got_inj e).2
        have := (chunksL_got _ _ _ _ _ hc).2.1
        rw [List.length_drop] at this
        omega
    · split at e
      · cases e
      · have e := (got_inj e).2
        omega
theorem firstL_got {p : List UInt8} {q : ReqL} {n : Nat} (h : firstL p = (.ok (q, n))) : 4 ≤ n ∧ n ≤ p.length := by
  unfold firstL at h
  cases he : endH p with
  | none => rw [he] at h; simp only at h; split at h <;> cases h
  | some k =>
    obtain ⟨h4, hn⟩ := endH_le he
    rw [he] at h
    simp only at h
    split at h
    · cases h
    · split at h
      · cases h
      · cases h
      · rename_i e
        have h := (got_inj h).2
        subst h
        have := bodyAt_got e hn
        omega

def allC : Nat → List UInt8 → List ReqL × Int
  | 0, _ => ([], 0)
  | f + 1, s => match firstL (s.take 65536) with
    | (.error (some t)) => ([], t)
    | (.error none) => ([], if 65536 < s.length then 413 else 0)
    | (.ok (q, n)) => (q :: (allC f (s.drop n)).1, (allC f (s.drop n)).2)
theorem allC_fuel : ∀ (f g : Nat) (s : List UInt8), s.length < f → s.length < g → allC f s = allC g s
  | 0, _, _, h, _ => by omega
  | _, 0, _, _, h => by omega
  | f + 1, g + 1, s, hf, hg => by
    unfold allC
    match hs : firstL (s.take 65536) with
    | .error none => rfl
    | .error (some t) => rfl
    | .ok (q, n) =>
      have := firstL_got hs
      rw [List.length_take] at this
      simp only
      rw [allC_fuel f g _ (by rw [List.length_drop]; omega) (by rw [List.length_drop]; omega)]
/-- All requests of bytes, and the status by which they break. -/
def allL (s : List UInt8) : List ReqL × Int := allC (s.length + 1) s
theorem first_take {q : List UInt8} (rest : List UInt8) (hq : q.length ≤ 65536) (h : firstL q ≠ (.error none)) : firstL ((q ++ rest).take 65536) = firstL q := by
  have : (q ++ rest).take 65536 = q ++ rest.take (65536 - q.length) := by
    rw [List.take_append, List.take_of_length_le hq]
  rw [this, firstL_more _ h]
theorem allL_bad {q : List UInt8} {t : Int} (rest : List UInt8) (hq : q.length ≤ 65536) (h : firstL q = (.error (some t))) : allL (q ++ rest) = ([], t) := by
  unfold allL allC
  rw [first_take rest hq (by rw [h]; simp), h]
theorem allL_got {q : List UInt8} {r : ReqL} {n : Nat} (rest : List UInt8) (hq : q.length ≤ 65536) (h : firstL q = (.ok (r, n))) : allL (q ++ rest) = (r :: (allL (q.drop n ++ rest)).1, (allL (q.drop n ++ rest)).2) := by
  have hn := firstL_got h
  unfold allL
  rw [allC, first_take rest hq (by rw [h]; simp), h]
  simp only
  rw [drop_app_le hn.2, allC_fuel _ ((q.drop n ++ rest).length + 1) _ (by simp only [List.length_append, List.length_drop]; omega) (by omega)]
theorem allL_full {q : List UInt8} (b : UInt8) (rest : List UInt8) (hq : q.length = 65536) (h : firstL q = (.error none)) : allL (q ++ b :: rest) = ([], 413) := by
  unfold allL allC
  rw [List.take_append_of_le_length (by omega), List.take_of_length_le (by omega), h]
  simp only
  rw [if_pos (by rw [List.length_append, List.length_cons]; omega)]
theorem allL_end {q : List UInt8} (hq : q.length ≤ 65536) (h : firstL q = (.error none)) : allL q = ([], 0) := by
  unfold allL allC
  rw [List.take_of_length_le hq, h]
  simp only
  rw [if_neg (by omega)]
/-- The loop of the code: a window of the bytes. -/
theorem allL_step (s : List UInt8) : allL s = match firstL (s.take 65536) with
    | (.error (some t)) => ([], t)
    | (.error none) => ([], if 65536 < s.length then 413 else 0)
    | (.ok (q, n)) => (q :: (allL (s.drop n)).1, (allL (s.drop n)).2) := by
  conv => lhs; unfold allL allC
  match hs : firstL (s.take 65536) with
  | .error none => rfl
  | .error (some t) => rfl
  | .ok (q, n) =>
    have := firstL_got hs
    rw [List.length_take] at this
    simp only
    unfold allL
    rw [allC_fuel _ ((s.drop n).length + 1) _ (by rw [List.length_drop]; omega) (by omega)]

/-! ### Statuses -/
def stat4 (s : Int) : Prop := s = 400 ∨ s = 413 ∨ s = 431 ∨ s = 505
theorem verL_stat (v : List UInt8) : (verL v).2 = 0 ∨ stat4 (verL v).2 := by
  unfold verL stat4
  split
  · simp
  · split
    · simp
    · split <;> simp
theorem reqL_stat (line : List UInt8) : (reqL line).2 = 0 ∨ stat4 (reqL line).2 := by
  have := verL_stat (cutC 32 (cutC 32 line).2.1).2.1
  unfold reqL
  split
  · exact Or.inr (Or.inl rfl)
  · split
    · exact this
    · split
      · exact Or.inr (Or.inl rfl)
      · exact Or.inl rfl
theorem lines_stat {n : Nat} : ∀ (f : Nat) (oh : Option HeadL) (k : Nat) (l : List UInt8), (lines n f oh k l).2.1 = 0 ∨ stat4 (lines n f oh k l).2.1
  | 0, _, _, _ => Or.inr (Or.inl rfl)
  | f + 1, oh, k, l => by
    unfold lines
    split
    · exact Or.inr (Or.inr (Or.inr (Or.inl rfl)))
    · split
      · exact Or.inr (Or.inl rfl)
      · split
        · split
          · exact reqL_stat _
          · exact lines_stat f _ _ _
        · split
          · split
            · exact Or.inl rfl
            · exact Or.inr (Or.inl rfl)
          · split
            · exact Or.inr (Or.inr (Or.inr (Or.inl rfl)))
            · split
              · exact Or.inr (Or.inl rfl)
              · exact lines_stat f _ _ _
theorem parse_stat (s : List UInt8) : (parseL s).2.1 = 0 ∨ stat4 (parseL s).2.1 := by
  unfold parseL
  split
  · exact Or.inr (Or.inr (Or.inr (Or.inl rfl)))
  · split
    · exact lines_stat _ _ _ _
    · split
      · exact Or.inl rfl
      · exact Or.inr (Or.inl rfl)
theorem body_stat (h : HeadL) : (bodyL h).2.2 = 0 ∨ stat4 (bodyL h).2.2 := by
  unfold bodyL lenL codL
  repeat' split
  all_goals first
    | exact Or.inl rfl
    | exact Or.inr (Or.inl rfl)
    | exact Or.inr (Or.inr (Or.inl rfl))
    | exact Or.inr (Or.inr (Or.inr (Or.inl rfl)))
theorem first_stat {s : List UInt8} {t : Int} (h : firstL s = (.error (some t))) : stat4 t := by
  unfold firstL at h
  split at h
  · split at h
    · have h := bad_inj h; subst h; exact Or.inr (Or.inr (Or.inl rfl))
    · cases h
  · rename_i k he
    split at h
    · rename_i h1
      have h := bad_inj h
      subst h
      rcases parse_stat (s.take k) with h2 | h2
      · exact absurd h2 h1
      · exact h2
    · match hb : bodyAt (parseL (s.take k)).1 s k with
      | .error none => rw [hb] at h; cases h
      | .ok (b, n) => rw [hb] at h; cases h
      | .error (some u) =>
        rw [hb] at h
        have h := bad_inj h
        subst h
        unfold bodyAt at hb
        split at hb
        · rename_i h1
          have hb := bad_inj hb
          subst hb
          rcases body_stat (parseL (s.take k)).1 with h2 | h2
          · exact absurd h2 h1
          · exact h2
        · split at hb
          · match hc : chunksL (s.length + 1) [] (s.drop k) with
            | .error none => rw [hc] at hb; cases hb
            | .ok (b', n') => rw [hc] at hb; cases hb
            | .error (some v) =>
              rw [hc] at hb
              have hb := bad_inj hb
              subst hb
              rcases chunksL_bad _ _ _ _ hc with h2 | h2
              · exact Or.inl h2
              · exact Or.inr (Or.inl h2)
          · split at hb <;> cases hb
theorem stat4_ne {t : Int} (h : stat4 t) : t ≠ 0 := by
  rcases h with rfl | rfl | rfl | rfl <;> decide

theorem not13 {a : List UInt8} (h : brk a = false) : (13 : UInt8) ∉ a := by
  intro hm
  rw [brk, List.any_eq_false] at h
  exact absurd (by decide) (h 13 hm)
theorem endH_cons (a : UInt8) (r : List UInt8) : endH (a :: r) = if (a :: r).take 4 = [13, 10, 13, 10] then some 4 else (endH r).map (· + 1) := rfl
theorem endH_skip : ∀ (a : List UInt8) (r : List UInt8), (13 : UInt8) ∉ a → endH (a ++ r) = (endH r).map (· + a.length)
  | [], r, _ => by simp
  | x :: a, r, h => by
    have hx : x ≠ 13 := fun e => h (by simp [e])
    rw [List.cons_append, endH_cons, if_neg (by intro e; rw [List.take_succ_cons] at e; injection e with e _; exact hx e), endH_skip a r (fun e => h (by simp [e]))]
    cases endH r with
    | none => rfl
    | some n => simp; omega
theorem endH_here (r : List UInt8) : endH (13 :: 10 :: 13 :: 10 :: r) = some 4 := by
  rw [endH_cons, if_pos (by simp)]
theorem endH_line {x : UInt8} (r : List UInt8) (hx : x ≠ 13) : endH (13 :: 10 :: x :: r) = (endH (x :: r)).map (· + 2) := by
  rw [endH_cons, if_neg (by intro e; simp at e; exact hx e.1), endH_cons, if_neg (by intro e; simp at e)]
  cases endH (x :: r) <;> simp
theorem endH_join : ∀ (raws : List (List UInt8)) (rest : List UInt8), raws ≠ [] → (∀ a ∈ raws, brk a = false ∧ a ≠ []) → endH (joinE raws ++ 13 :: 10 :: rest) = some ((joinE raws).length + 2)
  | [], _, h, _ => absurd rfl h
  | [a], rest, _, ha => by
    obtain ⟨h1, _⟩ := ha a (by simp)
    rw [joinE, joinE, List.append_assoc, endH_skip _ _ (not13 h1), List.cons_append, List.cons_append, List.nil_append, endH_here]
    simp
    omega
  | a :: b :: r, rest, _, ha => by
    obtain ⟨h1, _⟩ := ha a (by simp)
    obtain ⟨h2, h3⟩ := ha b (by simp)
    have ih := endH_join (b :: r) rest (by simp) (fun x hx => ha x (by simp at hx ⊢; right; exact hx))
    rw [joinE, List.append_assoc, endH_skip _ _ (not13 h1), List.cons_append, List.cons_append]
    obtain ⟨x, y, hxy⟩ : ∃ x y, joinE (b :: r) ++ 13 :: 10 :: rest = x :: y := by
      cases b with
      | nil => exact absurd rfl h3
      | cons x b => exact ⟨x, _, rfl⟩
    have hx : x ≠ 13 := by
      cases b with
      | nil => exact absurd rfl h3
      | cons c b =>
        rw [joinE, List.cons_append, List.cons_append] at hxy
        injection hxy with e _
        intro e'
        exact not13 h2 (by rw [← e', ← e]; simp)
    rw [hxy, endH_line _ hx, ← hxy, ih]
    simp only [Option.map_some, List.length_append, List.length_cons]
    congr 1
    omega
theorem Read.endH {s : List UInt8} {h : HeadL} {raws : List (List UInt8)} (r : Read s h raws) (rest : List UInt8) : endH (s ++ rest) = some s.length := by
  have e : s = joinE (reqText h :: raws) ++ [13, 10] := by
    rw [r.text, joinE]; simp
  have hr : reqText h ≠ [] := by simp [reqText]
  have := endH_join (reqText h :: raws) rest (by simp) (fun a ha => by
    rcases List.mem_cons.1 ha with rfl | ha
    · exact ⟨reqText_brk r.req, hr⟩
    · exact ⟨(r.raws a ha).brk, (r.raws a ha).ne⟩)
  rw [e]
  rw [List.append_assoc, List.cons_append, List.cons_append, List.nil_append, this]
  simp
/-- A right head and what stands behind it. -/
theorem first_head {s : List UInt8} {h : HeadL} {k : Nat} (e : parseL s = (h, 0, k)) (rest : List UInt8) : firstL (s ++ rest) = match bodyAt h (s ++ rest) s.length with
    | (.error none) => (.error none)
    | (.error (some t)) => (.error (some t))
    | (.ok (b, n)) => (.ok ((reqOf h b), n)) := by
  obtain ⟨_, raws, r⟩ := parse_ok e
  unfold firstL
  rw [r.endH rest]
  simp only [List.take_left, e]
  rw [if_neg (by simp)]
theorem first_none {s : List UInt8} {h : HeadL} {k : Nat} (e : parseL s = (h, 0, k)) (hb : bodyL h = (0, 0, 0)) (rest : List UInt8) : firstL (s ++ rest) = (.ok ((reqOf h []), s.length)) := by
  rw [first_head e]
  unfold bodyAt
  rw [hb]
  simp
  rw [if_neg (by omega)]
theorem body_none {h : HeadL} (h1 : (bodyL h).1 = 0) (h2 : (bodyL h).2.2 = 0) : bodyL h = (0, 0, 0) := by
  have : bodyL h = (0, 0, 0) ∨ (bodyL h).2.2 ≠ 0 ∨ (bodyL h).1 ≠ 0 := by
    unfold bodyL lenL codL
    repeat' split
    all_goals simp
  rcases this with e | e | e
  · exact e
  · exact absurd h2 e
  · exact absurd h1 e
theorem all_one {s : List UInt8} {h : HeadL} {k : Nat} (e : parseL s = (h, 0, k)) (hb : bodyL h = (0, 0, 0)) : allL s = ([reqOf h []], 0) := by
  have h1 := first_none e hb []
  rw [List.append_nil] at h1
  obtain ⟨_, raws, r⟩ := parse_ok e
  have h2 := allL_got (q := s) [] (by have := r.s4096; omega) h1
  rw [List.append_nil, List.append_nil, List.drop_length] at h2
  rw [h2, allL_end (by simp) (by rfl)]
theorem all_two {s t : List UInt8} {a b : HeadL} {k l : Nat} (e : parseL s = (a, 0, k)) (f : parseL t = (b, 0, l)) (ha : bodyL a = (0, 0, 0)) (hb : bodyL b = (0, 0, 0)) : allL (s ++ t) = ([reqOf a [], reqOf b []], 0) := by
  have h1 := first_none e ha []
  rw [List.append_nil] at h1
  obtain ⟨_, raws, r⟩ := parse_ok e
  have h2 := allL_got (q := s) t (by have := r.s4096; omega) h1
  rw [List.drop_length, List.nil_append, all_one f hb] at h2
  exact h2

/-! ### Digits -/
def hxD (n : Nat) : UInt8 := if n < 10 then UInt8.ofNat (48 + n) else UInt8.ofNat (87 + n)
def hexF : Nat → Nat → List UInt8
  | 0, n => [hxD n]
  | f + 1, n => if n < 16 then [hxD n] else hexF f (n / 16) ++ [hxD (n % 16)]
def hexW (n : Nat) : List UInt8 := hexF n n
theorem hexF_fuel : ∀ (f g n : Nat), n ≤ f → n ≤ g → hexF f n = hexF g n
  | 0, 0, n, _, _ => rfl
  | 0, g + 1, n, hf, _ => by
    have : n = 0 := by omega
    subst this
    rfl
  | f + 1, 0, n, _, hg => by
    have : n = 0 := by omega
    subst this
    rfl
  | f + 1, g + 1, n, hf, hg => by
    unfold hexF
    split
    · rfl
    · rw [hexF_fuel f g (n / 16) (by omega) (by omega)]
theorem hxD_is : ∀ n, n < 16 → hexD (hxD n) = n := by decide
theorem hexW_small {n : Nat} (h : n < 16) : hexW n = [hxD n] := by
  unfold hexW
  cases n with
  | zero => rfl
  | succ m => rw [hexF, if_pos h]
theorem hexW_big {n : Nat} (h : ¬ n < 16) : hexW n = hexW (n / 16) ++ [hxD (n % 16)] := by
  unfold hexW
  obtain ⟨m, rfl⟩ : ∃ m, n = m + 1 := ⟨n - 1, by omega⟩
  rw [hexF, if_neg h, hexF_fuel m ((m + 1) / 16) _ (by omega) (by omega)]
theorem hexN_snoc (l : List UInt8) (b : UInt8) : hexN (l ++ [b]) = 16 * hexN l + (hexD b).toNat := by simp [hexN]
theorem hexW_num (n : Nat) : hexN (hexW n) = n := by
  induction n using Nat.strongRecOn with
  | _ n ih =>
    by_cases h : n < 16
    · rw [hexW_small h]
      simp only [hexN, List.foldl_cons, List.foldl_nil, hxD_is n h]
      omega
    · rw [hexW_big h, hexN_snoc, ih (n / 16) (by omega), hxD_is _ (Nat.mod_lt _ (by decide))]
      omega
theorem hexW_hx (n : Nat) : ∀ b ∈ hexW n, isHx b = true := by
  induction n using Nat.strongRecOn with
  | _ n ih =>
    by_cases h : n < 16
    · rw [hexW_small h]
      intro b hb
      rw [List.mem_singleton] at hb
      subst hb
      rw [isHx, hxD_is n h, decide_eq_true_eq]
      exact Int.natCast_nonneg _
    · rw [hexW_big h]
      intro b hb
      rcases List.mem_append.1 hb with hb | hb
      · exact ih _ (by omega) b hb
      · rw [List.mem_singleton] at hb
        subst hb
        rw [isHx, hxD_is _ (Nat.mod_lt _ (by decide)), decide_eq_true_eq]
        exact Int.natCast_nonneg _
theorem hexW_len : ∀ (k n : Nat), n < 16 ^ (k + 1) → 1 ≤ (hexW n).length ∧ (hexW n).length ≤ k + 1
  | 0, n, h => by rw [hexW_small (by simpa using h)]; simp
  | k + 1, n, h => by
    by_cases h16 : n < 16
    · rw [hexW_small h16]; simp
    · have := hexW_len k (n / 16) (by rw [Nat.div_lt_iff_lt_mul (by decide)]; rw [Nat.pow_succ] at h; exact h)
      rw [hexW_big h16, List.length_append, List.length_singleton]
      omega
theorem takeWhile_all {f : UInt8 → Bool} : ∀ (l r : List UInt8), (∀ b ∈ l, f b = true) → (l ++ r).takeWhile f = l ++ r.takeWhile f
  | [], r, _ => rfl
  | a :: l, r, h => by
    rw [List.cons_append, List.takeWhile_cons, if_pos (h a (by simp)), takeWhile_all l r (fun b hb => h b (by simp [hb]))]
    rfl
theorem size_hex {n : Nat} (hn : n < 4294967296) (rest : List UInt8) : sizeL (hexW n ++ 13 :: 10 :: rest) = (.ok (n, ((hexW n).length + 2))) := by
  obtain ⟨h1, h8⟩ := hexW_len 7 n (by simpa using hn)
  have hd : digs (hexW n ++ 13 :: 10 :: rest) = (hexW n).length := by
    unfold digs
    rw [takeWhile_all _ _ (hexW_hx n), List.takeWhile_cons, if_neg (by decide), List.append_nil]
  unfold sizeL
  rw [hd, if_neg (by omega), if_neg (by rw [List.length_append, List.length_cons]; omega), if_neg (by omega), List.drop_left]
  have hr : rmk (13 :: 10 :: rest) = 0 := by rw [rmk_cons, if_neg (by decide)]
  rw [hr, if_neg (by omega), Nat.add_zero, List.drop_left, List.take_left, hexW_num]
  rw [eolL_two, if_pos ⟨rfl, rfl⟩]
/-- Parts as chunks. -/
def chunkT (p : List UInt8) : List UInt8 := if p = [] then [] else hexW p.length ++ 13 :: 10 :: (p ++ [13, 10])
def chunksT : List (List UInt8) → List UInt8
  | [] => []
  | p :: ps => chunkT p ++ chunksT ps
def endT : List UInt8 := [48, 13, 10, 13, 10]
theorem size_end (rest : List UInt8) : sizeL (endT ++ rest) = (.ok (0, 3)) := by
  have h : hexW 0 = [48] := by rw [hexW_small (by decide)]; rfl
  have := size_hex (n := 0) (by decide) (13 :: 10 :: rest)
  rw [h] at this
  exact this
theorem chunks_end (f : Nat) (body rest : List UInt8) (hb : body.length ≤ 16384) : chunksL (f + 1) body (endT ++ rest) = (.ok (body, 5)) := by
  unfold chunksL
  rw [size_end]
  simp only
  rw [if_neg (by omega), if_neg (by simp [endT])]
  have : (endT ++ rest).drop (3 + 0) = 13 :: 10 :: rest := rfl
  rw [this, eolL_two, if_pos ⟨rfl, rfl⟩]
  simp
theorem chunks_parts : ∀ (ps : List (List UInt8)) (f : Nat) (body rest : List UInt8), (∀ p ∈ ps, p.length ≤ 65536) → ps.length < f → body.length ≤ 16384 →
    (body.length + ps.flatten.length ≤ 16384 → chunksL f body (chunksT ps ++ (endT ++ rest)) = (.ok ((body ++ ps.flatten), ((chunksT ps).length + 5)))) ∧
    (16384 < body.length + ps.flatten.length → chunksL f body (chunksT ps ++ (endT ++ rest)) = (.error (some 413)))
  | [], f, body, rest, hp, hf, hb => by
    obtain ⟨g, rfl⟩ : ∃ g, f = g + 1 := ⟨f - 1, by simp at hf; omega⟩
    refine ⟨fun h => ?_, fun h => ?_⟩
    · rw [chunksT, List.nil_append, chunks_end g body rest hb]; simp
    · simp at h; omega
  | p :: ps, f, body, rest, hp, hf, hb => by
    obtain ⟨g, rfl⟩ : ∃ g, f = g + 1 := ⟨f - 1, by simp at hf; omega⟩
    have hps : ∀ q ∈ ps, q.length ≤ 65536 := fun q hq => hp q (by simp [hq])
    by_cases h0 : p = []
    · subst h0
      obtain ⟨i1, i2⟩ := chunks_parts ps (g + 1) body rest hps (by simp at hf; omega) hb
      rw [chunksT, chunkT, if_pos rfl, List.nil_append, List.flatten_cons, List.nil_append]
      exact ⟨i1, i2⟩
    · have hl : p.length ≤ 65536 := hp p (by simp)
      have hpos : 0 < p.length := List.length_pos_iff.2 h0
      have hs := size_hex (n := p.length) (by omega) (p ++ 13 :: 10 :: (chunksT ps ++ (endT ++ rest)))
      have e : chunksT (p :: ps) ++ (endT ++ rest) = hexW p.length ++ 13 :: 10 :: (p ++ 13 :: 10 :: (chunksT ps ++ (endT ++ rest))) := by
        rw [chunksT, chunkT, if_neg h0]; simp
      rw [e]
      unfold chunksL
      rw [hs]
      simp only
      rw [List.flatten_cons, List.length_append]
      by_cases h1 : 16384 < p.length + body.length
      · rw [if_pos h1]
        exact ⟨fun h => by omega, fun _ => rfl⟩
      · rw [if_neg h1, if_neg (by simp only [List.length_append, List.length_cons]; omega)]
        have d1 : (hexW p.length ++ 13 :: 10 :: (p ++ 13 :: 10 :: (chunksT ps ++ (endT ++ rest)))).drop ((hexW p.length).length + 2) = p ++ 13 :: 10 :: (chunksT ps ++ (endT ++ rest)) := by
          rw [List.drop_append]; simp
        have d2 : (hexW p.length ++ 13 :: 10 :: (p ++ 13 :: 10 :: (chunksT ps ++ (endT ++ rest)))).drop ((hexW p.length).length + 2 + p.length) = 13 :: 10 :: (chunksT ps ++ (endT ++ rest)) := by
          rw [← List.drop_drop, d1, List.drop_left]
        have d3 : (hexW p.length ++ 13 :: 10 :: (p ++ 13 :: 10 :: (chunksT ps ++ (endT ++ rest)))).drop ((hexW p.length).length + 2 + p.length + 2) = chunksT ps ++ (endT ++ rest) := by
          rw [← List.drop_drop, d2]; rfl
        rw [d2, eolL_two, if_pos ⟨rfl, rfl⟩]
        simp only
        rw [if_neg (by omega), d1, d3, List.take_left]
        obtain ⟨i1, i2⟩ := chunks_parts ps g (body ++ p) rest hps (by simp at hf; omega) (by rw [List.length_append]; omega)
        rw [List.length_append] at i1 i2
        refine ⟨fun h => ?_, fun h => ?_⟩
        · rw [i1 (by omega)]
          simp only [putT, List.append_assoc, chunksT, chunkT, if_neg h0, List.length_append, List.length_cons, List.length_nil]
          congr 2
          omega
        · rw [i2 (by omega)]
          rfl

/-! ### Lengths -/
def dgD (n : Nat) : UInt8 := UInt8.ofNat (48 + n)
def decF : Nat → Nat → List UInt8
  | 0, n => [dgD n]
  | f + 1, n => if n < 10 then [dgD n] else decF f (n / 10) ++ [dgD (n % 10)]
def decW (n : Nat) : List UInt8 := decF n n
theorem decF_fuel : ∀ (f g n : Nat), n ≤ f → n ≤ g → decF f n = decF g n
  | 0, 0, n, _, _ => rfl
  | 0, g + 1, n, hf, _ => by
    have : n = 0 := by omega
    subst this
    rfl
  | f + 1, 0, n, _, hg => by
    have : n = 0 := by omega
    subst this
    rfl
  | f + 1, g + 1, n, hf, hg => by
    unfold decF
    split
    · rfl
    · rw [decF_fuel f g (n / 10) (by omega) (by omega)]
theorem decW_small {n : Nat} (h : n < 10) : decW n = [dgD n] := by
  unfold decW
  cases n with
  | zero => rfl
  | succ m => rw [decF, if_pos h]
theorem decW_big {n : Nat} (h : ¬ n < 10) : decW n = decW (n / 10) ++ [dgD (n % 10)] := by
  unfold decW
  obtain ⟨m, rfl⟩ : ∃ m, n = m + 1 := ⟨n - 1, by omega⟩
  rw [decF, if_neg h, decF_fuel m ((m + 1) / 10) _ (by omega) (by omega)]
theorem dgD_is : ∀ n, n < 10 → (dgD n).toNat = 48 + n ∧ isDg (dgD n) = true := by decide
theorem numL_snoc (l : List UInt8) (b : UInt8) : numL (l ++ [b]) = 10 * numL l + (b.toNat - 48) := by simp [numL]
theorem decW_num (n : Nat) : numL (decW n) = n := by
  induction n using Nat.strongRecOn with
  | _ n ih =>
    by_cases h : n < 10
    · rw [decW_small h]
      simp only [numL, List.foldl_cons, List.foldl_nil, (dgD_is n h).1]
      omega
    · rw [decW_big h, numL_snoc, ih (n / 10) (by omega), (dgD_is _ (Nat.mod_lt _ (by decide))).1]
      omega
theorem decW_dg (n : Nat) : ∀ b ∈ decW n, isDg b = true := by
  induction n using Nat.strongRecOn with
  | _ n ih =>
    by_cases h : n < 10
    · rw [decW_small h]
      intro b hb
      rw [List.mem_singleton] at hb
      subst hb
      exact (dgD_is n h).2
    · rw [decW_big h]
      intro b hb
      rcases List.mem_append.1 hb with hb | hb
      · exact ih _ (by omega) b hb
      · rw [List.mem_singleton] at hb
        subst hb
        exact (dgD_is _ (Nat.mod_lt _ (by decide))).2
theorem decW_len : ∀ (k n : Nat), n < 10 ^ (k + 1) → 1 ≤ (decW n).length ∧ (decW n).length ≤ k + 1
  | 0, n, h => by rw [decW_small (by simpa using h)]; simp
  | k + 1, n, h => by
    by_cases h16 : n < 10
    · rw [decW_small h16]; simp
    · have := decW_len k (n / 10) (by rw [Nat.div_lt_iff_lt_mul (by decide)]; rw [Nat.pow_succ] at h; exact h)
      rw [decW_big h16, List.length_append, List.length_singleton]
      omega
def putReq : HeadL := ([80, 85, 84], [47, 120], 1, [])
/-- A request line, a host, and the name of a length. -/
def putS : List UInt8 := [80, 85, 84, 32, 47, 120, 32, 72, 84, 84, 80, 47, 49, 46, 49, 13, 10, 72, 111, 115, 116, 58, 32, 97, 13, 10]
def clRaw : List UInt8 := [67, 111, 110, 116, 101, 110, 116, 45, 76, 101, 110, 103, 116, 104]
def hostR : List UInt8 := [72, 111, 115, 116, 58, 32, 97]
def lenS (d : List UInt8) : List UInt8 := putS ++ (clRaw ++ 58 :: 32 :: (d ++ [13, 10, 13, 10]))
def lenH (d : List UInt8) : HeadL := ([80, 85, 84], [47, 120], 1, [(hostS, [97]), (clS, d)])
theorem dg_vl {b : UInt8} (h : isDg b = true) : isVl b = true ∧ [32, 9].contains b = false := by
  simp only [isDg, decide_eq_true_eq] at h
  constructor
  · simp only [isVl, isVs, Bool.or_eq_true, decide_eq_true_eq]; left; omega
  · simp only [List.contains_cons, List.contains_nil, Bool.or_false, Bool.or_eq_false_iff, beq_eq_false_iff_ne]
    refine ⟨fun e => ?_, fun e => ?_⟩ <;> (subst e; simp at h)
theorem trim_dg {d : List UInt8} (h : ∀ b ∈ d, isDg b = true) : trimB (32 :: d) = d := by
  rw [show 32 :: d = [32] ++ d from rfl, trimB_lead _ (by intro c hc; simp at hc; subst hc; decide)]
  unfold trimB Lib.trimS Lib.trimRightS Lib.trimLeftS
  rw [dw_self (l := d.reverse) (fun b hb => (dg_vl (h b (by simpa using List.mem_of_mem_head? hb))).2), List.reverse_reverse]
  exact dw_self (fun b hb => (dg_vl (h b (List.mem_of_mem_head? hb))).2)
theorem len_parse {d : List UInt8} (h : ∀ b ∈ d, isDg b = true) (hl : d.length ≤ 9) : parseL (lenS d) = (lenH d, 0, 0) := by
  refine parse_read (raws := [hostR, clRaw ++ 58 :: 32 :: d]) ⟨?_, ?_, ?_, ?_, ?_, ?_, ?_, ?_⟩
  · simp [lenS, putS, clRaw]; omega
  · have q : ReqOk putReq := ⟨by decide, by decide, by decide, by decide +kernel, Or.inr rfl⟩
    exact ⟨q.m16, q.mLg, q.tVs, q.tOk, q.min⟩
  · show (reqText putReq).length ≤ 1024
    decide
  · have : reqText (lenH d) = [80, 85, 84, 32, 47, 120, 32, 72, 84, 84, 80, 47, 49, 46, 49] := by
      show reqText putReq = _
      decide
    rw [this]
    simp [lenS, putS, joinE, hostR, clRaw]
  · have f2 : fieldL (clRaw ++ 58 :: 32 :: d) = some (clS, d) := by
      refine fieldL_make (p := (clS, d)) (by decide) (by decide) (show small clRaw = clS by decide) (trim_dg h) ?_
      rw [List.all_eq_true]
      exact fun b hb => (dg_vl (h b hb)).1
    rw [List.map_cons, List.map_cons, List.map_nil, f2, show fieldL hostR = some (hostS, [97]) by decide]
    rfl
  · intro a ha
    simp only [List.mem_cons, List.not_mem_nil, or_false] at ha
    rcases ha with rfl | rfl
    · exact ⟨by decide, by decide, by decide⟩
    · refine ⟨?_, ?_, by simp [clRaw]⟩
      · rw [show clRaw ++ 58 :: 32 :: d = clRaw ++ 58 :: (32 :: d) from rfl]
        refine brk_raw (by decide) ?_
        rw [List.all_cons, show isVl 32 = true by decide, Bool.true_and, List.all_eq_true]
        exact fun b hb => (dg_vl (h b hb)).1
      · simp [clRaw]; omega
  · simp [lenH]
  · have : valsL (lenH d) hostS = [[97]] := by
      simp only [valsL, lenH, List.filter_cons, List.filter_nil]
      rw [show ((hostS, ([97] : List UInt8)).1 == small hostS) = true by decide, show ((clS, d).1 == small hostS) = false by show (clS == small hostS) = false; decide]
      rfl
    simp only [hostOk, this]
    simp
theorem len_body {d : List UInt8} (h : ∀ b ∈ d, isDg b = true) (hl : d.length ≤ 9) (h0 : d ≠ []) : bodyL (lenH d) = if 16384 < numL d then (0, 0, 413) else (1, (numL d : Int), 0) := by
  have v1 : valsL (lenH d) clS = [d] := by
    simp only [valsL, lenH, List.filter_cons, List.filter_nil]
    rw [show ((hostS, ([97] : List UInt8)).1 == small clS) = false by decide, show ((clS, d).1 == small clS) = true by show (clS == small clS) = true; decide]
    rfl
  have v2 : valsL (lenH d) teS = [] := by
    simp only [valsL, lenH, List.filter_cons, List.filter_nil]
    rw [show ((hostS, ([97] : List UInt8)).1 == small teS) = false by decide, show ((clS, d).1 == small teS) = false by show (clS == small teS) = false; decide]
    rfl
  unfold bodyL
  rw [v1, v2]
  simp only [List.length_nil, List.length_singleton, Nat.lt_irrefl, and_false, if_false, Nat.lt_one_iff, if_true]
  have hm : madeL isDg d = true := madeL_iff.2 ⟨List.all_eq_true.2 h, h0⟩
  have ha : ([d].all fun x => x == d) = true := by simp
  have e : lenL [d] = if 9 < d.length ∨ madeL isDg d = false then (0, 0, 400) else if ([d].all (fun x => x == d)) = false then (0, 0, 400) else if 16384 < numL d then (0, 0, 413) else (1, (numL d : Int), 0) := rfl
  rw [e, if_neg (by rw [hm]; simp; omega), ha]
  rfl
theorem len_first (n : Nat) (hn : n < 1000000000) (b : List UInt8) : firstL (lenS (decW n) ++ b) = if 16384 < n then (.error (some 413)) else if b.length < n then (.error none) else (.ok ((reqOf (lenH (decW n)) (b.take n)), ((lenS (decW n)).length + n))) := by
  obtain ⟨l1, l9⟩ := decW_len 8 n (by simpa using hn)
  have h0 : decW n ≠ [] := List.length_pos_iff.1 (by omega)
  rw [first_head (len_parse (decW_dg n) l9)]
  have hb := len_body (decW_dg n) l9 h0
  rw [decW_num] at hb
  unfold bodyAt
  rw [hb]
  by_cases h1 : 16384 < n
  · rw [if_pos h1, if_pos h1]; simp
  · rw [if_neg h1, if_neg h1]
    simp only [List.length_append, List.drop_left, Int.toNat_natCast]
    by_cases h2 : b.length < n
    · rw [if_pos h2]; simp; rw [if_pos (by omega)]
    · rw [if_neg h2]; simp; rw [if_neg (by omega)]

/-- Whether the next byte is there, and such a one. -/
def seesB (f : UInt8 → Bool) (l : List UInt8) : Bool := match l with
  | [] => false
  | b :: _ => f b
def isMk (b : UInt8) : Bool := decide (b = 59)
def afterE (n j : Nat) : Tell Unit → Tell Nat
  | (.error none) => (.error none)
  | (.error (some s)) => (.error (some s))
  | (.ok (_, e)) => (.ok (n, (j + e)))
/-- At a digit. -/
def AtD (l : List UInt8) (j n : Nat) : Prop := ∃ ds b r, l = ds ++ b :: r ∧ (∀ x ∈ ds, isHx x = true) ∧ isHx b = true ∧ ds.length = j ∧ j ≤ 7 ∧ n = hexN ds
/-- At a byte of a remark. -/
def AtM (l : List UInt8) (j n : Nat) : Prop := ∃ ds ms b r, l = ds ++ (ms ++ b :: r) ∧ (∀ x ∈ ds, isHx x = true) ∧ 1 ≤ ds.length ∧ ds.length ≤ 8 ∧
  ((ms = [] ∧ b = 59) ∨ ∃ m, ms = 59 :: m ∧ (∀ x ∈ m, isRm x = true) ∧ isRm b = true) ∧ ds.length + ms.length = j ∧ j < 1024 ∧ n = hexN ds
/-- At the end of a size's line. -/
def AtS (l : List UInt8) (j n : Nat) : Prop := sizeL l = afterE n j (eolL (l.drop j)) ∧ n < 4294967296 ∧ j ≤ l.length
theorem hexN_lt : ∀ (ds : List UInt8), (∀ x ∈ ds, isHx x = true) → hexN ds < 16 ^ ds.length := by
  intro ds
  suffices h : ∀ (n : Nat) (ds : List UInt8), ds.length = n → hexN ds < 16 ^ n by intro _; exact h _ ds rfl
  intro n
  induction n with
  | zero => intro ds h; rw [List.eq_nil_of_length_eq_zero h]; simp [hexN]
  | succ n ih =>
    intro ds h
    rcases List.eq_nil_or_concat ds with rfl | ⟨d, b, rfl⟩
    · simp at h
    · rw [List.length_concat] at h
      rw [List.concat_eq_append, hexN_snoc]
      have h1 := ih d (by omega)
      have h2 := (hexD_range b).2
      rw [Nat.pow_succ]
      omega
theorem AtD.start {l : List UInt8} (h : seesB isHx l = true) : AtD l 0 0 := by
  cases l with
  | nil => cases h
  | cons b r => exact ⟨[], b, r, rfl, (fun x hx => by cases hx), h, rfl, by omega, rfl⟩
theorem size_wrong {l : List UInt8} (h : seesB isHx l = false) (h0 : l ≠ []) : sizeL l = (.error (some 400)) := by
  cases l with
  | nil => exact absurd rfl h0
  | cons b r =>
    have hb : isHx b = false := h
    have hd : digs (b :: r) = 0 := by unfold digs; rw [List.takeWhile_cons, if_neg (by rw [hb]; decide)]; rfl
    unfold sizeL
    rw [hd, if_neg (by omega), if_neg (by rw [List.length_cons]; omega), if_pos rfl]
theorem drop_two (ds : List UInt8) (b : UInt8) (r : List UInt8) : (ds ++ b :: r).drop (ds.length + 1) = r := by
  rw [← List.drop_drop, List.drop_left]; rfl
theorem hx_not {b : UInt8} (h : isHx b = true) : b ≠ 13 := by
  intro e; subst e; exact absurd h (by decide)
theorem rm_not {b : UInt8} (h : isRm b = true) : b ≠ 13 := by
  intro e; subst e; exact absurd h (by decide)
theorem eol_not {b : UInt8} (r : List UInt8) (h : b ≠ 13) : eolL (b :: r) = (.error (some 400)) := by
  cases r with
  | nil => rw [eolL_one, if_neg h]
  | cons c r => rw [eolL_two, if_neg (fun e => h e.1)]
theorem digs_of {ds r : List UInt8} (h : ∀ x ∈ ds, isHx x = true) (hr : seesB isHx r = false) : digs (ds ++ r) = ds.length := by
  unfold digs
  rw [takeWhile_all _ _ h]
  cases r with
  | nil => simp
  | cons b r =>
    have hb : isHx b = false := hr
    rw [List.takeWhile_cons, if_neg (by rw [hb]; decide), List.append_nil]
theorem AtD.byte {l : List UInt8} {j n : Nat} (h : AtD l j n) : ∃ b r, l.drop j = b :: r ∧ isHx b = true ∧ 16 * n + (hexD b).toNat < 4294967296 ∧ n < 268435456 := by
  obtain ⟨ds, b, r, rfl, h1, h2, rfl, h4, rfl⟩ := h
  have := hexN_lt ds h1
  have hp : 16 ^ ds.length ≤ 16 ^ 7 := Nat.pow_le_pow_right (by decide) h4
  have h7 : (16 : Nat) ^ 7 = 268435456 := by decide
  have := (hexD_range b).2
  exact ⟨b, r, List.drop_left, h2, by omega, by omega⟩
theorem AtD.next {l : List UInt8} {j n : Nat} (h : AtD l j n) {b : UInt8} {r : List UInt8} (hb : l.drop j = b :: r) : l.drop (j + 1) = r ∧
    (seesB isHx r = true → j + 1 < 8 → AtD l (j + 1) (16 * n + (hexD b).toNat)) ∧
    ((seesB isHx r = false ∨ ¬ j + 1 < 8) → seesB isMk r = true → AtM l (j + 1) (16 * n + (hexD b).toNat)) ∧
    ((seesB isHx r = false ∨ ¬ j + 1 < 8) → seesB isMk r = false → AtS l (j + 1) (16 * n + (hexD b).toNat)) := by
  obtain ⟨ds, b', r', rfl, h1, h2, rfl, h4, rfl⟩ := h
  rw [List.drop_left] at hb
  injection hb with e1 e2
  subst e1 e2
  have hall : ∀ x ∈ ds ++ [b'], isHx x = true := by
    intro x hx
    rcases List.mem_append.1 hx with hx | hx
    · exact h1 x hx
    · rw [List.mem_singleton] at hx; subst hx; exact h2
  have happ : ds ++ b' :: r' = (ds ++ [b']) ++ r' := by simp
  have hlen : (ds ++ [b']).length = ds.length + 1 := by simp
  have hlt := hexN_lt _ hall
  rw [hlen] at hlt
  have hp : 16 ^ (ds.length + 1) ≤ 16 ^ 8 := Nat.pow_le_pow_right (by decide) (by omega)
  have h8 : (16 : Nat) ^ 8 = 4294967296 := by decide
  refine ⟨drop_two ds b' r', fun hs hj => ?_, fun hs hm => ?_, fun hs hm => ?_⟩
  · cases r' with
    | nil => cases hs
    | cons c r => exact ⟨ds ++ [b'], c, r, by simp, hall, hs, hlen, by omega, (hexN_snoc _ _).symm⟩
  · cases r' with
    | nil => cases hm
    | cons c r =>
      have hc : c = 59 := of_decide_eq_true hm
      exact ⟨ds ++ [b'], [], c, r, by simp, hall, by omega, by omega, Or.inl ⟨rfl, hc⟩, by rw [hlen]; rfl, by omega, (hexN_snoc _ _).symm⟩
  · refine ⟨?_, by rw [← hexN_snoc]; omega, by simp⟩
    rw [drop_two, ← hexN_snoc]
    by_cases hx : seesB isHx r' = true
    · have hj : ds.length = 7 := by
        rcases hs with hs | hs
        · rw [hx] at hs; cases hs
        · omega
      cases r' with
      | nil => cases hx
      | cons c r =>
        have hd : 8 < digs (ds ++ b' :: c :: r) := by
          have : ds ++ b' :: c :: r = (ds ++ [b', c]) ++ r := by simp
          unfold digs
          rw [this, takeWhile_all (ds ++ [b', c]) r]
          · simp; omega
          · intro x hx'
            rcases List.mem_append.1 hx' with hx' | hx'
            · exact h1 x hx'
            · rcases List.mem_cons.1 hx' with rfl | hx'
              · exact h2
              · rw [List.mem_singleton] at hx'; subst hx'; exact hx
        unfold sizeL
        rw [if_pos hd, eol_not r (hx_not hx)]
        rfl
    · have hx : seesB isHx r' = false := by cases h : seesB isHx r' with | false => rfl | true => exact absurd h hx
      have hd : digs (ds ++ b' :: r') = ds.length + 1 := by rw [happ, digs_of hall hx, hlen]
      unfold sizeL
      rw [hd, if_neg (by omega)]
      cases r' with
      | nil => rw [if_pos (by simp)]; rfl
      | cons c r =>
        rw [if_neg (by simp), if_neg (by omega), drop_two]
        have hr : rmk (c :: r) = 0 := by
          rw [rmk_cons, if_neg]
          intro e
          subst e
          have : isMk 59 = false := hm
          exact absurd this (by decide)
        rw [hr, if_neg (by omega), Nat.add_zero, drop_two]
        have ht : (ds ++ b' :: c :: r).take (ds.length + 1) = ds ++ [b'] := by
          have : ds ++ b' :: c :: r = (ds ++ [b']) ++ c :: r := by simp
          rw [this, ← hlen, List.take_left]
        rw [ht]
        rcases eolL (c :: r) with (_ | _) | ⟨_, _⟩ <;> rfl
theorem AtM.pos {l : List UInt8} {j n : Nat} (h : AtM l j n) : j < l.length ∧ j < 1024 := by
  obtain ⟨ds, ms, b, r, rfl, h1, h2, h3, h4, rfl, h5, rfl⟩ := h
  refine ⟨?_, h5⟩
  simp only [List.length_append, List.length_cons]
  omega
theorem AtM.next {l : List UInt8} {j n : Nat} (h : AtM l j n) :
    (seesB isRm (l.drop (j + 1)) = true → j + 1 < 1024 → AtM l (j + 1) n) ∧ ((seesB isRm (l.drop (j + 1)) = false ∨ ¬ j + 1 < 1024) → AtS l (j + 1) n) := by
  obtain ⟨ds, ms, b, r, rfl, h1, h2, h3, h4, rfl, h5, rfl⟩ := h
  have hlt := hexN_lt ds h1
  have hp : 16 ^ ds.length ≤ 16 ^ 8 := Nat.pow_le_pow_right (by decide) h3
  have h8 : (16 : Nat) ^ 8 = 4294967296 := by decide
  have hd : (ds ++ (ms ++ b :: r)).drop (ds.length + ms.length + 1) = r := by
    rw [Nat.add_assoc, ← List.drop_drop, List.drop_left, drop_two]
  obtain ⟨m, hm, hall⟩ : ∃ m, ms ++ [b] = 59 :: m ∧ ∀ x ∈ m, isRm x = true := by
    rcases h4 with ⟨rfl, rfl⟩ | ⟨m, rfl, h6, h7⟩
    · exact ⟨[], rfl, fun x hx => by cases hx⟩
    · refine ⟨m ++ [b], by simp, fun x hx => ?_⟩
      rcases List.mem_append.1 hx with hx | hx
      · exact h6 x hx
      · rw [List.mem_singleton] at hx; subst hx; exact h7
  have hml : m.length = ms.length := by have := congrArg List.length hm; simp at this; omega
  have happ : ms ++ b :: r = 59 :: (m ++ r) := by
    rw [show ms ++ b :: r = (ms ++ [b]) ++ r by simp, hm]; rfl
  rw [hd]
  refine ⟨fun hs hj => ?_, fun hs => ?_⟩
  · cases r with
    | nil => cases hs
    | cons c r => exact ⟨ds, 59 :: m, c, r, by rw [happ]; rfl, h1, h2, h3, Or.inr ⟨m, rfl, hall, hs⟩, by simp; omega, hj, rfl⟩
  · refine ⟨?_, by omega, by simp; omega⟩
    rw [hd]
    have hdg : digs (ds ++ (ms ++ b :: r)) = ds.length := by
      rw [happ]
      exact digs_of h1 (by show isHx 59 = false; decide)
    unfold sizeL
    rw [hdg, if_neg (by omega), if_neg (by simp only [List.length_append, List.length_cons]; omega), if_neg (by omega), List.drop_left]
    by_cases hx : seesB isRm r = true
    · have hj : ds.length + ms.length + 1 = 1024 := by
        rcases hs with hs | hs
        · rw [hx] at hs; cases hs
        · omega
      cases r with
      | nil => cases hx
      | cons c r =>
        have hr : ds.length + ms.length + 1 < ds.length + rmk (ms ++ b :: c :: r) := by
          rw [happ, rmk_cons, if_pos rfl, takeWhile_all _ _ hall, List.takeWhile_cons, if_pos (show isRm c = true from hx)]
          simp
          omega
        rw [if_pos (by omega), eol_not r (rm_not hx)]
        rfl
    · have hx : seesB isRm r = false := by cases h : seesB isRm r with | false => rfl | true => exact absurd h hx
      have hr : rmk (ms ++ b :: r) = ms.length + 1 := by
        rw [happ, rmk_cons, if_pos rfl, takeWhile_all _ _ hall]
        cases r with
        | nil => simp; omega
        | cons c r =>
          have hc : isRm c = false := hx
          rw [List.takeWhile_cons, if_neg (by rw [hc]; decide), List.append_nil]
          omega
      rw [hr, if_neg (by omega), ← Nat.add_assoc, hd, List.take_left]
      rcases eolL r with (_ | _) | ⟨_, _⟩ <;> rfl
/-- What is left to be read from a place on. -/
def Left (T : Tell (List UInt8)) (L : List UInt8) (at' k : Nat) (B : List UInt8) : Prop := at' ≤ k ∧ k ≤ L.length ∧ B.length ≤ 16384 ∧ ∀ f, (L.drop k).length < f → T = putT (k - at') (chunksL f B (L.drop k))
theorem Left.bad {T : Tell (List UInt8)} {L : List UInt8} {at' k : Nat} {B : List UInt8} {s : Int} (h : Left T L at' k B) (hs : sizeL (L.drop k) = (.error (some s))) : T = (.error (some s)) := by
  rw [h.2.2.2 ((L.drop k).length + 1) (by omega), chunksL, hs]
  rfl
theorem Left.more {T : Tell (List UInt8)} {L : List UInt8} {at' k : Nat} {B : List UInt8} (h : Left T L at' k B) (hs : sizeL (L.drop k) = (.error none)) : T = (.error none) := by
  rw [h.2.2.2 ((L.drop k).length + 1) (by omega), chunksL, hs]
  rfl
/-- A size that is too large. -/
theorem Left.large {T : Tell (List UInt8)} {L : List UInt8} {at' k : Nat} {B : List UInt8} {n j : Nat} (h : Left T L at' k B) (hs : sizeL (L.drop k) = (.ok (n, j))) (hn : 16384 < n + B.length) : T = (.error (some 413)) := by
  rw [h.2.2.2 ((L.drop k).length + 1) (by omega), chunksL, hs]
  simp only
  rw [if_pos hn]
  rfl
theorem Left.short {T : Tell (List UInt8)} {L : List UInt8} {at' k : Nat} {B : List UInt8} {n j : Nat} (h : Left T L at' k B) (hs : sizeL (L.drop k) = (.ok (n, j))) (hn : ¬ 16384 < n + B.length) (hl : L.length < k + j + n) : T = (.error none) := by
  rw [h.2.2.2 ((L.drop k).length + 1) (by omega), chunksL, hs]
  simp only
  rw [if_neg hn, if_pos (by rw [List.length_drop]; have := h.2.1; omega)]
  rfl
theorem Left.eol {T : Tell (List UInt8)} {L : List UInt8} {at' k : Nat} {B : List UInt8} {n j : Nat} (h : Left T L at' k B) (hs : sizeL (L.drop k) = (.ok (n, j))) (hn : ¬ 16384 < n + B.length) (hl : ¬ L.length < k + j + n) :
    (eolL (L.drop (k + j + n)) = (.error none) → T = (.error none)) ∧ (∀ s, eolL (L.drop (k + j + n)) = (.error (some s)) → T = (.error (some s))) ∧
    (n = 0 → eolL (L.drop (k + j + n)) = (.ok ((), 2)) → T = (.ok (B, (k + j + 2 - at')))) ∧
    (n ≠ 0 → eolL (L.drop (k + j + n)) = (.ok ((), 2)) → Left T L at' (k + j + n + 2) (B ++ (L.drop (k + j)).take n)) := by
  obtain ⟨h1, h2, h3, h4⟩ := h
  have hc : ∀ f, (L.drop k).length < f + 1 → T = putT (k - at') (match eolL (L.drop (k + j + n)) with
      | (.error none) => (.error none)
      | (.error (some s)) => (.error (some s))
      | (.ok (_, e)) => if n = 0 then (.ok (B, (j + e))) else putT (j + n + e) (chunksL f (B ++ (L.drop (k + j)).take n) (L.drop (k + j + n + e))) : Tell (List UInt8)) := by
    intro f hf
    rw [h4 (f + 1) hf, chunksL, hs]
    simp only
    rw [if_neg hn, if_neg (by rw [List.length_drop]; omega), List.drop_drop, List.drop_drop, show k + (j + n) = k + j + n by omega]
    match eolL (L.drop (k + j + n)) with
    | .error none => rfl
    | .error (some s) => rfl
    | .ok (u, e) =>
      simp only
      rw [List.drop_drop, show k + (j + n + e) = k + j + n + e by omega]
  have hj := sizeL_got hs
  rw [List.length_drop] at hj
  refine ⟨fun e => ?_, fun s e => ?_, fun h0 e => ?_, fun h0 e => ?_⟩
  · rw [hc _ (Nat.lt_succ_self _), e]; rfl
  · rw [hc _ (Nat.lt_succ_self _), e]; rfl
  · rw [hc _ (Nat.lt_succ_self _), e]
    simp only
    rw [if_pos h0, putT]
    congr 2
    omega
  · have he := eolL_got e
    rw [List.length_drop] at he
    refine ⟨by omega, by omega, ?_, fun f hf => ?_⟩
    · rw [List.length_append, List.length_take]
      omega
    · rw [hc ((L.drop k).length + f) (by omega), e]
      simp only
      rw [if_neg h0]
      rw [chunksL_fuel _ f _ (L.drop (k + j + n + 2)) (by rw [List.length_drop, List.length_drop]; omega) hf]
      match chunksL f (B ++ (L.drop (k + j)).take n) (L.drop (k + j + n + 2)) with
      | .error none => rfl
      | .error (some s) => rfl
      | .ok (b, m) =>
        simp only [putT]
        congr 2
        omega
theorem Left.start {L : List UInt8} {at' : Nat} (h : at' ≤ L.length) : Left (chunksL (L.length + 1) [] (L.drop at')) L at' at' [] := by
  refine ⟨Nat.le_refl _, h, by simp, fun f hf => ?_⟩
  rw [chunksL_fuel (L.length + 1) f _ _ (by rw [List.length_drop]; omega) hf, Nat.sub_self]
  match chunksL f [] (L.drop at') with
  | .error none => rfl
  | .error (some s) => rfl
  | .ok (b, m) => simp [putT]

def awG : List UInt8 := [71, 69, 84, 32, 47, 120, 32, 72, 84, 84, 80, 47, 49, 46, 49, 13, 10, 72, 111, 115, 116, 58, 32, 97, 13, 10, 13, 10]
def awS : List UInt8 := [71, 69, 84, 32, 47, 120, 32, 72, 84, 84, 80, 47, 49, 46, 49, 13, 10, 72, 111, 115, 116, 58, 32, 97, 13, 10, 13, 10, 71, 69, 84, 32, 47, 120, 32, 72, 84, 84, 80, 47, 49, 46, 49, 13, 10, 72, 111, 115, 116, 58, 32, 97, 13, 10, 13, 10, 120]
def awC : List UInt8 := [51, 13, 10, 97, 98, 99, 13, 10, 48, 13, 10, 13, 10]
def awH : HeadL := ([71, 69, 84], [47, 120], 1, [(hostS, [97])])
theorem aw_head : parseL awG = (awH, 0, 0) :=
  parse_read (raws := [hostR]) ⟨by decide, ⟨by decide, by decide, by decide, by decide +kernel, Or.inr rfl⟩, by decide, by decide, by
    rw [List.map_cons, List.map_nil, show fieldL hostR = some (hostS, [97]) by decide]
    rfl, by
    intro a ha
    rw [List.mem_singleton] at ha
    subst ha
    exact ⟨by decide, by decide, by decide⟩, by decide, by decide⟩
theorem aw_body : bodyL awH = (0, 0, 0) := by
  have v1 : valsL awH clS = [] := by decide
  have v2 : valsL awH teS = [] := by decide
  unfold bodyL
  rw [v1, v2]
  simp
theorem aw_path : (tgt [47, 120]).path = [47, 120] := by decide +kernel
theorem aw_req : (reqOf awH []).path = [47, 120] := by
  simp only [reqOf, awH]
  exact aw_path
theorem aw_reqs : [reqOf awH [], reqOf awH []].map ReqL.path = [[47, 120], [47, 120]] := by
  rw [List.map_cons, List.map_cons, List.map_nil, aw_req]
theorem aw_x : firstL [120] = (.error none) := rfl
theorem aw_all : allL awS = ([reqOf awH [], reqOf awH []], 0) := by
  have h1 := first_none aw_head aw_body []
  rw [List.append_nil] at h1
  have h2 := allL_got (q := awG) (awG ++ [120]) (by decide) h1
  have h3 := allL_got (q := awG) [120] (by decide) h1
  rw [List.drop_length, List.nil_append] at h2 h3
  rw [allL_end (by decide) aw_x] at h3
  rw [h3] at h2
  exact h2
theorem aw_chunks : chunksL (awC.length + 1) [] (awC.drop 0) = .ok ([97, 98, 99], 13) := by
  have h := chunks_parts [[97, 98, 99]] (awC.length + 1) [] [] (by decide) (by decide) (by decide)
  have e : chunksT [[97, 98, 99]] = [51, 13, 10, 97, 98, 99, 13, 10] := by
    simp [chunksT, chunkT, hexW_small (n := 3) (by decide)]
    rfl
  rw [e] at h
  have h1 := h.1 (by decide)
  have h2 : [51, 13, 10, 97, 98, 99, 13, 10] ++ (endT ++ []) = awC := by decide
  rw [h2] at h1
  rw [List.drop_zero, h1]
  rfl

end Go.Proofs.YtllhibdjopfcnaaGreatDoor
