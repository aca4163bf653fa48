/- Mathematics of trees of keys: trees by their depth, what they hold in a row, parting, moving, joining. -/
import Derived.Test.YtkjmilcocnjjoaaTrMath
set_option linter.unusedVariables false
set_option linter.unusedSimpArgs false
namespace Go.Proofs.Ytkjmilcocnjjoaa.Tm

section Weave
variable {X : Type}

def pre : List X → List (List X) → List X
  | i :: is, f :: fs => f ++ i :: pre is fs
  | _, _ => []

def post : List X → List (List X) → List X
  | i :: is, f :: fs => i :: (f ++ post is fs)
  | _, _ => []

def weave (is : List X) (fs : List (List X)) : List X :=
  match fs with
  | [] => []
  | f :: fs => f ++ post is fs

theorem pre_app (a : List X) (f : List (List X)) (h : a.length = f.length) (b : List X) (g : List (List X)) : pre (a ++ b) (f ++ g) = pre a f ++ pre b g := by
  induction a generalizing f with
  | nil => cases f with
    | nil => rfl
    | cons => simp at h
  | cons x a ih => cases f with
    | nil => simp at h
    | cons y f => simp [pre, ih f (by simpa using h)]

theorem post_app (a : List X) (f : List (List X)) (h : a.length = f.length) (b : List X) (g : List (List X)) : post (a ++ b) (f ++ g) = post a f ++ post b g := by
  induction a generalizing f with
  | nil => cases f with
    | nil => rfl
    | cons => simp at h
  | cons x a ih => cases f with
    | nil => simp at h
    | cons y f => simp [post, ih f (by simpa using h)]

theorem weave_cut (a : List X) (f : List (List X)) (h : a.length = f.length) (b : List X) (m : List X) (g : List (List X)) : weave (a ++ b) (f ++ m :: g) = pre a f ++ (m ++ post b g) := by
  induction a generalizing f with
  | nil => cases f with
    | nil => rfl
    | cons => simp at h
  | cons x a ih => cases f with
    | nil => simp at h
    | cons y f =>
      have h2 := ih f (by simpa using h)
      simp only [List.cons_append, weave, post, pre] at h2 ⊢
      cases f with
      | nil => cases a with
        | nil => simp [post, pre]
        | cons => simp at h
      | cons z f => simp only [List.cons_append, post] at h2 ⊢; simp [h2]

/-- Two neighbours and the key between them. -/
theorem weave_two (a : List X) (f : List (List X)) (h : a.length = f.length) (i : X) (b : List X) (m n : List X) (g : List (List X)) : weave (a ++ i :: b) (f ++ m :: n :: g) = pre a f ++ ((m ++ i :: n) ++ post b g) := by
  rw [weave_cut a f h]; simp [post]

theorem post_mem (a : List X) (f : List (List X)) : ∀ x ∈ post a f, x ∈ a ∨ ∃ l ∈ f, x ∈ l := by
  induction a generalizing f with
  | nil => simp [post]
  | cons y a ih => cases f with
    | nil => simp [post]
    | cons z f =>
      intro x hx
      simp only [post, List.mem_cons, List.mem_append] at hx
      rcases hx with rfl | hx | hx
      · exact .inl (List.mem_cons_self ..)
      · exact .inr ⟨z, List.mem_cons_self .., hx⟩
      · rcases ih f x hx with h | ⟨l, h, h2⟩
        · exact .inl (List.mem_cons_of_mem _ h)
        · exact .inr ⟨l, List.mem_cons_of_mem _ h, h2⟩

theorem post_len (a : List X) (f : List (List X)) (h : a.length = f.length) : (post a f).length = a.length + (f.map List.length).sum := by
  induction a generalizing f with
  | nil => cases f with
    | nil => rfl
    | cons => simp at h
  | cons x a ih => cases f with
    | nil => simp at h
    | cons y f => simp [post, ih f (by simpa using h)]; omega

theorem weave_len (a : List X) (f : List (List X)) (h : f.length = a.length + 1) : (weave a f).length = a.length + (f.map List.length).sum := by
  cases f with
  | nil => simp at h
  | cons y f => simp [weave, post_len a f (by simpa using h.symm)]; omega

end Weave

/-- A tree of a depth: a leaf's keys, or keys and one tree more below them. -/
def Tr (X : Type) : Nat → Type
  | 0 => List X
  | d + 1 => List X × List (Tr X d)

section Trees
variable {X : Type}

def leafT (l : List X) : Tr X 0 := l
def nodeT {d : Nat} (is : List X) (ks : List (Tr X d)) : Tr X (d + 1) := (is, ks)

def itsT : (d : Nat) → Tr X d → List X
  | 0, l => l
  | _ + 1, t => Prod.fst t

def kdsT {d : Nat} (t : Tr X (d + 1)) : List (Tr X d) := Prod.snd t

theorem node_eta {d : Nat} (t : Tr X (d + 1)) : nodeT (itsT (d + 1) t) (kdsT t) = t := rfl

def zT : (d : Nat) → Tr X d
  | 0 => leafT []
  | _ + 1 => nodeT [] []

def flat : (d : Nat) → Tr X d → List X
  | 0, l => l
  | d + 1, t => weave (Prod.fst t) ((Prod.snd t).map (flat d))

theorem flat_node {d : Nat} (is : List X) (ks : List (Tr X d)) : flat (d + 1) (nodeT is ks) = weave is (ks.map (flat d)) := rfl

/-- Between lo and hi keys in the node, lo2 to hi2 below. -/
def okT (lo2 hi2 : Nat) : Nat → Nat → (d : Nat) → Tr X d → Prop
  | lo, hi, 0, l => lo ≤ (show List X from l).length ∧ (show List X from l).length ≤ hi
  | lo, hi, d + 1, t => lo ≤ (Prod.fst t).length ∧ (Prod.fst t).length ≤ hi ∧ (Prod.snd t).length = (Prod.fst t).length + 1 ∧ ∀ c ∈ (Prod.snd t), okT lo2 hi2 lo2 hi2 d c

theorem ok_node {lo2 hi2 lo hi d : Nat} (is : List X) (ks : List (Tr X d)) : okT lo2 hi2 lo hi (d + 1) (nodeT is ks) ↔ lo ≤ is.length ∧ is.length ≤ hi ∧ ks.length = is.length + 1 ∧ ∀ c ∈ ks, okT lo2 hi2 lo2 hi2 d c := Iff.rfl
theorem ok_leaf {lo2 hi2 lo hi : Nat} (l : List X) : okT lo2 hi2 lo hi 0 (leafT l) ↔ lo ≤ l.length ∧ l.length ≤ hi := Iff.rfl

theorem ok_its {lo2 hi2 lo hi d : Nat} {t : Tr X d} (h : okT lo2 hi2 lo hi d t) : lo ≤ (itsT d t).length ∧ (itsT d t).length ≤ hi := by
  cases d with
  | zero => exact h
  | succ d => exact ⟨h.1, h.2.1⟩

theorem ok_mono {lo2 hi2 lo hi lo' hi' d : Nat} {t : Tr X d} (h : okT lo2 hi2 lo hi d t) (h1 : lo' ≤ (itsT d t).length) (h2 : (itsT d t).length ≤ hi') : okT lo2 hi2 lo' hi' d t := by
  cases d with
  | zero => exact ⟨h1, h2⟩
  | succ d => exact ⟨h1, h2, h.2.2⟩

/-! ## Parting -/

def partL (o : Nat) : (d : Nat) → Tr X d → Tr X d
  | 0, l => leafT ((show List X from l).take o)
  | _ + 1, t => nodeT ((Prod.fst t).take o) ((Prod.snd t).take (o + 1))

def partR (o : Nat) : (d : Nat) → Tr X d → Tr X d
  | 0, l => leafT ((show List X from l).drop (o + 1))
  | _ + 1, t => nodeT ((Prod.fst t).drop (o + 1)) ((Prod.snd t).drop (o + 1))

theorem part_flat (o : Nat) {lo2 hi2 lo hi d : Nat} (t : Tr X d) (h : okT lo2 hi2 lo hi d t) (ho : o < (itsT d t).length) :
    flat d t = flat d (partL o d t) ++ (itsT d t)[o] :: flat d (partR o d t) := by
  cases d with
  | zero =>
    have e : List.take o (itsT 0 t) ++ (itsT 0 t)[o] :: List.drop (o + 1) (itsT 0 t) = itsT 0 t := by
      rw [List.getElem_cons_drop, List.take_append_drop]
    exact e.symm
  | succ d =>
    obtain ⟨h1, h2, h3, h4⟩ := h
    change weave t.1 (t.2.map (flat d)) = weave (t.1.take o) ((t.2.take (o + 1)).map (flat d)) ++ t.1[o] :: weave (t.1.drop (o + 1)) ((t.2.drop (o + 1)).map (flat d))
    have ho2 : o < t.1.length := ho
    generalize hfs : t.2.map (flat d) = fs
    have hl : fs.length = t.1.length + 1 := by rw [← hfs]; simpa using h3
    rw [List.map_take, List.map_drop, hfs]
    have a1 : t.1 = t.1.take o ++ t.1[o] :: t.1.drop (o + 1) := by rw [List.getElem_cons_drop, List.take_append_drop]
    have ho3 : o < fs.length := by omega
    have ho4 : o + 1 < fs.length := by omega
    have a2 : fs = fs.take o ++ fs[o] :: fs[o + 1] :: fs.drop (o + 2) := by
      rw [List.getElem_cons_drop, List.getElem_cons_drop, List.take_append_drop]
    have a3 : fs.take (o + 1) = fs.take o ++ [fs[o]] := by rw [List.take_succ_eq_append_getElem ho3]
    have a4 : fs.drop (o + 1) = fs[o + 1] :: fs.drop (o + 2) := by rw [List.getElem_cons_drop]
    have w0 : weave t.1 fs = pre (t.1.take o) (fs.take o) ++ ((fs[o] ++ t.1[o] :: fs[o + 1]) ++ post (t.1.drop (o + 1)) (fs.drop (o + 2))) := by
      rw [← weave_two _ _ (by simp; omega)]
      rw [← a1, ← a2]
    have w1 : weave (t.1.take o) (fs.take (o + 1)) = pre (t.1.take o) (fs.take o) ++ fs[o] := by
      rw [a3]
      have := weave_cut (t.1.take o) (fs.take o) (by simp; omega) [] fs[o] []
      simpa [post] using this
    have w2 : weave (t.1.drop (o + 1)) (fs.drop (o + 1)) = fs[o + 1] ++ post (t.1.drop (o + 1)) (fs.drop (o + 2)) := by
      rw [a4]; rfl
    rw [w0, w1, w2]; simp; rfl

theorem part_its (o d : Nat) (t : Tr X d) : itsT d (partL o d t) = (itsT d t).take o ∧ itsT d (partR o d t) = (itsT d t).drop (o + 1) := by
  cases d <;> exact ⟨rfl, rfl⟩

theorem part_ok {lo2 hi2 lo hi d : Nat} (o : Nat) (t : Tr X d) (h : okT lo2 hi2 lo hi d t) (ho : o < (itsT d t).length) {a b c e : Nat} (ha : a ≤ o) (hb : o ≤ b)
    (hc : c ≤ (itsT d t).length - (o + 1)) (he : (itsT d t).length - (o + 1) ≤ e) : okT lo2 hi2 a b d (partL o d t) ∧ okT lo2 hi2 c e d (partR o d t) := by
  cases d with
  | zero =>
    have e1 : (List.take o (itsT 0 t)).length = o := by simp; omega
    have e2 : (List.drop (o + 1) (itsT 0 t)).length = (itsT 0 t).length - (o + 1) := by simp
    exact ⟨⟨by rw [← e1] at ha; exact ha, by rw [← e1] at hb; exact hb⟩, ⟨by rw [← e2] at hc; exact hc, by rw [← e2] at he; exact he⟩⟩
  | succ d =>
    obtain ⟨h1, h2, h3, h4⟩ := h
    have ho2 : o < t.1.length := ho
    have hc2 : c ≤ t.1.length - (o + 1) := hc
    have he2 : t.1.length - (o + 1) ≤ e := he
    refine ⟨(ok_node _ _).2 ⟨by simp; omega, by simp; omega, by simp; omega, fun c hc => h4 c (List.mem_of_mem_take hc)⟩, (ok_node _ _).2 ⟨by simp; omega, by simp; omega, by simp; omega, fun c hc => h4 c (List.mem_of_mem_drop hc)⟩⟩

/-! ## Moving and joining neighbours -/

/-- The last key of the left goes up, what stood between goes down to the right. -/
def rotR1 : (d : Nat) → Tr X d → Tr X d
  | 0, l => leafT (List.dropLast l)
  | _ + 1, t => nodeT (List.dropLast t.1) (List.dropLast t.2)

def rotR2 (m : X) : (d : Nat) → Tr X d → Tr X d → Tr X d
  | 0, _, r => leafT (m :: r)
  | d + 1, l, r => nodeT (m :: Prod.fst r) (((Prod.snd l).getLast?).toList ++ Prod.snd r)

def rotL1 (m : X) : (d : Nat) → Tr X d → Tr X d → Tr X d
  | 0, l, _ => leafT (List.append l [m])
  | d + 1, l, r => nodeT (Prod.fst l ++ [m]) (Prod.snd l ++ ((Prod.snd r).head?).toList)

def rotL2 : (d : Nat) → Tr X d → Tr X d
  | 0, r => leafT (List.tail r)
  | _ + 1, r => nodeT (List.tail r.1) (List.tail r.2)

def joinT (m : X) : (d : Nat) → Tr X d → Tr X d → Tr X d
  | 0, l, r => leafT (List.append l (m :: r))
  | d + 1, l, r => nodeT (Prod.fst l ++ m :: Prod.fst r) (Prod.snd l ++ Prod.snd r)

theorem last_eq {Y : Type} (l : List Y) (h : l ≠ []) : l = l.dropLast ++ [l.getLast h] := (List.dropLast_concat_getLast h).symm

theorem rotR_flat {lo2 hi2 lo hi lo' hi' d : Nat} (m : X) (l r : Tr X d) (hl : okT lo2 hi2 lo hi d l) (hr : okT lo2 hi2 lo' hi' d r) (A : List X) (i : X) (hn : itsT d l = A ++ [i]) :
    flat d (rotR1 d l) ++ i :: flat d (rotR2 m d l r) = flat d l ++ m :: flat d r := by
  cases d with
  | zero =>
    change List.dropLast (itsT 0 l) ++ i :: (m :: itsT 0 r) = itsT 0 l ++ m :: itsT 0 r
    rw [hn]; simp
  | succ d =>
    obtain ⟨h1, h2, h3, h4⟩ := hl
    obtain ⟨g1, g2, g3, g4⟩ := hr
    obtain ⟨li, lk⟩ := l
    obtain ⟨ri, rk⟩ := r
    change weave li.dropLast (lk.dropLast.map (flat d)) ++ i :: weave (m :: ri) ((lk.getLast?.toList ++ rk).map (flat d)) = weave li (lk.map (flat d)) ++ m :: weave ri (rk.map (flat d))
    change lk.length = li.length + 1 at h3
    change rk.length = ri.length + 1 at g3
    change li = A ++ [i] at hn
    clear h1 h2 g1 g2 h4 g4
    subst hn
    have hk2 : lk ≠ [] := by intro h; simp [h] at h3
    obtain ⟨B0, y, rfl⟩ : ∃ A i, lk = A ++ [i] := ⟨_, _, last_eq lk hk2⟩
    have hk3 : B0 ≠ [] := by intro h; simp [h] at h3
    obtain ⟨B, x, rfl⟩ : ∃ A i, B0 = A ++ [i] := ⟨_, _, last_eq B0 hk3⟩
    cases rk with
    | nil => simp at g3
    | cons z rk =>
    have hAB : A.length = (B.map (flat d)).length := by simp at h3 ⊢; omega
    have e1 := weave_cut A (B.map (flat d)) hAB [] (flat d x) []
    have e2 := weave_two A (B.map (flat d)) hAB i [] (flat d x) (flat d y) []
    have f1 : weave A ((B ++ [x]).map (flat d)) = pre A (B.map (flat d)) ++ flat d x := by simpa [post] using e1
    have f2 : weave (A ++ [i]) ((B ++ [x] ++ [y]).map (flat d)) = pre A (B.map (flat d)) ++ (flat d x ++ i :: flat d y) := by simpa [post] using e2
    have f3 : (A ++ [i]).dropLast = A := by simp
    have f4 : (B ++ [x] ++ [y]).dropLast = B ++ [x] := by simp
    have f5 : (B ++ [x] ++ [y]).getLast? = some y := by simp
    rw [f3, f4, f5, f1, f2]
    simp [weave, post]

theorem rotL_flat {lo2 hi2 lo hi lo' hi' d : Nat} (m : X) (l r : Tr X d) (hl : okT lo2 hi2 lo hi d l) (hr : okT lo2 hi2 lo' hi' d r) (i : X) (A : List X) (hn : itsT d r = i :: A) :
    flat d (rotL1 m d l r) ++ i :: flat d (rotL2 d r) = flat d l ++ m :: flat d r := by
  cases d with
  | zero =>
    change (itsT 0 l ++ [m]) ++ i :: List.tail (itsT 0 r) = itsT 0 l ++ m :: itsT 0 r
    rw [hn]; simp
  | succ d =>
    obtain ⟨h1, h2, h3, h4⟩ := hl
    obtain ⟨g1, g2, g3, g4⟩ := hr
    obtain ⟨li, lk⟩ := l
    obtain ⟨ri, rk⟩ := r
    change weave (li ++ [m]) ((lk ++ rk.head?.toList).map (flat d)) ++ i :: weave ri.tail (rk.tail.map (flat d)) = weave li (lk.map (flat d)) ++ m :: weave ri (rk.map (flat d))
    change lk.length = li.length + 1 at h3
    change rk.length = ri.length + 1 at g3
    change ri = i :: A at hn
    clear h1 h2 g1 g2 h4 g4
    subst hn
    match rk, g3 with
    | [], g3 => simp at g3
    | [x], g3 => simp at g3
    | x :: y :: rk, g3 =>
      have hk2 : lk ≠ [] := by intro h; simp [h] at h3
      obtain ⟨B, u, rfl⟩ : ∃ A i, lk = A ++ [i] := ⟨_, _, last_eq lk hk2⟩
      have hAB : li.length = (B.map (flat d)).length := by simp at h3 ⊢; omega
      have e1 := weave_cut li (B.map (flat d)) hAB [] (flat d u) []
      have e2 := weave_two li (B.map (flat d)) hAB m [] (flat d u) (flat d x) []
      have f1 : weave li ((B ++ [u]).map (flat d)) = pre li (B.map (flat d)) ++ flat d u := by simpa [post] using e1
      have f2 : weave (li ++ [m]) ((B ++ [u] ++ [x]).map (flat d)) = pre li (B.map (flat d)) ++ (flat d u ++ m :: flat d x) := by simpa [post] using e2
      have f3 : (x :: y :: rk).head?.toList = [x] := rfl
      rw [f3, f1, f2]
      simp [weave, post]

theorem join_flat {lo2 hi2 lo hi lo' hi' d : Nat} (m : X) (l r : Tr X d) (hl : okT lo2 hi2 lo hi d l) (hr : okT lo2 hi2 lo' hi' d r) :
    flat d (joinT m d l r) = flat d l ++ m :: flat d r := by
  cases d with
  | zero => rfl
  | succ d =>
    obtain ⟨h1, h2, h3, h4⟩ := hl
    obtain ⟨g1, g2, g3, g4⟩ := hr
    obtain ⟨li, lk⟩ := l
    obtain ⟨ri, rk⟩ := r
    change weave (li ++ m :: ri) ((lk ++ rk).map (flat d)) = weave li (lk.map (flat d)) ++ m :: weave ri (rk.map (flat d))
    change lk.length = li.length + 1 at h3
    change rk.length = ri.length + 1 at g3
    match rk, g3 with
    | [], g3 => simp at g3
    | x :: rk, g3 =>
      have hk2 : lk ≠ [] := by intro h; simp [h] at h3
      obtain ⟨B, u, rfl⟩ : ∃ A i, lk = A ++ [i] := ⟨_, _, last_eq lk hk2⟩
      have hAB : li.length = (B.map (flat d)).length := by simp at h3 ⊢; omega
      have e1 := weave_cut li (B.map (flat d)) hAB [] (flat d u) []
      have e2 := weave_two li (B.map (flat d)) hAB m ri (flat d u) (flat d x) (rk.map (flat d))
      have f1 : weave li ((B ++ [u]).map (flat d)) = pre li (B.map (flat d)) ++ flat d u := by simpa [post] using e1
      have f2 : weave (li ++ m :: ri) ((B ++ [u] ++ x :: rk).map (flat d)) = pre li (B.map (flat d)) ++ ((flat d u ++ m :: flat d x) ++ post ri (rk.map (flat d))) := by rw [← e2]; simp
      rw [f1, f2]
      simp [weave, post]

theorem rot_its (m : X) (d : Nat) (l r : Tr X d) : itsT d (rotR1 d l) = (itsT d l).dropLast ∧ itsT d (rotR2 m d l r) = m :: itsT d r ∧ itsT d (rotL1 m d l r) = itsT d l ++ [m] ∧ itsT d (rotL2 d r) = (itsT d r).tail ∧ itsT d (joinT m d l r) = itsT d l ++ m :: itsT d r := by
  cases d <;> exact ⟨rfl, rfl, rfl, rfl, rfl⟩

theorem rotR_ok {lo2 hi2 lo hi lo' hi' d : Nat} (m : X) (l r : Tr X d) (hl : okT lo2 hi2 lo hi d l) (hr : okT lo2 hi2 lo' hi' d r) (hn : 0 < (itsT d l).length) {a b c e : Nat}
    (ha : a ≤ (itsT d l).length - 1) (hb : (itsT d l).length - 1 ≤ b) (hc : c ≤ (itsT d r).length + 1) (he : (itsT d r).length + 1 ≤ e) :
    okT lo2 hi2 a b d (rotR1 d l) ∧ okT lo2 hi2 c e d (rotR2 m d l r) := by
  cases d with
  | zero =>
    have e1 : (itsT 0 (rotR1 0 l)).length = (itsT 0 l).length - 1 := by rw [(rot_its m 0 l r).1]; simp
    have e2 : (itsT 0 (rotR2 m 0 l r)).length = (itsT 0 r).length + 1 := by rw [(rot_its m 0 l r).2.1]; simp
    exact ⟨⟨by rw [← e1] at ha; exact ha, by rw [← e1] at hb; exact hb⟩, ⟨by rw [← e2] at hc; exact hc, by rw [← e2] at he; exact he⟩⟩
  | succ d =>
    obtain ⟨h1, h2, h3, h4⟩ := hl
    obtain ⟨g1, g2, g3, g4⟩ := hr
    obtain ⟨li, lk⟩ := l
    obtain ⟨ri, rk⟩ := r
    simp only [itsT] at *
    have hk2 : lk ≠ [] := by intro h; simp [h] at h3
    refine ⟨(ok_node _ _).2 ⟨by simp; omega, by simp; omega, by simp; omega, fun c hc => h4 c ((List.dropLast_sublist lk).subset hc)⟩, (ok_node _ _).2 ⟨by simp; omega, by simp; omega, ?_, fun c hc => ?_⟩⟩
    · rw [List.getLast?_eq_some_getLast hk2]; simp; omega
    · rw [List.getLast?_eq_some_getLast hk2] at hc
      simp only [Option.toList, List.mem_append, List.mem_singleton] at hc
      rcases hc with rfl | hc
      · exact h4 _ (List.getLast_mem hk2)
      · exact g4 c hc

theorem rotL_ok {lo2 hi2 lo hi lo' hi' d : Nat} (m : X) (l r : Tr X d) (hl : okT lo2 hi2 lo hi d l) (hr : okT lo2 hi2 lo' hi' d r) (hn : 0 < (itsT d r).length) {a b c e : Nat}
    (ha : a ≤ (itsT d l).length + 1) (hb : (itsT d l).length + 1 ≤ b) (hc : c ≤ (itsT d r).length - 1) (he : (itsT d r).length - 1 ≤ e) :
    okT lo2 hi2 a b d (rotL1 m d l r) ∧ okT lo2 hi2 c e d (rotL2 d r) := by
  cases d with
  | zero =>
    have e1 : (itsT 0 (rotL1 m 0 l r)).length = (itsT 0 l).length + 1 := by rw [(rot_its m 0 l r).2.2.1]; simp
    have e2 : (itsT 0 (rotL2 0 r)).length = (itsT 0 r).length - 1 := by rw [(rot_its m 0 l r).2.2.2.1]; simp
    exact ⟨⟨by rw [← e1] at ha; exact ha, by rw [← e1] at hb; exact hb⟩, ⟨by rw [← e2] at hc; exact hc, by rw [← e2] at he; exact he⟩⟩
  | succ d =>
    obtain ⟨h1, h2, h3, h4⟩ := hl
    obtain ⟨g1, g2, g3, g4⟩ := hr
    obtain ⟨li, lk⟩ := l
    obtain ⟨ri, rk⟩ := r
    simp only [itsT] at *
    cases rk with
    | nil => simp at g3
    | cons x rk =>
    refine ⟨(ok_node _ _).2 ⟨by simp; omega, by simp; omega, by simp at h3 ⊢; omega, fun c hc => ?_⟩, (ok_node _ _).2 ⟨by simp; omega, by simp; omega, by simp at g3 ⊢; omega, fun c hc => g4 c (List.mem_of_mem_tail hc)⟩⟩
    simp only [List.head?_cons, Option.toList, List.mem_append, List.mem_singleton] at hc
    rcases hc with hc | rfl
    · exact h4 c hc
    · exact g4 _ (List.mem_cons_self ..)

theorem join_ok {lo2 hi2 lo hi lo' hi' d : Nat} (m : X) (l r : Tr X d) (hl : okT lo2 hi2 lo hi d l) (hr : okT lo2 hi2 lo' hi' d r) {a b : Nat}
    (ha : a ≤ (itsT d l).length + (itsT d r).length + 1) (hb : (itsT d l).length + (itsT d r).length + 1 ≤ b) : okT lo2 hi2 a b d (joinT m d l r) := by
  cases d with
  | zero =>
    have e : (itsT 0 (joinT m 0 l r)).length = (itsT 0 l).length + (itsT 0 r).length + 1 := by rw [(rot_its m 0 l r).2.2.2.2]; simp; omega
    exact ⟨by rw [← e] at ha; exact ha, by rw [← e] at hb; exact hb⟩
  | succ d =>
    obtain ⟨h1, h2, h3, h4⟩ := hl
    obtain ⟨g1, g2, g3, g4⟩ := hr
    obtain ⟨li, lk⟩ := l
    obtain ⟨ri, rk⟩ := r
    simp only [itsT] at *
    refine (ok_node _ _).2 ⟨by simp; omega, by simp; omega, by simp; omega, fun c hc => ?_⟩
    rcases List.mem_append.1 hc with hc | hc
    · exact h4 c hc
    · exact g4 c hc

end Trees
end Go.Proofs.Ytkjmilcocnjjoaa.Tm
