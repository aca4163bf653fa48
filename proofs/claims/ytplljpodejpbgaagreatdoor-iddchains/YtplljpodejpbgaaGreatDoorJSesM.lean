/-
  Sessions that are collected out of the map and sorted: which list comes of it.
-/
import Derived.Test.YtplljpodejpbgaaGreatDoorJMap
import Derived.Test.YtplljpodejpbgaaGreatDoorShelfC
import Derived.Sort.OwnSortedInts
namespace Go.Proofs.YtplljpodejpbgaaGreatDoor
open Go.RowKit Go.Sort Go.Shelf Go.ChangeShapes Go.WideShapes Go.WideMaps
set_option linter.unusedVariables false
set_option linter.unusedSimpArgs false
set_option maxRecDepth 100000

section
variable {α : Type} [Inhabited α] {enc : α → Value}
theorem holdsG {w : World} {g : Nat} {cur : Array Value} {e : TypeId} {ss : List α} (hb : w.heap[g]? = some (.cells cur e (0, 0))) (ht : cur.toList.take ss.length = ss.map enc) : Holds enc w g 0 ss.toArray := by
  intro j hj
  have hj' : j < ss.length := by simpa using hj
  refine ⟨?_, by simp [World.frozen?, hb]⟩
  have h1 : (cur.toList.take ss.length)[j]? = (ss.map enc)[j]? := by rw [ht]
  rw [List.getElem?_take_of_lt hj'] at h1
  simp only [World.cell?, hb, Nat.zero_add]
  simp only [Option.isSome_none, Bool.false_eq_true, if_false]
  rw [← Array.getElem?_toList, h1]
  simp [hj']
theorem heapG {w : World} {g n : Nat} {e : TypeId} {os : Array Obj} {cur : Array Value} (d : Array α) (hb : w.heap[g]? = some (.cells cur e (0, 0))) : (sortWorld enc w g 0 n d os).heap[g]? = some (.cells (putCells enc 0 d cur) e (0, 0)) := by
  unfold sortWorld
  have hg := (Array.getElem?_eq_some_iff.1 hb).1
  rw [heap_grow_old _ _ (by simpa using hg)]
  simp [putRow, mapBlock, Sort.ahead, Array.getElem?_modify, hb, onCells]
theorem grownG {w : World} {g n : Nat} {os : Array Obj} (d : Array α) : w.grownBy (sortWorld enc w g 0 n d os) (some g) := by
  unfold sortWorld
  refine ⟨rfl, rfl, rfl, by simp, fun k hk hne => ?_⟩
  rw [heap_grow_old _ _ (by simpa using hk)]
  have : g ≠ k := fun e => hne (by rw [e])
  simp [putRow, mapBlock, Sort.ahead, Array.getElem?_modify, this]
theorem takeG (cur : Array Value) (ts : List α) (h : ts.length ≤ cur.size) : (putCells enc 0 ts.toArray cur).toList.take ts.length = ts.map enc := by
  apply List.ext_getElem?
  intro j
  by_cases hj : j < ts.length
  · rw [List.getElem?_take_of_lt hj]
    simp [putCells, hj, show j < cur.size by omega]
  · rw [List.getElem?_eq_none (by simp; omega), List.getElem?_eq_none (by simp; omega)]
theorem ownsG {w : World} {base g cap n : Nat} {e : TypeId} {os : Array Obj} {cur : Array Value} {k : Nat} {ts : List α} (hl : ts.length = k) (hbase : base ≤ g) (hb : w.heap[g]? = some (.cells cur e (0, 0)))
    (h1 : k ≤ cap) (h2 : cap ≤ maxLen) (h3 : cur.size = cap * 1) :
    (sortWorld enc w g 0 n ts.toArray os).ownsRow base e 1 (.slice (some ⟨g, 0, none⟩) k cap) k (ts.map enc) :=
  ⟨by simp [hl], .inr ⟨g, cap, _, rfl, hbase, heapG _ hb, h1, h2, by simp [putCells, h3], by rw [Nat.mul_one, ← hl]; exact takeG cur ts (by omega)⟩⟩
end

/-- Texts that may be keys. -/
abbrev Tk := { t : ByteArray // t.size ≤ maxLen }
@[reducible] def tkInh : Inhabited Tk := ⟨⟨⟨#[]⟩, by decide⟩⟩
def encT (t : Tk) : Value := .string t.1

/-- Whose login a token's is, as the map tells. -/
def lgD (D : DataW Unit) (t : ByteArray) : Int := match D.atKey (keyB t) (sesD 0 0) with
  | .agg [_, .lit (.int _ b)] => b
  | _ => 0
theorem lgD_at {D : DataW Unit} {ss : List Ses} (hM : MapIs D ss) {s : Ses} (hs : s ∈ ss) : lgD D s.token = (s.login : Int) := by
  unfold lgD
  rw [hM.at_ s hs]
  rfl
def cfT (D : DataW Unit) (x y : Tk) : Int := cmpI (lgD D x.1) (lgD D y.1)
theorem ltT (D : DataW Unit) (x y : Tk) : ltOf (cfT D) x y = decide (lgD D x.1 < lgD D y.1) := by
  unfold ltOf cfT cmpI
  by_cases h1 : lgD D x.1 < lgD D y.1
  · simp [h1]
  · by_cases h2 : lgD D y.1 < lgD D x.1 <;> simp [h1, h2]
theorem swoT (D : DataW Unit) : SWO (ltOf (cfT D)) := ⟨fun x => by rw [ltT]; simp, fun x y z h1 h2 => by rw [ltT] at *; simp at *; omega, fun x y z h1 h2 => by rw [ltT] at *; simp at *; omega⟩

/-- The tokens of a user's sessions, the eldest first. -/
def toksOf (ss : List Ses) (who : Int) : List ByteArray := (ss.filter fun s => decide ((s.who : Int) = who)).map (·.token)
structure Coll (D : DataW Unit) (ss : List Ses) (who : Int) (left : Lit → Bool) (ts : List ByteArray) : Prop where
  nd : ts.Nodup
  mem : ∀ t, t ∈ ts ↔ (∃ s ∈ ss, s.token = t ∧ (s.who : Int) = who) ∧ left (keyB t) = false
  sz : ∀ t ∈ ts, t.size ≤ maxLen
theorem Coll.start {D : DataW Unit} {ss : List Ses} (hM : MapIs D ss) (who : Int) : Coll D ss who (Maps.has D) [] := by
  refine ⟨List.nodup_nil, fun t => ⟨fun h => by simp at h, ?_⟩, fun t h => by simp at h⟩
  rintro ⟨⟨s, hs, rfl, _⟩, hl⟩
  have := (hM.has s.token.data.toList).2 ⟨s, hs, rfl⟩
  rw [show Maps.has D (keyB s.token) = Maps.has D (.string s.token.data.toList) from rfl, this] at hl
  cases hl
theorem key_same (t u : ByteArray) : (keyB t).sameKey (keyB u) = true ↔ t = u := by
  unfold keyB
  simp only [Lit.sameKey, beq_iff_eq, decide_eq_true_eq]
  exact ⟨fun h => tok_inj (by simpa using h), fun h => by rw [h]⟩
theorem Coll.step {D : DataW Unit} {ss : List Ses} {who : Int} {left : Lit → Bool} {ts : List ByteArray} (h : Coll D ss who left ts) (hM : MapIs D ss) {t : ByteArray} {a b : Int} (hz : t.size ≤ maxLen) (hl : left (keyB t) = true) (hat : ∀ zd, D.atKey (keyB t) zd = sesD a b) :
    (a = who → Coll D ss who (fun z => left z && !z.sameKey (keyB t)) (ts ++ [t])) ∧ (a ≠ who → Coll D ss who (fun z => left z && !z.sameKey (keyB t)) ts) := by
  have hhas := Maps.has_true_of_atKey hat
  obtain ⟨s, hs, e⟩ := (hM.has t.data.toList).1 hhas
  have e := tok_inj e
  have hw : a = (s.who : Int) := by
    have h1 := hM.at_ s hs (sesD 0 0)
    rw [e, hat] at h1
    simp only [sesD, DataW.agg.injEq, List.cons.injEq, DataW.lit.injEq, Lit.int.injEq, true_and, and_true] at h1
    exact h1.1
  have huniq : ∀ x ∈ ss, x.token = t → (x.who : Int) = a := fun x hx ex => by
    have h1 := hM.at_ x hx (sesD 0 0)
    rw [ex, hat] at h1
    simp only [sesD, DataW.agg.injEq, List.cons.injEq, DataW.lit.injEq, Lit.int.injEq, true_and, and_true] at h1
    exact h1.1.symm
  have hk : ∀ u, ((left (keyB u) && !(keyB u).sameKey (keyB t)) = false) ↔ (left (keyB u) = false ∨ u = t) := fun u => by
    have := key_same u t
    cases hh : (keyB u).sameKey (keyB t)
    · have hne : ¬ u = t := fun e' => by have := this.2 e'; rw [hh] at this; cases this
      simp [hne]
    · simp [this.1 hh]
  have hnew : t ∉ ts := fun hm => by have := ((h.mem t).1 hm).2; rw [hl] at this; cases this
  refine ⟨fun ha => ⟨?_, fun u => ?_, ?_⟩, fun ha => ⟨h.nd, fun u => ?_, h.sz⟩⟩
  · exact List.nodup_append.2 ⟨h.nd, by simp, fun x hx y hy => by simp at hy; subst hy; exact fun e' => hnew (e' ▸ hx)⟩
  · rw [hk, List.mem_append, h.mem u]
    simp only [List.mem_singleton]
    constructor
    · rintro (⟨h1, h2⟩ | rfl)
      · exact ⟨h1, Or.inl h2⟩
      · exact ⟨⟨s, hs, e, by rw [← hw]; exact ha⟩, Or.inr rfl⟩
    · rintro ⟨h1, h2 | rfl⟩
      · exact Or.inl ⟨h1, h2⟩
      · exact Or.inr rfl
  · intro u hu
    rcases List.mem_append.1 hu with hu | hu
    · exact h.sz u hu
    · simp at hu; subst hu; exact hz
  · rw [hk, h.mem u]
    constructor
    · rintro ⟨h1, h2⟩
      exact ⟨h1, Or.inl h2⟩
    · rintro ⟨⟨x, hx, rfl, hxw⟩, h2 | h2⟩
      · exact ⟨⟨x, hx, rfl, hxw⟩, h2⟩
      · exact absurd ((huniq x hx h2).symm.trans hxw) ha
theorem Coll.perm {D : DataW Unit} {ss : List Ses} {who : Int} {left : Lit → Bool} {ts : List ByteArray} (h : Coll D ss who left ts) (hM : MapIs D ss) (hl : ∀ kl, left kl = false) : ts.Perm (toksOf ss who) := by
  refine (List.perm_ext_iff_of_nodup h.nd ?_).2 fun t => ?_
  · unfold toksOf
    exact (List.Sublist.map _ List.filter_sublist).nodup hM.nd
  · rw [h.mem t, hl]
    unfold toksOf
    simp only [List.mem_map, List.mem_filter, decide_eq_true_eq, and_true]
    constructor
    · rintro ⟨s, hs, rfl, hw⟩
      exact ⟨s, ⟨hs, hw⟩, rfl⟩
    · rintro ⟨s, ⟨hs, hw⟩, rfl⟩
      exact ⟨s, hs, rfl, hw⟩
/-- Sorted by logins it is the one list. -/
theorem sort_uniq {D : DataW Unit} {ss : List Ses} {who : Int} {ts : List ByteArray} (hM : MapIs D ss) (ho : ss.Pairwise (fun a b => a.login < b.login)) (hp : ts.Perm (toksOf ss who)) (hs : ts.Pairwise (fun a b => lgD D a ≤ lgD D b)) : ts = toksOf ss who := by
  have hmem : ∀ t ∈ toksOf ss who, ∃ s ∈ ss, s.token = t := fun t ht => by
    unfold toksOf at ht
    simp only [List.mem_map, List.mem_filter] at ht
    obtain ⟨s, ⟨hs, _⟩, rfl⟩ := ht
    exact ⟨s, hs, rfl⟩
  have huniq : ∀ a ∈ ss, ∀ b ∈ ss, a.login = b.login → a = b := fun a ha b hb e => by
    obtain ⟨i, hi, rfl⟩ := List.mem_iff_getElem.1 ha
    obtain ⟨j, hj, rfl⟩ := List.mem_iff_getElem.1 hb
    have hij : ∀ (i j : Nat) (hi : i < ss.length) (hj : j < ss.length), i < j → (ss[i]).login < (ss[j]).login := fun i j hi hj h => List.pairwise_iff_getElem.1 ho i j hi hj h
    rcases Nat.lt_trichotomy i j with h | h | h
    · have := hij i j hi hj h; omega
    · subst h; rfl
    · have := hij j i hj hi h; omega
  refine List.Perm.eq_of_pairwise (le := fun a b => lgD D a ≤ lgD D b) (fun a b ha hb h1 h2 => ?_) hs ?_ hp
  · obtain ⟨x, hx, rfl⟩ := hmem a (hp.mem_iff.1 ha)
    obtain ⟨y, hy, rfl⟩ := hmem b hb
    rw [lgD_at hM hx, lgD_at hM hy] at h1 h2
    rw [huniq x hx y hy (by omega)]
  · unfold toksOf
    rw [List.pairwise_map]
    refine (List.Pairwise.filter _ ho).imp_of_mem fun {a b} ha hb h => ?_
    rw [lgD_at hM ((List.mem_filter.1 ha).1), lgD_at hM ((List.mem_filter.1 hb).1)]
    omega

def tk (t : ByteArray) : Tk := if h : t.size ≤ maxLen then ⟨t, h⟩ else tkInh.default
theorem tk_val {t : ByteArray} (h : t.size ≤ maxLen) : (tk t).1 = t := by unfold tk; rw [dif_pos h]
theorem tk_enc {ts : List ByteArray} (h : ∀ t ∈ ts, t.size ≤ maxLen) : (ts.map tk).map encT = ts.map Value.string := by
  rw [List.map_map]
  refine List.map_congr_left fun t ht => ?_
  show Value.string (tk t).1 = _
  rw [tk_val (h t ht)]
theorem tk_vals {ts : List ByteArray} (h : ∀ t ∈ ts, t.size ≤ maxLen) : (ts.map tk).map (·.1) = ts := by
  rw [List.map_map]
  conv => rhs; rw [← List.map_id ts]
  exact List.map_congr_left fun t ht => tk_val (h t ht)
theorem sorted_list {D : DataW Unit} {ts : List ByteArray} {d' : Array Tk} (h : ∀ t ∈ ts, t.size ≤ maxLen) (hp : @PermIn Tk tkInh 0 ts.length (ts.map tk).toArray d') (hs : letI := tkInh; SortedIn (ltOf (cfT D)) 0 ts.length d') :
    (d'.toList.map (·.1)).Perm ts ∧ (d'.toList.map (·.1)).Pairwise (fun a b => lgD D a ≤ lgD D b) ∧ d'.size = ts.length := by
  obtain ⟨h1, _, h3⟩ := hp
  have hl : d'.size = ts.length := by simpa using h1
  have e1 : (d'.extract 0 ts.length).toList = d'.toList := by rw [← hl]; simp
  have e2 : ((ts.map tk).toArray.extract 0 ts.length).toList = ts.map tk := by
    simp
    exact List.take_of_length_le (by simp)
  rw [e1, e2] at h3
  refine ⟨?_, ?_, hl⟩
  · have := h3.map (·.1)
    rwa [tk_vals h] at this
  · rw [List.pairwise_map, List.pairwise_iff_getElem]
    intro i j hi hj hij
    have hi' : i < d'.size := by simpa using hi
    have hj' : j < d'.size := by simpa using hj
    have hx := hs i j (Nat.zero_le _) hij (by omega)
    letI := tkInh
    rw [ltT, getElem!_pos d' j hj', getElem!_pos d' i hi'] at hx
    simp at hx
    simpa using hx
theorem keyT_inv {x : ByteArray} {kl : Lit} (h : keyOf Tryz.prog 9 (.string x) = some kl) : x.size ≤ maxLen ∧ kl = keyB x := by
  simp [keyOf, Tryz.underlying9, mapKey] at h
  obtain ⟨h1, h2⟩ := h
  exact ⟨h1, h2.symm⟩
end Go.Proofs.YtplljpodejpbgaaGreatDoor
