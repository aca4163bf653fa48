/-
  SHA-256 by definition, over natural numbers: words, schedule, rounds, states behind blocks, the end that is laid behind a text, digests; digits. No program stands in it.
-/
import Init
namespace Go.Proofs.YtplljpodejpbgaaGreatDoor
set_option linter.unusedVariables false

/-- f of n, n reckoned first. -/
def seq {α : Type} (n : Nat) (f : Nat → α) : α := match n with
  | 0 => f 0
  | m + 1 => f (m + 1)
theorem seq_eq {α : Type} (n : Nat) (f : Nat → α) : seq n f = f n := by cases n <;> rfl

def rot (x k : Nat) : Nat := (x >>> k ||| x <<< (32 - k)) % 4294967296
def sm0 (x : Nat) : Nat := rot x 7 ^^^ rot x 18 ^^^ x >>> 3
def sm1 (x : Nat) : Nat := rot x 17 ^^^ rot x 19 ^^^ x >>> 10
def bg1 (e : Nat) : Nat := rot e 6 ^^^ rot e 11 ^^^ rot e 25
def bg0 (a : Nat) : Nat := rot a 2 ^^^ rot a 13 ^^^ rot a 22
def chs (e f g : Nat) : Nat := (e &&& f) ^^^ ((4294967295 - e) &&& g)
def maj (a b c : Nat) : Nat := (a &&& b) ^^^ (a &&& c) ^^^ (b &&& c)
def word (b : List Nat) (t : Nat) : Nat := b.getD (4 * t) 0 * 16777216 + b.getD (4 * t + 1) 0 * 65536 + b.getD (4 * t + 2) 0 * 256 + b.getD (4 * t + 3) 0
def wnext (w : List Nat) (t : Nat) : Nat := (w.getD (t - 16) 0 + sm0 (w.getD (t - 15) 0) + w.getD (t - 7) 0 + sm1 (w.getD (t - 2) 0)) % 4294967296
def wat (b w : List Nat) (t : Nat) : Nat := if t < 16 then word b t else wnext w t
def sched (b : List Nat) : Nat → List Nat
  | 0 => []
  | t + 1 => sched b t ++ [wat b (sched b t) t]
def rx (s : List Nat) (k w : Nat) : Nat := s.getD 7 0 + bg1 (s.getD 4 0) + chs (s.getD 4 0) (s.getD 5 0) (s.getD 6 0) + k + w
def ry (s : List Nat) : Nat := bg0 (s.getD 0 0) + maj (s.getD 0 0) (s.getD 1 0) (s.getD 2 0)
def rnd (s : List Nat) (k w : Nat) : List Nat := [(rx s k w + ry s) % 4294967296, s.getD 0 0, s.getD 1 0, s.getD 2 0, (s.getD 3 0 + rx s k w) % 4294967296, s.getD 4 0, s.getD 5 0, s.getD 6 0]
def run (K W h : List Nat) : Nat → List Nat
  | 0 => h
  | t + 1 => rnd (run K W h t) (K.getD t 0) (W.getD t 0)
def addW (h s : List Nat) (n : Nat) : List Nat := (List.range n).map fun i => (h.getD i 0 + s.getD i 0) % 4294967296
def comp (K h b : List Nat) : List Nat := addW h (run K (sched b 64) h 64) 8

/-- The state behind i blocks of m. -/
def stAt (H K m : List Nat) : Nat → List Nat
  | 0 => H
  | i + 1 => comp K (stAt H K m i) ((m.drop (64 * i)).take 64)
def stOf (H K m : List Nat) : List Nat := stAt H K m (m.length / 64)
/-- The bytes that wait, and noughts behind them. -/
def blOf (m : List Nat) : List Nat := m.drop (64 * (m.length / 64)) ++ List.replicate (64 - m.length % 64) 0

def be4 (x : Nat) : List Nat := [x / 16777216 % 256, x / 65536 % 256, x / 256 % 256, x % 256]
def beTo (x : Nat) : Nat → List Nat
  | 0 => []
  | n + 1 => x / 256 ^ n % 256 :: beTo x n
def noughts (n : Nat) : Nat := (119 - n % 64) % 64
def padOf (n : Nat) : List Nat := 128 :: (List.replicate (noughts n) 0 ++ beTo (8 * n) 8)
def digest (H K m : List Nat) : List Nat := (stOf H K (m ++ padOf m.length)).flatMap be4

def H0 : List Nat := [1779033703, 3144134277, 1013904242, 2773480762, 1359893119, 2600822924, 528734635, 1541459225]
def K0 : List Nat := [1116352408, 1899447441, 3049323471, 3921009573, 961987163, 1508970993, 2453635748, 2870763221, 3624381080, 310598401, 607225278, 1426881987, 1925078388, 2162078206, 2614888103, 3248222580, 3835390401, 4022224774, 264347078, 604807628, 770255983, 1249150122, 1555081692, 1996064986, 2554220882, 2821834349, 2952996808, 3210313671, 3336571891, 3584528711, 113926993, 338241895, 666307205, 773529912, 1294757372, 1396182291, 1695183700, 1986661051, 2177026350, 2456956037, 2730485921, 2820302411, 3259730800, 3345764771, 3516065817, 3600352804, 4094571909, 275423344, 430227734, 506948616, 659060556, 883997877, 958139571, 1322822218, 1537002063, 1747873779, 1955562222, 2024104815, 2227730452, 2361852424, 2428436474, 2756734187, 3204031479, 3329325298]

/-- So many words. -/
structure Words (n : Nat) (l : List Nat) : Prop where
  len : l.length = n
  lt : ∀ i, l.getD i 0 < 4294967296

theorem rot_lt (x k : Nat) : rot x k < 4294967296 := Nat.mod_lt _ (by decide)
theorem xor_lt {a b : Nat} (ha : a < 4294967296) (hb : b < 4294967296) : a ^^^ b < 4294967296 := Nat.xor_lt_two_pow (n := 32) ha hb
theorem and_lt {a b : Nat} (hb : b < 4294967296) : a &&& b < 4294967296 := Nat.and_lt_two_pow (n := 32) a hb
theorem shr_lt {a k : Nat} (ha : a < 4294967296) : a >>> k < 4294967296 := Nat.lt_of_le_of_lt (by rw [Nat.shiftRight_eq_div_pow]; exact Nat.div_le_self _ _) ha
theorem sm0_lt {x : Nat} (h : x < 4294967296) : sm0 x < 4294967296 := xor_lt (xor_lt (rot_lt _ _) (rot_lt _ _)) (shr_lt h)
theorem sm1_lt {x : Nat} (h : x < 4294967296) : sm1 x < 4294967296 := xor_lt (xor_lt (rot_lt _ _) (rot_lt _ _)) (shr_lt h)
theorem bg1_lt (x : Nat) : bg1 x < 4294967296 := xor_lt (xor_lt (rot_lt _ _) (rot_lt _ _)) (rot_lt _ _)
theorem bg0_lt (x : Nat) : bg0 x < 4294967296 := xor_lt (xor_lt (rot_lt _ _) (rot_lt _ _)) (rot_lt _ _)
theorem chs_lt {e f g : Nat} (hf : f < 4294967296) (hg : g < 4294967296) : chs e f g < 4294967296 := xor_lt (and_lt hf) (and_lt hg)
theorem maj_lt {a b c : Nat} (hb : b < 4294967296) (hc : c < 4294967296) : maj a b c < 4294967296 := xor_lt (xor_lt (and_lt hb) (and_lt hc)) (and_lt hc)

theorem getD_lt {l : List Nat} {M : Nat} (hM : 0 < M) (h : ∀ x ∈ l, x < M) (i : Nat) : l.getD i 0 < M := by
  by_cases hi : i < l.length
  · simp only [List.getD, List.getElem?_eq_getElem hi, Option.getD_some]
    exact h _ (List.getElem_mem hi)
  · simp only [List.getD, List.getElem?_eq_none (Nat.le_of_not_lt hi), Option.getD_none]
    exact hM
theorem getD_take {l : List Nat} {k i : Nat} (h : i < k) : (l.take k).getD i 0 = l.getD i 0 := by
  simp [List.getD, h]
theorem getD_app_left {l r : List Nat} {i : Nat} (h : i < l.length) : (l ++ r).getD i 0 = l.getD i 0 := by
  simp only [List.getD]; rw [List.getElem?_append_left h]
theorem getD_app_right {l r : List Nat} {i : Nat} (h : l.length ≤ i) : (l ++ r).getD i 0 = r.getD (i - l.length) 0 := by
  simp only [List.getD]; rw [List.getElem?_append_right h]

theorem sched_len (b : List Nat) : ∀ t, (sched b t).length = t
  | 0 => rfl
  | t + 1 => by simp [sched, sched_len b t]
theorem word_lt {b : List Nat} (h : ∀ i, b.getD i 0 < 256) (t : Nat) : word b t < 4294967296 := by
  have h0 := h (4 * t); have h1 := h (4 * t + 1); have h2 := h (4 * t + 2); have h3 := h (4 * t + 3)
  unfold word; omega
theorem wnext_lt (w : List Nat) (t : Nat) : wnext w t < 4294967296 := Nat.mod_lt _ (by decide)
theorem wat_lt {b : List Nat} (h : ∀ i, b.getD i 0 < 256) (w : List Nat) (t : Nat) : wat b w t < 4294967296 := by
  unfold wat; split
  · exact word_lt h t
  · exact wnext_lt w t
theorem sched_words {b : List Nat} (h : ∀ i, b.getD i 0 < 256) : ∀ t, Words t (sched b t)
  | 0 => ⟨rfl, fun i => by simp [sched]⟩
  | t + 1 => by
    have ih := sched_words h t
    refine ⟨sched_len b _, fun i => ?_⟩
    show (sched b t ++ [wat b (sched b t) t]).getD i 0 < _
    by_cases hi : i < (sched b t).length
    · rw [getD_app_left hi]; exact ih.lt i
    · rw [getD_app_right (by omega)]
      have hl := wat_lt h (sched b t) t
      by_cases h0 : i - (sched b t).length = 0
      · rw [h0]; simpa using hl
      · obtain ⟨k, hk⟩ : ∃ k, i - (sched b t).length = k + 1 := ⟨i - (sched b t).length - 1, by omega⟩
        rw [hk]; simp
theorem rnd_words {s : List Nat} {k w : Nat} (h : Words 8 s) : Words 8 (rnd s k w) := by
  refine ⟨rfl, getD_lt (by decide) fun x hx => ?_⟩
  simp only [rnd, List.mem_cons, List.not_mem_nil, or_false] at hx
  rcases hx with rfl | rfl | rfl | rfl | rfl | rfl | rfl | rfl
  · exact Nat.mod_lt _ (by decide)
  · exact h.lt _
  · exact h.lt _
  · exact h.lt _
  · exact Nat.mod_lt _ (by decide)
  · exact h.lt _
  · exact h.lt _
  · exact h.lt _
theorem run_words {K W h : List Nat} (hh : Words 8 h) : ∀ t, Words 8 (run K W h t)
  | 0 => hh
  | t + 1 => rnd_words (run_words hh t)
theorem addW_words (h s : List Nat) (n : Nat) : Words n (addW h s n) := by
  refine ⟨by simp [addW], getD_lt (by decide) fun x hx => ?_⟩
  simp only [addW, List.mem_map] at hx
  obtain ⟨i, _, rfl⟩ := hx
  exact Nat.mod_lt _ (by decide)
theorem comp_words (K h b : List Nat) : Words 8 (comp K h b) := addW_words _ _ _
theorem stAt_words {H K m : List Nat} (hH : Words 8 H) : ∀ i, Words 8 (stAt H K m i)
  | 0 => hH
  | i + 1 => comp_words _ _ _
theorem stOf_words {H K m : List Nat} (hH : Words 8 H) : Words 8 (stOf H K m) := stAt_words hH _
theorem H0_words : Words 8 H0 := ⟨rfl, getD_lt (by decide) (by decide)⟩
theorem K0_words : Words 64 K0 := ⟨rfl, getD_lt (by decide) (by decide)⟩

theorem addW_succ (h s : List Nat) (n : Nat) : addW h s (n + 1) = addW h s n ++ [(h.getD n 0 + s.getD n 0) % 4294967296] := by
  simp [addW, List.range_succ]

/-- The state hangs on the blocks alone. -/
theorem stAt_app (H K m x : List Nat) : ∀ i, 64 * i ≤ m.length → stAt H K (m ++ x) i = stAt H K m i
  | 0, _ => rfl
  | i + 1, h => by
    show comp K (stAt H K (m ++ x) i) (((m ++ x).drop (64 * i)).take 64) = _
    rw [stAt_app H K m x i (by omega), List.drop_append_of_le_length (by omega), List.take_append_of_le_length (by rw [List.length_drop]; omega)]
    rfl

theorem blOf_len (m : List Nat) : (blOf m).length = 64 := by
  simp only [blOf, List.length_append, List.length_drop, List.length_replicate]
  have := Nat.div_add_mod m.length 64
  have := Nat.mod_lt m.length (show 0 < 64 by decide)
  omega

/-- Fewer bytes than would fill the block: the state stays. -/
theorem take_less (H K m x : List Nat) (h : m.length % 64 + x.length < 64) :
    stOf H K (m ++ x) = stOf H K m ∧ blOf (m ++ x) = (blOf m).take (m.length % 64) ++ x ++ (blOf m).drop (m.length % 64 + x.length) := by
  have e : (m ++ x).length / 64 = m.length / 64 := by rw [List.length_append]; omega
  have e2 : (m ++ x).length % 64 = m.length % 64 + x.length := by rw [List.length_append]; omega
  have hd := Nat.div_add_mod m.length 64
  constructor
  · unfold stOf
    rw [e]
    exact stAt_app H K m x _ (by omega)
  · unfold blOf
    rw [e, e2, List.drop_append_of_le_length (by omega)]
    have hl : (m.drop (64 * (m.length / 64))).length = m.length % 64 := by rw [List.length_drop]; omega
    generalize m.drop (64 * (m.length / 64)) = X at hl
    rw [List.take_append_of_le_length (by omega), List.take_of_length_le (by omega), List.drop_append, hl, List.drop_of_length_le (by omega)]
    simp only [List.nil_append, List.drop_replicate]
    rw [show 64 - m.length % 64 - (m.length % 64 + x.length - m.length % 64) = 64 - (m.length % 64 + x.length) by omega, List.append_assoc]

/-- The bytes that fill the block: it goes into the state. -/
theorem take_full (H K m x : List Nat) (h : m.length % 64 + x.length = 64) :
    stOf H K (m ++ x) = comp K (stOf H K m) ((blOf m).take (m.length % 64) ++ x) ∧ blOf (m ++ x) = List.replicate 64 0 := by
  have e : (m ++ x).length / 64 = m.length / 64 + 1 := by rw [List.length_append]; omega
  have e2 : (m ++ x).length % 64 = 0 := by rw [List.length_append]; omega
  have hd := Nat.div_add_mod m.length 64
  have hl : (m.drop (64 * (m.length / 64))).length = m.length % 64 := by rw [List.length_drop]; omega
  constructor
  · unfold stOf
    rw [e]
    show comp K (stAt H K (m ++ x) (m.length / 64)) (((m ++ x).drop (64 * (m.length / 64))).take 64) = _
    rw [stAt_app H K m x _ (by omega), List.drop_append_of_le_length (by omega), List.take_of_length_le (by rw [List.length_append, hl]; omega)]
    unfold blOf
    rw [List.take_append_of_le_length (by omega), List.take_of_length_le (by omega)]
  · unfold blOf
    rw [e, e2, List.drop_of_length_le (by rw [List.length_append]; omega)]
    rfl

theorem blOf_lt {m : List Nat} (h : ∀ x ∈ m, x < 256) : ∀ x ∈ blOf m, x < 256 := by
  intro x hx
  unfold blOf at hx
  rcases List.mem_append.1 hx with h1 | h1
  · exact h x (List.mem_of_mem_drop h1)
  · have := List.eq_of_mem_replicate h1; omega

theorem beTo_len (x : Nat) : ∀ n, (beTo x n).length = n
  | 0 => rfl
  | n + 1 => by simp [beTo, beTo_len x n]
theorem padOf_len (n : Nat) : (n + (padOf n).length) % 64 = 0 := by
  simp only [padOf, List.length_cons, List.length_append, List.length_replicate, beTo_len, noughts]
  omega
theorem beTo_lt (x : Nat) : ∀ n, ∀ y ∈ beTo x n, y < 256
  | 0, y, h => by simp [beTo] at h
  | n + 1, y, h => by
    rcases List.mem_cons.1 h with rfl | h1
    · exact Nat.mod_lt _ (by decide)
    · exact beTo_lt x n y h1
theorem padOf_lt (n : Nat) : ∀ y ∈ padOf n, y < 256 := by
  intro y hy
  unfold padOf at hy
  rcases List.mem_cons.1 hy with rfl | h1
  · decide
  · rcases List.mem_append.1 h1 with h2 | h2
    · have := List.eq_of_mem_replicate h2; omega
    · exact beTo_lt _ _ y h2

/-! ### By the kernel -/
def schedF (b : List Nat) : Nat → List Nat → Nat → List Nat
  | 0, acc, _ => acc
  | n + 1, acc, t => seq (wat b acc t) fun x => schedF b n (acc ++ [x]) (t + 1)
theorem schedF_eq (b : List Nat) : ∀ n t, schedF b n (sched b t) t = sched b (t + n)
  | 0, t => rfl
  | n + 1, t => by
    rw [schedF, seq_eq]
    have := schedF_eq b n (t + 1)
    rw [show sched b (t + 1) = sched b t ++ [wat b (sched b t) t] from rfl] at this
    rw [this]
    congr 1
    omega
def runF (K W : List Nat) : Nat → Nat → Nat → Nat → Nat → Nat → Nat → Nat → Nat → Nat → List Nat
  | 0, _, a, b, c, d, e, f, g, h => [a, b, c, d, e, f, g, h]
  | n + 1, t, a, b, c, d, e, f, g, h => seq (h + bg1 e + chs e f g + K.getD t 0 + W.getD t 0) fun x => seq ((x + (bg0 a + maj a b c)) % 4294967296) fun y => seq ((d + x) % 4294967296) fun z => runF K W n (t + 1) y a b c z e f g
theorem runF_eq (K W H : List Nat) : ∀ n t a b c d e f g h, run K W H t = [a, b, c, d, e, f, g, h] → runF K W n t a b c d e f g h = run K W H (t + n)
  | 0, t, a, b, c, d, e, f, g, h, hr => by rw [runF]; exact hr.symm
  | n + 1, t, a, b, c, d, e, f, g, h, hr => by
    rw [runF, seq_eq, seq_eq, seq_eq, runF_eq K W H n (t + 1) _ _ _ _ _ _ _ _ (by rw [run, hr]; rfl)]
    congr 1
    omega

end Go.Proofs.YtplljpodejpbgaaGreatDoor
