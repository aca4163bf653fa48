/-
  Laws on rows of any size of element: copy, clear, append where there is room, append of zero values.
-/
import Derived.Test.YtkjmilcocnjjoaaTBase
import Derived.Laws.CopyRow
import Derived.Deep.DeepAppendRoom
import Derived.Lib.AppendZerosOnto
import Derived.Lib.JoinLaws
import Derived.Lib.Overlaps
import Derived.Laws.Externs
import Derived.Shelf.Spec.SlicesInsert
namespace Go.Proofs.Ytkjmilcocnjjoaa
open Go.RowKit Tm
set_option linter.unusedVariables false

variable {P : Program}

theorem run_copy_rowN (w : World) (dT sT ty elem : TypeId) (sz g o dLen dCap : Nat) (a : Addr) (sLen sCap : Nat) (cur : Array Value) (t : TypeId) (cs : List Value)
    (hu : P.underlying dT = some (.slice elem)) (hs : (P.info? elem).map (·.size) = some sz)
    (hg : w.heap[g]? = some (.cells cur t (0, 0))) (hn : cs.length = Nat.min sLen dLen * sz)
    (hsrc : ∀ j v, cs[j]? = some v → w.cell? (a.add j) = some v) (hfit : o + cs.length ≤ cur.size) (h1 : ∀ v ∈ cs, v.oneCell' = true) :
    (Builtin.copy_ #[dT, sT] ty #[.slice (some ⟨g, o, none⟩) dLen dCap, .slice (some a) sLen sCap]).run P w =
      .ok (goInt (Nat.min sLen dLen : Nat)) (w.setRow g (cur.toList.take o ++ cs ++ cur.toList.drop (o + cs.length)).toArray) := by
  have hl := run_loadCells_list (P := P) w a cs hsrc
  have hst := run_storeCells_at P g o t cs 0 cur w hg (by simpa using hfit) h1
  cases hq : P.info? elem with
  | none => simp [hq] at hs
  | some i =>
    have hi : i.size = sz := by simpa [hq] using hs
    rw [hn] at hl
    simp only [Nat.add_zero] at hst
    simp [Builtin.copy_, run_underlying hu, Builtin.lenOf, Builtin.firstCells, sizeOf, typeInfo, hq, hi, hl, hst]

/-- 'copy' of m elements into a row, from place o on. -/
theorem run_copyR (w : World) (dT sT e : TypeId) (sz g n cap o m : Nat) (xs cs : List Value) (a : Addr) (sLen dLen : Nat)
    (hu : P.underlying dT = some (.slice e)) (hs : (P.info? e).map (·.size) = some sz) (hown : w.ownsRow 0 e sz (.slice (some ⟨g, 0, none⟩) n cap) n xs)
    (hm : Nat.min sLen dLen = m) (hcs : cs.length = m * sz) (hsrc : ∀ j v, cs[j]? = some v → w.cell? (a.add j) = some v) (h1 : ∀ v ∈ cs, v.oneCell' = true) (hfit : o + m ≤ n) :
    ∃ w', (∀ ty dCap sCap, (Builtin.copy_ #[dT, sT] ty #[.slice (some ⟨g, o * sz, none⟩) dLen dCap, .slice (some a) sLen sCap]).run P w = .ok (goInt (m : Nat)) w') ∧
      w'.ownsRow 0 e sz (.slice (some ⟨g, 0, none⟩) n cap) n (xs.take (o * sz) ++ cs ++ xs.drop ((o + m) * sz)) ∧ w.grownBy w' (some g) := by
  rcases hown.2 with ⟨h0, _⟩ | ⟨g', cap', cur, hv, hbg, hg, hnc, hcm, hcz, htake⟩
  · cases h0
  · cases hv
    have hxs := hown.1
    have hle : (o + m) * sz ≤ n * sz := Nat.mul_le_mul_right _ hfit
    have hle2 : n * sz ≤ cap * sz := Nat.mul_le_mul_right _ hnc
    have hos : (o + m) * sz = o * sz + m * sz := Nat.add_mul ..
    have hr := fun ty dCap sCap => run_copy_rowN (P := P) w dT sT ty e sz g (o * sz) dLen dCap a sLen sCap cur e cs hu hs hg (by rw [hm]; exact hcs) hsrc (by omega) h1
    rw [hm] at hr
    refine ⟨_, hr, ⟨?_, .inr ⟨g, cap, _, rfl, hbg, setRow_heap w g cur _ e _ hg, hnc, hcm, ?_, ?_⟩⟩, ⟨rfl, rfl, rfl, by simp, fun k _ hk => setRow_other w g k _ (fun e => hk (by simp [e]))⟩⟩
    · simp only [List.length_append, List.length_take, List.length_drop, hcs, hxs]; omega
    · simp only [List.size_toArray, List.length_append, List.length_take, List.length_drop, Array.length_toList, hcs, hcz]; omega
    · rw [← htake]
      apply List.ext_getElem?
      intro j
      simp only [List.getElem?_take, List.getElem?_append, List.getElem?_drop, List.length_append, List.length_take, Array.length_toList, hcz, hcs]
      have m1 : min (o * sz) (cap * sz) = o * sz := by omega
      have m2 : min (n * sz) (cap * sz) = n * sz := by omega
      have m3 : min (o * sz) (n * sz) = o * sz := by omega
      rw [m1, m2, m3]
      by_cases j1 : j < n * sz
      · by_cases j2 : j < o * sz
        · rw [if_pos j1, if_pos (by omega), if_pos j2, if_pos j2, if_pos (by omega), if_pos j2, if_pos j2, if_pos (by omega)]
        · by_cases j3 : j < o * sz + m * sz
          · rw [if_pos j1, if_pos j3, if_neg j2, if_pos j3, if_neg j2]
          · rw [if_pos j1, if_neg j3, if_neg j3, if_pos (by omega)]
            congr 1; omega
      · rw [if_neg j1]
        by_cases j3 : j < o * sz + m * sz
        · omega
        · rw [if_neg j3, if_neg (by omega)]

/-- One place of the spare room more. -/
theorem ownsRow_widen {w : World} {e sz g n cap : Nat} {xs : List Value} (h : w.ownsRow 0 e sz (.slice (some ⟨g, 0, none⟩) n cap) n xs) (hr : n + 1 ≤ cap) : ∃ sp : List Value, sp.length = sz ∧ w.ownsRow 0 e sz (.slice (some ⟨g, 0, none⟩) (n + 1) cap) (n + 1) (xs ++ sp) := by
  rcases h.2 with ⟨h0, _⟩ | ⟨g', cap', cur, hv, hbg, hg, hnc, hcm, hcz, htake⟩
  · cases h0
  · cases hv
    have hle : (n + 1) * sz ≤ cap * sz := Nat.mul_le_mul_right _ hr
    have hos : (n + 1) * sz = n * sz + sz := by rw [Nat.add_mul, Nat.one_mul]
    refine ⟨(cur.toList.drop (n * sz)).take sz, by simp [hcz]; omega, ⟨by simp [h.1, hcz]; omega, .inr ⟨g, cap, cur, rfl, hbg, hg, hr, hcm, hcz, ?_⟩⟩⟩
    rw [hos, ← htake, List.take_add]

/-- A row's beginning. -/
theorem ownsRow_cut {w : World} {e sz g n cap : Nat} {xs : List Value} (h : w.ownsRow 0 e sz (.slice (some ⟨g, 0, none⟩) n cap) n xs) (i : Nat) (hi : i ≤ n) : w.ownsRow 0 e sz (.slice (some ⟨g, 0, none⟩) i cap) i (xs.take (i * sz)) := by
  rcases h.2 with ⟨h0, _⟩ | ⟨g', cap', cur, hv, hbg, hg, hnc, hcm, hcz, htake⟩
  · cases h0
  · cases hv
    have hle : i * sz ≤ n * sz := Nat.mul_le_mul_right _ hi
    refine ⟨by rw [List.length_take, h.1]; omega, .inr ⟨g, cap, cur, rfl, hbg, hg, by omega, hcm, hcz, ?_⟩⟩
    rw [← htake, List.take_take, Nat.min_eq_left hle]

/-- 'clear' of the places from i to n of a row: what stands ahead stays. -/
theorem run_clearR (w : World) (t e ty : TypeId) (z : Value) (sz g n cap i : Nat) (xs : List Value) (ht : P.underlying t = some (.slice e)) (hv : ∀ w, (zeroValue e).run P w = .ok z w) (hz : z.cells.size = sz) (h1 : ∀ u ∈ z.cells, u.oneCell' = true)
    (hown : w.ownsRow 0 e sz (.slice (some ⟨g, 0, none⟩) i cap) i xs) (hi : i ≤ n) (hn : n ≤ cap) :
    ∃ w', (∀ c, (Builtin.clear_ #[t] ty #[.slice (some ⟨g, i * sz, none⟩) (n - i) c]).run P w = .ok (.tuple #[]) w') ∧ w'.ownsRow 0 e sz (.slice (some ⟨g, 0, none⟩) i cap) i xs ∧ w.grownBy w' (some g) := by
  rcases hown.2 with ⟨h0, _⟩ | ⟨g', cap', cur, hv', hbg, hg, hnc, hcm, hcz, htake⟩
  · cases h0
  · cases hv'
    by_cases hni : n - i = 0
    · refine ⟨w, ?_, hown, ⟨rfl, rfl, rfl, Nat.le_refl _, fun _ _ _ => rfl⟩⟩
      intro c
      rw [hni]
      simp [Builtin.clear_, run_underlying ht]
    · have hle : n * sz ≤ cap * sz := Nat.mul_le_mul_right _ hn
      have hle2 : i * sz + (n - i) * sz = n * sz := by rw [← Nat.add_mul]; congr 1; omega
      have hzl : (Builtin.zeroCells z.cells (n - i)).toList.length = (n - i) * sz := by rw [Array.length_toList, size_zeroCells, hz]
      have hst := run_storeCells_at P g (i * sz) e (Builtin.zeroCells z.cells (n - i)).toList 0 cur w hg (by rw [hzl]; omega) (by
        intro u hu
        simp only [Builtin.zeroCells, Array.toList_map, List.mem_map] at hu
        obtain ⟨j, hj, rfl⟩ := hu
        have hp : 0 < z.cells.size := by
          rcases Nat.eq_zero_or_pos z.cells.size with h0 | h0
          · simp [h0] at hj
          · exact h0
        have hlt := Nat.mod_lt j hp
        rw [getElem!_pos z.cells _ hlt]
        exact h1 _ (Array.getElem_mem hlt))
      simp only [Nat.add_zero] at hst
      have hr : ∀ c, (Builtin.clear_ #[t] ty #[.slice (some ⟨g, i * sz, none⟩) (n - i) c]).run P w = .ok (.tuple #[]) (w.setRow g (cur.toList.take (i * sz) ++ (Builtin.zeroCells z.cells (n - i)).toList ++ cur.toList.drop (i * sz + (Builtin.zeroCells z.cells (n - i)).toList.length)).toArray) := by
        intro c
        obtain ⟨m, hm⟩ : ∃ m, n - i = m + 1 := ⟨n - i - 1, by omega⟩
        rw [hm] at hst ⊢
        simp [Builtin.clear_, run_underlying ht, hv, hst]
      refine ⟨_, hr, ⟨hown.1, .inr ⟨g, cap, _, rfl, hbg, setRow_heap w g cur _ e _ hg, hnc, hcm, ?_, ?_⟩⟩, ⟨rfl, rfl, rfl, by simp, fun k _ hk => setRow_other w g k _ (fun e => hk (by simp [e]))⟩⟩
      · simp only [List.size_toArray, List.length_append, List.length_take, List.length_drop, Array.length_toList, hzl, hcz]; omega
      · rw [← htake]
        have : i * sz ≤ cur.toList.length := by rw [Array.length_toList, hcz]; omega
        simp only [List.append_assoc]
        rw [List.take_append_of_le_length (by simp; omega), List.take_take, Nat.min_self]

/-- 'append(s[:i], make(.., k)...)', no room: a new row. -/
theorem run_appZ (w : World) (t tn ty e : TypeId) (i0 : TypeInfo) (z : Value) (sz by8 : Nat) (kq kn : IntKind) (ht : P.underlying t = some (.slice e)) (htn : P.underlying tn = some (.int kn)) (hi : P.info? e = some i0) (hz : i0.zero = some z) (hsz : i0.size = sz) (hby : i0.bytes = by8) (hzs : z.cells.size = sz) (hpos : 0 < sz)
    (g i cap k : Nat) (xs : List Value) (hown : w.ownsRow 0 e sz (.slice (some ⟨g, 0, none⟩) i cap) i xs) (hk : 0 < k) (hroom : cap < i + k) (hbig : (i + k) * by8 ≤ 140737488355328) (h63 : i + k ≤ 140737488355328) :
    ∃ g' cap' w' zs, (Builtin.append_ #[t, tn] ty #[.slice (some ⟨g, 0, none⟩) i cap, .int kq k]).run P w = .ok (.slice (some ⟨g', 0, none⟩) (i + k) cap') w' ∧ zs.length = k * sz ∧
      w'.ownsRow 0 e sz (.slice (some ⟨g', 0, none⟩) (i + k) cap') (i + k) (xs ++ zs) ∧ w.grownBy w' none ∧ g' = w.heap.size := by
  have hold : (Builtin.firstCells i0.size i (.slice (some ⟨g, 0, none⟩) i cap)).run P w.drew = .ok xs.toArray w.drew := by
    rw [hsz]
    refine run_firstCells_some w.drew sz i ⟨g, 0, none⟩ i cap xs hown.1 (fun j v hj => ?_)
    exact hown.cells (g := g) rfl j v hj
  have hkb : k * by8 ≤ (i + k) * by8 := Nat.mul_le_mul_right _ (by omega)
  have hr := Lib.run_append_grow_zeros (P := P) w t tn ty e i0 z kq kn ht htn hi hz (some ⟨g, 0, none⟩) i cap xs hold k hk (by omega) hroom (by omega) (by rw [hby]; omega) (by rw [hby]; exact growslice_fits hroom hbig)
  refine ⟨w.heap.size, grownCap w (i + k) cap e, _, (Builtin.zeroCells z.cells k).toList, hr, by rw [Array.length_toList, size_zeroCells, hzs], ⟨?_, .inr ⟨w.heap.size, _, _, rfl, Nat.zero_le _, heap_alloc_new w.drew _, grownCap_ge .., grownCap_le_maxLen _ _ _ _ (by simp only [maxLen]; omega), ?_, ?_⟩⟩, ⟨rfl, rfl, rfl, by simp, fun j hj _ => Below.heap_alloc w.drew _ j hj⟩, rfl⟩
  · rw [List.length_append, hown.1, Array.length_toList, size_zeroCells, hzs, Nat.add_mul]
  · have := grownCap_ge w (i + k) cap e
    simp only [Array.size_append, List.size_toArray, size_zeroCells, hzs, hown.1]
    rw [← Nat.add_mul, ← Nat.add_mul]; congr 1; omega
  · have hl : (xs ++ (Builtin.zeroCells z.cells k).toList).length = (i + k) * sz := by rw [List.length_append, hown.1, Array.length_toList, size_zeroCells, hzs, Nat.add_mul]
    simp only [Array.toList_append]
    rw [← hl, List.take_left']
    rfl

end Go.Proofs.Ytkjmilcocnjjoaa
