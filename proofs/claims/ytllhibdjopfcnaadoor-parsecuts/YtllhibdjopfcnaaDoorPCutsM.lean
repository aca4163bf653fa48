/-
  ParseCuts: what stands between the requests that came out and the bytes that are to come.
-/
import Derived.Test.YtllhibdjopfcnaaDoorPReqs
import Derived.Test.YtllhibdjopfcnaaDoorHParse
namespace Go.Proofs.YtllhibdjopfcnaaDoor
set_option linter.unusedVariables false

theorem tgt_few (L : List UInt8) : (tgt L).query.length ≤ 32 := by
  unfold tgt
  split
  · simp
  · split
    · simp
    · split
      · simp
      · split
        · simp
        · split
          · simp
          · rename_i h
            show (formL (cutC 63 L).2.1).length ≤ 32
            omega
theorem parse_few (s : List UInt8) : (parseL s).1.2.2.2.length ≤ 32 := by
  unfold parseL
  split
  · simp [hz]
  · split
    · simp [hz]
    · split
      · exact lines_few _ _ _ _ (fun h e => by cases e)
      · simp [hz]
theorem first_few {V : List UInt8} {q : ReqL} {n : Nat} (h : firstL V = (.ok (q, n))) : q.head.2.2.2.length ≤ 32 ∧ q.query.length ≤ 32 := by
  unfold firstL at h
  split at h
  · split at h
    · cases h
    · cases h
  · rename_i at' _
    split at h
    · cases h
    · split at h
      · cases h
      · cases h
      · rename_i b m _
        obtain ⟨h1, _⟩ := got_inj h
        subst h1
        exact ⟨parse_few _, tgt_few _⟩

/-- So many bytes of L were fed; W waits; es came out; the status. -/
def CutInv (L : List UInt8) (k : Nat) (W : List UInt8) (es : List RqE) (st : Int) : Prop :=
  (∀ e ∈ es, e.q.head.2.2.2.length ≤ 32 ∧ e.q.query.length ≤ 32) ∧
  ((st = 0 ∧ W.length ≤ k ∧ allL L = (es.map RqE.q ++ (allL (W ++ L.drop k)).1, (allL (W ++ L.drop k)).2)) ∨ (st ≠ 0 ∧ W = [] ∧ allL L = (es.map RqE.q, st)))
theorem CutInv.start (L : List UInt8) : CutInv L 0 [] [] 0 := ⟨(fun e he => by cases he), Or.inl ⟨rfl, Nat.le_refl _, by simp⟩⟩
theorem CutInv.feed {L : List UInt8} {k n : Nat} {W : List UInt8} {es : List RqE} (h : CutInv L k W es 0) (hn : k + n ≤ L.length) : CutInv L (k + n) (W ++ (L.drop k).take n) es 0 := by
  obtain ⟨hf, h⟩ := h
  refine ⟨hf, ?_⟩
  rcases h with ⟨_, h1, h2⟩ | ⟨h0, _⟩
  · refine Or.inl ⟨rfl, ?_, ?_⟩
    · rw [List.length_append, List.length_take, List.length_drop]
      omega
    · have e : (W ++ (L.drop k).take n) ++ L.drop (k + n) = W ++ L.drop k := by
        rw [List.append_assoc, ← List.drop_drop, List.take_append_drop]
      rw [e]
      exact h2
  · exact absurd rfl h0
theorem CutInv.got {L : List UInt8} {k n : Nat} {W : List UInt8} {es : List RqE} {e : RqE} (h : CutInv L k W es 0) (hk : k ≤ 65536) (hf : firstL W = (.ok (e.q, n))) : CutInv L k (W.drop n) (es ++ [e]) 0 := by
  obtain ⟨hfew, h⟩ := h
  refine ⟨fun x hx => ?_, ?_⟩
  · rcases List.mem_append.1 hx with hx | hx
    · exact hfew x hx
    · simp at hx
      subst hx
      exact first_few hf
  · rcases h with ⟨_, h1, h2⟩ | ⟨h0, _⟩
    · refine Or.inl ⟨rfl, by rw [List.length_drop]; omega, ?_⟩
      rw [h2, allL_got (L.drop k) (by omega) hf]
      simp
    · exact absurd rfl h0
theorem CutInv.bad {L : List UInt8} {k : Nat} {t : Int} {W : List UInt8} {es : List RqE} (h : CutInv L k W es 0) (hk : k ≤ 65536) (hf : firstL W = (.error (some t))) : CutInv L k [] es t := by
  obtain ⟨hfew, h⟩ := h
  refine ⟨hfew, ?_⟩
  rcases h with ⟨_, h1, h2⟩ | ⟨h0, _⟩
  · refine Or.inr ⟨stat4_ne (first_stat hf), rfl, ?_⟩
    rw [h2, allL_bad (L.drop k) (by omega) hf]
    simp
  · exact absurd rfl h0
theorem CutInv.fin {L : List UInt8} {k : Nat} {W : List UInt8} {es : List RqE} {st : Int} (h : CutInv L k W es st) (hk : k ≤ 65536) (hf : st = 0 → firstL W = (.error none) ∧ k = L.length) : allL L = (es.map RqE.q, st) := by
  rcases h.2 with ⟨h0, h1, h2⟩ | ⟨_, _, h2⟩
  · obtain ⟨f1, f2⟩ := hf h0
    rw [h2, f2, List.drop_length, List.append_nil, allL_end (by omega) f1, h0]
    simp
  · exact h2
theorem first_nil : firstL [] = (.error none) := by rfl

end Go.Proofs.YtllhibdjopfcnaaDoor
