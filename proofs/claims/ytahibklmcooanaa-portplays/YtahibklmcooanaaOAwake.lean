/-
  The law's subject; what must come, whatever the arguments are.
-/
import Derived.Test.YtahibklmcooanaaONewB
import Derived.Laws.StructEq
namespace Go.Proofs.Ytahibklmcooanaa
open Go.RowKit
set_option linter.unusedVariables false
set_option linter.unusedSimpArgs false

theorem Try.fieldsM : (Try.prog.fieldsOf 55).toList.map (fun f => (f.name, f.type, f.offset)) = [("From", 3, 0), ("Text", 9, 1)] := by kernel_rfl
theorem Try.underM : Try.prog.underlying 55 = some (.struct (Try.prog.fieldsOf 55)) := by kernel_rfl
theorem Try.stoodM : Try.prog.stoodInHeld 55 = false := by kernel_rfl
theorem Try.guardM : Try.prog.eqGuardType Try.prog.depth 55 = false := by kernel_rfl
theorem eqlM (a : Int) (b : ByteArray) (c : Int) (d : ByteArray) (w : World) : (binOp .eql 55 (.agg #[.int .i64 a, .string b]) (.agg #[.int .i64 c, .string d])).run Try.prog w = .ok (.bool (a == c && b.toList == d.toList)) w := by
  rw [run_eql_struct, run_equalIn_agg w 9999 55 _ _ Try.underM Try.stoodM]
  have h := Try.fieldsM
  match hfs : (Try.prog.fieldsOf 55).toList with
  | [] => rw [hfs] at h; simp at h
  | [_] => rw [hfs] at h; simp at h
  | f1 :: f2 :: f3 :: r => rw [hfs] at h; simp at h
  | [f1, f2] =>
    rw [hfs] at h
    simp at h
    obtain ⟨⟨n1, t1, o1⟩, n2, t2, o2⟩ := h
    simp [Op.eqFields, n1, t1, o1, n2, t2, o2, go_sem]
    by_cases h1 : a = c
    · by_cases h2 : b.toList = d.toList
      · simp [h1, h2]
      · simp [h1, h2]
    · simp [h1]
theorem neqM (a : Int) (b : ByteArray) (c : Int) (d : ByteArray) (w : World) : (binOp .neq 55 (.agg #[.int .i64 a, .string b]) (.agg #[.int .i64 c, .string d])).run Try.prog w = .ok (.bool (!(a == c && b.toList == d.toList))) w := by
  have h := eqlM a b c d w
  rw [run_eql_struct] at h
  rw [run_neq_struct]
  cases hx : (Op.equalIn 10000 55 (.agg #[.int .i64 a, .string b]) (.agg #[.int .i64 c, .string d])).run Try.prog w with
  | ok v w2 =>
    rw [hx] at h
    simp only [Result.andThen_ok] at h ⊢
    simp at h
    obtain ⟨rfl, rfl⟩ := h
    simp
  | halt x w2 => rw [hx] at h; simp [Result.andThen] at h
theorem guardM (o : BinOp) (x y : Operand) (xs ys : Array Value) (w : World) : (eqGuard o 55 x y (.agg xs) (.agg ys)).run Try.prog w = .ok () w := run_eqGuard_agg w o 55 x y xs ys Try.guardM
theorem eqlP_some_nil (a : Addr) (w : World) : (binOp .eql 23 (.pointer (some a)) (.pointer none)).run Try.prog w = .ok (.bool false) w := by
  have h : ∀ d : Nat, (Op.equalIn (d + 1) 23 (.pointer (some a)) (.pointer none)).run Try.prog w = .ok false w := fun d => by
    simp [Op.equalIn, run_underlying Try.underlying23]
  simp only [binOp]
  simp [Op.equal, Op.maxDepth, h 9999]

set_option maxHeartbeats 1000000 in
theorem subject_any (who : Nat) (h1 : who ≤ 1000) (w : World) :
    Calls Try.prog 19 #[.int .i64 who] w fun e w' => ∃ vs vo, e = .returned (suV who vs (.slice none 0 0) vo) ∧ SuAt w' vs (.slice none 0 0) vo [2 * (who : Int) + 1] [] [2 * (who : Int) + 1] ∧ Below w.heap.size w w' := by
  have e1 : IntKind.i64.wrap (2 * (who : Int)) = 2 * who := by rw [IntKind.wrap_i64]; omega
  have e2 : IntKind.i64.wrap (2 * (who : Int) + 1) = 2 * who + 1 := by rw [IntKind.wrap_i64]; omega
  unfold suV
  go_enter Try.func19, Try.ntmps19
  go_wp2
  refine bodyPost_ret (v := .agg #[.int .i64 who, .slice (some ⟨w.heap.size + 1, 0, none⟩) 1 1, .slice none 0 0, .slice (some ⟨w.heap.size + 1 + 1, 0, none⟩) 1 1]) (by simp [results, Try.results19, go_sem]) rfl ?_
  obtain ⟨W1, hW1⟩ : ∃ W1, W1 = w.alloc (.cells #[.int .i64 who, .slice (some ⟨w.heap.size + 1, 0, none⟩) 1 1, .slice none 0 0, .slice (some ⟨w.heap.size + 1 + 1, 0, none⟩) 1 1] 39) := ⟨_, rfl⟩
  have s1 : W1.heap.size = w.heap.size + 1 := by rw [hW1]; simp
  obtain ⟨W2, hW2⟩ : ∃ W2, W2 = W1.alloc (.cells #[.int .i64 (2 * (who : Int) + 1)] 3) := ⟨_, rfl⟩
  have s2 : W2.heap.size = w.heap.size + 1 + 1 := by rw [hW2]; simp [s1]
  rw [← hW1, ← hW2]
  have one : ∀ (V : World) (x : Int), Sees (V.alloc (.cells #[.int .i64 x] 3)) (.slice (some ⟨V.heap.size, 0, none⟩) 1 1) [x] := fun V x => by
    refine ⟨V.heap.size, 0, _, 1, rfl, Nat.le_refl _, (fun h => by cases h), fun _ => rfl, fun j hj => ?_⟩
    have : j = 0 := by simp at hj; omega
    subst this
    simp
  have o1 : Sees W2 (.slice (some ⟨w.heap.size + 1, 0, none⟩) 1 1) [2 * (who : Int) + 1] := by
    have := one W1 (2 * (who : Int) + 1)
    rw [s1] at this
    rw [hW2]
    exact this
  have o2 : Sees (W2.alloc (.cells #[.int .i64 (2 * (who : Int) + 1)] 3)) (.slice (some ⟨w.heap.size + 1 + 1, 0, none⟩) 1 1) [2 * (who : Int) + 1] := by
    have := one W2 (2 * (who : Int) + 1)
    rw [s2] at this
    exact this
  have b1 : Below w.heap.size w W1 := by rw [hW1]; exact below_alloc w _
  have b2 : Below w.heap.size w W2 := by rw [hW2]; exact b1.alloc b1.size _
  have b3 := b2.alloc b2.size (.cells #[.int .i64 (2 * (who : Int) + 1)] 3)
  exact ⟨_, _, rfl, ⟨o1.below (below_alloc W2 _), sees_nil _, o2, by simp, by simp, by simp⟩, b3⟩

theorem withinB_iff {xs ys : List Int} : withinB xs ys = true ↔ ∀ x, x ∈ xs → x ∈ ys := by
  unfold withinB
  rw [decide_eq_true_eq, lessL_nil]
theorem lack_other (i to : Nat) (h : i ≠ to) : lackS [2 * (i : Int) + 1] to = [2 * (i : Int) + 1] := by
  unfold lackS lessL
  rw [sd_self (by simp)]
  have : ¬ (2 * (i : Int) + 1 = 2 * (to : Int) + 1) := by omega
  simp [this]
theorem lack_self (i : Nat) : lackS [2 * (i : Int) + 1] i = [] := by
  unfold lackS lessL
  rw [sd_self (by simp)]
  simp
theorem comes_open (i to : Nat) : comes [2 * (i : Int) + 1] [2 * (i : Int) + 1] to true = true := by
  unfold comes
  rw [withinB_iff]
  intro x hx
  simp only [if_true]
  unfold lackS at hx
  rw [mem_lessL] at hx
  exact hx.1
theorem comes_shut (i to : Nat) (h : i ≠ to) : comes [2 * (i : Int) + 1] [2 * (i : Int) + 1] to false = false := by
  unfold comes
  rw [lack_other i to h]
  cases hh : withinB [2 * (i : Int) + 1] (if false = true then [2 * (i : Int) + 1] else [])
  · rfl
  · rw [withinB_iff] at hh
    have := hh (2 * (i : Int) + 1) (by simp)
    simp at this
theorem err_subject (n i to k : Nat) (hi : i < n) (ht : to < n) (hn : n ≤ 16) : errS n i to [2 * (i : Int) + 1] [] [2 * (i : Int) + 1] k = if k ≤ 1024 then 0 else 4 := by
  unfold errS
  have hc : catsP [2 * (i : Int) + 1] := ⟨by simp, fun x hx => by simp at hx; omega⟩
  have h1 : catsB [2 * (i : Int) + 1] = true := by simpa [catsB] using hc
  have h2 : mayB [2 * (i : Int) + 1] [] = true := may_box i (by omega)
  rw [usr_nat, usr_nat, h1, h2]
  simp [hi, ht]
/-- A subject's message. -/
theorem send_subject (p bx : Nat) (room : Int) (ql : List (Nat × Nat)) (v : Nat → Rg) (m : Nat → List Msg) (i to : Nat) (hi : i < ql.length) (ht : to < ql.length) (vs vo : Value) (x : ByteArray) (op : Bool) (w : World) (hP : PoAt w p bx room ql v m) (hS : SuAt w vs (.slice none 0 0) vo [2 * (i : Int) + 1] [] [2 * (i : Int) + 1]) (hx : x.size ≤ 1024) :
    Calls Try.prog 15 #[.pointer (some ⟨p, 0, none⟩), suV i vs (.slice none 0 0) vo, .int .i64 to, .string x, .bool op] w fun e w' => ∃ u, e = .returned (.tuple #[u, .int .i64 0]) ∧ Owns w' w.heap.size u (if comes [2 * (i : Int) + 1] [2 * (i : Int) + 1] to op then lackS [2 * (i : Int) + 1] to else []) ∧ PoTurn w w' p bx room ql v (if comes [2 * (i : Int) + 1] [2 * (i : Int) + 1] to op then (fun j => if j = to then pushed room (m to) ((i : Int), x) else m j) else m) :=
  send_ok p bx room ql v m i to vs (.slice none 0 0) vo _ _ _ x op w hP hS (by rw [err_subject ql.length i to x.size hi ht hP.n2, if_pos hx])

/-- Mailboxes that a call has made, later on. -/
def PoIn (w0 w : World) (p : Nat) (room : Int) (n : Nat) (m : Nat → List Msg) : Prop :=
  ∃ bx ql v, ql.length = n ∧ PoAt w p bx room ql v m ∧ Below w0.heap.size w0 w ∧ ∀ k, its p bx ql v k → w0.heap.size ≤ k
theorem PoIn.bel {w0 w : World} {p : Nat} {room : Int} {n : Nat} {m : Nat → List Msg} (h : PoIn w0 w p room n m) : Below w0.heap.size w0 w := by
  obtain ⟨bx, ql, v, h1, h2, h3, h4⟩ := h
  exact h3
theorem PoIn.below {w0 w w' : World} {p : Nat} {room : Int} {n : Nat} {m : Nat → List Msg} (h : PoIn w0 w p room n m) (hb : Below w.heap.size w w') : PoIn w0 w' p room n m := by
  obtain ⟨bx, ql, v, h1, h2, h3, h4⟩ := h
  exact ⟨bx, ql, v, h1, h2.below hb, h3.trans (hb.mono h3.size), h4⟩
theorem PoIn.turn {w0 w w' : World} {p bx : Nat} {room : Int} {ql : List (Nat × Nat)} {v : Nat → Rg} {m' : Nat → List Msg} (h3 : Below w0.heap.size w0 w) (h4 : ∀ k, its p bx ql v k → w0.heap.size ≤ k) (ht : PoTurn w w' p bx room ql v m') : PoIn w0 w' p room ql.length m' := by
  obtain ⟨v', t1, t2, t3⟩ := ht
  have hB : Below w0.heap.size w0 w' := h3.trans (t2.below (fun b hb => h4 b (Or.inr (Or.inr (Or.inr hb)))) h3.size)
  refine ⟨bx, ql, v', rfl, t1, hB, fun k hk => ?_⟩
  rcases hk with h | h | h | h
  · exact h4 k (Or.inl h)
  · exact h4 k (Or.inr (Or.inl h))
  · exact h4 k (Or.inr (Or.inr (Or.inl h)))
  · rcases t3 k h with h | h
    · exact h4 k (Or.inr (Or.inr (Or.inr h)))
    · exact Nat.le_trans h3.size h
/-- What a list that a call made beside lasts. -/
theorem PoIn.cong {w0 w : World} {p : Nat} {room : Int} {n : Nat} {m m' : Nat → List Msg} (h : PoIn w0 w p room n m) (he : m = m') : PoIn w0 w p room n m' := he ▸ h

theorem PoAt.ext {w : World} {p bx : Nat} {room : Int} {ql : List (Nat × Nat)} {v : Nat → Rg} {m m' : Nat → List Msg} (h : PoAt w p bx room ql v m) (he : ∀ i, i < ql.length → m i = m' i) : PoAt w p bx room ql v m' :=
  ⟨h.lies, h.row, h.lab, fun i hi => by rw [← he i hi]; exact h.box i hi, h.dr, h.aq, h.ar, h.n1, h.n2, h.r2⟩
end Go.Proofs.Ytahibklmcooanaa
