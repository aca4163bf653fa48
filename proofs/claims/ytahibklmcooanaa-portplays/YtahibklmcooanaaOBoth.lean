/-
  Mailboxes and the document's, whatever is asked: Send and Take of both tell and leave the same.
-/
import Derived.Test.YtahibklmcooanaaORSendE
import Derived.Test.YtahibklmcooanaaOCopy
namespace Go.Proofs.Ytahibklmcooanaa
open Go.RowKit
set_option linter.unusedVariables false
set_option linter.unusedSimpArgs false

theorem errS_one {n : Nat} {who to : Int} {s i own : List Int} {k : Nat} (h : usr n who = false ∨ usr n to = false) : errS n who to s i own k = 1 := by
  unfold errS
  rcases h with h | h <;> simp [h]
/-- Send, whatever is asked. -/
theorem send_any (p bx : Nat) (room : Int) (ql : List (Nat × Nat)) (v : Nat → Rg) (m : Nat → List Msg) (who to : Int) (vs vi vo : Value) (s i own : List Int) (x : ByteArray) (op : Bool) (w : World) (hP : PoAt w p bx room ql v m) (hS : SuAt w vs vi vo s i own) :
    Calls Try.prog 15 #[.pointer (some ⟨p, 0, none⟩), suV who vs vi vo, .int .i64 to, .string x, .bool op] w fun e w' => ∃ u, e = .returned (.tuple #[u, .int .i64 (errS ql.length who to s i own x.size)]) ∧ Owns w' w.heap.size u (sendU ql.length who to s i own op x.size) ∧ PoTurn w w' p bx room ql v (sendM room m ql.length who to s i own op x) := by
  unfold sendU sendM sendOk
  by_cases he : errS ql.length who to s i own x.size = 0
  · obtain ⟨_, hu2, _⟩ := errS_zero he
    obtain ⟨tn, htn, rfl⟩ := usr_iff.1 hu2
    refine (send_ok p bx room ql v m who tn vs vi vo s i own x op w hP hS he).mono ?_
    rintro e w' ⟨u, rfl, hO, hT⟩
    rw [he]
    simp only [decide_true, Bool.true_and, Int.toNat_natCast]
    exact ⟨u, rfl, hO, hT⟩
  · refine (send_bad p bx room ql v m who to vs vi vo s i own x op w hP hS he).mono ?_
    rintro e w' ⟨rfl, hB⟩
    simp only [he, decide_false, Bool.false_and, Bool.false_eq_true, if_false]
    exact ⟨_, rfl, World.ownsRow_nil _ _ _ _, PoTurn.of hP hB⟩
/-- The document's Send, whatever is asked. -/
theorem rsend_any (room : Int) (vL : Value) (n : Nat) (hn16 : n ≤ 16) (who to : Int) (vs vi vo : Value) (s i own : List Int) (x : ByteArray) (op : Bool) (F : Nat → Prop) (d : Nat → List Msg) (w : World) (hD : LSees F w vL n d) (hSu : SuAt w vs vi vo s i own) (hF : ∀ k, w.heap.size ≤ k → ¬ F k) (hroom64 : room ≤ 64) (hdl : ∀ j, j < n → ((d j).length : Int) ≤ room) :
    Calls Try.prog 24 #[poV room vL, suV who vs vi vo, .int .i64 to, .string x, .bool op] w fun e w' => ∃ v' u, e = .returned (.tuple #[poV room v', u, .int .i64 (errS n who to s i own x.size)]) ∧ LSees F w' v' n (sendM room d n who to s i own op x) ∧ Owns w' w.heap.size u (sendU n who to s i own op x.size) ∧ Below w.heap.size w w' := by
  have bad : ∀ E, errS n who to s i own x.size = E → E ≠ 0 → Calls Try.prog 24 #[poV room vL, suV who vs vi vo, .int .i64 to, .string x, .bool op] w (fun e w' => e = .returned (.tuple #[poV room vL, .slice none 0 0, .int .i64 E]) ∧ Below w.heap.size w w') → Calls Try.prog 24 #[poV room vL, suV who vs vi vo, .int .i64 to, .string x, .bool op] w fun e w' => ∃ v' u, e = .returned (.tuple #[poV room v', u, .int .i64 (errS n who to s i own x.size)]) ∧ LSees F w' v' n (sendM room d n who to s i own op x) ∧ Owns w' w.heap.size u (sendU n who to s i own op x.size) ∧ Below w.heap.size w w' := by
    intro E hE hne h
    refine h.mono ?_
    rintro e w' ⟨rfl, hB⟩
    unfold sendU sendM sendOk
    rw [hE]
    simp only [hne, decide_false, Bool.false_and, Bool.false_eq_true, if_false]
    exact ⟨_, _, rfl, hD.below hB, World.ownsRow_nil _ _ _ _, hB⟩
  cases h1 : usr n who
  · exact bad 1 (errS_one (Or.inl h1)) (by decide) (rsend_args room vL n who to vs vi vo x op F d w hD (Or.inl h1))
  cases h2 : usr n to
  · exact bad 1 (errS_one (Or.inr h2)) (by decide) (rsend_args room vL n who to vs vi vo x op F d w hD (Or.inr h2))
  cases h3 : catsB own
  · exact bad 1 (by unfold errS; simp [h1, h2, h3]) (by decide) (rsend_cats room vL n who to vs vi vo s i own x op F d w hD hSu h1 h2 h3)
  cases h4 : mayB s i
  · exact bad 20 (by unfold errS; simp [h1, h2, h3, h4]) (by decide) (rsend_may room vL n who to vs vi vo s i own x op F d w hD hSu h1 h2 h3 h4)
  by_cases h5 : x.size ≤ 1024
  · have he : errS n who to s i own x.size = 0 := by unfold errS; simp [h1, h2, h3, h4, h5]
    obtain ⟨tn, htn, rfl⟩ := usr_iff.1 h2
    unfold sendU sendM sendOk
    rw [he]
    simp only [decide_true, Bool.true_and, Int.toNat_natCast]
    cases hc : comes s own tn op
    · refine (rsend_no room vL n who tn vs vi vo s i own x op F d w hD hSu h1 htn hn16 h3 h4 h5 hc).mono ?_
      rintro e w' ⟨rfl, hB⟩
      simp only [Bool.false_eq_true, if_false]
      exact ⟨_, _, rfl, hD.below hB, World.ownsRow_nil _ _ _ _, hB⟩
    · refine (rsend_yes room vL n who tn vs vi vo s i own x op F d w hD hSu h1 htn hn16 h3 h4 h5 hc hF hroom64 (hdl tn htn)).mono ?_
      rintro e w' ⟨v', u, rfl, hL, hO, hB⟩
      simp only [if_true]
      exact ⟨v', u, rfl, hL, hO, hB⟩
  · exact bad 4 (by unfold errS; simp [h1, h2, h3, h4, h5]) (by decide) (rsend_long room vL n who to vs vi vo s i own x op F d w hD hSu h1 h2 h3 h4 h5)

/-- What Take tells, and what waits behind it. -/
def takeOk (n : Nat) (who : Int) (d : Nat → List Msg) : Bool := usr n who && !(d who.toNat).isEmpty
def takeX (n : Nat) (who : Int) (d : Nat → List Msg) : Msg := if takeOk n who d then (d who.toNat).headD Mq.z0 else Mq.z0
def takeD (n : Nat) (who : Int) (d : Nat → List Msg) : Nat → List Msg := if takeOk n who d then (fun j => if j = who.toNat then (d who.toNat).tail else d j) else d
theorem take_any (p bx : Nat) (room : Int) (ql : List (Nat × Nat)) (v : Nat → Rg) (m : Nat → List Msg) (who : Int) (w : World) (hP : PoAt w p bx room ql v m) :
    Calls Try.prog 20 #[.pointer (some ⟨p, 0, none⟩), .int .i64 who] w fun e w' => e = .returned (.tuple #[Mq.mV (takeX ql.length who m), .bool (takeOk ql.length who m)]) ∧ PoTurn w w' p bx room ql v (takeD ql.length who m) := by
  unfold takeX takeD takeOk
  cases hu : usr ql.length who
  · simp only [Bool.false_and, Bool.false_eq_true, if_false]
    refine (take_no _ who w (fun w' hw' => ?_)).mono ?_
    · obtain ⟨c0, c1⟩ := (hP.below hw').cells
      have := isUser_yes p ql.length _ _ who w' c0 c1
      rw [hu] at this
      exact this
    · rintro e w' ⟨rfl, hB⟩
      exact ⟨rfl, PoTurn.of hP hB⟩
  · obtain ⟨tn, htn, rfl⟩ := usr_iff.1 hu
    simp only [Bool.true_and, Int.toNat_natCast]
    cases hm : m tn with
    | nil =>
      simp only [List.isEmpty_nil, Bool.not_true, Bool.false_eq_true, if_false]
      exact take_none p bx room ql v m tn htn w hP hm
    | cons x xs =>
      simp only [List.isEmpty_cons, Bool.not_false, if_true, List.headD_cons, List.tail_cons]
      exact take_some p bx room ql v m tn htn w hP x xs hm
theorem rtake_any (room : Int) (vL : Value) (n : Nat) (hn : n ≤ 16) (who : Int) (F : Nat → Prop) (d : Nat → List Msg) (w : World) (hD : LSees F w vL n d) (hF : ∀ k, w.heap.size ≤ k → ¬ F k) :
    Calls Try.prog 25 #[poV room vL, .int .i64 who] w fun e w' => ∃ v', e = .returned (.tuple #[poV room v', Mq.mV (takeX n who d), .bool (takeOk n who d)]) ∧ LSees F w' v' n (takeD n who d) ∧ Below w.heap.size w w' := by
  unfold takeX takeD takeOk
  cases hu : usr n who
  · simp only [Bool.false_and, Bool.false_eq_true, if_false]
    refine (rtake_none room vL n who F d w hD ?_).mono ?_
    · unfold usr at hu
      simp at hu
      omega
    · rintro e w' ⟨rfl, hB⟩
      exact ⟨_, rfl, hD.below hB, hB⟩
  · obtain ⟨tn, htn, rfl⟩ := usr_iff.1 hu
    simp only [Bool.true_and, Int.toNat_natCast]
    cases hm : d tn with
    | nil =>
      simp only [List.isEmpty_nil, Bool.not_true, Bool.false_eq_true, if_false]
      refine (rtake_none room vL n tn F d w hD (Or.inr (Or.inr ⟨tn, htn, rfl, hm⟩))).mono ?_
      rintro e w' ⟨rfl, hB⟩
      exact ⟨_, rfl, hD.below hB, hB⟩
    | cons x xs =>
      simp only [List.isEmpty_cons, Bool.not_false, if_true, List.headD_cons, List.tail_cons]
      exact rtake_some room vL n tn htn hn F d x xs hm w hD hF
end Go.Proofs.Ytahibklmcooanaa
