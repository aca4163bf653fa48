/-
  ParseAll, where what it reads is of bulk at most 1048576: for every such text the law ParseAll returns true: all requests of any bytes, and the status by which they break, are the document's. The listed tables are tied to the program.
-/
import Derived.Test.YtllhibdjopfcnaaGreatDoorZDAll
import Derived.Test.YtllhibdjopfcnaaGreatDoorZPSame
import Derived.Test.YtllhibdjopfcnaaGreatDoorZFrame
namespace Go.Proofs.YtllhibdjopfcnaaGreatDoor
open Go.RowKit
set_option linter.unusedVariables false

theorem tgt_few (L : List UInt8) : (tgt L).query.length ≤ 32 := by
  unfold tgt
  split
  · simp
  · split
    · simp
    · split
      · simp
      · split
        · simp
        · split
          · simp
          · rename_i h
            show (formL (cutC 63 L).2.1).length ≤ 32
            omega
theorem parse_few (s : List UInt8) : (parseL s).1.2.2.2.length ≤ 32 := by
  unfold parseL
  split
  · simp [hz]
  · split
    · simp [hz]
    · split
      · exact lines_few _ _ _ _ (fun h e => by cases e)
      · simp [hz]
theorem first_few {V : List UInt8} {q : ReqL} {n : Nat} (h : firstL V = (.ok (q, n))) : q.head.2.2.2.length ≤ 32 ∧ q.query.length ≤ 32 := by
  unfold firstL at h
  split at h
  · split at h
    · cases h
    · cases h
  · rename_i at' _
    split at h
    · cases h
    · split at h
      · cases h
      · cases h
      · rename_i b m _
        obtain ⟨h1, _⟩ := got_inj h
        subst h1
        exact ⟨parse_few _, tgt_few _⟩

/-- How many requests bytes tell, and how great they are. -/
theorem all_few : ∀ (n : Nat) (s : List UInt8), s.length ≤ n → (allL s).1.length ≤ s.length ∧ ∀ q ∈ (allL s).1, q.head.2.2.2.length ≤ 32 ∧ q.query.length ≤ 32 := by
  intro n
  induction n with
  | zero =>
    intro s hs
    have : s = [] := List.eq_nil_of_length_eq_zero (by omega)
    subst this
    rw [allL_end (by simp) (show firstL [] = .error none from rfl)]
    exact ⟨by simp, fun q hq => by cases hq⟩
  | succ n ih =>
    intro s hs
    rw [allL_step]
    match hT : firstL (s.take 65536) with
    | .error (some t) => exact ⟨by simp, fun q hq => by cases hq⟩
    | .error none => exact ⟨by simp, fun q hq => by cases hq⟩
    | .ok (q, m) =>
      have hm := firstL_got hT
      rw [List.length_take] at hm
      obtain ⟨h1, h2⟩ := ih (s.drop m) (by rw [List.length_drop]; omega)
      rw [List.length_drop] at h1
      refine ⟨by simp only [List.length_cons]; omega, fun r hr => ?_⟩
      rcases List.mem_cons.1 hr with rfl | hr
      · exact first_few hT
      · exact h2 r hr

set_option maxRecDepth 20000 in
set_option maxHeartbeats 4000000 in
theorem all_walk (s0 : ByteArray) (w : World) (hM : ML w) (hs : s0.size ≤ 1048576) :
    Calls Tryz.prog 4 #[.string s0] w fun e w' => e = .returned (.bool true) ∧ Below w.heap.size w w' := by
  obtain ⟨L, rfl⟩ : ∃ L : List UInt8, s0 = ⟨L.toArray⟩ := ⟨s0.data.toList, by simp⟩
  rw [size_list] at hs
  have hA := all_any L w hM (by omega)
  have HR := hid (fun w1 => rall_any L w1 (by omega))
  obtain ⟨hlen, hfew⟩ := all_few _ L (Nat.le_refl _)
  have HW := hid awakeP_any
  have HM := hid hM
  have hgl := hM.lt
  obtain ⟨s, hse⟩ : ∃ s : ByteArray, s = ⟨L.toArray⟩ := ⟨_, rfl⟩
  rw [← hse] at hA HR ⊢
  obtain ⟨A, hAe⟩ : ∃ A, A = allL L := ⟨_, rfl⟩
  rw [← hAe] at hA HR hlen hfew
  obtain ⟨rs, st⟩ := A
  simp only at hA HR hlen hfew
  clear hAe hse hM
  go_enter Tryz.func4, Tryz.ntmps4
  go_wp2_with fail
  refine hA.mono ?_
  clear hA
  rintro e w1 ⟨v1, es1, rfl, hO1, hq1, hB1⟩
  obtain ⟨ao1, cap1, rfl⟩ := hO1.shape
  have hR := HR.out w1
  clear HR
  go_wp2_with fail
  refine hR.mono ?_
  clear hR
  rintro e w2 ⟨v2, es2, rfl, hO2, hq2, hB2⟩
  obtain ⟨ao2, cap2, rfl⟩ := hO2.shape
  have hl1 : es1.length ≤ 1000000000 := by
    have := congrArg List.length hq1
    rw [List.length_map] at this
    omega
  have hf1 : ∀ e ∈ es1, e.q.head.2.2.2.length ≤ 140737488355328 ∧ e.q.query.length ≤ 140737488355328 := fun e he => by
    have := hfew e.q (by rw [← hq1]; exact List.mem_map.2 ⟨e, he, rfl⟩)
    omega
  have hS := rsameAll_any (.slice ao1 es1.length cap1) (.slice ao2 es2.length cap2) es1 es2 w2 (hO1.below hB2).sees hO2.sees hl1 hf1
  have HB2 := hid (hB1.trans (hB2.mono hB1.size))
  have HQ := hid (hq1.trans hq2.symm)
  clear hO1 hO2 hq1 hq2 hB1 hB2 hl1 hf1 hfew hlen
  go_wp2_with fail
  refine hS.mono ?_
  clear hS
  rintro e w3 ⟨r, rfl, hr, hB3⟩
  have hrt : r = true := hr.2 HQ.out
  subst hrt
  have hB03 := HB2.out.trans (hB3.mono HB2.out.size)
  have hA := HW.out w3 (HM.out.below hB03 hgl)
  have HB3 := hid hB03
  clear hr hB3 hB03 HW
  go_wp2_with fail
  refine hA.mono ?_
  clear hA
  rintro e w4 ⟨rfl, hB4⟩
  have HB4 := hid (HB3.out.trans (hB4.mono HB3.out.size))
  clear hB4
  go_wp2
  go_ret
  exact ⟨rfl, HB4.out⟩
end Go.Proofs.YtllhibdjopfcnaaGreatDoor

namespace Go.Proofs.YtllhibdjopfcnaaGreatDoor.parseAll
open Go.ChangeShapes Go.WideShapes Go.ChangeAt Go.RowKit Go.ChangeMaps
set_option linter.unusedVariables false

set_option maxRecDepth 100000 in
theorem contract (H : Type) (enc : TypeId × Value → H) (W : World) (base : Nat) (args : Array Value) (ds gs : List (DataW H)) (before : List MemPlace)
    (hval : ∀ (j : Nat) t v, Tryz.f4.params[j]? = some t → args[j]? = some v → Value.okWide Tryz.prog W .any base t v)
    (hW : DataW.Whole enc Tryz.prog Tryz.f4.params.toList Rows.parseAllSpec.vars false W args.toList ds gs before) (hk : Rows.uptoSmall H (ds ++ gs) = true) (hM : ML W) :
    Calls Tryz.prog 4 args W fun e W' => ∃ v, e = .returned v ∧ Rows.parseAllSpec.post enc Tryz.prog Tryz.f4 false true false false W args v W' := by
  have hW' := hW
  obtain ⟨p, q, hA0, hV, rfl, hfz, hnd⟩ := hW
  have hA : DataW.TrodAll enc Tryz.prog W 0 (fun _ => true) true Tryz.f4.params.toList args.toList ds p := hA0
  rw [Tryz.params4] at hA hval
  obtain ⟨v0, vs0, d0, ds0, p0, q0, hargs, rfl, rfl, h0, r0⟩ := trodAll_cons hA
  obtain ⟨rfl, rfl, rfl⟩ := trodAll_nil r0
  obtain rfl : args = #[v0] := by cases args; simp_all
  obtain ⟨rfl, rfl⟩ := trodVars_none hV
  obtain ⟨s0, rfl, rfl, rfl, ml0⟩ := open_string Tryz.underlying9 (hval 0 9 v0 rfl rfl) h0
  have bk0 : s0.size ≤ 1048576 := by have h := str_small hk (j := 0) rfl; rw [Array.length_toList] at h; exact h
  clear hA0
  refine (all_walk s0 W hM bk0).mono fun e W' ⟨he, bel⟩ => ?_
  subst he
  exact ⟨_, rfl, _, _, _, [], _, [], hW', trodAll_mk1 (shut_bool Tryz.underlying4 _), (trodAll_cons_mk (shut_string Tryz.underlying9 ml0) trodAll_mk0), rfl, bel.frame _, fun h => by cases h⟩

theorem reads (os : Os) {H : Type} (enc : TypeId × Value → H) : ∃ places, DataW.whole enc Tryz.prog (({ World.holding Tryz.prog os ⟨#[], #[], []⟩ with heap := ((World.holding Tryz.prog os ⟨#[], #[], []⟩).heap.modify 2 layRanges).modify 1 layFirst } : World).forCall (fun _ _ => 0) ⟨#[], #[.string { data := #[] }], []⟩).memory Tryz.f4.params.toList Rows.parseAllSpec.vars false (#[.string { data := #[] }] : Array Value).toList 8 = some ([.lit (.string [])], [], places) :=
  ⟨[], by kernel_rfl⟩

set_option maxRecDepth 100000 in
theorem lifted (os : Os) (started : os.Started) (H : Type) (enc : TypeId × Value → H) (F : Stop.Interp) :
    ReturnsInHanded {} Tryz.checked os 4 .any ((Rows.OpenSpec.upto Rows.parseAllSpec).preRow enc Tryz.prog Tryz.f4 Rows.parseAllUptoRow.domain false Rows.parseAllUptoRow.laid) (((Rows.OpenSpec.upto Rows.parseAllSpec).at F).post enc Tryz.prog Tryz.f4 false true false false) := by
  obtain ⟨places, hx⟩ := reads os enc
  refine returnsInHanded_of_row (C := Tryz.checked) (s := Rows.OpenSpec.upto Rows.parseAllSpec) own started (by kernel_rfl) Tryz.func4
    (witness_row_at (enc := enc) (C := Tryz.checked) false { World.holding Tryz.prog os ⟨#[], #[], []⟩ with heap := ((World.holding Tryz.prog os ⟨#[], #[], []⟩).heap.modify 2 layRanges).modify 1 layFirst } #[.string { data := #[] }] rfl (by kernel_rfl) (by kernel_rfl) (by kernel_rfl)
      (OpenSpec.preRow_of_cond 8 hx (by kernel_rfl) (fun k hk => by cases hk; kernel_rfl) (by kernel_rfl) (laid_met os _))) ?_
  intro W base args ds gs before hval hW _ hcond hz hL hsh _
  exact contract H enc W base args ds gs before hval hW (hcond _ rfl) (ml_of hsh)

theorem said : Rows.ParseAllUptoSaid :=
  OpenClaim.holds_of_cond 4 Tryz.f4 rfl rfl rfl rfl rfl rfl rfl ⟨rfl, rfl, rfl, rfl, rfl⟩ rfl rfl rfl rfl rfl (by kernel_rfl) Tryz.func4 (by kernel_rfl)
    (of_decide_eq_true (by kernel_rfl)) (by unfold Func.isWrapper; first | (rw [if_pos (by decide +kernel)]; kernel_rfl) | (rw [if_neg (by decide +kernel)]; exact ⟨rfl, rfl⟩))
    (fun os started H enc _ F => by rw [OpenClaim.pre_eq_preRow]; exact lifted os started H enc F)

theorem plain (f : FuncId) (fn : Func) (hf : Tryz.pinned.checked.prog.funcNamed "cloister/cloisterlaw08.ParseAll" = some f) (hfn : Tryz.pinned.checked.prog.funcs[f]? = some fn) :
    false = Tryz.pinned.checked.prog.looks [] ∧ ∀ (j : Nat) t, fn.params[j]? = some t → Tryz.pinned.checked.prog.wantsStandIn t = false := by
  obtain rfl : f = 4 := Option.some.inj ((show Tryz.prog.funcNamed "cloister/cloisterlaw08.ParseAll" = some 4 by kernel_rfl).symm.trans hf) |>.symm
  obtain rfl : fn = Tryz.f4 := (Option.some.inj (Tryz.func4.symm.trans hfn)).symm
  refine ⟨by kernel_rfl, fun j t ht => ?_⟩
  rw [Tryz.params4] at ht
  have hm := Array.mem_of_getElem? ht
  simp only [List.mem_toArray, List.mem_cons, List.not_mem_nil, or_false] at hm
  subst hm
  exact (show Tryz.prog.wantsStandIn 9 = false by kernel_rfl)

theorem card : Rows.ParseAllUptoCardSaid :=
  Claim7.holds_tied_plain_at .later [] _ _ _ _ said (fun _ h => by cases h) (by kernel_rfl) (fun _ h => by cases h) parseAllUpto_row_tie rfl ⟨rfl, rfl⟩ (by kernel_rfl) rfl plain (by kernel_rfl)

end Go.Proofs.YtllhibdjopfcnaaGreatDoor.parseAll
namespace Go.Proofs.YtllhibdjopfcnaaGreatDoor
theorem parseAllUpto_holds : Rows.ParseAllUptoCardSaid := parseAll.card
end Go.Proofs.YtllhibdjopfcnaaGreatDoor
