/-
  The end of a line of a chunked body: the code's.
-/
import Derived.Test.YtllhibdjopfcnaaGreatDoorPRd
import Derived.Test.YtllhibdjopfcnaaGreatDoorHTools
import Derived.Lib.AppendStr
namespace Go.Proofs.YtllhibdjopfcnaaGreatDoor
open Go.RowKit
set_option linter.unusedVariables false

theorem eol_cases (l : List UInt8) : (Lib.hasPrefix l [13, 10] = true ∧ eolL l = (.ok ((), 2))) ∨ (Lib.hasPrefix l [13, 10] = false ∧ Lib.hasPrefix [13, 10] l = true ∧ eolL l = (.error none)) ∨
    (Lib.hasPrefix l [13, 10] = false ∧ Lib.hasPrefix [13, 10] l = false ∧ eolL l = (.error (some 400))) := by
  match l with
  | [] => exact Or.inr (Or.inl ⟨rfl, rfl, rfl⟩)
  | [a] =>
    by_cases ha : a = 13
    · subst ha; exact Or.inr (Or.inl ⟨rfl, rfl, rfl⟩)
    · refine Or.inr (Or.inr ⟨?_, ?_, by rw [eolL_one, if_neg ha]⟩)
      · simp [Lib.hasPrefix, List.isPrefixOf]
      · simp [Lib.hasPrefix, List.isPrefixOf, ha]
  | a :: b :: r =>
    by_cases ha : a = 13 ∧ b = 10
    · obtain ⟨rfl, rfl⟩ := ha
      exact Or.inl ⟨by simp [Lib.hasPrefix, List.isPrefixOf], rfl⟩
    · refine Or.inr (Or.inr ⟨?_, ?_, by rw [eolL_two, if_neg ha]⟩)
      · cases h : Lib.hasPrefix (a :: b :: r) [13, 10] with
        | false => rfl
        | true =>
          simp [Lib.hasPrefix, List.isPrefixOf] at h
          exact absurd ⟨h.1.symm, h.2.symm⟩ ha
      · cases h : Lib.hasPrefix [13, 10] (a :: b :: r) with
        | false => rfl
        | true =>
          simp [Lib.hasPrefix, List.isPrefixOf] at h
          exact absurd ⟨h.1, h.2.1⟩ ha
theorem extract_p (L : List UInt8) (k : Nat) (s : ByteArray) (hs : s = ⟨L.toArray⟩) : (s.extract k s.size).data.toList = L.drop k := by
  subst hs
  rw [ByteArray.data_extract, Array.toList_extract]
  simp only [List.extract]
  rw [List.take_of_length_le (by simp [ByteArray.size])]
/-- What the end of a line answers, and the place then. -/
def eolS : Tell Unit → Int
  | (.error none) => -1
  | (.error (some s)) => s
  | (.ok (_, _)) => 0
def eolK (k : Nat) : Tell Unit → Nat
  | (.ok (_, _)) => k + 2
  | _ => k

set_option maxRecDepth 20000 in
set_option maxHeartbeats 2000000 in
theorem passEnd_any (p : Nat) (L : List UInt8) (k : Nat) (v : Value) (w : World) (s : ByteArray) (hse : s = ⟨L.toArray⟩) (h : RdAt w p s k v) (hk : k ≤ L.length) (hs : L.length ≤ 140737488355328) :
    Calls Tryz.prog 74 #[.pointer (some ⟨p, 0, none⟩)] w fun e w' => e = .returned (.int .i64 (eolS (eolL (L.drop k)))) ∧ RdAt w' p s (eolK k (eolL (L.drop k))) v ∧ Kept p w.heap.size w w' := by
  have hsz : s.size = L.length := by rw [hse, size_list]
  obtain ⟨c0, c1, c2, _, g1, _⟩ := h.cells
  have HX := hid (extract_p L k s hse)
  have hP1 := fun w => Tryz.strings_HasPrefix (s.extract k s.size) ⟨#[13, 10]⟩ w
  have hP2 := fun w => Tryz.strings_HasPrefix ⟨#[13, 10]⟩ (s.extract k s.size) w
  rw [show (⟨#[13, 10]⟩ : ByteArray).data.toList = [13, 10] from rfl, HX.out] at hP1 hP2
  have hle : (k : Int) ≤ (s.size : Int) := by omega
  have HH := hid h
  have HSZ := hid hsz
  clear HX hse h hsz
  rcases eol_cases (L.drop k) with ⟨e1, e3⟩ | ⟨e1, e2, e3⟩ | ⟨e1, e2, e3⟩
  · rw [e1] at hP1
    have HE := hid e3
    clear hP2 e1 e3
    go_enter Tryz.func74, Tryz.ntmps74
    go_wp2_with fail
    go_quiet (fail)
    go_wp2_with fail
    refine (hP1 _).mono ?_
    clear hP1
    rintro e w1 ⟨rfl, hw1⟩
    have c1' : w1.cell? ⟨p, 1, none⟩ = some (.int .i64 (k : Int)) := by rw [hw1]; exact (HH.out.drewN _).cells.2.1
    have g1' : w1.frozen? ⟨p, 1, none⟩ = false := by rw [hw1]; exact (HH.out.drewN _).cells.2.2.2.2.1
    have HR := hid (show RdAt w1 p s k v by rw [hw1]; exact HH.out.drewN _)
    have HK := hid (show Kept p w.heap.size w w1 by rw [hw1]; exact Kept.of_below (below_drewN (Below.refl _ _) _))
    clear hw1 HH
    go_wp2
    go_ret
    rw [HE.out]
    exact ⟨rfl, HR.out.store1 _ _ (by go_num), HK.out.trans (Kept.store _ _ _)⟩
  · rw [e1] at hP1
    rw [e2] at hP2
    have HE := hid e3
    clear e1 e2 e3
    go_enter Tryz.func74, Tryz.ntmps74
    go_wp2_with fail
    go_quiet (fail)
    go_wp2_with fail
    refine (hP1 _).mono ?_
    clear hP1
    rintro e w1 ⟨rfl, hw1⟩
    have HR := hid (show RdAt w1 p s k v by rw [hw1]; exact HH.out.drewN _)
    have HK := hid (show Kept p w.heap.size w w1 by rw [hw1]; exact Kept.of_below (below_drewN (Below.refl _ _) _))
    clear hw1 HH
    go_wp2_with fail
    refine (hP2 _).mono ?_
    clear hP2
    rintro e w2 ⟨rfl, hw2⟩
    subst hw2
    go_wp2
    go_ret
    rw [HE.out]
    exact ⟨rfl, HR.out, HK.out⟩
  · rw [e1] at hP1
    rw [e2] at hP2
    have HE := hid e3
    clear e1 e2 e3
    go_enter Tryz.func74, Tryz.ntmps74
    go_wp2_with fail
    go_quiet (fail)
    go_wp2_with fail
    refine (hP1 _).mono ?_
    clear hP1
    rintro e w1 ⟨rfl, hw1⟩
    have HR := hid (show RdAt w1 p s k v by rw [hw1]; exact HH.out.drewN _)
    have HK := hid (show Kept p w.heap.size w w1 by rw [hw1]; exact Kept.of_below (below_drewN (Below.refl _ _) _))
    clear hw1 HH
    go_wp2_with fail
    refine (hP2 _).mono ?_
    clear hP2
    rintro e w2 ⟨rfl, hw2⟩
    subst hw2
    go_wp2
    go_ret
    rw [HE.out]
    exact ⟨rfl, HR.out, HK.out⟩

theorem cellsN_u8 (l : List UInt8) : cellsN .u8 (l.map UInt8.toNat) = l.map fun b => Value.int .u8 b.toNat := by
  simp [cellsN, Function.comp]
theorem step_appStr {w : World} {ops : Array Oper} {o : Oper} {a : Act} {K : Act → World → Prop} {Q : Exit → Act → World → Prop} {E : Prop} (hgd : o.guard = none) (s x : Operand)
    (ho : o.op = .call { callee := .builtin .append, args := #[s, x], argTypes := #[75, 9] }) (base : Nat) (v : Value) (out : List UInt8) (hs : a.eval s = v) (hown : OwnsB w base v out)
    (y : ByteArray) (hx : a.eval x = .string y) (hb : out.length + y.size ≤ 140737488355328) (hbase : base ≤ w.heap.size)
    (h : ∀ v' w', OwnsB w' base v' (out ++ y.data.toList) → w.grownBy w' v.ownBlock → K (a.put o.dst v') w') :
    if Region.wanted o (yielded ops a.tmps) = true then Oper.wp Tryz.prog o a w K Q else E := by
  have hw : Region.wanted o (yielded ops a.tmps) = true := by simp [Region.wanted, hgd]
  rw [if_pos hw]
  obtain ⟨i0, hi, hz0, hz1, hz2⟩ := info_parts Tryz.info5
  unfold OwnsB OwnsN at hown
  rw [List.length_map, cellsN_u8] at hown
  obtain ⟨v', w', hr, h1, h2, _⟩ := Go.Lib.run_append_own_string (P := Tryz.prog) w base 75 9 o.type 5 i0 Tryz.underlying75 Tryz.underlying9 hi hz0 hz1 hz2 v _ _ hown y (by simp only [maxLen]; omega) hb hbase
  unfold Oper.wp execOp
  simp only [ho, resolve, invoke, builtin, Sem.run_bind, Sem.run_pure, Result.andThen_ok, List.map_toArray, List.map_cons, List.map_nil, hs, hx, hr]
  refine h v' w' ?_ h2
  unfold OwnsB OwnsN
  rw [List.length_map, cellsN_u8, List.length_append, len_str]
  simpa [Go.Lib.strCells] using h1
theorem OwnsB.kept {w w' : World} {base p : Nat} {v : Value} {l : List UInt8} (h : OwnsB w base v l) (hk : Kept p w.heap.size w w') (hp : p < base) : OwnsB w' base v l := by
  refine ⟨h.1, ?_⟩
  rcases h.2 with hn | ⟨g, cap, cur, rfl, hbase, hg, rest⟩
  · exact Or.inl hn
  · exact Or.inr ⟨g, cap, cur, rfl, hbase, by rw [hk.block g (Array.getElem?_eq_some_iff.1 hg).1 (by omega)]; exact hg, rest⟩
theorem Kept.join {p B : Nat} {a b c : World} (h : Kept p B a b) (k : Kept p b.heap.size b c) (hB : B ≤ b.heap.size) : Kept p B a c := h.trans (k.le hB)
/-- What 'append' to one's own bytes keeps. -/
theorem Kept.grown {p B : Nat} {a b c : World} {r : Option Nat} (h : Kept p B a b) (k : b.grownBy c r) (hB : B ≤ b.heap.size) (hr : ∀ j, r = some j → B ≤ j) : Kept p B a c :=
  ⟨k.os.trans h.os, k.tape.trans h.tape, k.output.trans h.output, Nat.le_trans h.size k.size, fun i hi hp => (k.block i (by omega) (fun e => by have := hr i e.symm; omega)).trans (h.block i hi hp)⟩
end Go.Proofs.YtllhibdjopfcnaaGreatDoor
