/-
  walk with the closures of Decode and Form; Decode.
-/
import Derived.Test.YtllhibdjopfcnaaGreatDoorZBase
import Derived.Test.YtllhibdjopfcnaaGreatDoorZMath
namespace Go.Proofs.YtllhibdjopfcnaaGreatDoor
open Go.RowKit
set_option linter.unusedVariables false

theorem ret_int {k : IntKind} {a b : Int} (h : a = b) : (Ending.returned (.int k a) : Ending) = .returned (.int k b) := by rw [h]
theorem ret_bool {a b : Bool} (h : a = b) : (Ending.returned (.bool a) : Ending) = .returned (.bool b) := by rw [h]

set_option maxHeartbeats 1000000 in
theorem digit_any (b : UInt8) (w : World) : Calls Tryz.prog 121 #[.int .u8 (b.toNat : Int)] w fun e w' => e = .returned (.int .i64 (hexD b)) ∧ w = w' := by
  have hb := b.toNat_lt
  unfold hexD
  obtain ⟨n, hn⟩ : ∃ n, n = b.toNat := ⟨_, rfl⟩
  rw [← hn] at hb ⊢
  clear hn
  by_cases h1 : 48 ≤ n
  · have h1' : (48 : Int) ≤ (n : Int) := by omega
    by_cases h2 : n ≤ 57
    · have h2' : (n : Int) ≤ 57 := by omega
      rw [if_pos ⟨h1, h2⟩]
      go_enter Tryz.func121, Tryz.ntmps121
      go_wp2
      go_ret
      exact ⟨ret_int (by omega), rfl⟩
    · have h2' : ¬ (n : Int) ≤ 57 := by omega
      rw [if_neg (by omega)]
      by_cases h3 : 65 ≤ n
      · have h3' : (65 : Int) ≤ (n : Int) := by omega
        by_cases h4 : n ≤ 70
        · have h4' : (n : Int) ≤ 70 := by omega
          rw [if_pos ⟨h3, h4⟩]
          go_enter Tryz.func121, Tryz.ntmps121
          go_wp2
          go_ret
          exact ⟨ret_int (by omega), rfl⟩
        · have h4' : ¬ (n : Int) ≤ 70 := by omega
          rw [if_neg (by omega)]
          by_cases h5 : 97 ≤ n
          · have h5' : (97 : Int) ≤ (n : Int) := by omega
            by_cases h6 : n ≤ 102
            · have h6' : (n : Int) ≤ 102 := by omega
              rw [if_pos ⟨h5, h6⟩]
              go_enter Tryz.func121, Tryz.ntmps121
              go_wp2
              go_ret
              exact ⟨ret_int (by omega), rfl⟩
            · have h6' : ¬ (n : Int) ≤ 102 := by omega
              rw [if_neg (by omega)]
              go_enter Tryz.func121, Tryz.ntmps121
              go_wp2
              go_ret
              exact ⟨rfl, rfl⟩
          · have h5' : ¬ (97 : Int) ≤ (n : Int) := by omega
            rw [if_neg (by omega)]
            go_enter Tryz.func121, Tryz.ntmps121
            go_wp2
            go_ret
            exact ⟨rfl, rfl⟩
      · have h3' : ¬ (65 : Int) ≤ (n : Int) := by omega
        have h5' : ¬ (97 : Int) ≤ (n : Int) := by omega
        rw [if_neg (by omega), if_neg (by omega)]
        go_enter Tryz.func121, Tryz.ntmps121
        go_wp2
        go_ret
        exact ⟨rfl, rfl⟩
  · have h1' : ¬ (48 : Int) ≤ (n : Int) := by omega
    have h3' : ¬ (65 : Int) ≤ (n : Int) := by omega
    have h5' : ¬ (97 : Int) ≤ (n : Int) := by omega
    rw [if_neg (by omega), if_neg (by omega), if_neg (by omega)]
    go_enter Tryz.func121, Tryz.ntmps121
    go_wp2
    go_ret
    exact ⟨rfl, rfl⟩

set_option maxHeartbeats 1000000 in
theorem rdigit_any (b : UInt8) (w : World) : Calls Tryz.prog 67 #[.int .u8 (b.toNat : Int)] w fun e w' => e = .returned (.int .i64 (hexD b)) ∧ w = w' := by
  have hb := b.toNat_lt
  unfold hexD
  obtain ⟨n, hn⟩ : ∃ n, n = b.toNat := ⟨_, rfl⟩
  rw [← hn] at hb ⊢
  clear hn
  by_cases h1 : 48 ≤ n
  · have h1' : (48 : Int) ≤ (n : Int) := by omega
    by_cases h2 : n ≤ 57
    · have h2' : (n : Int) ≤ 57 := by omega
      rw [if_pos ⟨h1, h2⟩]
      go_enter Tryz.func67, Tryz.ntmps67
      go_wp2
      go_ret
      exact ⟨ret_int (by omega), rfl⟩
    · have h2' : ¬ (n : Int) ≤ 57 := by omega
      rw [if_neg (by omega)]
      by_cases h3 : 65 ≤ n
      · have h3' : (65 : Int) ≤ (n : Int) := by omega
        by_cases h4 : n ≤ 70
        · have h4' : (n : Int) ≤ 70 := by omega
          have h5' : ¬ (97 : Int) ≤ (n : Int) := by omega
          rw [if_pos ⟨h3, h4⟩]
          go_enter Tryz.func67, Tryz.ntmps67
          go_wp2
          go_ret
          exact ⟨ret_int (by omega), rfl⟩
        · have h4' : ¬ (n : Int) ≤ 70 := by omega
          rw [if_neg (by omega)]
          by_cases h5 : 97 ≤ n
          · have h5' : (97 : Int) ≤ (n : Int) := by omega
            by_cases h6 : n ≤ 102
            · have h6' : (n : Int) ≤ 102 := by omega
              rw [if_pos ⟨h5, h6⟩]
              go_enter Tryz.func67, Tryz.ntmps67
              go_wp2
              go_ret
              exact ⟨ret_int (by omega), rfl⟩
            · have h6' : ¬ (n : Int) ≤ 102 := by omega
              rw [if_neg (by omega)]
              go_enter Tryz.func67, Tryz.ntmps67
              go_wp2
              go_ret
              exact ⟨rfl, rfl⟩
          · have h5' : ¬ (97 : Int) ≤ (n : Int) := by omega
            rw [if_neg (by omega)]
            go_enter Tryz.func67, Tryz.ntmps67
            go_wp2
            go_ret
            exact ⟨rfl, rfl⟩
      · have h3' : ¬ (65 : Int) ≤ (n : Int) := by omega
        have h5' : ¬ (97 : Int) ≤ (n : Int) := by omega
        rw [if_neg (by omega), if_neg (by omega)]
        go_enter Tryz.func67, Tryz.ntmps67
        go_wp2
        go_ret
        exact ⟨rfl, rfl⟩
  · have h1' : ¬ (48 : Int) ≤ (n : Int) := by omega
    have h3' : ¬ (65 : Int) ≤ (n : Int) := by omega
    have h5' : ¬ (97 : Int) ≤ (n : Int) := by omega
    rw [if_neg (by omega), if_neg (by omega), if_neg (by omega)]
    go_enter Tryz.func67, Tryz.ntmps67
    go_wp2
    go_ret
    exact ⟨rfl, rfl⟩

/-- What tells a byte's kind, in the walk's words. -/
theorem plain_split (n : Nat) (p : Prop)
    (k1 : 97 ≤ n → n ≤ 122 → p) (k2 : 65 ≤ n → n ≤ 90 → p) (k3 : 48 ≤ n → n ≤ 57 → p) (k4 : n = 45 → p) (k5 : n = 46 → p) (k6 : n = 95 → p) (k7 : n = 126 → p)
    (k8 : (n < 45 ∨ n = 47 ∨ (57 < n ∧ n < 65) ∨ (90 < n ∧ n < 95) ∨ n = 96 ∨ (122 < n ∧ n < 126) ∨ 126 < n) → p) : p := by
  by_cases a1 : 97 ≤ n ∧ n ≤ 122
  · exact k1 a1.1 a1.2
  by_cases a2 : 65 ≤ n ∧ n ≤ 90
  · exact k2 a2.1 a2.2
  by_cases a3 : 48 ≤ n ∧ n ≤ 57
  · exact k3 a3.1 a3.2
  by_cases a4 : n = 45
  · exact k4 a4
  by_cases a5 : n = 46
  · exact k5 a5
  by_cases a6 : n = 95
  · exact k6 a6
  by_cases a7 : n = 126
  · exact k7 a7
  exact k8 (by omega)


theorem index_byte (s : ByteArray) (q : IntKind) (i : Int) (n : Nat) (hi : i = (n : Int)) (hn : n < s.size) (w : World) : (Instr.index 9 (.string s) (.int q i)).run Tryz.prog w = .ok (.int .u8 ((s[n].toNat : Nat) : Int)) w := by
  subst hi
  rw [run_index_string w 9 s q n Tryz.underlying9]
  simp [hn]
theorem ownsB_len {w : World} {B : Nat} {u : Value} {l : List UInt8} (h : OwnsB w B u l) : OwnsN .u8 5 w B u (l.map UInt8.toNat) := h

end Go.Proofs.YtllhibdjopfcnaaGreatDoor

namespace Go.Proofs.YtllhibdjopfcnaaGreatDoor
open Go.RowKit
set_option linter.unusedVariables false

/-! ### sign -/
/-- What the percent sign tells that a text begins with. -/
def signV (l : List UInt8) : Option UInt8 :=
  match l with
  | _ :: h :: l :: _ => if 0 ≤ hexD h ∧ 0 ≤ hexD l then some (signB h l) else none
  | _ => none

theorem shl4 (a : Nat) (h : a < 16) : ((a : Int) * 16) = ((16 * a : Nat) : Int) := by omega
theorem or_low (a b : Nat) (ha : a < 16) (hb : b < 16) : (16 * a) ||| b = 16 * a + b := by
  have := Nat.two_pow_add_eq_or_of_lt (i := 4) (b := b) hb a
  simpa [Nat.mul_comm] using this.symm
theorem signB_nat {h l : UInt8} (h1 : 0 ≤ hexD h) (h2 : 0 ≤ hexD l) : ((signB h l).toNat : Int) = 16 * hexD h + hexD l := by
  have a1 := (hexD_range h).2
  have a2 := (hexD_range l).2
  unfold signB
  rw [UInt8.toNat_ofNat', Nat.mod_eq_of_lt (by omega)]
  omega
theorem or_sign {x y : Int} (h1 : 0 ≤ x) (h2 : 0 ≤ y) (h3 : x < 16) (h4 : y < 16) : bits .or .i64 (x * 16) y = 16 * x + y := by
  obtain ⟨a, rfl⟩ := Int.eq_ofNat_of_zero_le h1
  obtain ⟨b, rfl⟩ := Int.eq_ofNat_of_zero_le h2
  have k1 : a < 16 := by omega
  have k2 : b < 16 := by omega
  rw [show ((a : Int) * 16) = ((16 * a : Nat) : Int) by omega, i64_or _ _ (by omega) (by omega), or_low a b k1 k2]
  omega

set_option maxHeartbeats 1000000 in
theorem sign_any (s : ByteArray) (w : World) : Calls Tryz.prog 109 #[.string s] w fun e w' =>
    e = .returned (.tuple #[.int .u8 (((signV s.data.toList).getD 0).toNat : Int), .bool (signV s.data.toList).isSome]) ∧ ∃ n, w' = w.drewN n := by
  by_cases h : s.size < 3
  · have h' : (s.size : Int) < 3 := by omega
    have hv : signV s.data.toList = none := by
      have hl := len_str s
      unfold signV
      split
      · rename_i x hd ld r e
        rw [e] at hl
        simp at hl
        omega
      · rfl
    rw [hv]
    clear hv
    go_enter Tryz.func109, Tryz.ntmps109
    go_wp2
    go_ret2
    exact ⟨rfl, 0, rfl⟩
  · have h' : ¬ (s.size : Int) < 3 := by omega
    have k1 : 1 < s.size := by omega
    have k2 : 2 < s.size := by omega
    have hv : signV s.data.toList = if 0 ≤ hexD (s[1]'k1) ∧ 0 ≤ hexD (s[2]'k2) then some (signB (s[1]'k1) (s[2]'k2)) else none := by
      have e0 := drop_byte s 0 (by omega)
      have e1 := drop_byte s 1 k1
      have e2 := drop_byte s 2 k2
      rw [List.drop_zero] at e0
      rw [e0, e1, e2]
      rfl
    obtain ⟨V, hV⟩ : ∃ V, V = signV s.data.toList := ⟨_, rfl⟩
    rw [← hV] at hv ⊢
    clear hV
    have i1 := index_byte s .i64 1 1 rfl k1
    have i2 := index_byte s .i64 2 2 rfl k2
    obtain ⟨a, ha⟩ : ∃ a, a = s[1]'k1 := ⟨_, rfl⟩
    obtain ⟨b, hb⟩ : ∃ b, b = s[2]'k2 := ⟨_, rfl⟩
    rw [← ha] at i1 hv
    rw [← hb] at i2 hv
    have HV := hid hv
    clear hv
    have ra := hexD_range a
    have rb := hexD_range b
    have HS := hid (fun h1 h2 => signB_nat (h := a) (l := b) h1 h2)
    clear ha hb
    go_enter Tryz.func109, Tryz.ntmps109
    go_wp2_with fail
    go_region_held3 (fun _ => True) (trivial)
      (first | (go_at_call 121; refine (digit_any _ _).mono ?_; rintro e' w1 ⟨rfl, rfl⟩))
    all_goals (
      by_cases h1 : hexD a < 0
      · go_wp2
        go_ret2
        rw [HV.out, if_neg (by omega)]
        exact ⟨rfl, 1, rfl⟩
      · by_cases h2 : hexD b < 0
        · go_wp2
          go_ret2
          rw [HV.out, if_neg (by omega)]
          exact ⟨rfl, 1, rfl⟩
        · have hor := or_sign (x := hexD a) (y := hexD b) (by omega) (by omega) (by omega) (by omega)
          have HZ := hid (HS.out (by omega) (by omega))
          go_wp2
          go_ret2
          refine ⟨?_, 1, rfl⟩
          rw [HV.out, if_pos (by omega)]
          simp only [Option.getD_some, Option.isSome_some]
          rw [HZ.out]
          first | rfl | (simp; omega))

end Go.Proofs.YtllhibdjopfcnaaGreatDoor

namespace Go.Proofs.YtllhibdjopfcnaaGreatDoor
open Go.RowKit
set_option linter.unusedVariables false

/-! ### The closure of Decode -/
/-- What the closure lays down for a byte. -/
def takeB (plus signed : Bool) (b : UInt8) : UInt8 := if signed = true then b else plusB plus b
theorem takeB_true (plus : Bool) (b : UInt8) : takeB plus true b = b := rfl
theorem takeB_false (plus : Bool) (b : UInt8) : takeB plus false b = plusB plus b := rfl

/-- What Decode and its closure share: whether a + is a blank, and the bytes so far. -/
structure DecS (w : World) (B p q : Nat) (plus : Bool) (out : List UInt8) : Prop where
  row : ∃ g cap, VarAt 75 w q (.slice (some ⟨g, 0, none⟩) out.length cap) ∧ OwnsB w B (.slice (some ⟨g, 0, none⟩) out.length cap) out ∧ g ≠ q ∧ g ≠ p ∧ g < w.heap.size
  plusv : VarAt 4 w p (.bool plus)
  hp : B ≤ p
  hq : B ≤ q
  hpq : p ≠ q
theorem DecS.drewN {w : World} {B p q : Nat} {plus : Bool} {out : List UInt8} (h : DecS w B p q plus out) (n : Nat) : DecS (w.drewN n) B p q plus out := by
  obtain ⟨⟨g, cap, h1, h2, h3, h4, h5⟩, h6, h7, h8, h9⟩ := h
  exact ⟨⟨g, cap, h1.drewN n, h2.below (below_drewN' _ _ _), h3, h4, h5⟩, h6.drewN n, h7, h8, h9⟩

/-- 'append(v, one byte)', v the call's own, and where it lies then. -/
theorem wpList_appL {w : World} {ops : Array Oper} {rest : List Oper} {o : Oper} {a : Act} {Q : Exit → Act → World → Prop} (hgd : o.guard = none) (s x : Operand)
    (ho : o.op = .call { callee := .builtin .append, args := #[s, x], argTypes := #[75, 75] }) (base : Nat) (v : Value) (xs : List Nat) (hs : a.eval s = v) (hown : OwnsN .u8 5 w base v xs)
    (u : Value) (ys : List Nat) (hx : a.eval x = u) (hne : ys ≠ []) (hsee : SeesN .u8 w u ys) (hb : (xs.length + ys.length) * 1 ≤ 140737488355328) (hbase : base ≤ w.heap.size)
    (h : ∀ g cap w', OwnsN .u8 5 w' base (.slice (some ⟨g, 0, none⟩) (xs.length + ys.length) cap) (xs ++ ys) → w.grownBy w' v.ownBlock → (v.ownBlock = some g ∨ g = w.heap.size) → g < w'.heap.size → wpList Tryz.prog ops Q rest (a.put o.dst (.slice (some ⟨g, 0, none⟩) (xs.length + ys.length) cap)) w') : wpList Tryz.prog ops Q (o :: rest) a w := by
  obtain ⟨i0, hi, hz0, hz1, hz2⟩ := info_parts Tryz.info5
  have hmx : xs.length + ys.length ≤ maxLen := by simp only [maxLen]; omega
  obtain ⟨b, off, ao, cap, rfl, hcap, hnil, hao, hcell⟩ := hsee
  obtain rfl := hao hne
  have hpl : 0 < ys.length := List.length_pos_iff.2 hne
  refine wpList_append_lies w hgd s x 75 ho base 5 i0 (.int .u8 0) 1 1 Tryz.underlying75 hi hz0 hz1 hz2 rfl (by decide) v _ _ hs hown ⟨b, off, none⟩ ys.length cap (cellsN .u8 ys) hx (by simp [cellsN_len]) (fun j y hj => by
      have hjl : j < ys.length := by
        have := (List.getElem?_eq_some_iff.1 hj).1
        simpa [cellsN_len] using this
      rw [addr_add, hcell j hjl]
      rw [cellsN_get .u8 ys j hjl] at hj
      exact hj) (cellsN_one .u8 ys) hpl hmx hb hbase _ rfl ?_
  intro g cap' w' h1 h2 h3 h4
  exact h g cap' w' (by simpa [OwnsN, cellsN_app] using h1) h2 h3 h4

theorem VarAt.far {t : TypeId} {w : World} {p q : Nat} {v : Value} (h : VarAt t w p v) (hpq : p ≠ q) (u : Value) : VarAt t (w.setCell ⟨q, 0, none⟩ u) p v := by
  unfold VarAt at *
  rw [Below.heap_setCell w ⟨q, 0, none⟩ u p hpq]
  exact h
theorem ownsRow_setCell_far {w : World} {base : Nat} {e : TypeId} {size : Nat} {g m n cap q : Nat} {xs : List Value} (h : w.ownsRow base e size (.slice (some ⟨g, 0, none⟩) m cap) n xs) (hq : q ≠ g) (u : Value) : (w.setCell ⟨q, 0, none⟩ u).ownsRow base e size (.slice (some ⟨g, 0, none⟩) m cap) n xs := by
  refine ⟨h.1, ?_⟩
  rcases h.2 with ⟨hn, _⟩ | ⟨g', cap', cur, hv, hbase, hg, rest⟩
  · cases hn
  · have : g = g' := by simpa [Value.ownBlock] using congrArg Value.ownBlock hv
    subst this
    exact Or.inr ⟨g, cap', cur, hv, hbase, by rw [Below.heap_setCell w ⟨q, 0, none⟩ u g (fun e => hq e.symm)]; exact hg, rest⟩

set_option maxHeartbeats 1000000 in
theorem take_any (b : UInt8) (signed plus : Bool) (B p q : Nat) (out : List UInt8) (w : World) (hS : DecS w B p q plus out) (ho : out.length + 1 ≤ 140737488355328) :
    Calls Tryz.prog 86 #[.int .u8 (b.toNat : Int), .bool signed, .pointer (some ⟨p, 0, none⟩), .pointer (some ⟨q, 0, none⟩)] w fun e w' => e = .returned (.tuple #[]) ∧ DecS w' B p q plus (out ++ [takeB plus signed b]) ∧ Below B w w' := by
  obtain ⟨⟨g, cap, hc, hO, hgq, hgp, hgl⟩, hp, hBp, hBq, hpq⟩ := hS
  obtain ⟨k1, k2⟩ := hp.cells
  obtain ⟨k3, k4⟩ := hc.cells
  have HC := hid hc
  have HO := hid hO
  have HP := hid hp
  have hlt := hc.lt
  have hplt := hp.lt
  clear hp hc hO
  have hb43 : b = 43 ∨ (((b.toNat : Int) == 43) = false ∧ b ≠ 43) := by
    by_cases h : b = 43
    · exact Or.inl h
    · refine Or.inr ⟨?_, h⟩
      rw [beq_eq_false_iff_ne]
      intro e
      exact h (by have := byte_eq (b := b) (n := 43) (by omega); simpa using this)
  obtain ⟨T, hT⟩ : ∃ T, T = takeB plus signed b := ⟨_, rfl⟩
  rw [← hT]
  have HT := hid hT
  clear hT
  go_enter Tryz.func86, Tryz.ntmps86
  cases plus
  · have HTb : Hid (b = T) := by
      unfold Hid
      rw [HT.out]
      cases signed <;> simp [takeB, plusB]
    clear hb43
    go_wp2_with (first
      | (at_builtin
         refine wpList_appL rfl _ _ rfl B (.slice (some ⟨g, 0, none⟩) out.length cap) (out.map UInt8.toNat) rfl (OwnsB.below HO.out (below_alloc w _)) _ [T.toNat] rfl (by simp) (sees_b1 _ _ _ (by rw [← HTb.out])) (by simp; omega) (by simp; omega) ?_
         intro g2 cap2 w2 h1 h2 h3 h4
         have hq : VarAt 75 w2 q (.slice (some ⟨g, 0, none⟩) out.length cap) := by
           have hq1 : VarAt 75 (w.alloc (.cells #[.int .u8 ((b.toNat : Int))] 5)) q (.slice (some ⟨g, 0, none⟩) out.length cap) := HC.out.below (below_alloc w _) hlt
           unfold VarAt at hq1 ⊢
           rw [h2.block q (by simp; omega) (fun h => hgq (by simpa [Value.ownBlock] using h.symm))]
           exact hq1
         have hp2 : VarAt 4 w2 p (.bool false) := by
           have hq1 : VarAt 4 (w.alloc (.cells #[.int .u8 ((b.toNat : Int))] 5)) p (.bool false) := HP.out.below (below_alloc w _) hplt
           unfold VarAt at hq1 ⊢
           rw [h2.block p (by simp; omega) (fun h => hgp (by simpa [Value.ownBlock] using h.symm))]
           exact hq1
         have HB : Hid (Below B w w2) := by
           refine hid (Below.grown ((below_alloc w (.cells #[.int .u8 ((b.toNat : Int))] 5)).mono (by omega)) h2 (by simp; omega) (fun k hk => ?_))
           exact OwnsB.block HO.out k hk
         have hg2 : g2 ≠ q ∧ g2 ≠ p := by
           rcases h3 with h3 | h3
           · have : g = g2 := by simpa [Value.ownBlock] using h3
             omega
           · have : g2 = w.heap.size + 1 := by simpa using h3
             omega
         rw [List.length_map] at h1 ⊢
         rw [show out.length + [T.toNat].length = out.length + 1 from rfl] at h1 ⊢
         have HO2 : Hid (OwnsB w2 B (.slice (some ⟨g2, 0, none⟩) (out.length + 1) cap2) (out ++ [T])) := by
           unfold Hid OwnsB
           simpa using h1
         have HQ := hid hq
         have HP2 := hid hp2
         have HG2 := hid hg2
         obtain ⟨k5, k6⟩ := hq.cells
         clear k3 k4 h1 h2 hq HO HC hp2 h3 hg2)
      | fail)
    have HO3 := hid (show OwnsB (w2.setCell ⟨q, 0, none⟩ (.slice (some ⟨g2, 0, none⟩) (out.length + 1) cap2)) B (.slice (some ⟨g2, 0, none⟩) (out.length + 1) cap2) (out ++ [T]) from ownsRow_setCell_far HO2.out (fun h => HG2.out.1 h.symm) _)
    have HV3 := hid (HQ.out.store (v' := .slice (some ⟨g2, 0, none⟩) (out.length + 1) cap2))
    have HP3 := hid (VarAt.far HP2.out (q := q) (fun h => hpq h) (.slice (some ⟨g2, 0, none⟩) (out.length + 1) cap2))
    have HB3 := hid (HB.out.setCell (p := ⟨q, 0, none⟩) (by simpa using hBq) (.slice (some ⟨g2, 0, none⟩) (out.length + 1) cap2))
    go_returns
    refine ⟨rfl, ⟨⟨g2, cap2, ?_, ?_, HG2.out.1, HG2.out.2, by simpa using h4⟩, HP3.out, hBp, hBq, hpq⟩, HB3.out⟩
    · simpa using HV3.out
    · simpa using HO3.out
  · rcases hb43 with h43 | ⟨h43, hne⟩
    · have h43' : ((b.toNat : Int) == 43) = true := by rw [h43]; rfl
      cases signed
      · have HTb : Hid (T = 32) := by
          unfold Hid
          rw [HT.out, h43]
          rfl
        clear h43
        go_wp2_with (first
          | (at_builtin
             refine wpList_appL rfl _ _ rfl B (.slice (some ⟨g, 0, none⟩) out.length cap) (out.map UInt8.toNat) rfl (OwnsB.below HO.out (below_alloc w _)) _ [T.toNat] rfl (by simp) (sees_b1 _ _ _ (by rw [HTb.out]; rfl)) (by simp; omega) (by simp; omega) ?_
             intro g2 cap2 w2 h1 h2 h3 h4
             have hq : VarAt 75 w2 q (.slice (some ⟨g, 0, none⟩) out.length cap) := by
               have hq1 : VarAt 75 (w.alloc (.cells #[.int .u8 (32)] 5)) q (.slice (some ⟨g, 0, none⟩) out.length cap) := HC.out.below (below_alloc w _) hlt
               unfold VarAt at hq1 ⊢
               rw [h2.block q (by simp; omega) (fun h => hgq (by simpa [Value.ownBlock] using h.symm))]
               exact hq1
             have hp2 : VarAt 4 w2 p (.bool true) := by
               have hq1 : VarAt 4 (w.alloc (.cells #[.int .u8 (32)] 5)) p (.bool true) := HP.out.below (below_alloc w _) hplt
               unfold VarAt at hq1 ⊢
               rw [h2.block p (by simp; omega) (fun h => hgp (by simpa [Value.ownBlock] using h.symm))]
               exact hq1
             have HB : Hid (Below B w w2) := by
               refine hid (Below.grown ((below_alloc w (.cells #[.int .u8 (32)] 5)).mono (by omega)) h2 (by simp; omega) (fun k hk => ?_))
               exact OwnsB.block HO.out k hk
             have hg2 : g2 ≠ q ∧ g2 ≠ p := by
               rcases h3 with h3 | h3
               · have : g = g2 := by simpa [Value.ownBlock] using h3
                 omega
               · have : g2 = w.heap.size + 1 := by simpa using h3
                 omega
             rw [List.length_map] at h1 ⊢
             rw [show out.length + [T.toNat].length = out.length + 1 from rfl] at h1 ⊢
             have HO2 : Hid (OwnsB w2 B (.slice (some ⟨g2, 0, none⟩) (out.length + 1) cap2) (out ++ [T])) := by
               unfold Hid OwnsB
               simpa using h1
             have HQ := hid hq
             have HP2 := hid hp2
             have HG2 := hid hg2
             obtain ⟨k5, k6⟩ := hq.cells
             clear k3 k4 h1 h2 hq HO HC hp2 h3 hg2)
          | fail)
        have HO3 := hid (show OwnsB (w2.setCell ⟨q, 0, none⟩ (.slice (some ⟨g2, 0, none⟩) (out.length + 1) cap2)) B (.slice (some ⟨g2, 0, none⟩) (out.length + 1) cap2) (out ++ [T]) from ownsRow_setCell_far HO2.out (fun h => HG2.out.1 h.symm) _)
        have HV3 := hid (HQ.out.store (v' := .slice (some ⟨g2, 0, none⟩) (out.length + 1) cap2))
        have HP3 := hid (VarAt.far HP2.out (q := q) (fun h => hpq h) (.slice (some ⟨g2, 0, none⟩) (out.length + 1) cap2))
        have HB3 := hid (HB.out.setCell (p := ⟨q, 0, none⟩) (by simpa using hBq) (.slice (some ⟨g2, 0, none⟩) (out.length + 1) cap2))
        go_returns
        refine ⟨rfl, ⟨⟨g2, cap2, ?_, ?_, HG2.out.1, HG2.out.2, by simpa using h4⟩, HP3.out, hBp, hBq, hpq⟩, HB3.out⟩
        · simpa using HV3.out
        · simpa using HO3.out
      · have HTb : Hid (b = T) := by
          unfold Hid
          rw [HT.out]
          rfl
        clear h43
        go_wp2_with (first
          | (at_builtin
             refine wpList_appL rfl _ _ rfl B (.slice (some ⟨g, 0, none⟩) out.length cap) (out.map UInt8.toNat) rfl (OwnsB.below HO.out (below_alloc w _)) _ [T.toNat] rfl (by simp) (sees_b1 _ _ _ (by rw [← HTb.out])) (by simp; omega) (by simp; omega) ?_
             intro g2 cap2 w2 h1 h2 h3 h4
             have hq : VarAt 75 w2 q (.slice (some ⟨g, 0, none⟩) out.length cap) := by
               have hq1 : VarAt 75 (w.alloc (.cells #[.int .u8 ((b.toNat : Int))] 5)) q (.slice (some ⟨g, 0, none⟩) out.length cap) := HC.out.below (below_alloc w _) hlt
               unfold VarAt at hq1 ⊢
               rw [h2.block q (by simp; omega) (fun h => hgq (by simpa [Value.ownBlock] using h.symm))]
               exact hq1
             have hp2 : VarAt 4 w2 p (.bool true) := by
               have hq1 : VarAt 4 (w.alloc (.cells #[.int .u8 ((b.toNat : Int))] 5)) p (.bool true) := HP.out.below (below_alloc w _) hplt
               unfold VarAt at hq1 ⊢
               rw [h2.block p (by simp; omega) (fun h => hgp (by simpa [Value.ownBlock] using h.symm))]
               exact hq1
             have HB : Hid (Below B w w2) := by
               refine hid (Below.grown ((below_alloc w (.cells #[.int .u8 ((b.toNat : Int))] 5)).mono (by omega)) h2 (by simp; omega) (fun k hk => ?_))
               exact OwnsB.block HO.out k hk
             have hg2 : g2 ≠ q ∧ g2 ≠ p := by
               rcases h3 with h3 | h3
               · have : g = g2 := by simpa [Value.ownBlock] using h3
                 omega
               · have : g2 = w.heap.size + 1 := by simpa using h3
                 omega
             rw [List.length_map] at h1 ⊢
             rw [show out.length + [T.toNat].length = out.length + 1 from rfl] at h1 ⊢
             have HO2 : Hid (OwnsB w2 B (.slice (some ⟨g2, 0, none⟩) (out.length + 1) cap2) (out ++ [T])) := by
               unfold Hid OwnsB
               simpa using h1
             have HQ := hid hq
             have HP2 := hid hp2
             have HG2 := hid hg2
             obtain ⟨k5, k6⟩ := hq.cells
             clear k3 k4 h1 h2 hq HO HC hp2 h3 hg2)
          | fail)
        have HO3 := hid (show OwnsB (w2.setCell ⟨q, 0, none⟩ (.slice (some ⟨g2, 0, none⟩) (out.length + 1) cap2)) B (.slice (some ⟨g2, 0, none⟩) (out.length + 1) cap2) (out ++ [T]) from ownsRow_setCell_far HO2.out (fun h => HG2.out.1 h.symm) _)
        have HV3 := hid (HQ.out.store (v' := .slice (some ⟨g2, 0, none⟩) (out.length + 1) cap2))
        have HP3 := hid (VarAt.far HP2.out (q := q) (fun h => hpq h) (.slice (some ⟨g2, 0, none⟩) (out.length + 1) cap2))
        have HB3 := hid (HB.out.setCell (p := ⟨q, 0, none⟩) (by simpa using hBq) (.slice (some ⟨g2, 0, none⟩) (out.length + 1) cap2))
        go_returns
        refine ⟨rfl, ⟨⟨g2, cap2, ?_, ?_, HG2.out.1, HG2.out.2, by simpa using h4⟩, HP3.out, hBp, hBq, hpq⟩, HB3.out⟩
        · simpa using HV3.out
        · simpa using HO3.out
    · have HTb : Hid (b = T) := by
        unfold Hid
        rw [HT.out]
        cases signed <;> simp [takeB, plusB, hne]
      clear hne
      go_wp2_with (first
        | (at_builtin
           refine wpList_appL rfl _ _ rfl B (.slice (some ⟨g, 0, none⟩) out.length cap) (out.map UInt8.toNat) rfl (OwnsB.below HO.out (below_alloc w _)) _ [T.toNat] rfl (by simp) (sees_b1 _ _ _ (by rw [← HTb.out])) (by simp; omega) (by simp; omega) ?_
           intro g2 cap2 w2 h1 h2 h3 h4
           have hq : VarAt 75 w2 q (.slice (some ⟨g, 0, none⟩) out.length cap) := by
             have hq1 : VarAt 75 (w.alloc (.cells #[.int .u8 ((b.toNat : Int))] 5)) q (.slice (some ⟨g, 0, none⟩) out.length cap) := HC.out.below (below_alloc w _) hlt
             unfold VarAt at hq1 ⊢
             rw [h2.block q (by simp; omega) (fun h => hgq (by simpa [Value.ownBlock] using h.symm))]
             exact hq1
           have hp2 : VarAt 4 w2 p (.bool true) := by
             have hq1 : VarAt 4 (w.alloc (.cells #[.int .u8 ((b.toNat : Int))] 5)) p (.bool true) := HP.out.below (below_alloc w _) hplt
             unfold VarAt at hq1 ⊢
             rw [h2.block p (by simp; omega) (fun h => hgp (by simpa [Value.ownBlock] using h.symm))]
             exact hq1
           have HB : Hid (Below B w w2) := by
             refine hid (Below.grown ((below_alloc w (.cells #[.int .u8 ((b.toNat : Int))] 5)).mono (by omega)) h2 (by simp; omega) (fun k hk => ?_))
             exact OwnsB.block HO.out k hk
           have hg2 : g2 ≠ q ∧ g2 ≠ p := by
             rcases h3 with h3 | h3
             · have : g = g2 := by simpa [Value.ownBlock] using h3
               omega
             · have : g2 = w.heap.size + 1 := by simpa using h3
               omega
           rw [List.length_map] at h1 ⊢
           rw [show out.length + [T.toNat].length = out.length + 1 from rfl] at h1 ⊢
           have HO2 : Hid (OwnsB w2 B (.slice (some ⟨g2, 0, none⟩) (out.length + 1) cap2) (out ++ [T])) := by
             unfold Hid OwnsB
             simpa using h1
           have HQ := hid hq
           have HP2 := hid hp2
           have HG2 := hid hg2
           obtain ⟨k5, k6⟩ := hq.cells
           clear k3 k4 h1 h2 hq HO HC hp2 h3 hg2)
        | fail)
      have HO3 := hid (show OwnsB (w2.setCell ⟨q, 0, none⟩ (.slice (some ⟨g2, 0, none⟩) (out.length + 1) cap2)) B (.slice (some ⟨g2, 0, none⟩) (out.length + 1) cap2) (out ++ [T]) from ownsRow_setCell_far HO2.out (fun h => HG2.out.1 h.symm) _)
      have HV3 := hid (HQ.out.store (v' := .slice (some ⟨g2, 0, none⟩) (out.length + 1) cap2))
      have HP3 := hid (VarAt.far HP2.out (q := q) (fun h => hpq h) (.slice (some ⟨g2, 0, none⟩) (out.length + 1) cap2))
      have HB3 := hid (HB.out.setCell (p := ⟨q, 0, none⟩) (by simpa using hBq) (.slice (some ⟨g2, 0, none⟩) (out.length + 1) cap2))
      go_returns
      refine ⟨rfl, ⟨⟨g2, cap2, ?_, ?_, HG2.out.1, HG2.out.2, by simpa using h4⟩, HP3.out, hBp, hBq, hpq⟩, HB3.out⟩
      · simpa using HV3.out
      · simpa using HO3.out

end Go.Proofs.YtllhibdjopfcnaaGreatDoor

namespace Go.Proofs.YtllhibdjopfcnaaGreatDoor
open Go.RowKit
set_option linter.unusedVariables false

theorem extract_drop (s : ByteArray) (k : Nat) : (s.extract k s.size).data.toList = s.data.toList.drop k := by
  rw [ByteArray.data_extract, Array.toList_extract]
  simp only [List.extract]
  rw [List.take_of_length_le (by rw [List.length_drop, Array.length_toList]; exact Nat.le_refl _)]
theorem extract_size (s : ByteArray) (k : Nat) (h : k ≤ s.size) : (s.extract k s.size).size = s.size - k := by
  rw [← len_str, extract_drop, List.length_drop, len_str]

theorem dec_signV_some (plus : Bool) {t : List UInt8} {b : UInt8} (h : signV (37 :: t) = some b) :
    3 ≤ (37 :: t).length ∧ dec plus (37 :: t) = (b :: (dec plus ((37 :: t).drop 3)).1, (dec plus ((37 :: t).drop 3)).2.map (· + 3)) := by
  match t with
  | [] => simp [signV] at h
  | [x] => simp [signV] at h
  | x :: y :: r =>
    by_cases hx : 0 ≤ hexD x ∧ 0 ≤ hexD y
    · have : signB x y = b := by simpa [signV, hx] using h
      subst this
      exact ⟨by simp, dec_sign plus r hx.1 hx.2⟩
    · simp [signV, hx] at h
theorem dec_signV_none (plus : Bool) {t : List UInt8} (h : signV (37 :: t) = none) : dec plus (37 :: t) = ([], some 0) := by
  match t with
  | [] => exact dec_short0 plus
  | [x] => exact dec_short1 plus x
  | x :: y :: r =>
    by_cases hx : 0 ≤ hexD x ∧ 0 ≤ hexD y
    · simp [signV, hx] at h
    · exact dec_wrong plus r hx

/-- How far a text was read. -/
def decAt (plus : Bool) (L : List UInt8) (k : Nat) (out : List UInt8) : Prop :=
  dec plus L = (out ++ (dec plus (L.drop k)).1, (dec plus (L.drop k)).2.map (· + k))
theorem decAt_start (plus : Bool) (L : List UInt8) : decAt plus L 0 [] := by
  unfold decAt
  simp
theorem decAt_plain {plus : Bool} {L out : List UInt8} {k : Nat} {b : UInt8} (h : decAt plus L k out) (hd : L.drop k = b :: L.drop (k + 1)) (hb : b ≠ 37) : decAt plus L (k + 1) (out ++ [plusB plus b]) := by
  unfold decAt at *
  rw [h, hd, dec_plain plus _ hb]
  simp only [List.append_assoc, List.singleton_append, Option.map_map, Prod.mk.injEq, true_and]
  congr 1
  funext x
  simp only [Function.comp]
  omega
theorem decAt_sign {plus : Bool} {L out t : List UInt8} {k : Nat} {b : UInt8} (h : decAt plus L k out) (hd : L.drop k = 37 :: t) (hb : signV (37 :: t) = some b) : k + 3 ≤ L.length ∧ decAt plus L (k + 3) (out ++ [b]) := by
  obtain ⟨h1, h2⟩ := dec_signV_some plus hb
  have hl : L.length - k = (37 :: t).length := by rw [← hd, List.length_drop]
  refine ⟨by omega, ?_⟩
  unfold decAt at *
  rw [h, hd, h2, ← hd, List.drop_drop]
  simp only [List.append_assoc, List.singleton_append, Option.map_map, Prod.mk.injEq, true_and]
  congr 1
  funext x
  simp only [Function.comp]
  omega
theorem decAt_wrong {plus : Bool} {L out t : List UInt8} {k : Nat} (h : decAt plus L k out) (hd : L.drop k = 37 :: t) (hb : signV (37 :: t) = none) : dec plus L = (out, some k) := by
  unfold decAt at h
  rw [h, hd, dec_signV_none plus hb]
  simp
theorem decAt_end {plus : Bool} {L out : List UInt8} {k : Nat} (h : decAt plus L k out) (hk : L.length ≤ k) : dec plus L = (out, none) := by
  unfold decAt at h
  rw [h, List.drop_eq_nil_of_le hk, dec_nil]
  simp
theorem ne37 {b : UInt8} (h : ((b.toNat : Int) != 37) = true) : b ≠ 37 := by
  intro e
  rw [e] at h
  exact absurd h (by decide)
theorem is37 {b : UInt8} (h : ¬ ((b.toNat : Int) != 37) = true) : b = 37 := by
  have : (b.toNat : Int) = 37 := by simpa using h
  have := byte_eq (b := b) (n := 37) (by omega)
  simpa using this

set_option maxRecDepth 20000 in
set_option maxHeartbeats 1000000 in
theorem walkD_any (s : ByteArray) (plus : Bool) (B p q : Nat) (w : World) (hS : DecS w B p q plus []) (hs : s.size + 1 ≤ 140737488355328) :
    Calls Tryz.prog 85 #[.string s, .func (.func 86) #[] #[.pointer (some ⟨p, 0, none⟩), .pointer (some ⟨q, 0, none⟩)]] w fun e w' => e = .returned (.tuple #[.int .i64 (((dec plus s.data.toList).2.getD 0 : Nat) : Int), .bool (dec plus s.data.toList).2.isNone]) ∧ DecS w' B p q plus (dec plus s.data.toList).1 ∧ Below B w w' := by
  obtain ⟨R, hR⟩ : ∃ R, R = dec plus s.data.toList := ⟨_, rfl⟩
  rw [← hR]
  have HR := hid hR
  have HS := hid hS
  clear hR hS
  go_enter Tryz.func85, Tryz.ntmps85
  go_wp2_with fail
  go_loopw [4] (fun i wr => ∃ (k : Nat) (out : List UInt8), k ≤ s.size ∧ i = .int .i64 (k : Int) ∧ out.length ≤ k ∧ decAt plus s.data.toList k out ∧ DecS wr B p q plus out ∧ Below B w wr) (fun i _ => s.size - (intOf i).toNat)
  case atStart => exact ⟨0, [], Nat.zero_le _, rfl, Nat.le_refl _, decAt_start _ _, HS.out, Below.refl _ _⟩
  clear HS
  case round =>
    obtain ⟨k, out, hk, rfl, hol, hD, hS, hB⟩ := hrel
    by_cases hlt : k < s.size
    · have hlt' : (k : Int) < (s.size : Int) := by omega
      have hd := drop_byte s k hlt
      obtain ⟨b, hb⟩ : ∃ b, b = s[k]'hlt := ⟨_, rfl⟩
      have hbs := hb.symm
      rw [hbs] at hd
      have HD := hid hD
      have Hd := hid hd
      have HB := hid hB
      clear hb hd hD
      by_cases h37 : ((b.toNat : Int) != 37) = true
      · have hT := take_any b false plus B p q out wr hS (by omega)
        have HN := hid (decAt_plain HD.out Hd.out (ne37 h37))
        clear HD Hd hS hB
        go_wp2_with fail
        refine hT.mono ?_
        clear hT
        rintro e w1 ⟨rfl, hS2, hB2⟩
        rw [takeB_false] at hS2
        have HS2 := hid hS2
        have HB2 := hid (HB.out.trans hB2)
        clear hS2 hB2 HB
        go_wp2
        go_roundw
        case rel => exact ⟨k + 1, _, by omega, by go_num, by simp; omega, HN.out, HS2.out, HB2.out⟩
        case measure => simp [intOf]; omega
      · have hb37 := is37 h37
        have h37' : ((b.toNat : Int) != 37) = false := by simpa using h37
        have hSg := sign_any (s.extract k s.size) wr
        rw [extract_drop, Hd.out, hb37] at hSg
        rw [hb37] at Hd
        have HS := hid hS
        have HW := hid (fun h => decAt_wrong HD.out Hd.out h)
        have HG := hid (fun b h => decAt_sign (b := b) HD.out Hd.out h)
        have hl1 : (k : Int) ≤ (s.size : Int) := by omega
        clear HD Hd hS hB hb37
        obtain ⟨V, hV⟩ : ∃ V, V = signV (37 :: s.data.toList.drop (k + 1)) := ⟨_, rfl⟩
        rw [← hV] at hSg HW HG
        clear hV
        go_wp2_with fail
        refine hSg.mono ?_
        clear hSg
        rintro e w1 ⟨rfl, n, hw1⟩
        have hB1 : Below B wr w1 := by rw [hw1]; exact below_drewN' _ _ _
        have hS1 : DecS w1 B p q plus out := by rw [hw1]; exact HS.out.drewN n
        have HB1 := hid (HB.out.trans hB1)
        clear hw1 HS HB hB1
        cases V with
        | none =>
          have HE := hid (HW.out rfl)
          have HS1 := hid hS1
          clear HW HG hS1
          go_wp2
          go_ret2
          refine ⟨?_, ?_, HB1.out⟩
          · rw [HR.out, HE.out]; rfl
          · rw [HR.out, HE.out]; exact HS1.out
        | some c =>
          obtain ⟨hg1, hg2⟩ := HG.out c rfl
          rw [len_str] at hg1
          have HN := hid hg2
          have hT := take_any c true plus B p q out w1 hS1 (by omega)
          rw [takeB_true] at hT
          clear HW HG hS1 hg2
          go_wp2_with fail
          refine hT.mono ?_
          clear hT
          rintro e w2 ⟨rfl, hS2, hB2⟩
          have HS2 := hid hS2
          have HB2 := hid (HB1.out.trans hB2)
          clear hS2 hB2 HB1
          go_wp2
          go_roundw
          case rel => exact ⟨k + 3, _, by omega, by go_num, by simp; omega, HN.out, HS2.out, HB2.out⟩
          case measure => simp [intOf]; omega
    · have hlt' : ¬ (k : Int) < (s.size : Int) := by omega
      have HE := hid (decAt_end hD (by rw [len_str]; omega))
      have HS := hid hS
      have HB := hid hB
      clear hD hS hB
      go_wp2
      go_ret2
      refine ⟨?_, ?_, HB.out⟩
      · rw [HR.out, HE.out]; rfl
      · rw [HR.out, HE.out]; exact HS.out

theorem nop_any (b : UInt8) (signed : Bool) (w : World) : Calls Tryz.prog 87 #[.int .u8 (b.toNat : Int), .bool signed] w fun e w' => e = .returned (.tuple #[]) ∧ w = w' := by
  go_enter Tryz.func87, Tryz.ntmps87
  go_wp2
  go_returns
  exact ⟨rfl, rfl⟩

set_option maxRecDepth 20000 in
set_option maxHeartbeats 1000000 in
theorem walkF_any (s : ByteArray) (w : World) (hs : s.size + 1 ≤ 140737488355328) :
    Calls Tryz.prog 85 #[.string s, .func (.func 87) #[] #[]] w fun e w' => e = .returned (.tuple #[.int .i64 (((dec true s.data.toList).2.getD 0 : Nat) : Int), .bool (dec true s.data.toList).2.isNone]) ∧ ∃ n, w' = w.drewN n := by
  obtain ⟨R, hR⟩ : ∃ R, R = dec true s.data.toList := ⟨_, rfl⟩
  rw [← hR]
  have HR := hid hR
  clear hR
  go_enter Tryz.func85, Tryz.ntmps85
  go_wp2_with fail
  go_loopw [4] (fun i wr => ∃ (k : Nat) (out : List UInt8), k ≤ s.size ∧ i = .int .i64 (k : Int) ∧ decAt true s.data.toList k out ∧ ∃ n, wr = w.drewN n) (fun i _ => s.size - (intOf i).toNat)
  case atStart => exact ⟨0, [], Nat.zero_le _, rfl, decAt_start _ _, 0, rfl⟩
  case round =>
    obtain ⟨k, out, hk, rfl, hD, n, hn⟩ := hrel
    have Hn := hid hn
    clear hn
    by_cases hlt : k < s.size
    · have hlt' : (k : Int) < (s.size : Int) := by omega
      have hd := drop_byte s k hlt
      obtain ⟨b, hb⟩ : ∃ b, b = s[k]'hlt := ⟨_, rfl⟩
      have hbs := hb.symm
      rw [hbs] at hd
      have HD := hid hD
      have Hd := hid hd
      clear hb hd hD
      by_cases h37 : ((b.toNat : Int) != 37) = true
      · have hT := nop_any b false wr
        have HN := hid (decAt_plain HD.out Hd.out (ne37 h37))
        clear HD Hd
        go_wp2_with fail
        refine hT.mono ?_
        clear hT
        rintro e w1 ⟨rfl, hw1⟩
        subst hw1
        go_wp2
        go_roundw
        case rel => exact ⟨k + 1, _, by omega, by go_num, HN.out, n, Hn.out⟩
        case measure => simp [intOf]; omega
      · have hb37 := is37 h37
        have h37' : ((b.toNat : Int) != 37) = false := by simpa using h37
        have hS := sign_any (s.extract k s.size) wr
        rw [extract_drop, Hd.out, hb37] at hS
        rw [hb37] at Hd
        have HW := hid (fun h => decAt_wrong HD.out Hd.out h)
        have HG := hid (fun b h => decAt_sign (b := b) HD.out Hd.out h)
        have hl1 : (k : Int) ≤ (s.size : Int) := by omega
        clear HD Hd hb37
        obtain ⟨V, hV⟩ : ∃ V, V = signV (37 :: s.data.toList.drop (k + 1)) := ⟨_, rfl⟩
        rw [← hV] at hS HW HG
        clear hV
        go_wp2_with fail
        refine hS.mono ?_
        clear hS
        rintro e w1 ⟨rfl, n1, hw1⟩
        have Hw1 := hid hw1
        clear hw1
        cases V with
        | none =>
          have HE := hid (HW.out rfl)
          clear HW HG
          go_wp2
          go_ret2
          refine ⟨?_, n + n1, ?_⟩
          · rw [HR.out, HE.out]; rfl
          · rw [Hw1.out, Hn.out, World.drewN_drewN]
        | some c =>
          obtain ⟨hg1, hg2⟩ := HG.out c rfl
          rw [len_str] at hg1
          have HN := hid hg2
          have hT := nop_any c true w1
          clear HW HG hg2
          go_wp2_with fail
          refine hT.mono ?_
          clear hT
          rintro e w2 ⟨rfl, hw2⟩
          subst hw2
          go_wp2
          go_roundw
          case rel => exact ⟨k + 3, _, by omega, by go_num, HN.out, n + n1, by rw [Hw1.out, Hn.out, World.drewN_drewN]⟩
          case measure => simp [intOf]; omega
    · have hlt' : ¬ (k : Int) < (s.size : Int) := by omega
      have HE := hid (decAt_end hD (by rw [len_str]; omega))
      clear hD
      go_wp2
      go_ret2
      refine ⟨?_, n, Hn.out⟩
      rw [HR.out, HE.out]; rfl

end Go.Proofs.YtllhibdjopfcnaaGreatDoor
