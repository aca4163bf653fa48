/-
  appendEncoded of the code once more, with what it leaves alone.
-/
import Derived.Test.YtomjclkijakcpaaDoorDecB
namespace Go.Proofs.YtomjclkijakcpaaDoor
open Go.RowKit
set_option linter.unusedVariables false

theorem step_appL {w : World} {ops : Array Oper} {o : Oper} {a : Act} {K : Act → World → Prop} {Q : Exit → Act → World → Prop} {E : Prop} (hgd : o.guard = none) (s x : Operand)
    (ho : o.op = .call { callee := .builtin .append, args := #[s, x], argTypes := #[38, 38] }) (base : Nat) (v : Value) (xs : List Nat) (hs : a.eval s = v) (hown : OwnsN .u8 5 w base v xs)
    (u : Value) (ys : List Nat) (hx : a.eval x = u) (hne : ys ≠ []) (hsee : SeesN .u8 w u ys) (hb : (xs.length + ys.length) * 1 ≤ 140737488355328) (hbase : base ≤ w.heap.size)
    (h : ∀ g cap w', OwnsN .u8 5 w' base (.slice (some ⟨g, 0, none⟩) (xs.length + ys.length) cap) (xs ++ ys) → w.grownBy w' v.ownBlock → (v.ownBlock = some g ∨ g = w.heap.size) → g < w'.heap.size → K (a.put o.dst (.slice (some ⟨g, 0, none⟩) (xs.length + ys.length) cap)) w') :
    if Region.wanted o (yielded ops a.tmps) = true then Oper.wp Tryd.prog o a w K Q else E := by
  have hw : Region.wanted o (yielded ops a.tmps) = true := by simp [Region.wanted, hgd]
  rw [if_pos hw]
  obtain ⟨i0, hi, hz0, hz1, hz2⟩ := info_parts Tryd.info5
  have hmx : xs.length + ys.length ≤ maxLen := by simp only [maxLen]; omega
  obtain ⟨b, off, ao, cap, rfl, hcap, hnil, hao, hcell⟩ := hsee
  obtain rfl := hao hne
  have hpl : 0 < ys.length := List.length_pos_iff.2 hne
  refine wp_append_lies w s x 38 ho base 5 i0 (.int .u8 0) 1 1 Tryd.underlying38 hi hz0 hz1 hz2 rfl (by decide) v _ _ hs hown ⟨b, off, none⟩ ys.length cap (cellsN .u8 ys) hx (by simp [cellsN_len]) (fun j y hj => by
      have hjl : j < ys.length := by
        have := (List.getElem?_eq_some_iff.1 hj).1
        simpa [cellsN_len] using this
      rw [addr_add, hcell j hjl]
      rw [cellsN_get .u8 ys j hjl] at hj
      exact hj) (cellsN_one .u8 ys) hpl hmx hb hbase _ rfl ?_
  intro g cap' w' h1 h2 h3 h4
  exact h g cap' w' (by simpa [OwnsN, cellsN_app] using h1) h2 h3 h4

theorem grownBy_ad (w : World) (o : Obj) (row : Option Nat) : w.grownBy (w.alloc o).drew row := ⟨rfl, rfl, rfl, (below_alloc w o).size, fun k hk _ => (below_alloc w o).block k hk⟩
theorem grownBy_refl (w : World) (row : Option Nat) : w.grownBy w row := ⟨rfl, rfl, rfl, Nat.le_refl _, fun _ _ _ => rfl⟩
/-- Where a row may lie behind a call that was handed one at r. -/
def Lies (w : World) (r : Option Nat) (v : Value) : Prop := ∀ j, v.ownBlock = some j → r = some j ∨ w.heap.size ≤ j
theorem lies_step {w wr w2 w3 : World} {r : Option Nat} {u : Value} {g n cap : Nat} (hL : Lies w r u) (hG : w.grownBy wr r) (hA : wr.grownBy w2 u.ownBlock) (hW : u.ownBlock = some g ∨ g = w2.heap.size) (hG2 : w2.grownBy w3 u.ownBlock) :
    Lies w r (.slice (some ⟨g, 0, none⟩) n cap) ∧ w.grownBy w3 r := by
  refine ⟨fun j hj => ?_, ?_⟩
  · have : g = j := by simpa [Value.ownBlock] using hj
    subst this
    rcases hW with h | h
    · exact hL g h
    · have := hG.size
      have := hA.size
      exact Or.inr (by omega)
  · refine grownBy_mono hG (grownBy_mono hA hG2 (Or.inl rfl)) ?_
    cases hu : u.ownBlock with
    | none => exact Or.inr (fun j hj => by cases hj)
    | some j =>
      rcases hL j hu with h | h
      · exact Or.inl h.symm
      · exact Or.inr (fun j' hj' => by cases hj'; exact h)

set_option maxRecDepth 20000 in
set_option maxHeartbeats 1000000 in
theorem appendEncodedP_any (s : ByteArray) (v : Value) (xs : List UInt8) (w : World) (B : Nat) (hO : OwnsB w B v xs) (hB : B ≤ w.heap.size) (hlen : xs.length + 3 * s.size ≤ 140737488355328) :
    Calls Tryd.prog 18 #[v, .string s] w fun e w' => ∃ v', e = .returned v' ∧ OwnsB w' B v' (xs ++ enc s.data.toList) ∧ w.grownBy w' v.ownBlock ∧ Lies w v.ownBlock v' := by
  have HO0 := hid hO
  clear hO
  go_enter Tryd.func18, Tryd.ntmps18
  go_wp2_with fail
  go_loopw [0, 8] (fun u i wr => ∃ (k : Nat) (ys : List UInt8), k ≤ s.size ∧ i = .int .i64 (k : Int) ∧ ys = xs ++ enc (s.data.toList.take k) ∧ OwnsB wr B u ys ∧ w.grownBy wr v.ownBlock ∧ Lies w v.ownBlock u) (fun _ i _ => s.size - (intOf i).toNat)
  case atStart => exact ⟨0, xs, Nat.zero_le _, rfl, by simp [enc], HO0.out, grownBy_refl _ _, fun j hj => Or.inl hj⟩
  clear HO0
  case round =>
    obtain ⟨k, ys, hk, rfl, hys, hO, hBl, hLi⟩ := hrel
    have HLi := hid hLi
    clear hLi
    have hsw : B ≤ wr.heap.size := Nat.le_trans hB hBl.size
    by_cases hlt : k < s.size
    · have hlt' : (k : Int) < (s.size : Int) := by omega
      have hyl : ys.length + 3 ≤ 140737488355328 := by
        have := enc_pre s k
        rw [hys, List.length_append]
        omega
      have hN : ∀ zs, zs = enc1 (s[k]'hlt) → ys ++ zs = xs ++ enc (s.data.toList.take (k + 1)) := by
        intro zs hz
        rw [hz, enc_take s k hlt, hys, List.append_assoc]
      obtain ⟨b, hb⟩ : ∃ b, b = s[k]'hlt := ⟨_, rfl⟩
      have hP := plain_any b wr
      have i1 := index_byte s .i64 (k : Int) k rfl hlt
      rw [← hb] at hN i1
      have HN := hid hN
      have HO := hid hO
      have HBl := hid hBl
      obtain ⟨ao, cap, rfl⟩ := hO.shape
      clear hys hO hBl hN
      cases hp : plainB b
      · rw [hp] at hP
        have e1 := enc1_sign hp
        have lb := b.toNat_lt
        have i2 := index_dig .u8 ((b.toNat : Int) / 16) (b.toNat / 16) (by omega) (by omega)
        have i3 := index_dig .u8 (bits .and .u8 (b.toNat : Int) 15) (b.toNat % 16) (by rw [show (15 : Int) = ((15 : Nat) : Int) from rfl, u8_and_nat _ _ lb (by decide), show b.toNat &&& 15 = b.toNat % 16 from Nat.and_two_pow_sub_one_eq_mod b.toNat 4]) (by omega)
        have HE := hid (HN.out _ e1.symm)
        clear HN e1 hp
        clear hb
        go_wp2_with fail
        refine hP.mono ?_
        clear hP
        rintro e w1 ⟨rfl, hw1⟩
        subst hw1
        go_wp2_with fail
        go_region_held3 (fun _ => True) (trivial)
          (first | (refine step_appL (by rfl) _ _ (by rfl) B (.slice ao ys.length cap) (ys.map UInt8.toNat) (by rfl) ?ho _ [37, (hexU (b.toNat / 16)).toNat, (hexU (b.toNat % 16)).toNat] (by rfl) (by simp) (sees_b3 wr _ _ _ 37 _ _ rfl rfl rfl) (by simp; omega) (by simp; omega) ?_; (case ho => exact HO.out.below (below_ad wr _)); intro g4 cap4 w4 hO4 hG4 hW4 hL4))
        all_goals
          obtain ⟨v4, hv4⟩ : ∃ x, x = Value.slice (some ⟨g4, 0, none⟩) (ys.length + 3) cap4 := ⟨_, rfl⟩
          have HO4 : Hid (OwnsB w4 B v4 (xs ++ enc (s.data.toList.take (k + 1)))) := by
            unfold Hid OwnsB
            rw [← HE.out, hv4]
            simpa using hO4
          have HB4 : Hid (Lies w v.ownBlock v4 ∧ w.grownBy w4 v.ownBlock) := by
            rw [hv4]
            exact hid (lies_step HLi.out HBl.out (grownBy_ad wr _ _) hW4 hG4)
          rw [← hv4]
          clear hO4 hG4 hW4 hL4 hv4
          go_wp2
          go_roundw
          case rel => exact ⟨k + 1, _, by omega, by go_num, rfl, HO4.out, HB4.out.2, HB4.out.1⟩
          case measure => simp [intOf]; omega
      · rw [hp] at hP
        have e1 := enc1_plain hp
        have HE := hid (HN.out _ e1.symm)
        clear HN e1 hp
        clear hb
        go_wp2_with fail
        refine hP.mono ?_
        clear hP
        rintro e w1 ⟨rfl, hw1⟩
        subst hw1
        go_wp2_with (first
          | (at_builtin
             refine wpList_appL rfl _ _ rfl B (.slice ao ys.length cap) (ys.map UInt8.toNat) rfl (HO.out.below (below_alloc wr _)) _ [b.toNat] rfl (by simp) (sees_b1 _ _ _ rfl) (by simp; omega) (by simp; omega) ?_
             intro g4 cap4 w4 hO4 hG4 hW4 hL4
             obtain ⟨v4, hv4⟩ : ∃ x, x = Value.slice (some ⟨g4, 0, none⟩) ((ys.map UInt8.toNat).length + [b.toNat].length) cap4 := ⟨_, rfl⟩
             have HO4 : Hid (OwnsB w4 B v4 (xs ++ enc (s.data.toList.take (k + 1)))) := by
               unfold Hid OwnsB
               rw [← HE.out, hv4]
               simpa using hO4
             have HB4 : Hid (Lies w v.ownBlock v4 ∧ w.grownBy w4 v.ownBlock) := by
               rw [hv4]
               exact hid (lies_step HLi.out HBl.out (World.grownBy_alloc wr _ _) hW4 hG4)
             rw [← hv4]
             clear hO4 hG4 hW4 hL4 hv4)
          | fail)
        go_roundw
        case rel => exact ⟨k + 1, _, by omega, by go_num, rfl, HO4.out, HB4.out.2, HB4.out.1⟩
        case measure => simp [intOf]; omega
    · have hks : k = s.size := by omega
      have hlt' : ¬ (k : Int) < (s.size : Int) := by omega
      rw [hks, List.take_of_length_le (by rw [len_str]; exact Nat.le_refl _)] at hys
      have HY := hid hys
      have HO := hid hO
      have HBl := hid hBl
      clear hys hO hBl hks
      go_wp2
      go_ret
      exact ⟨_, rfl, by rw [← HY.out]; exact HO.out, HBl.out, HLi.out⟩

end Go.Proofs.YtomjclkijakcpaaDoor
