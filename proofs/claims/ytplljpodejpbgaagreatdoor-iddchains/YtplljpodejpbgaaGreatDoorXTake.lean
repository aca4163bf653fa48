/-
  take: a progress takes a text's bytes.
-/
import Derived.Test.YtplljpodejpbgaaGreatDoorXTakeA
namespace Go.Proofs.YtplljpodejpbgaaGreatDoor
open Go.RowKit
set_option linter.unusedVariables false
set_option maxRecDepth 100000

def strLen : Value → Nat
  | .string s => s.size
  | _ => 0

/-- The copy of what fits into the block. -/
theorem take_copy {g : Nat} {pre : List Value} {t : TypeId} {m2 : List Nat} {s2 : ByteArray} {w wr : World} {a n : Nat} (hP : PM wr g pre t m2) (hG : w.grownBy wr (some g)) (ha : a = m2.length % 64) (hn : n = Nat.min s2.size (64 - a)) :
    ∃ w2, (Builtin.copy_ #[111, 9] 3 #[.slice (some ⟨g, pre.length + 8 + a, none⟩) (64 - a) (64 - a), .string s2]).run Tryz.prog wr = .ok (.int .i64 (n : Int)) w2 ∧
      PAt w2 g pre t (stOf H0 K0 m2) ((blOf m2).take a ++ (bytesOf s2).take n ++ (blOf m2).drop (a + n)) m2.length ∧ w.grownBy w2 (some g) := by
  have hle : n ≤ s2.size := by rw [hn]; exact Nat.min_le_left _ _
  have hle2 : n ≤ 64 - a := by rw [hn]; exact Nat.min_le_right _ _
  have ha64 : a < 64 := by omega
  have hxl : ((bytesOf s2).take n).length = n := by rw [List.length_take, bytesOf_len]; omega
  have hr := run_copyS (P := Tryz.prog) wr 111 9 3 5 g (pre.length + 8 + a) (64 - a) (64 - a) n s2 _ t Tryz.underlying111 Tryz.info5s hP.1.1 hn.symm (by simp [P3_len hP.1.2.1 hP.1.2.2]; omega)
  have hs := hP.1.splice (x := (bytesOf s2).take n) (at' := a) (by omega)
  rw [hxl] at hs
  exact ⟨_, hr, hs, grown_setRow hG _⟩

theorem PM.less {w : World} {g : Nat} {pre : List Value} {t : TypeId} {m x : List Nat} (h : PAt w g pre t (stOf H0 K0 m) ((blOf m).take (m.length % 64) ++ x ++ (blOf m).drop (m.length % 64 + x.length)) (m.length + x.length)) (hl : m.length % 64 + x.length < 64) (hm : ∀ y ∈ m, y < 256) (hx : ∀ y ∈ x, y < 256) : PM w g pre t (m ++ x) := by
  obtain ⟨e1, e2⟩ := take_less H0 K0 m x hl
  refine ⟨?_, fun y hy => (List.mem_append.1 hy).elim (hm y) (hx y)⟩
  rw [e1, e2, List.length_append]
  exact h
theorem PM.full {w : World} {g : Nat} {pre : List Value} {t : TypeId} {m x : List Nat} (h : PAt w g pre t (comp K0 (stOf H0 K0 m) ((blOf m).take (m.length % 64) ++ x)) (List.replicate 64 0) (m.length + x.length)) (hl : m.length % 64 + x.length = 64) (hm : ∀ y ∈ m, y < 256) (hx : ∀ y ∈ x, y < 256) : PM w g pre t (m ++ x) := by
  obtain ⟨e1, e2⟩ := take_full H0 K0 m x hl
  refine ⟨?_, fun y hy => (List.mem_append.1 hy).elim (hm y) (hx y)⟩
  rw [e1, e2, List.length_append]
  exact h

theorem zeros_cells : (cellsN .u8 (List.replicate 64 0)).length = 64 := by rw [cellsN_len, List.length_replicate]
theorem PAt.zero {w : World} {g : Nat} {pre : List Value} {t : TypeId} {st bl : List Nat} {n : Nat} (h : PAt w g pre t st bl n) :
    PAt (w.setRow g ((pre ++ P3 st bl n).toArray.toList.take (pre.length + 8) ++ (cellsN .u8 (List.replicate 64 0)).toArray.toList ++ (pre ++ P3 st bl n).toArray.toList.drop (pre.length + 8 + (cellsN .u8 (List.replicate 64 0)).toArray.size)).toArray) g pre t st (List.replicate 64 0) n := by
  have h2 := h.splice (x := List.replicate 64 0) (at' := 0) (by decide)
  have e : bl.take 0 ++ List.replicate 64 0 ++ bl.drop (0 + (List.replicate 64 0).length) = List.replicate 64 0 := by
    rw [List.take_zero, List.nil_append, List.drop_of_length_le (by rw [h.2.2, List.length_replicate]; decide), List.append_nil]
  rw [e, Nat.add_zero, List.length_replicate] at h2
  rw [List.size_toArray, zeros_cells]
  exact h2

set_option maxRecDepth 100000 in
set_option maxHeartbeats 2000000 in
theorem take_any (g : Nat) (pre : List Value) (t : TypeId) (m : List Nat) (s : ByteArray) (w : World) (hP : PM w g pre t m) (hR : Rounds w) (hg0 : g ≠ 0) (hlen : m.length + s.size ≤ 1152921504606846976) :
    Calls Tryz.prog 88 #[.pointer (some ⟨g, pre.length, none⟩), .string s] w fun e w' => e = .returned (.tuple #[]) ∧ PM w' g pre t (m ++ bytesOf s) ∧ w.grownBy w' (some g) := by
  obtain ⟨o, ho⟩ : ∃ o, o = pre.length := ⟨_, rfl⟩
  rw [← ho]
  have HO := hid ho
  have HR := hid hR
  have HP := hid hP
  clear hP ho hR
  go_enter Tryz.func88, Tryz.ntmps88
  go_wp2_with fail
  go_loopw [1] (fun v wr => ∃ (m2 : List Nat) (s2 : ByteArray), v = .string s2 ∧ PM wr g pre t m2 ∧ w.grownBy wr (some g) ∧ m2 ++ bytesOf s2 = m ++ bytesOf s) (fun v _ => strLen v)
  case atStart => exact ⟨m, s, rfl, HP.out, grown_refl _ _, rfl⟩
  case round =>
    obtain ⟨m2, s2, rfl, hP, hG, hms⟩ := hrel
    have hl2 : m2.length + s2.size = m.length + s.size := by
      have := congrArg List.length hms
      simpa [bytesOf_len] using this
    by_cases hlt : 0 < s2.size
    · obtain ⟨L, hL⟩ : ∃ L, L = m2.length := ⟨_, rfl⟩
      obtain ⟨a, ha⟩ : ∃ a, a = m2.length % 64 := ⟨_, rfl⟩
      obtain ⟨n, hn⟩ : ∃ n, n = Nat.min s2.size (64 - a) := ⟨_, rfl⟩
      have hn1 : n ≤ s2.size := by rw [hn]; exact Nat.min_le_left _ _
      have hn2 : n ≤ 64 - a := by rw [hn]; exact Nat.min_le_right _ _
      have hat : (L : Int) % 64 = (a : Int) := by omega
      have ha64 : a < 64 := by omega
      have hn0 : 0 < n := by
        have : s2.size ≤ 64 - a ∨ 64 - a ≤ s2.size := Nat.le_total _ _
        rw [hn]
        show 0 < min s2.size (64 - a)
        rcases this with h | h
        · rw [Nat.min_eq_left h]; exact hlt
        · rw [Nat.min_eq_right h]; omega
      have haI : (a : Int) ≤ 64 := by omega
      have ct := hP.1.taken
      rw [← hL, ← HO.out] at ct
      have hLb : L ≤ 1152921504606846976 := by omega
      obtain ⟨w2, hr, hP2, hG2⟩ := take_copy hP hG ha hn
      rw [← HO.out] at hr
      have ct2 := hP2.taken
      rw [← hL, ← HO.out] at ct2
      have fz2 := hP2.warm (o + 72)
      have hm2 := hP.2
      have hLn : (L : Int) + (n : Int) = ((m2.length + n : Nat) : Int) := by omega
      have hP3 := hP2.setTaken (m2.length + n)
      rw [← HO.out, ← hLn] at hP3
      have hG3 := grown_set hG2 (o + 72) (.int .i64 ((L : Int) + (n : Int)))
      have hxl : ((bytesOf s2).take n).length = n := by rw [List.length_take, bytesOf_len]; omega
      have hx256 : ∀ y ∈ (bytesOf s2).take n, y < 256 := fun y hy => bytesOf_lt s2 y (List.mem_of_mem_take hy)
      have hrest : m2 ++ (bytesOf s2).take n ++ bytesOf (s2.extract n s2.size) = m ++ bytesOf s := by
        rw [bytesOf_extract s2 n hn1, List.append_assoc, List.take_append_drop]; exact hms
      have HP3 := hid hP3
      have HG3 := hid hG3
      have HXL := hid hxl
      have HX := hid hx256
      have HREST := hid hrest
      have HM2 := hid hm2
      have HL := hid hL
      have HA := hid ha
      have hsz : (s2.extract n s2.size).size < s2.size := by simp; omega
      have HSZ := hid hsz
      clear hP hG hms hL ha hn hP2 hG2 hm2 hLn hP3 hG3 hxl hx256 hrest hsz HP
      by_cases hfull : a + n = 64
      · have hb : ((L : Int) % 64 + (n : Int) == 64) = true := by rw [hat]; simp; omega
        have HF := hid hfull
        have hbl : ∀ i, ((blOf m2).take a ++ (bytesOf s2).take n ++ (blOf m2).drop (a + n)).getD i 0 < 256 := getD_lt (by decide) fun y hy => by
          rcases List.mem_append.1 hy with h | h
          · rcases List.mem_append.1 h with h | h
            · exact blOf_lt HM2.out y (List.mem_of_mem_take h)
            · exact HX.out y h
          · exact blOf_lt HM2.out y (List.mem_of_mem_drop h)
        have hmix := mix_any g pre t _ _ _ _ HP3.out (HR.out.grown HG3.out hg0) hg0 (stOf_words H0_words) hbl
        rw [← HO.out] at hmix
        have HMix := hid hmix
        clear hmix hfull hbl
        go_wp2_with fail
        refine HMix.out.mono ?_
        clear HMix
        rintro e w4 ⟨rfl, hP4, hG4⟩
        have hbe : (blOf m2).take a ++ (bytesOf s2).take n ++ (blOf m2).drop (a + n) = (blOf m2).take a ++ (bytesOf s2).take n := by
          rw [HF.out, List.drop_of_length_le (by rw [blOf_len]; decide), List.append_nil]
        have hz := hP4.zero
        have hfit : o + 8 + (cellsN .u8 (List.replicate 64 0)).toArray.size ≤ (pre ++ P3 (comp K0 (stOf H0 K0 m2) ((blOf m2).take a ++ (bytesOf s2).take n ++ (blOf m2).drop (a + n))) ((blOf m2).take a ++ (bytesOf s2).take n ++ (blOf m2).drop (a + n)) (m2.length + n)).toArray.size := by
          rw [List.size_toArray, List.size_toArray, zeros_cells, List.length_append, P3_len hP4.2.1 hP4.2.2, HO.out]; omega
        have hc4 := hP4.1
        have hG5 := xgrownBy_mono HG3.out hG4 (Or.inl rfl)
        have hG6 : ∀ cs, w.grownBy (w4.setRow g cs) (some g) := fun cs => grown_setRow hG5 cs
        rw [← HO.out] at hz
        have HZ := hid hz
        have HFit := hid hfit
        have HC4 := hid hc4
        have HG6 := hid hG6
        have HBE := hid hbe
        have hsz40 : (Tryz.prog.info? 140).map (·.size) = some (cellsN .u8 (List.replicate 64 0)).toArray.size := by rw [List.size_toArray, zeros_cells]; exact Tryz.size140
        have HSZ4 := hid hsz40
        have HOC := hid (all_oneCell_toArray (cellsN_one .u8 (List.replicate 64 0)))
        clear hP4 hG4 hz hfit hc4 hG5 hG6 hbe hsz40
        go_wp2_with (first | (refine wpList_store_in rfl 140 _ _ rfl g (o + 8) (cellsN .u8 (List.replicate 64 0)).toArray rfl rfl t _ HC4.out HSZ4.out HFit.out HOC.out ?_; generalize hw5 : (World.setRow w4 g _) = w5; have HW5 := hid hw5; clear hw5))
        have hG5 : w.grownBy w5 (some g) := by rw [← HW5.out]; exact HG6.out _
        have hP5 : PAt w5 g pre t (comp K0 (stOf H0 K0 m2) ((blOf m2).take a ++ (bytesOf s2).take n)) (List.replicate 64 0) (m2.length + n) := by
          have h := HZ.out
          rw [HW5.out, HBE.out] at h
          exact h
        clear HZ HW5 HC4 HFit HG6
        have HP5 := hid hP5
        have HG5 := hid hG5
        clear hP5 hG5
        go_wp2
        go_roundw
        case rel =>
          have hpm : PM w5 g pre t (m2 ++ (bytesOf s2).take n) := by
            refine PM.full ?_ ?_ HM2.out HX.out
            · rw [HXL.out, ← HA.out]; exact HP5.out
            · rw [HXL.out, ← HA.out]; exact HF.out
          exact ⟨_, hpm, HG5.out, HREST.out⟩
        case measure => exact HSZ.out
      · have hb : ((L : Int) % 64 + (n : Int) == 64) = false := by rw [hat]; simp; omega
        go_wp2_with fail
        go_roundw
        case rel =>
          have hp := HP3.out
          have hpm : PM (w2.setCell ⟨g, o + 72, none⟩ (.int .i64 ((L : Int) + (n : Int)))) g pre t (m2 ++ (bytesOf s2).take n) := by
            refine PM.less ?_ ?_ HM2.out HX.out
            · rw [HXL.out, ← HA.out]; exact hp
            · rw [HXL.out, ← HA.out]; omega
          exact ⟨_, _, rfl, hpm, HG3.out, HREST.out⟩
        case measure => exact HSZ.out
    · have h0 : bytesOf s2 = [] := List.eq_nil_of_length_eq_zero (by rw [bytesOf_len]; omega)
      rw [h0, List.append_nil] at hms
      have HP2 := hid hP
      have HG2 := hid hG
      have HMS := hid hms
      clear hP hG hms h0
      go_wp2
      go_returns
      exact ⟨rfl, by rw [← HMS.out]; exact HP2.out, HG2.out⟩
end Go.Proofs.YtplljpodejpbgaaGreatDoor
