/-
  walk with the closures of Decode and Form; Decode.
-/
import Derived.Test.YtllhibdjopfcnaaGreatDoorDecB
namespace Go.Proofs.YtllhibdjopfcnaaGreatDoor
open Go.RowKit
set_option linter.unusedVariables false

theorem extract_drop (s : ByteArray) (k : Nat) : (s.extract k s.size).data.toList = s.data.toList.drop k := by
  rw [ByteArray.data_extract, Array.toList_extract]
  simp only [List.extract]
  rw [List.take_of_length_le (by rw [List.length_drop, Array.length_toList]; exact Nat.le_refl _)]
theorem extract_size (s : ByteArray) (k : Nat) (h : k ≤ s.size) : (s.extract k s.size).size = s.size - k := by
  rw [← len_str, extract_drop, List.length_drop, len_str]

theorem dec_signV_some (plus : Bool) {t : List UInt8} {b : UInt8} (h : signV (37 :: t) = some b) :
    3 ≤ (37 :: t).length ∧ dec plus (37 :: t) = (b :: (dec plus ((37 :: t).drop 3)).1, (dec plus ((37 :: t).drop 3)).2.map (· + 3)) := by
  match t with
  | [] => simp [signV] at h
  | [x] => simp [signV] at h
  | x :: y :: r =>
    by_cases hx : 0 ≤ hexD x ∧ 0 ≤ hexD y
    · have : signB x y = b := by simpa [signV, hx] using h
      subst this
      exact ⟨by simp, dec_sign plus r hx.1 hx.2⟩
    · simp [signV, hx] at h
theorem dec_signV_none (plus : Bool) {t : List UInt8} (h : signV (37 :: t) = none) : dec plus (37 :: t) = ([], some 0) := by
  match t with
  | [] => exact dec_short0 plus
  | [x] => exact dec_short1 plus x
  | x :: y :: r =>
    by_cases hx : 0 ≤ hexD x ∧ 0 ≤ hexD y
    · simp [signV, hx] at h
    · exact dec_wrong plus r hx

/-- How far a text was read. -/
def decAt (plus : Bool) (L : List UInt8) (k : Nat) (out : List UInt8) : Prop :=
  dec plus L = (out ++ (dec plus (L.drop k)).1, (dec plus (L.drop k)).2.map (· + k))
theorem decAt_start (plus : Bool) (L : List UInt8) : decAt plus L 0 [] := by
  unfold decAt
  simp
theorem decAt_plain {plus : Bool} {L out : List UInt8} {k : Nat} {b : UInt8} (h : decAt plus L k out) (hd : L.drop k = b :: L.drop (k + 1)) (hb : b ≠ 37) : decAt plus L (k + 1) (out ++ [plusB plus b]) := by
  unfold decAt at *
  rw [h, hd, dec_plain plus _ hb]
  simp only [List.append_assoc, List.singleton_append, Option.map_map, Prod.mk.injEq, true_and]
  congr 1
  funext x
  simp only [Function.comp]
  omega
theorem decAt_sign {plus : Bool} {L out t : List UInt8} {k : Nat} {b : UInt8} (h : decAt plus L k out) (hd : L.drop k = 37 :: t) (hb : signV (37 :: t) = some b) : k + 3 ≤ L.length ∧ decAt plus L (k + 3) (out ++ [b]) := by
  obtain ⟨h1, h2⟩ := dec_signV_some plus hb
  have hl : L.length - k = (37 :: t).length := by rw [← hd, List.length_drop]
  refine ⟨by omega, ?_⟩
  unfold decAt at *
  rw [h, hd, h2, ← hd, List.drop_drop]
  simp only [List.append_assoc, List.singleton_append, Option.map_map, Prod.mk.injEq, true_and]
  congr 1
  funext x
  simp only [Function.comp]
  omega
theorem decAt_wrong {plus : Bool} {L out t : List UInt8} {k : Nat} (h : decAt plus L k out) (hd : L.drop k = 37 :: t) (hb : signV (37 :: t) = none) : dec plus L = (out, some k) := by
  unfold decAt at h
  rw [h, hd, dec_signV_none plus hb]
  simp
theorem decAt_end {plus : Bool} {L out : List UInt8} {k : Nat} (h : decAt plus L k out) (hk : L.length ≤ k) : dec plus L = (out, none) := by
  unfold decAt at h
  rw [h, List.drop_eq_nil_of_le hk, dec_nil]
  simp
theorem ne37 {b : UInt8} (h : ((b.toNat : Int) != 37) = true) : b ≠ 37 := by
  intro e
  rw [e] at h
  exact absurd h (by decide)
theorem is37 {b : UInt8} (h : ¬ ((b.toNat : Int) != 37) = true) : b = 37 := by
  have : (b.toNat : Int) = 37 := by simpa using h
  have := byte_eq (b := b) (n := 37) (by omega)
  simpa using this

set_option maxRecDepth 20000 in
set_option maxHeartbeats 1000000 in
theorem walkD_any (s : ByteArray) (plus : Bool) (B p q : Nat) (w : World) (hS : DecS w B p q plus []) (hs : s.size + 1 ≤ 140737488355328) :
    Calls Tryz.prog 85 #[.string s, .func (.func 86) #[] #[.pointer (some ⟨p, 0, none⟩), .pointer (some ⟨q, 0, none⟩)]] w fun e w' => e = .returned (.tuple #[.int .i64 (((dec plus s.data.toList).2.getD 0 : Nat) : Int), .bool (dec plus s.data.toList).2.isNone]) ∧ DecS w' B p q plus (dec plus s.data.toList).1 ∧ Below B w w' := by
  obtain ⟨R, hR⟩ : ∃ R, R = dec plus s.data.toList := ⟨_, rfl⟩
  rw [← hR]
  have HR := hid hR
  have HS := hid hS
  clear hR hS
  go_enter Tryz.func85, Tryz.ntmps85
  go_wp2_with fail
  go_loopw [4] (fun i wr => ∃ (k : Nat) (out : List UInt8), k ≤ s.size ∧ i = .int .i64 (k : Int) ∧ out.length ≤ k ∧ decAt plus s.data.toList k out ∧ DecS wr B p q plus out ∧ Below B w wr) (fun i _ => s.size - (intOf i).toNat)
  case atStart => exact ⟨0, [], Nat.zero_le _, rfl, Nat.le_refl _, decAt_start _ _, HS.out, Below.refl _ _⟩
  clear HS
  case round =>
    obtain ⟨k, out, hk, rfl, hol, hD, hS, hB⟩ := hrel
    by_cases hlt : k < s.size
    · have hlt' : (k : Int) < (s.size : Int) := by omega
      have hd := drop_byte s k hlt
      obtain ⟨b, hb⟩ : ∃ b, b = s[k]'hlt := ⟨_, rfl⟩
      have hbs := hb.symm
      rw [hbs] at hd
      have HD := hid hD
      have Hd := hid hd
      have HB := hid hB
      clear hb hd hD
      by_cases h37 : ((b.toNat : Int) != 37) = true
      · have hT := take_any b false plus B p q out wr hS (by omega)
        have HN := hid (decAt_plain HD.out Hd.out (ne37 h37))
        clear HD Hd hS hB
        go_wp2_with fail
        refine hT.mono ?_
        clear hT
        rintro e w1 ⟨rfl, hS2, hB2⟩
        rw [takeB_false] at hS2
        have HS2 := hid hS2
        have HB2 := hid (HB.out.trans hB2)
        clear hS2 hB2 HB
        go_wp2
        go_roundw
        case rel => exact ⟨k + 1, _, by omega, by go_num, by simp; omega, HN.out, HS2.out, HB2.out⟩
        case measure => simp [intOf]; omega
      · have hb37 := is37 h37
        have h37' : ((b.toNat : Int) != 37) = false := by simpa using h37
        have hSg := sign_any (s.extract k s.size) wr
        rw [extract_drop, Hd.out, hb37] at hSg
        rw [hb37] at Hd
        have HS := hid hS
        have HW := hid (fun h => decAt_wrong HD.out Hd.out h)
        have HG := hid (fun b h => decAt_sign (b := b) HD.out Hd.out h)
        have hl1 : (k : Int) ≤ (s.size : Int) := by omega
        clear HD Hd hS hB hb37
        obtain ⟨V, hV⟩ : ∃ V, V = signV (37 :: s.data.toList.drop (k + 1)) := ⟨_, rfl⟩
        rw [← hV] at hSg HW HG
        clear hV
        go_wp2_with fail
        refine hSg.mono ?_
        clear hSg
        rintro e w1 ⟨rfl, n, hw1⟩
        have hB1 : Below B wr w1 := by rw [hw1]; exact below_drewN' _ _ _
        have hS1 : DecS w1 B p q plus out := by rw [hw1]; exact HS.out.drewN n
        have HB1 := hid (HB.out.trans hB1)
        clear hw1 HS HB hB1
        cases V with
        | none =>
          have HE := hid (HW.out rfl)
          have HS1 := hid hS1
          clear HW HG hS1
          go_wp2
          go_ret2
          refine ⟨?_, ?_, HB1.out⟩
          · rw [HR.out, HE.out]; rfl
          · rw [HR.out, HE.out]; exact HS1.out
        | some c =>
          obtain ⟨hg1, hg2⟩ := HG.out c rfl
          rw [len_str] at hg1
          have HN := hid hg2
          have hT := take_any c true plus B p q out w1 hS1 (by omega)
          rw [takeB_true] at hT
          clear HW HG hS1 hg2
          go_wp2_with fail
          refine hT.mono ?_
          clear hT
          rintro e w2 ⟨rfl, hS2, hB2⟩
          have HS2 := hid hS2
          have HB2 := hid (HB1.out.trans hB2)
          clear hS2 hB2 HB1
          go_wp2
          go_roundw
          case rel => exact ⟨k + 3, _, by omega, by go_num, by simp; omega, HN.out, HS2.out, HB2.out⟩
          case measure => simp [intOf]; omega
    · have hlt' : ¬ (k : Int) < (s.size : Int) := by omega
      have HE := hid (decAt_end hD (by rw [len_str]; omega))
      have HS := hid hS
      have HB := hid hB
      clear hD hS hB
      go_wp2
      go_ret2
      refine ⟨?_, ?_, HB.out⟩
      · rw [HR.out, HE.out]; rfl
      · rw [HR.out, HE.out]; exact HS.out

theorem nop_any (b : UInt8) (signed : Bool) (w : World) : Calls Tryz.prog 87 #[.int .u8 (b.toNat : Int), .bool signed] w fun e w' => e = .returned (.tuple #[]) ∧ w = w' := by
  go_enter Tryz.func87, Tryz.ntmps87
  go_wp2
  go_returns
  exact ⟨rfl, rfl⟩

set_option maxRecDepth 20000 in
set_option maxHeartbeats 1000000 in
theorem walkF_any (s : ByteArray) (w : World) (hs : s.size + 1 ≤ 140737488355328) :
    Calls Tryz.prog 85 #[.string s, .func (.func 87) #[] #[]] w fun e w' => e = .returned (.tuple #[.int .i64 (((dec true s.data.toList).2.getD 0 : Nat) : Int), .bool (dec true s.data.toList).2.isNone]) ∧ ∃ n, w' = w.drewN n := by
  obtain ⟨R, hR⟩ : ∃ R, R = dec true s.data.toList := ⟨_, rfl⟩
  rw [← hR]
  have HR := hid hR
  clear hR
  go_enter Tryz.func85, Tryz.ntmps85
  go_wp2_with fail
  go_loopw [4] (fun i wr => ∃ (k : Nat) (out : List UInt8), k ≤ s.size ∧ i = .int .i64 (k : Int) ∧ decAt true s.data.toList k out ∧ ∃ n, wr = w.drewN n) (fun i _ => s.size - (intOf i).toNat)
  case atStart => exact ⟨0, [], Nat.zero_le _, rfl, decAt_start _ _, 0, rfl⟩
  case round =>
    obtain ⟨k, out, hk, rfl, hD, n, hn⟩ := hrel
    have Hn := hid hn
    clear hn
    by_cases hlt : k < s.size
    · have hlt' : (k : Int) < (s.size : Int) := by omega
      have hd := drop_byte s k hlt
      obtain ⟨b, hb⟩ : ∃ b, b = s[k]'hlt := ⟨_, rfl⟩
      have hbs := hb.symm
      rw [hbs] at hd
      have HD := hid hD
      have Hd := hid hd
      clear hb hd hD
      by_cases h37 : ((b.toNat : Int) != 37) = true
      · have hT := nop_any b false wr
        have HN := hid (decAt_plain HD.out Hd.out (ne37 h37))
        clear HD Hd
        go_wp2_with fail
        refine hT.mono ?_
        clear hT
        rintro e w1 ⟨rfl, hw1⟩
        subst hw1
        go_wp2
        go_roundw
        case rel => exact ⟨k + 1, _, by omega, by go_num, HN.out, n, Hn.out⟩
        case measure => simp [intOf]; omega
      · have hb37 := is37 h37
        have h37' : ((b.toNat : Int) != 37) = false := by simpa using h37
        have hS := sign_any (s.extract k s.size) wr
        rw [extract_drop, Hd.out, hb37] at hS
        rw [hb37] at Hd
        have HW := hid (fun h => decAt_wrong HD.out Hd.out h)
        have HG := hid (fun b h => decAt_sign (b := b) HD.out Hd.out h)
        have hl1 : (k : Int) ≤ (s.size : Int) := by omega
        clear HD Hd hb37
        obtain ⟨V, hV⟩ : ∃ V, V = signV (37 :: s.data.toList.drop (k + 1)) := ⟨_, rfl⟩
        rw [← hV] at hS HW HG
        clear hV
        go_wp2_with fail
        refine hS.mono ?_
        clear hS
        rintro e w1 ⟨rfl, n1, hw1⟩
        have Hw1 := hid hw1
        clear hw1
        cases V with
        | none =>
          have HE := hid (HW.out rfl)
          clear HW HG
          go_wp2
          go_ret2
          refine ⟨?_, n + n1, ?_⟩
          · rw [HR.out, HE.out]; rfl
          · rw [Hw1.out, Hn.out, World.drewN_drewN]
        | some c =>
          obtain ⟨hg1, hg2⟩ := HG.out c rfl
          rw [len_str] at hg1
          have HN := hid hg2
          have hT := nop_any c true w1
          clear HW HG hg2
          go_wp2_with fail
          refine hT.mono ?_
          clear hT
          rintro e w2 ⟨rfl, hw2⟩
          subst hw2
          go_wp2
          go_roundw
          case rel => exact ⟨k + 3, _, by omega, by go_num, HN.out, n + n1, by rw [Hw1.out, Hn.out, World.drewN_drewN]⟩
          case measure => simp [intOf]; omega
    · have hlt' : ¬ (k : Int) < (s.size : Int) := by omega
      have HE := hid (decAt_end hD (by rw [len_str]; omega))
      clear hD
      go_wp2
      go_ret2
      refine ⟨?_, n, Hn.out⟩
      rw [HR.out, HE.out]; rfl

end Go.Proofs.YtllhibdjopfcnaaGreatDoor
